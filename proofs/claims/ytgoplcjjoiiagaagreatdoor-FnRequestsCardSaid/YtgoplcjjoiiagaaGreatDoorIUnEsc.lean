import Derived.Test.YtgoplcjjoiiagaaGreatDoorUnM
namespace Go.Proofs.YtgoplcjjoiiagaaGreatDoor
open Go.RowKit
/-! The program's UnEscape. -/
set_option maxRecDepth 20000 in
set_option maxHeartbeats 1000000 in
theorem iIdxU (t : ByteArray) (z : Int) (w : World) :
    Calls Tryz.prog 86 #[.string t, .int .u8 z] w fun e w' => e = .returned (.int .i64 (firstIdx t z.toNat.toUInt8)) ∧ w' = w := by
  have h64 := @run_callFunc_extern Tryz.prog 124 _ Extern.BytealgIndexByte.indexByte Tryz.func124 (by kernel_rfl) (by kernel_rfl) (by kernel_rfl) (by kernel_rfl)
  have hr := fun w => run_indexByte_string (P := Tryz.prog) t z w
  have K : ∀ w, Calls Tryz.prog 109 #[.string t, .int .u8 z] w fun e w' => e = .returned (.int .i64 (firstIdx t z.toNat.toUInt8)) ∧ w' = w := fun w => by
    go_enter Tryz.func109, Tryz.ntmps109
    go_wp2
    go_ret
    exact ⟨rfl, rfl⟩
  clear h64 hr
  go_enter Tryz.func86, Tryz.ntmps86
  go_wp2_with fail
  refine (K _).mono ?_
  rintro e w2 ⟨rfl, hw⟩
  obtain rfl := hw.symm
  go_wp2
  go_ret
  exact ⟨rfl, rfl⟩
theorem ret2I {k : IntKind} {a b : Int} {v : Value} (h : a = b) : Ending.returned (.tuple #[.int k a, v]) = .returned (.tuple #[.int k b, v]) := by rw [h]
set_option maxRecDepth 20000 in
set_option maxHeartbeats 1000000 in
theorem eDig (c : Nat) (s : ByteArray) (k : Nat) (w : World) (hc : CurAt w c s k) (hs : s.size ≤ 1048576) (hk : k < s.size) :
    Calls Tryz.prog 65 #[.pointer (some ⟨c, 0, none⟩)] w fun e w' => e = .returned (.tuple #[.int .u8 (eUp s[k].toNat % 256), .bool (decide (0 ≤ eUp s[k].toNat))]) ∧ CurAt w' c s ((k + 1 : Nat) : Int) ∧ w.grownBy w' (some c) := by
  have hb := byte_yes c s k w hc hs hk
  have c0 : s[k].toNat < 256 := s[k].toNat_lt
  have HX := hid (idx_upp s[k].toNat c0)
  obtain ⟨b, hb0⟩ : ∃ b, b = s[k].toNat := ⟨_, rfl⟩
  rw [← hb0] at hb c0 HX ⊢
  have HC := hid hb
  have l1 := (eUp_lt b).1
  have l2 := (eUp_lt b).2
  have K := fun wx => hid (iIdxU { data := #[48, 49, 50, 51, 52, 53, 54, 55, 56, 57, 65, 66, 67, 68, 69, 70] } (b : Int) wx)
  rw [HX.out] at K
  generalize eUp b = u at K l1 l2 ⊢
  have u1 : IntKind.u8.wrap u = u % 256 := by rw [IntKind.wrap_u8']
  clear hb hb0 hc HX
  go_enter Tryz.func65, Tryz.ntmps65
  go_wp2_with fail
  refine HC.out.mono ?_
  rintro e w1 ⟨rfl, hc1, hg1⟩
  have HC1 := hid hc1
  have HG1 := hid hg1
  clear hc1 hg1
  go_wp2_with fail
  refine (K _).out.mono ?_
  rintro e w2 ⟨rfl, hw⟩
  obtain rfl := hw.symm
  go_wp2
  go_ret2
  exact ⟨rfl, HC1.out, HG1.out⟩
set_option maxRecDepth 20000 in
set_option maxHeartbeats 1000000 in
theorem eDig_end (c : Nat) (s : ByteArray) (p : Int) (w : World) (hc : CurAt w c s p) (hs : s.size ≤ 1048576) (hk : leftI s p = 0) :
    Calls Tryz.prog 65 #[.pointer (some ⟨c, 0, none⟩)] w fun e w' => e = .returned (.tuple #[.int .u8 0, .bool false]) ∧ w.grownBy w' (some c) := by
  have HK := hid hk
  clear hk
  go_enter Tryz.func65, Tryz.ntmps65
  go_wp2_with fail
  refine (byte_no c s p _ hc hs HK.out).mono ?_
  rintro e w1 ⟨rfl, rfl⟩
  go_wp2
  go_ret2
  exact ⟨rfl, World.grownBy.refl _ _⟩
theorem or4E (a b : Nat) (ha : a < 16) (hb : b < 16) : bits .or .u8 ((a : Int) * 16) (b : Int) = ((16 * a + b : Nat) : Int) := by
  have e : (a : Int) * 16 = ((a * 16 : Nat) : Int) := by omega
  rw [e, u8_or_nat _ _ (by omega) (by omega), nat_join 4 _ _ (by omega) (by omega)]; omega
set_option maxRecDepth 20000 in
set_option maxHeartbeats 1000000 in
theorem tEsc (c : Nat) (s : ByteArray) (k : Nat) (w : World) (hc : CurAt w c s k) (hs : s.size ≤ 1048576) (hk : k < s.size) :
    Calls Tryz.prog 31 #[.pointer (some ⟨c, 0, none⟩)] w fun e w' => ((∃ n x, tkP s k n x ∧ 0 < n ∧ e = .returned (.tuple #[.int .u8 (x.toNat : Int), .bool true]) ∧ CurAt w' c s ((k + n : Nat) : Int)) ∨ ((∀ n x, ¬ tkP s k n x) ∧ ∃ y, e = .returned (.tuple #[.int .u8 y, .bool false]))) ∧ w.grownBy w' (some c) := by
  have hb := hid (byte_yes c s k w hc hs hk)
  have c0 : s[k].toNat < 256 := s[k].toNat_lt
  by_cases h0 : s[k] = 37
  · have b0 : ((s[k].toNat : Int) != 37) = false := by rw [h0]; rfl
    have h1p : ¬ ePl s[k].toNat := by rw [h0]; decide
    by_cases h1 : k + 1 < s.size
    · have c1 : s[k + 1].toNat < 256 := s[k + 1].toNat_lt
      have l1 := (eUp_lt s[k + 1].toNat).1
      have l2 := (eUp_lt s[k + 1].toNat).2
      by_cases ha : 0 ≤ eUp s[k + 1].toNat
      · have q1 : decide (0 ≤ eUp s[k + 1].toNat) = true := decide_eq_true ha
        by_cases h2 : k + 2 < s.size
        · have l3 := (eUp_lt s[k + 2].toNat).1
          have l4 := (eUp_lt s[k + 2].toNat).2
          by_cases hb2 : 0 ≤ eUp s[k + 2].toNat
          · have q2 : decide (0 ≤ eUp s[k + 2].toNat) = true := decide_eq_true hb2
            have TH := hid (@tk_hex s k h2 h0 ha hb2)
            have TI := hid (fun (n : Nat) (x : UInt8) (h : tkP s k n x) => tk_inv hk h)
            have D1 := fun wx hx => hid (eDig c s (k + 1) wx hx hs h1)
            have D2 := fun wx hx => hid (eDig c s (k + 1 + 1) wx hx hs h2)
            obtain ⟨A, hA⟩ : ∃ A : Nat, A = (eUp s[k + 1].toNat).toNat := ⟨_, rfl⟩
            obtain ⟨B, hB⟩ : ∃ B : Nat, B = (eUp s[k + 2].toNat).toNat := ⟨_, rfl⟩
            have eA : eUp s[k + 1].toNat % 256 = (A : Int) := by omega
            have eB : eUp s[k + 1 + 1].toNat % 256 = (B : Int) := by rw [hB]; show eUp s[k + 2].toNat % 256 = _; omega
            rw [q1, eA] at D1
            rw [show decide (0 ≤ eUp s[k + 1 + 1].toNat) = true from q2, eB] at D2
            rw [← hA, ← hB] at TH
            have NI : Hid (ePl (16 * A + B) → ∀ n x, ¬ tkP s k n x) := fun hp n x h => by
              rcases TI.out n x h with q | ⟨_, _, _, _, q⟩
              · exact h1p q
              · exact q (by rw [← hA, ← hB]; exact hp)
            have oA : A < 16 := by omega
            have oB : B < 16 := by omega
            have HO := or4E A B oA oB
            have w1 : IntKind.i32.wrap (((16 * A + B : Nat)) : Int) = ((16 * A + B : Nat) : Int) := by simp [IntKind.wrap, IntKind.bits, IntKind.signed]; omega
            have wA : IntKind.u8.wrap ((A : Int) * 16) = (A : Int) * 16 := by rw [IntKind.wrap_u8']; omega
            have HXN : Hid (((UInt8.ofNat (16 * A + B)).toNat : Int) = ((16 * A + B : Nat) : Int)) := by show _ = _; rw [UInt8.toNat_ofNat']; omega
            clear TI hA hB eA eB q1 q2 ha hb2 h1p c1 l1 l2 l3 l4 hc
            have P1 := fun wx => hid (isPlain_ok (((16 * A + B : Nat)) : Int) wx)
            generalize hX : 16 * A + B = X at HO TH NI P1 w1 HXN
            clear hX
            by_cases hp : ePl X
            · rw [pb_t ((iPl_nat X).2 hp)] at P1
              have NO := hid (NI.out hp)
              clear TH NI hp
              go_enter Tryz.func31, Tryz.ntmps31
              go_wp2_with fail
              refine hb.out.mono ?_
              rintro e w1 ⟨rfl, hc1, hg1⟩
              have HG1 := hid hg1
              clear hg1
              go_wp2_with fail
              refine (D1 _ hc1).out.mono ?_
              rintro e w2 ⟨rfl, hc2, hg2⟩
              have HG2 := hid (grown_trans HG1.out hg2)
              clear hg2 HG1 hc1
              go_wp2_with fail
              refine (D2 _ hc2).out.mono ?_
              rintro e w3 ⟨rfl, hc3, hg3⟩
              have HG3 := hid (grown_trans HG2.out hg3)
              clear hg3 HG2 hc2
              go_wp2_with fail
              refine (P1 _).out.mono ?_
              rintro e w4 ⟨rfl, hw⟩
              obtain rfl := hw.symm
              go_wp2
              go_ret2
              exact ⟨Or.inr ⟨NO.out, _, rfl⟩, HG3.out⟩
            · rw [pb_f fun h => hp ((iPl_nat X).1 h)] at P1
              have YE := hid (TH.out hp)
              clear TH NI hp
              go_enter Tryz.func31, Tryz.ntmps31
              go_wp2_with fail
              refine hb.out.mono ?_
              rintro e w1 ⟨rfl, hc1, hg1⟩
              have HG1 := hid hg1
              clear hg1
              go_wp2_with fail
              refine (D1 _ hc1).out.mono ?_
              rintro e w2 ⟨rfl, hc2, hg2⟩
              have HG2 := hid (grown_trans HG1.out hg2)
              clear hg2 HG1 hc1
              go_wp2_with fail
              refine (D2 _ hc2).out.mono ?_
              rintro e w3 ⟨rfl, hc3, hg3⟩
              have HG3 := hid (grown_trans HG2.out hg3)
              have HC3 := hid hc3
              clear hg3 HG2 hc2 hc3
              go_wp2_with fail
              refine (P1 _).out.mono ?_
              rintro e w4 ⟨rfl, hw⟩
              obtain rfl := hw.symm
              go_wp2
              go_ret2
              exact ⟨Or.inl ⟨3, _, YE.out, by decide, ret2I HXN.out.symm, HC3.out⟩, HG3.out⟩
          · have q2 : decide (0 ≤ eUp s[k + 2].toNat) = false := decide_eq_false hb2
            have NO : Hid (∀ n x, ¬ tkP s k n x) := fun n x h => by
              rcases tk_inv hk h with q | ⟨_, _, _, q, _⟩
              · exact h1p q
              · exact hb2 q
            have D1 := fun wx hx => hid (eDig c s (k + 1) wx hx hs h1)
            have D2 := fun wx hx => hid (eDig c s (k + 1 + 1) wx hx hs h2)
            rw [q1] at D1
            rw [show decide (0 ≤ eUp s[k + 1 + 1].toNat) = false from q2] at D2
            generalize eUp s[k + 1].toNat % 256 = A at D1
            generalize eUp s[k + 1 + 1].toNat % 256 = B at D2
            clear q1 q2 ha hb2 h1p c1 l1 l2 l3 l4 hc
            go_enter Tryz.func31, Tryz.ntmps31
            go_wp2_with fail
            refine hb.out.mono ?_
            rintro e w1 ⟨rfl, hc1, hg1⟩
            have HG1 := hid hg1
            clear hg1
            go_wp2_with fail
            refine (D1 _ hc1).out.mono ?_
            rintro e w2 ⟨rfl, hc2, hg2⟩
            have HG2 := hid (grown_trans HG1.out hg2)
            clear hg2 HG1 hc1
            go_wp2_with fail
            refine (D2 _ hc2).out.mono ?_
            rintro e w3 ⟨rfl, hc3, hg3⟩
            have HG3 := hid (grown_trans HG2.out hg3)
            clear hg3 HG2 hc2
            go_wp2
            go_ret2
            exact ⟨Or.inr ⟨NO.out, _, rfl⟩, HG3.out⟩
        · have NO : Hid (∀ n x, ¬ tkP s k n x) := fun n x h => by
            rcases tk_inv hk h with q | ⟨_, q, _⟩
            · exact h1p q
            · exact h2 q
          have D1 := fun wx hx => hid (eDig c s (k + 1) wx hx hs h1)
          rw [q1] at D1
          generalize eUp s[k + 1].toNat % 256 = A at D1
          have HE : Hid (leftI s ((k + 1 + 1 : Nat) : Int) = 0) := by show _ = _; unfold leftI; split <;> omega
          clear q1 ha h1p c1 l1 l2 hc h2
          go_enter Tryz.func31, Tryz.ntmps31
          go_wp2_with fail
          refine hb.out.mono ?_
          rintro e w1 ⟨rfl, hc1, hg1⟩
          have HG1 := hid hg1
          clear hg1
          go_wp2_with fail
          refine (D1 _ hc1).out.mono ?_
          rintro e w2 ⟨rfl, hc2, hg2⟩
          have HG2 := hid (grown_trans HG1.out hg2)
          clear hg2 HG1 hc1
          go_wp2_with fail
          refine (eDig_end c s _ _ hc2 hs HE.out).mono ?_
          rintro e w3 ⟨rfl, hg3⟩
          have HG3 := hid (grown_trans HG2.out hg3)
          clear hg3 HG2 hc2
          go_wp2
          go_ret2
          exact ⟨Or.inr ⟨NO.out, _, rfl⟩, HG3.out⟩
      · have q1 : decide (0 ≤ eUp s[k + 1].toNat) = false := decide_eq_false ha
        have NO : Hid (∀ n x, ¬ tkP s k n x) := fun n x h => by
          rcases tk_inv hk h with q | ⟨_, _, q, _⟩
          · exact h1p q
          · exact ha q
        have D1 := fun wx hx => hid (eDig c s (k + 1) wx hx hs h1)
        rw [q1] at D1
        generalize eUp s[k + 1].toNat % 256 = A at D1
        clear q1 ha h1p c1 l1 l2 hc
        go_enter Tryz.func31, Tryz.ntmps31
        go_wp2_with fail
        refine hb.out.mono ?_
        rintro e w1 ⟨rfl, hc1, hg1⟩
        have HG1 := hid hg1
        clear hg1
        go_wp2_with fail
        refine (D1 _ hc1).out.mono ?_
        rintro e w2 ⟨rfl, hc2, hg2⟩
        have HG2 := hid (grown_trans HG1.out hg2)
        clear hg2 HG1 hc1
        go_wp2
        go_ret2
        exact ⟨Or.inr ⟨NO.out, _, rfl⟩, HG2.out⟩
    · have NO : Hid (∀ n x, ¬ tkP s k n x) := fun n x h => by
        rcases tk_inv hk h with q | ⟨_, q, _⟩
        · exact h1p q
        · omega
      have HE : Hid (leftI s ((k + 1 : Nat) : Int) = 0) := by show _ = _; unfold leftI; split <;> omega
      clear h1p h1 hc
      go_enter Tryz.func31, Tryz.ntmps31
      go_wp2_with fail
      refine hb.out.mono ?_
      rintro e w1 ⟨rfl, hc1, hg1⟩
      have HG1 := hid hg1
      clear hg1
      go_wp2_with fail
      refine (eDig_end c s _ _ hc1 hs HE.out).mono ?_
      rintro e w2 ⟨rfl, hg2⟩
      have HG2 := hid (grown_trans HG1.out hg2)
      clear hg2 HG1 hc1
      go_wp2
      go_ret2
      exact ⟨Or.inr ⟨NO.out, _, rfl⟩, HG2.out⟩
  · have b0 : ((s[k].toNat : Int) != 37) = true := by
      have : s[k].toNat ≠ 37 := fun h => h0 (by rw [← UInt8.toNat_inj]; exact h)
      simp
      omega
    have P1 := fun wx => hid (isPlain_ok (s[k].toNat : Int) wx)
    have w1 : IntKind.i32.wrap (s[k].toNat : Int) = (s[k].toNat : Int) := by simp [IntKind.wrap, IntKind.bits, IntKind.signed]; omega
    by_cases hp : ePl s[k].toNat
    · have YE := hid (tk_one hk hp)
      rw [pb_t ((iPl_nat _).2 hp)] at P1
      clear hp hc h0
      go_enter Tryz.func31, Tryz.ntmps31
      go_wp2_with fail
      refine hb.out.mono ?_
      rintro e w1 ⟨rfl, hc1, hg1⟩
      have HG1 := hid hg1
      have HC1 := hid hc1
      clear hg1 hc1
      go_wp2_with fail
      refine (P1 _).out.mono ?_
      rintro e w4 ⟨rfl, hw⟩
      obtain rfl := hw.symm
      go_wp2
      go_ret2
      exact ⟨Or.inl ⟨1, _, YE.out, by decide, rfl, HC1.out⟩, HG1.out⟩
    · have NO : Hid (∀ n x, ¬ tkP s k n x) := fun n x h => by
        rcases tk_inv hk h with q | ⟨q, _⟩
        · exact hp q
        · exact h0 q
      rw [pb_f fun h => hp ((iPl_nat _).1 h)] at P1
      clear hp hc h0
      go_enter Tryz.func31, Tryz.ntmps31
      go_wp2_with fail
      refine hb.out.mono ?_
      rintro e w1 ⟨rfl, hc1, hg1⟩
      have HG1 := hid hg1
      clear hg1 hc1
      go_wp2_with fail
      refine (P1 _).out.mono ?_
      rintro e w4 ⟨rfl, hw⟩
      obtain rfl := hw.symm
      go_wp2
      go_ret2
      exact ⟨Or.inr ⟨NO.out, _, rfl⟩, HG1.out⟩
end Go.Proofs.YtgoplcjjoiiagaaGreatDoor
