import Derived.Test.YtnchjcaclfcaiaaGreatDoorSEsc
import Derived.Deep.CutRange
namespace Go.Proofs.YtnchjcaclfcaiaaGreatDoor
open Go.RowKit
/-! The specification's UnEscape. -/
set_option maxHeartbeats 400000 in
theorem sUpp (c : Nat) (hc : c < 256) (w : World) :
    Calls Tryz.prog 101 #[.int .u8 c] w fun e w' => e = .returned (.int .i64 (eUp c)) ∧ w' = w := by
  by_cases h1 : 48 ≤ c ∧ c ≤ 57
  · have d : eUp c = (c : Int) - 48 := by unfold eUp; rw [if_pos h1]
    rw [d]
    have a1 : decide ((48 : Int) ≤ (c : Int)) = true := by simp; omega
    have a2 : decide ((c : Int) ≤ 57) = true := by simp; omega
    go_enter Tryz.func101, Tryz.ntmps101
    go_wp2
    go_ret
    exact ⟨rfl, rfl⟩
  · by_cases h2 : 65 ≤ c ∧ c ≤ 70
    · have d : eUp c = (c : Int) - 55 := by unfold eUp; rw [if_neg h1, if_pos h2]
      have d2 : (c : Int) - 55 = (c : Int) - 65 + 10 := by omega
      rw [d, d2]
      have a1 : decide ((48 : Int) ≤ (c : Int)) = true := by simp; omega
      have a2 : decide ((c : Int) ≤ 57) = false := by simp; omega
      have a3 : decide ((65 : Int) ≤ (c : Int)) = true := by simp; omega
      have a4 : decide ((c : Int) ≤ 70) = true := by simp; omega
      go_enter Tryz.func101, Tryz.ntmps101
      go_wp2
      go_ret
      exact ⟨rfl, rfl⟩
    · have d : eUp c = -1 := by unfold eUp; rw [if_neg h1, if_neg h2]
      rw [d]
      go_enter Tryz.func101, Tryz.ntmps101
      go_wp2
      all_goals go_ret
      all_goals exact ⟨rfl, rfl⟩
theorem ba_beqU (a b : ByteArray) : (a.toList == b.toList) = decide (a = b) := by
  have e : ∀ x : ByteArray, x.toList = x.data.toList := fun x => by rw [ByteArray.toList_eq]
  rw [e, e]
  by_cases h : a = b
  · subst h; simp
  · rw [decide_eq_false h]
    simp only [beq_eq_false_iff_ne]
    intro hh
    exact h (by cases a; cases b; simp only [ByteArray.mk.injEq]; exact Array.toList_inj.1 hh)
def unO (s : ByteArray) : Value := match unV s with
  | some b => .agg #[.bool true, .string ⟨b.toArray⟩, .int .i64 (s.size : Int)]
  | none => .agg #[.bool false, .string ⟨#[]⟩, .int .i64 0]
theorem unO_some {s : ByteArray} {b : List UInt8} (h : unV s = some b) : unO s = .agg #[.bool true, .string ⟨b.toArray⟩, .int .i64 (s.size : Int)] := by unfold unO; rw [h]
theorem unO_none {s : ByteArray} (h : unV s = none) : unO s = .agg #[.bool false, .string ⟨#[]⟩, .int .i64 0] := by unfold unO; rw [h]
theorem drop_one (s : ByteArray) (k : Nat) (h : k < s.size) : s.data.toList.drop k = s[k] :: s.data.toList.drop (k + 1) := by
  rw [List.drop_eq_getElem_cons (by simpa using h)]; rfl
theorem dec_at_hex (s : ByteArray) (k : Nat) (h : k + 2 < s.size) (h0 : s[k] = 37) (ha : 0 ≤ eUp s[k + 1].toNat) (hb : 0 ≤ eUp s[k + 2].toNat) :
    dec (s.data.toList.drop k) = UInt8.ofNat (eUp s[k + 1].toNat * 16 + eUp s[k + 2].toNat).toNat :: dec (s.data.toList.drop (k + 3)) := by
  rw [drop_one s k (by omega), drop_one s (k + 1) (by omega), drop_one s (k + 2) h, h0, dec_hex _ _ _ ha hb]
theorem dec_at_one (s : ByteArray) (k : Nat) (h : k < s.size) (hn : ∀ h2 : k + 2 < s.size, s[k] = 37 → ¬ (0 ≤ eUp s[k + 1].toNat ∧ 0 ≤ eUp s[k + 2].toNat)) :
    dec (s.data.toList.drop k) = s[k] :: dec (s.data.toList.drop (k + 1)) := by
  rw [drop_one s k h]
  refine dec_one _ _ fun hc a b r hr => ?_
  have hl : (s.data.toList.drop (k + 1)).length = r.length + 2 := by rw [hr]; rfl
  have h2 : k + 2 < s.size := by
    rw [List.length_drop] at hl
    have : s.data.toList.length = s.size := by simp
    omega
  rw [drop_one s (k + 1) (by omega), drop_one s (k + 2) h2] at hr
  have e1 : s[k + 1] = a := by injection hr
  have e2 : s[k + 2] = b := by injection hr with _ h3; injection h3
  rw [← e1, ← e2]
  exact hn h2 hc
theorem OwnNums.nxU {X w1 : World} {base : Nat} {e : TypeId} {k : IntKind} {v : Value} {xs : List Int} (hb : Below X.heap.size X w1) (h : OwnNums X base e k v xs) : OwnNums w1 base e k v xs :=
  World.ownsRow.kept h (below_grown hb none) (by cases hv : v.ownBlock with
    | none => exact Or.inl rfl
    | some g => exact Or.inr (by intro h2; cases h2))
theorem ixS (s : ByteArray) (p : Nat) (hp : p < s.size) (x : Int) (hx : x = (p : Int)) (w : World) : (Instr.index 9 (.string s) (.int .i64 x)).run Tryz.prog w = .ok (.int .u8 (s[p].toNat : Int)) w := by
  subst hx
  have h0 : (0 : Int) ≤ (p : Int) := by omega
  have h1 : (p : Int) < (s.size : Int) := by omega
  go_simp
set_option maxRecDepth 20000 in
set_option maxHeartbeats 4000000 in
theorem sUn (s : ByteArray) (hs1 : s.size ≤ 1048576) (w : World) :
    Calls Tryz.prog 77 #[.string s] w fun e w' => e = .returned (unO s) ∧ Below w.heap.size w w' := by
  by_cases hs : s.size ≤ 100000
  · have d1 : decide (100000 < (s.size : Int)) = false := by simp; omega
    obtain ⟨W0, hW0⟩ : ∃ W0, W0 = w.alloc (.cells #[.bool false, .string ⟨#[]⟩, .int .i64 0] 30) := ⟨_, rfl⟩
    have R0 : Hid (RowAt W0 w.heap.size 30 #[.bool false, .string ⟨#[]⟩, .int .i64 0]) := by rw [hW0]; exact RowAt.new _ _ _
    have B0 : Hid (Below w.heap.size w W0) := by rw [hW0]; exact (Below.refl _ _).alloc (Nat.le_refl _) _
    have SZ : Hid (w.heap.size + 1 = W0.heap.size) := by show _ = _; rw [hW0, size_al]
    go_enter Tryz.func77, Tryz.ntmps77
    go_wp2
    rw [← hW0, SZ.out]
    clear hW0
    go_loopw [3, 4] (fun v i wr => ∃ (k : Nat) (B : List UInt8), k ≤ s.size ∧ i = .int .i64 (k : Int) ∧ dec s.data.toList = B ++ dec (s.data.toList.drop k) ∧ B.length ≤ k ∧ OwnNums wr W0.heap.size 5 .u8 v (ni B) ∧ Below W0.heap.size W0 wr) (fun _ i _ => s.size - (intOf i).toNat)
    case atStart => exact ⟨0, [], Nat.zero_le _, rfl, rfl, Nat.le_refl _, OwnNums.empty W0 5 .u8, (Below.refl _ _).alloc (Nat.le_refl _) _⟩
    case round =>
      obtain ⟨k, B, hk, rfl, hD, hBl, hown, hbel⟩ := hrel
      have HD := hid hD
      clear hD
      have nl : (ni B).length ≤ 100000 := by rw [ni_len]; omega
      by_cases hlt : k < s.size
      · have i0 : (0 : Int) ≤ (k : Int) := by omega
        have i1 : (k : Int) < (s.size : Int) := by omega
        have NB : Hid (ni (B ++ [s[k]]) = ni B ++ [(s[k].toNat : Int)]) := by show _ = _; rw [ni_app]; rfl
        have D1' : (∀ h2 : k + 2 < s.size, s[k] = 37 → ¬ (0 ≤ eUp s[k + 1].toNat ∧ 0 ≤ eUp s[k + 2].toNat)) → dec s.data.toList = (B ++ [s[k]]) ++ dec (s.data.toList.drop (k + 1)) := fun hn => by
          rw [HD.out, dec_at_one s k hlt hn]; simp
        by_cases h0 : s[k] = 37
        · rw [show (s[k].toNat : Int) = 37 by rw [h0]; rfl] at NB
          have b0 : ((s[k].toNat : Int) == 37) = true := by rw [h0]; rfl
          by_cases h2 : k + 2 < s.size
          · have b2 : (k : Int) + 2 < (s.size : Int) := by omega
            have b1 : (k : Int) + 1 < (s.size : Int) := by omega
            have c1 : s[k + 1].toNat < 256 := s[k + 1].toNat_lt
            have c2 : s[k + 2].toNat < 256 := s[k + 2].toNat_lt
            have U1 := fun wx => hid (sUpp _ c1 wx)
            have U2 := fun wx => hid (sUpp _ c2 wx)
            by_cases ha : 0 ≤ eUp s[k + 1].toNat
            · by_cases hb : 0 ≤ eUp s[k + 2].toNat
              · have D2 : Hid (dec s.data.toList = (B ++ [UInt8.ofNat (eUp s[k + 1].toNat * 16 + eUp s[k + 2].toNat).toNat]) ++ dec (s.data.toList.drop (k + 3))) := by
                  show _ = _
                  rw [HD.out, dec_at_hex s k h2 h0 ha hb]; simp
                have la := (eUp_lt s[k + 1].toNat).1
                have lb := (eUp_lt s[k + 2].toNat).1
                have la1 := (eUp_lt s[k + 1].toNat).2
                have lb1 := (eUp_lt s[k + 2].toNat).2
                clear D1' NB
                have x1 : ¬ eUp s[k + 1].toNat < 0 := by omega
                have x2 : ¬ eUp s[k + 2].toNat < 0 := by omega
                have NB : Hid (ni (B ++ [UInt8.ofNat (eUp s[k + 1].toNat * 16 + eUp s[k + 2].toNat).toNat]) = ni B ++ [eUp s[k + 1].toNat * 16 + eUp s[k + 2].toNat]) := by
                  show _ = _
                  rw [ni_app]
                  congr 1
                  show [(((UInt8.ofNat (eUp s[k + 1].toNat * 16 + eUp s[k + 2].toNat).toNat).toNat : Nat) : Int)] = _
                  rw [UInt8.toNat_ofNat']
                  congr 1
                  omega
                go_wp2_with fail
                refine (U1 _).out.mono ?_
                rintro e w1 ⟨rfl, hw1⟩
                obtain rfl := hw1.symm
                go_wp2_with fail
                refine (U2 _).out.mono ?_
                rintro e w1 ⟨rfl, hw1⟩
                obtain rfl := hw1.symm
                have q1 := fun wx => ixS s (k + 1) (by omega) ((k : Int) + 1) (by omega) wx
                have q2 := fun wx => ixS s (k + 2) (by omega) ((k : Int) + 2) (by omega) wx
                have wk1 : IntKind.i64.wrap ((k : Int) + 1) = (k : Int) + 1 := by rw [IntKind.wrap_i64]; omega
                have wk2 : IntKind.i64.wrap ((k : Int) + 2) = (k : Int) + 2 := by rw [IntKind.wrap_i64]; omega
                have wk3 : IntKind.i64.wrap (eUp s[k + 1].toNat * 16) = eUp s[k + 1].toNat * 16 := by rw [IntKind.wrap_i64]; omega
                have wk4 : IntKind.i64.wrap (eUp s[k + 1].toNat * 16 + eUp s[k + 2].toNat) = eUp s[k + 1].toNat * 16 + eUp s[k + 2].toNat := by rw [IntKind.wrap_i64]; omega
                have wk5 : IntKind.u8.wrap (eUp s[k + 1].toNat * 16 + eUp s[k + 2].toNat) = eUp s[k + 1].toNat * 16 + eUp s[k + 2].toNat := by rw [IntKind.wrap_u8']; omega
                clear U1 U2
                go_upto_region 8 with fail
                go_region_held3 (fun _ => True) (trivial)
                  (first
                    | (go_at_call 101; refine (sUpp _ (by exact UInt8.toNat_lt _) _).mono ?_; rintro e w2 ⟨rfl, hw2⟩; obtain rfl := hw2.symm)
                    | (refine step_append_nums W0 _ (by rfl) _ _ 22 (by rfl) 5 .u8 1 Tryz.underlying22 Tryz.infoB (by decide) _ (ni B) [eUp s[k + 1].toNat * 16 + eUp s[k + 2].toNat] (by rfl) (by first | exact (hown.alloc _).drew | exact hown.drew.alloc _) (by first | exact (hbel.alloc hbel.size _).drew | exact hbel.drew.alloc hbel.size _) _ 1 (by exact heap_alloc_new _ _) (by rfl) rfl (by decide) (by omega) ?_; intro g cap w1 hown1 hbel1))
                all_goals go_wp2
                all_goals
                  go_roundw
                  case rel => exact ⟨k + 3, B ++ [UInt8.ofNat (eUp s[k + 1].toNat * 16 + eUp s[k + 2].toNat).toNat], by omega, by go_num, D2.out, by simp; omega, by rw [NB.out]; exact hown1, hbel1⟩
                  case measure => simp [intOf]; omega
              · have D1 := hid (D1' fun _ _ hh => hb hh.2)
                have la := (eUp_lt s[k + 1].toNat).1
                have x1 : ¬ eUp s[k + 1].toNat < 0 := by omega
                have x2 : eUp s[k + 2].toNat < 0 := by omega
                clear D1'
                go_wp2_with fail
                refine (U1 _).out.mono ?_
                rintro e w1 ⟨rfl, hw1⟩
                obtain rfl := hw1.symm
                go_wp2_with fail
                refine (U2 _).out.mono ?_
                rintro e w1 ⟨rfl, hw1⟩
                obtain rfl := hw1.symm
                go_wp2_with (first | (at_builtin; refine append_num W0 wr rfl (.tmp 61) (.tmp 65) 22 rfl 5 .u8 1 Tryz.underlying22 Tryz.infoB (by decide) _ _ 37 rfl hown hbel rfl (by omega) ?_) | go_in)
                intro v' w2 hown' hbel' _
                rw [← NB.out] at hown'
                clear hown hbel
                go_wp2
                go_roundw
                case rel => exact ⟨k + 1, B ++ [s[k]], by omega, by go_num, D1.out, by simp; omega, hown', hbel'⟩
                case measure => simp [intOf]; omega
            · have D1 := hid (D1' fun _ _ hh => ha hh.1)
              have x1 : eUp s[k + 1].toNat < 0 := by omega
              clear D1'
              go_wp2_with fail
              refine (U1 _).out.mono ?_
              rintro e w1 ⟨rfl, hw1⟩
              obtain rfl := hw1.symm
              go_wp2_with (first | (at_builtin; refine append_num W0 wr rfl (.tmp 61) (.tmp 65) 22 rfl 5 .u8 1 Tryz.underlying22 Tryz.infoB (by decide) _ _ 37 rfl hown hbel rfl (by omega) ?_) | go_in)
              intro v' w2 hown' hbel' _
              rw [← NB.out] at hown'
              clear hown hbel
              go_wp2
              go_roundw
              case rel => exact ⟨k + 1, B ++ [s[k]], by omega, by go_num, D1.out, by simp; omega, hown', hbel'⟩
              case measure => simp [intOf]; omega
          · have D1 := hid (D1' fun hh _ => absurd hh h2)
            have b2 : ¬ (k : Int) + 2 < (s.size : Int) := by omega
            clear D1'
            go_wp2_with (first | (at_builtin; refine append_num W0 wr rfl (.tmp 61) (.tmp 65) 22 rfl 5 .u8 1 Tryz.underlying22 Tryz.infoB (by decide) _ _ 37 rfl hown hbel rfl (by omega) ?_) | go_in)
            intro v' w2 hown' hbel' _
            rw [← NB.out] at hown'
            clear hown hbel
            go_wp2
            go_roundw
            case rel => exact ⟨k + 1, B ++ [s[k]], by omega, by go_num, D1.out, by simp; omega, hown', hbel'⟩
            case measure => simp [intOf]; omega
        · have D1 := hid (D1' fun _ hh => absurd hh h0)
          have b0 : ((s[k].toNat : Int) == 37) = false := by
            rw [beq_eq_false_iff_ne]
            intro hh
            exact h0 (UInt8.toNat_inj.1 (by show s[k].toNat = 37; omega))
          clear D1'
          go_wp2_with (first | (at_builtin; refine append_num W0 wr rfl (.tmp 61) (.tmp 65) 22 rfl 5 .u8 1 Tryz.underlying22 Tryz.infoB (by decide) _ _ (s[k].toNat : Int) rfl hown hbel rfl (by omega) ?_) | go_in)
          intro v' w2 hown' hbel' _
          rw [← NB.out] at hown'
          clear hown hbel
          go_wp2
          go_roundw
          case rel => exact ⟨k + 1, B ++ [s[k]], by omega, by go_num, D1.out, by simp; omega, hown', hbel'⟩
          case measure => simp [intOf]; omega
      · have i1 : ¬ (k : Int) < (s.size : Int) := by omega
        have DB : dec s.data.toList = B := by
          rw [HD.out, List.drop_eq_nil_of_le (by simp; omega)]
          simp [dec]
        have hcv := conv_owned wr 22 5 9 Tryz.underlying22 Tryz.underlying5 Tryz.underlying9 hown
        rw [ni_str] at hcv
        have sb : (⟨B.toArray⟩ : ByteArray).size ≤ 100000 := by show B.toArray.size ≤ _; simp; omega
        have K := hid (sEsc ⟨B.toArray⟩ (by omega) wr)
        have EV : escV ⟨B.toArray⟩ = esc B := by unfold escV; rw [if_pos sb]
        rw [EV] at K
        have RB := R0.out.below hbel R0.out.lt
        obtain ⟨TE, hTE⟩ : ∃ T, T = (⟨(esc B).toArray⟩ : ByteArray) := ⟨_, rfl⟩
        rw [← hTE] at K
        by_cases eq : esc B = s.data.toList
        · have U : Hid (unO s = .agg #[.bool true, .string ⟨B.toArray⟩, .int .i64 (s.size : Int)]) := unO_some (unV_esc s B eq hs)
          have TS : TE = s := by rw [hTE, eq]
          rw [TS] at K
          clear hTE TS
          go_wp2_with fail
          refine K.out.mono ?_
          rintro e w3 ⟨rfl, hb3⟩
          have hcv3 := conv_owned w3 22 5 9 Tryz.underlying22 Tryz.underlying5 Tryz.underlying9 (OwnNums.nxU hb3 hown)
          rw [ni_str] at hcv3
          have RB3 := hid (RB.below hb3 RB.lt)
          have BB := hid (B0.out.trans ((hbel.trans (hb3.mono hbel.size)).mono B0.out.size))
          clear hb3 hcv RB hown hbel R0
          go_wp2_with (refine wpList_store_row rfl 30 (.tmp 2) (.tmp 77) rfl w.heap.size #[.bool true, .string ⟨B.toArray⟩, .int .i64 (s.size : Int)] rfl rfl _ _ RB3.out (by kernel_rfl) rfl (by simp [Value.oneCell']) ?_)
          refine bodyPost_ret (v := .agg #[.bool true, .string ⟨B.toArray⟩, .int .i64 (s.size : Int)]) ?_ rfl ⟨by rw [U.out], below_setRow BB.out _ _ (Nat.le_refl _)⟩
          exact results_cell_row Tryz.results77 _ _ w.heap.size _ _ _ _ rfl (RB3.out.setRow _) Tryz.underlying30 rfl (by kernel_rfl)
        · have U : Hid (unO s = .agg #[.bool false, .string ⟨#[]⟩, .int .i64 0]) := unO_none (unV_no s fun ⟨b, hb⟩ => eq (by rw [← hb, dec_esc] at DB; rw [← DB]; exact hb))
          have TS : TE ≠ s := fun hh => eq (by rw [← hh, hTE])
          have bq := ba_beqU TE s
          rw [decide_eq_false TS] at bq
          clear hTE TS eq
          go_wp2_with fail
          refine K.out.mono ?_
          rintro e w3 ⟨rfl, hb3⟩
          have RB3 := hid (RB.below hb3 RB.lt)
          have BB := hid (B0.out.trans ((hbel.trans (hb3.mono hbel.size)).mono B0.out.size))
          clear hb3 hcv RB hown hbel R0
          go_wp2_with (refine wpList_store_row rfl 30 (.tmp 2) (.tmp 72) rfl w.heap.size #[.bool false, .string ⟨#[]⟩, .int .i64 0] rfl rfl _ _ RB3.out (by kernel_rfl) rfl (by simp [Value.oneCell']) ?_)
          refine bodyPost_ret (v := .agg #[.bool false, .string ⟨#[]⟩, .int .i64 0]) ?_ rfl ⟨by rw [U.out], below_setRow BB.out _ _ (Nat.le_refl _)⟩
          exact results_cell_row Tryz.results77 _ _ w.heap.size _ _ _ _ rfl (RB3.out.setRow _) Tryz.underlying30 rfl (by kernel_rfl)
  · have U : Hid (unO s = .agg #[.bool false, .string ⟨#[]⟩, .int .i64 0]) := unO_none (unV_big s hs)
    have d1 : decide (100000 < (s.size : Int)) = true := by simp; omega
    go_enter Tryz.func77, Tryz.ntmps77
    go_wp2
    refine bodyPost_ret (v := .agg #[.bool false, .string ⟨#[]⟩, .int .i64 0]) (by simp [results, Tryz.results77, go_sem]) rfl ⟨by rw [U.out], ?_⟩
    exact (Below.refl _ _).alloc (Nat.le_refl _) _
end Go.Proofs.YtnchjcaclfcaiaaGreatDoor
