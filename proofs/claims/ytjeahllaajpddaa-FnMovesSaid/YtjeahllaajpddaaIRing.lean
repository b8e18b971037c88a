import Derived.Test.YtjeahllaajpddaaIAddO
import Derived.Test.YtjeahllaajpddaaIPl
namespace Go.Proofs.Ytjeahllaajpddaa
open Go.RowKit
theorem best_ge (key : ByteArray) (d : Int) : ∀ t, -1 ≤ best key d t
  | 0 => by simp [best]
  | t + 1 => by have := best_ge key d t; unfold best; split <;> omega
/-- the score of a disk -/
def scN (key : ByteArray) (n : Nat) (x y : Nat → Int) (i : Nat) : Int := scoreV key n x y (i : Int)
theorem scN_eq (key : ByteArray) (n : Nat) (x y : Nat → Int) (hok : NdOk n x y) (hk : key.size ≤ 1000) (i : Nat) (hi : i < n) : scN key n x y i = best key i (y i).toNat := by
  unfold scN scoreV
  rw [if_pos ⟨hok, by omega, by omega, hk⟩, Int.toNat_natCast]
theorem oneRg (a : Option Addr) (n cap : Nat) : (#[Value.func (.func 53) #[] #[], .slice a n cap] : Array Value).all (·.oneCell') = true := by simp [Value.oneCell']
theorem own_mono {w : World} {base base' : Nat} {e : TypeId} {size : Nat} {v : Value} {n : Nat} {xs : List Value} (h : w.ownsRow base e size v n xs) (hb : base' ≤ base) : w.ownsRow base' e size v n xs := by
  rcases h with ⟨h0, h | ⟨g, cap, cur, h1, h2, h3⟩⟩
  · exact ⟨h0, .inl h⟩
  · exact ⟨h0, .inr ⟨g, cap, cur, h1, Nat.le_trans hb h2, h3⟩⟩
set_option maxRecDepth 20000 in
set_option maxHeartbeats 4000000 in
theorem iRing (a : Option Addr) (n cap : Nat) (x y : Nat → Int) (key : ByteArray) (hok : NdOk n x y) (hk : key.size ≤ 1000) (w : World) (h : Prs w a n cap x y) :
    Calls Try.prog 38 #[.slice a n cap, .string key] w fun e w' =>
      ∃ L v, e = .returned (.agg #[.func (.func 53) #[] #[], v]) ∧ w'.ownsRow w.heap.size 78 3 v L.length (flB x (scN key n x y) L) ∧ Ring (scN key n x y) n L ∧ L.length ≤ n ∧ Below w.heap.size w w' := by
  have hn200 : n ≤ 200 := hok.2.1
  have SCN := hid (scN_eq key n x y hok hk)
  have YB := hid (fun i (hi : i < n) => (hok.2.2 i hi).2.2)
  have K := fun w => hid (iKeySum key (by omega) w)
  have SC := fun X W disk hW hd w => hid (iScore key hk X W disk hW hd w)
  obtain ⟨ks, hks⟩ : ∃ z, z = kSum key := ⟨_, rfl⟩
  rw [← hks] at K SC
  clear hks
  rcases h.2 with h00 | ⟨b, off, rfl, hbl, hc⟩
  · have := hok.1; omega
  have HC := hid hc
  clear h hc hok
  have RR := RowAt.new (w.alloc (.cells #[.nilFunc, .slice none 0 0] 64)) 64 #[.nilFunc, .slice none 0 0]
  rw [World.size_alloc] at RR
  have st0 : (store ⟨w.heap.size + 1, 0, none⟩ (.func (.func 53) #[] #[])).run Try.prog ((w.alloc (.cells #[.nilFunc, .slice none 0 0] 64)).alloc (.cells #[.nilFunc, .slice none 0 0] 64)) = .ok () (((w.alloc (.cells #[.nilFunc, .slice none 0 0] 64)).alloc (.cells #[.nilFunc, .slice none 0 0] 64)).setCell ⟨w.heap.size + 1, 0, none⟩ (.func (.func 53) #[] #[])) := by
    rw [run_store Try.prog _ _ _ _ rfl, RR.cell 0]
    simp [RR.free 0]
  go_enter Try.func38, Try.ntmps38
  go_wp2_with fail
  refine (K _).out.mono ?_
  rintro e w1 ⟨rfl, rfl⟩
  go_wp2_with fail
  have R1 : Hid (RowAt (w.alloc (.cells #[.nilFunc, .slice none 0 0] 64)) w.heap.size 64 #[.nilFunc, .slice none 0 0]) := RowAt.new w _ _
  have RRH := hid (RowAt.new (w.alloc (.cells #[.nilFunc, .slice none 0 0] 64)) 64 #[.func (.func 53) #[] #[], .slice none 0 0])
  rw [World.size_alloc] at RRH
  clear RR st0
  go_loopw [16] (fun q wr => ∃ (k : Nat) (l : List Nat) (v : Value), k ≤ n ∧ q = .int .i64 (k : Int) ∧ RingAt wr (w.heap.size + 1) (w.heap.size + 1) x (scN key n x y) l v ∧ (∀ j, j ∈ l ↔ j < k ∧ 0 ≤ scN key n x y j) ∧ l.length ≤ k ∧ RowAt wr w.heap.size 64 #[.nilFunc, .slice none 0 0] ∧ Below w.heap.size w wr) (fun q _ => n - (intOf q).toNat)
  case atStart =>
    refine ⟨0, [], .slice none 0 0, Nat.zero_le _, rfl, ⟨RRH.out, World.ownsRow_nil _ _ _ _, List.Pairwise.nil, by simp [Value.ownBlock], Nat.le_refl _⟩, fun j => by simp, Nat.le_refl _, R1.out.alloc _, ?_⟩
    exact ((Below.refl _ w).alloc (Nat.le_refl _) _).alloc (by simp) _
  case round =>
    obtain ⟨k, l, v, hkn, rfl, hR, hm, hlk, hR0, hB⟩ := hrel
    have HR := hid hR
    have HM := hid hm
    have HR0 := hid hR0
    have HB := hid hB
    clear hR hm hR0 hB
    by_cases hlt : k < n
    · have hlt' : (k : Int) < (n : Int) := by omega
      have k0 : (0 : Int) ≤ (k : Int) := by omega
      obtain ⟨c0, c1⟩ := HC.out k hlt
      replace c0 := (HB.out.cell (p := ⟨b, off + k * 2, none⟩) hbl).trans c0
      replace c1 := (HB.out.cell (p := ⟨b, off + k * 2 + 1, none⟩) hbl).trans c1
      obtain ⟨W, hW⟩ := Int.eq_ofNat_of_zero_le (YB.out k hlt).1
      have hW64 : W ≤ 64 := by have := (YB.out k hlt).2; omega
      have hbest : Hid (scN key n x y k = best key k W) := by show _ = _; rw [SCN.out k hlt, hW, Int.toNat_natCast]
      have hge : Hid (-1 ≤ scN key n x y k) := by show _ ≤ _; rw [hbest.out]; exact best_ge _ _ _
      rw [hW] at c1
      have SX := fun w => SC (x k) W k hW64 (by omega) w
      rw [← hbest.out] at SX
      have AD := fun w' (h : RingAt w' (w.heap.size + 1) (w.heap.size + 1) x (scN key n x y) l v) => hid (iAddO (w.heap.size + 1) (w.heap.size + 1) k x (scN key n x y) l v (by omega) (fun q => by have := (HM.out k).1 q; omega) w' h)
      obtain ⟨X, hX⟩ : ∃ X, X = x k := ⟨_, rfl⟩
      obtain ⟨Z, hZ⟩ : ∃ Z, Z = scN key n x y k := ⟨_, rfl⟩
      rw [← hX] at c0 SX AD
      rw [← hZ] at SX AD hge
      have HZ := hid hZ
      clear hX hZ hW hbest
      have N1 : Hid (Below wr.heap.size wr (wr.alloc (.cells #[.int .i64 X, .int .i64 (W : Int)] 38))) := (Below.refl _ wr).alloc (Nat.le_refl _) _
      go_wp2_with fail
      refine (SX _).out.mono ?_
      rintro e w2 ⟨rfl, hb2⟩
      have NN : Hid (RowAt w2 wr.heap.size 38 #[.int .i64 X, .int .i64 (W : Int)]) := (RowAt.new wr 38 #[.int .i64 X, .int .i64 (W : Int)]).below hb2 (by simp)
      have B2 : Hid (Below wr.heap.size wr w2) := N1.out.trans (hb2.mono (by simp))
      have HR2 := hid (HR.out.below B2.out)
      have HR02 := hid (HR0.out.below B2.out HR0.out.lt)
      have HB2 : Hid (Below w.heap.size w w2) := HB.out.trans (B2.out.mono HB.out.size)
      clear hb2
      by_cases hz : Z = -1
      · have dz : (Z != -1) = false := by simp [hz]
        have M1 : Hid (∀ j, j ∈ l ↔ j < k + 1 ∧ 0 ≤ scN key n x y j) := fun j => by
          rw [HM.out j]
          by_cases e : j = k
          · rw [e, ← HZ.out, hz]; omega
          · omega
        go_wp2
        go_roundw
        case rel => exact ⟨k + 1, l, v, hlt, by go_num, HR2.out, M1.out, by omega, HR02.out, HB2.out⟩
        case measure => simp [intOf]; omega
      · have dz : (Z != -1) = true := by simp [hz]
        have n0 := NN.out.cell 0
        have A2 := AD w2 HR2.out
        clear AD
        go_wp2_with fail
        refine A2.out.mono ?_
        rintro e w3 ⟨rfl, ⟨l', v', hR3, hl3, hm3⟩, hb3⟩
        have HR3 := hid hR3
        have HL3 := hid hl3
        have M3 : Hid (∀ j, j ∈ l' ↔ j < k + 1 ∧ 0 ≤ scN key n x y j) := fun j => by
          rw [hm3 j, HM.out j]
          by_cases e : j = k
          · rw [e, ← HZ.out]; have := hge.out; omega
          · omega
        have HR03 := hid (HR02.out.below hb3 (by omega))
        have HB3 : Hid (Below w.heap.size w w3) := HB2.out.trans (hb3.mono (by omega))
        clear hR3 hl3 hm3 hb3
        go_wp2
        go_roundw
        case rel => exact ⟨k + 1, l', v', hlt, by go_num, HR3.out, M3.out, by have := HL3.out; omega, HR03.out, HB3.out⟩
        case measure => simp [intOf]; omega
    · have hlt' : ¬ (k : Int) < (n : Int) := by omega
      obtain rfl : k = n := by omega
      obtain ⟨a1, cap1, rfl⟩ := own_slice HR.out.own
      have c0 := HR.out.box.cell 0
      have c1 := HR.out.box.cell 1
      have d0 := HR0.out.cell 0
      have d1 := HR0.out.cell 1
      have f0 := HR0.out.free 0
      have f1 := HR0.out.free 1
      clear d0 d1 f0 f1
      have FB : Hid (Below w.heap.size w (wr.setRow w.heap.size #[.func (.func 53) #[] #[], .slice a1 l.length cap1])) := below_setRow HB.out _ _ (Nat.le_refl _)
      have FO : Hid ((wr.setRow w.heap.size #[.func (.func 53) #[] #[], .slice a1 l.length cap1]).ownsRow w.heap.size 78 3 (.slice a1 l.length cap1) l.length (flB x (scN key k x y) l)) :=
        own_mono (HR.out.own.kept (setRow_grown wr w.heap.size _) (.inr fun e => by have := (HR.out.own.lt _ e).1; omega)) (by omega)
      go_wp2_with (refine wpList_store_row rfl 64 (.tmp 4) (.tmp 35) rfl w.heap.size #[.func (.func 53) #[] #[], .slice a1 l.length cap1] rfl rfl _ _ HR0.out (by kernel_rfl) rfl (oneRg _ _ _) ?_)
      refine bodyPost_ret (v := .agg #[.func (.func 53) #[] #[], .slice a1 l.length cap1]) ?_ rfl ⟨l, _, rfl, FO.out, ⟨HR.out.sorted, HM.out⟩, hlk, FB.out⟩
      exact results_cell_row Try.results38 _ _ w.heap.size _ _ _ _ rfl (HR0.out.setRow _) Try.underlying64 rfl (by kernel_rfl)
end Go.Proofs.Ytjeahllaajpddaa
