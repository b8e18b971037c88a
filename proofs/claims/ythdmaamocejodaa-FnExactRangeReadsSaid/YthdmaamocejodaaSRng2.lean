import Derived.Test.YthdmaamocejodaaSRng
import Derived.Deep.CutRange
namespace Go.Proofs.Ythdmaamocejodaa
open Go.RowKit
theorem rowFar5 {w w' : World} {b : Nat} {t : TypeId} {cs : Array Value} {r : Option Nat} (h : RowAt w b t cs) (hg : w.grownBy w' r) (hne : some b ≠ r) : RowAt w' b t cs := (hg.block b h.lt hne).trans h
theorem Rngs.setRow {w : World} {a : Option Addr} {n cap : Nat} {f : Nat → Int} (h : Rngs w a n cap f) (g : Nat) (cs : Array Value) (hn : ∀ b, a = some ⟨b, 0, none⟩ → b ≠ g) : Rngs (w.setRow g cs) a n cap f := by
  refine ⟨h.1, ?_⟩
  rcases h.2 with h0 | ⟨b, he, h1, h2⟩
  · exact Or.inl h0
  · refine Or.inr ⟨b, he, by rw [setRow_size]; exact h1, fun p hp => ?_⟩
    rw [← h2 p hp]
    simp only [World.cell?, setRow_other w g b cs (hn b he)]
theorem OwnRg.ne {w : World} {base : Nat} {v : Value} {n : Nat} {xs : List Value} {c : Nat} (h : OwnRg w base v n xs) (hc : c < base ∨ w.heap.size ≤ c) : some c ≠ v.ownBlock := by
  intro e
  have := World.ownsRow.lt h c e.symm
  omega
theorem OwnRg.other {w : World} {base : Nat} {v : Value} {n : Nat} {xs : List Value} (h : OwnRg w base v n xs) (a : Addr) (x : Value) (hn : some a.block ≠ v.ownBlock) : OwnRg (w.setCell a x) base v n xs := by
  refine ⟨h.1, ?_⟩
  rcases h.2 with h0 | ⟨g, cap, cur, he, hb, hr, rest⟩
  · exact Or.inl h0
  · refine Or.inr ⟨g, cap, cur, he, hb, ?_, rest⟩
    exact RowAt.other (show RowAt w g 40 cur from hr) a x (fun e => hn (by rw [he, ← e]; rfl))
theorem OwnRg.alloc {w : World} {base : Nat} {v : Value} {n : Nat} {xs : List Value} (h : OwnRg w base v n xs) (o : Obj) : OwnRg (w.alloc o) base v n xs := World.ownsRow.alloc h o
theorem OwnRg.drew {w : World} {base : Nat} {v : Value} {n : Nat} {xs : List Value} (h : OwnRg w base v n xs) : OwnRg w.drew base v n xs := World.ownsRow.drew h
theorem wrapS (x : Int) (h0 : 0 ≤ x) (h1 : x < 9223372036854775808) : IntKind.i64.wrap x = x := by rw [IntKind.wrap_i64]; omega
set_option maxRecDepth 20000 in
set_option maxHeartbeats 4000000 in
/-- the walk behind the bounds: from f to t -/
theorem srng_ok (K M G U S f c f1 c1 : Nat) (h1 : 1 ≤ K) (h2 : K ≤ 32) (h3 : M ≤ 16) (h4 : G ≤ K) (h5 : K + M + G ≤ 64) (h6 : 1 ≤ U) (h7 : U ≤ 4096) (h8 : S ≤ 100000) (hn : stripeN K M G U S ≠ -1)
    (hf : f1 = min f S) (hc : c1 = min c (S - f1)) (w : World) :
    Calls Try.prog 8 #[cdv K M G, .int .i64 U, .int .i64 S, .int .i64 f, .int .i64 c] w fun e w' => ∃ a cp, e = .returned (rsv 0 a (rgN U f1 (f1 + c1)) cp) ∧ Rngs w' a (rgN U f1 (f1 + c1)) cp (fun p => ((rgC K U f1 (f1 + c1) p : Nat) : Int)) ∧ Below w.heap.size w w' := by
  go_enter Try.func8, Try.ntmps8
  go_wp2_with fail
  refine (sStripe _ _ _ _ _ _).mono ?_
  rintro e w1 ⟨rfl, hw1⟩
  have C1 : Hid (RowAt w1 w.heap.size 25 (cda K M G)) := by rw [hw1]; exact (((RowAt.new w _ _).alloc _).alloc _).alloc _
  have R1 : Hid (RowAt w1 (w.heap.size + 1) 30 #[.int .i64 0, .slice none 0 0]) := by rw [hw1]; exact ((RowAt.next _ _ _ (by rw [size_al])).alloc _).alloc _
  have B1 : Hid (Below w.heap.size w w1) := by rw [hw1]; exact bal5 (bal5 (bal5 (bal5 (Below.refl _ _) _) _) _) _
  have Z1 : Hid (w1.heap.size = w.heap.size + 4) := by rw [hw1]; show _ = _; simp only [size_al]
  clear hw1
  obtain ⟨N, hN⟩ : ∃ N : Nat, stripeN K M G U S = (N : Int) := by
    rcases stripe_lo K M G U S with h | ⟨h, _⟩
    · exact absurd h hn
    · exact ⟨_, (Int.toNat_of_nonneg h).symm⟩
  rw [hN]
  clear hN hn
  have dN : decide ((N : Int) < 0) = false := by simp
  have df : decide ((f : Int) < 0) = false := by simp
  have dc : decide ((c : Int) < 0) = false := by simp
  have hp1 : 1 ≤ K * U := Nat.mul_pos (by omega) (by omega)
  have hp2 : K * U ≤ 32 * 4096 := Nat.mul_le_mul h2 (by omega)
  have eP : ((K : Int) * (U : Int)) = ((K * U : Nat) : Int) := by rw [Int.natCast_mul]
  obtain ⟨Z, hZ⟩ : ∃ Z, Z = K * U := ⟨_, rfl⟩
  rw [← hZ] at hp1 hp2 eP
  have HZ := hid hZ
  have hZ1 : Z ≤ 131072 := by omega
  clear hZ hp2
  have hfv : f1 ≤ S := by omega
  have hcv : f1 + c1 ≤ S := by omega
  go_upto_region 4 with fail
  obtain ⟨W1, hW1⟩ : ∃ W1, W1 = w1.alloc (.cells #[] 40) := ⟨_, rfl⟩
  rw [← hW1]
  have C2 : Hid (RowAt W1 w.heap.size 25 (cda K M G)) := by rw [hW1]; exact C1.out.alloc _
  have R2 : Hid (RowAt W1 (w.heap.size + 1) 30 #[.int .i64 0, .slice none 0 0]) := by rw [hW1]; exact R1.out.alloc _
  have B2 : Hid (Below w.heap.size w W1) := by rw [hW1]; exact bal5 B1.out _
  have O2 : Hid (OwnRg W1 (w.heap.size + 4) (.slice (some ⟨w1.heap.size, 0, none⟩) 0 0) 0 (rgL K U f1 (f1 + c1) 0)) := by
    rw [hW1]
    exact World.ownsRow_made w1 (e := 40) (size := 4) #[] 0 (base := w.heap.size + 4) (by rw [Z1.out]; exact Nat.le_refl _) (by decide) rfl
  have Z2 : Hid (w.heap.size + 4 ≤ W1.heap.size) := by rw [hW1]; show _ ≤ _; rw [size_al, Z1.out]; omega
  clear hW1 C1 R1 B1
  obtain ⟨D, hD⟩ : ∃ D, D = S - f1 := ⟨_, rfl⟩
  have e2 : ((S : Int) - (f1 : Int)) = (D : Int) := by omega
  have HF := hid hf
  have HC : Hid (c1 = min c D) := by rw [hD]; exact hc
  clear hf hc hD
  go_upto_if 31 with fail
  go_cut [3] from 31 to 32 (fun x wx => x = .int .i64 f1 ∧ wx = W1)
  case first =>
    by_cases i1 : S < f
    · have i1' : (S : Int) < (f : Int) := by omega
      have e9 : Hid ((S : Int) = (f1 : Int)) := by have := HF.out; show _ = _; omega
      go_wp2_with fail
      go_meet
      exact ⟨by rw [e9.out], rfl⟩
    · have i1' : ¬ (S : Int) < (f : Int) := by omega
      have e9 : Hid ((f : Int) = (f1 : Int)) := by have := HF.out; show _ = _; omega
      go_wp2_with fail
      go_meet
      exact ⟨by rw [e9.out], rfl⟩
  obtain ⟨rfl, rfl⟩ := hcut
  go_upto_if 37 with fail
  go_cut [4] from 37 to 40 (fun x wx => x = .int .i64 c1 ∧ wx = wc)
  case first =>
    by_cases i1 : D < c
    · have i1' : (D : Int) < (c : Int) := by omega
      have e9 : Hid ((D : Int) = (c1 : Int)) := by have := HC.out; show _ = _; omega
      go_wp2_with fail
      go_meet
      exact ⟨by rw [e9.out], rfl⟩
    · have i1' : ¬ (D : Int) < (c : Int) := by omega
      have e9 : Hid ((c : Int) = (c1 : Int)) := by have := HC.out; show _ = _; omega
      go_wp2_with fail
      go_meet
      exact ⟨by rw [e9.out], rfl⟩
  obtain ⟨rfl, rfl⟩ := hcut
  clear HF HC e2
  obtain ⟨t, ht⟩ : ∃ t, t = f1 + c1 := ⟨_, rfl⟩
  have hft : (f1 : Int) + (c1 : Int) = (t : Int) := by omega
  rw [← ht] at O2
  have HT := hid ht
  have htS : t ≤ 100000 := by omega
  have hftn : f1 ≤ t := by omega
  clear ht hcv hfv
  go_wp2_with fail
  go_loopw [12, 11] (fun x y wr => ∃ (i : Nat), i ≤ rgN U f1 t ∧ x = .int .i64 (rgAt U f1 t i : Nat) ∧ OwnRg wr (w.heap.size + 4) y i (rgL K U f1 t i) ∧ RowAt wr w.heap.size 25 (cda K M G) ∧ RowAt wr (w.heap.size + 1) 30 #[.int .i64 0, .slice none 0 0] ∧ w.heap.size + 4 ≤ wr.heap.size ∧ Below w.heap.size w wr) (fun x _ _ => t - (intOf x).toNat)
  case atStart => exact ⟨0, Nat.zero_le _, by rw [rgAt_zero], O2.out, C2.out, R2.out, Z2.out, B2.out⟩
  case round =>
    obtain ⟨i, hi, rfl, hO, hC, hR, hz, hB⟩ := hrel
    have HO := hid hO
    have HC := hid hC
    have HR := hid hR
    have HB := hid hB
    have HI := hid hi
    clear hO hC hR hB O2 C2 R2 B2 hi
    obtain ⟨at', hat⟩ : ∃ at', at' = rgAt U f1 t i := ⟨_, rfl⟩
    rw [← hat]
    have HA := hid hat
    have hle := (rgAt_le h6 i HI.out hftn).2
    rw [← hat] at hle
    clear hat
    by_cases hlt : at' < t
    · have hlt' : (at' : Int) < (t : Int) := by omega
      have c0 : wr.cell? ⟨w.heap.size, 0, none⟩ = some (.int .i64 K) := HC.out.cell 0
      have hi1 : i < rgN U f1 t := rgN_more h6 HI.out (by rw [← HA.out]; exact hlt)
      obtain ⟨A1, hA1⟩ : ∃ A, A = at' / Z := ⟨_, rfl⟩
      obtain ⟨A2, hA2⟩ : ∃ A, A = at' / U := ⟨_, rfl⟩
      obtain ⟨A3, hA3⟩ : ∃ A, A = A2 % K := ⟨_, rfl⟩
      obtain ⟨A4, hA4⟩ : ∃ A, A = at' % U := ⟨_, rfl⟩
      have q1 : (at' : Int).tdiv (Z : Int) = (A1 : Int) := by rw [Int.tdiv_eq_ediv_of_nonneg (by omega), hA1, Int.natCast_ediv]
      have q1' : (at' : Int) / (Z : Int) = (A1 : Int) := by rw [hA1, Int.natCast_ediv]
      have q2 : (at' : Int).tdiv (U : Int) = (A2 : Int) := by rw [Int.tdiv_eq_ediv_of_nonneg (by omega), hA2, Int.natCast_ediv]
      have q2' : (at' : Int) / (U : Int) = (A2 : Int) := by rw [hA2, Int.natCast_ediv]
      have q3 : (A2 : Int).tmod (K : Int) = (A3 : Int) := by rw [Int.tmod_eq_emod_of_nonneg (by omega), hA3, Int.natCast_emod]
      have q3' : (A2 : Int) % (K : Int) = (A3 : Int) := by rw [hA3, Int.natCast_emod]
      have q4 : (at' : Int).tmod (U : Int) = (A4 : Int) := by rw [Int.tmod_eq_emod_of_nonneg (by omega), hA4, Int.natCast_emod]
      have q4' : (at' : Int) % (U : Int) = (A4 : Int) := by rw [hA4, Int.natCast_emod]
      have b1 : A1 ≤ 100000 := by rw [hA1]; exact Nat.le_trans (Nat.div_le_self _ _) (by omega)
      have b2 : A2 ≤ 100000 := by rw [hA2]; exact Nat.le_trans (Nat.div_le_self _ _) (by omega)
      have b3 : A3 < K := by rw [hA3]; exact Nat.mod_lt _ (by omega)
      have b4 : A4 < U := by rw [hA4]; exact Nat.mod_lt _ (by omega)
      have HA1 := hid hA1
      have HA2 := hid hA2
      have HA3 := hid hA3
      have HA4 := hid hA4
      have HI1 := hid hi1
      clear hA1 hA2 hA3 hA4 hi1
      go_wp2_with fail
      have n0 := World.new_ne wr _ c0
      have y1 : ¬ (Z : Int) = 0 := by omega
      have y2 : ¬ (U : Int) = 0 := by omega
      have y3 : ¬ (K : Int) = 0 := by omega
      have x1 : ¬ Z = 0 := by omega
      have x2 : ¬ U = 0 := by omega
      have x3 : ¬ K = 0 := by omega
      have z1 : ((Z : Int) == 0) = false := by simp; omega
      have z2 : ((U : Int) == 0) = false := by simp; omega
      have z3 : ((K : Int) == 0) = false := by simp; omega
      have m0 : IntKind.i64.wrap ((K : Int) * (U : Int)) = (Z : Int) := by rw [eP]; exact wrapS _ (by omega) (by omega)
      have m0' : IntKind.i64.wrap (Z : Int) = (Z : Int) := wrapS _ (by omega) (by omega)
      have m1 : IntKind.i64.wrap (A1 : Int) = (A1 : Int) := wrapS _ (by omega) (by omega)
      have m2 : IntKind.i64.wrap (A2 : Int) = (A2 : Int) := wrapS _ (by omega) (by omega)
      have m3 : IntKind.i64.wrap (A3 : Int) = (A3 : Int) := wrapS _ (by omega) (by omega)
      have m4 : IntKind.i64.wrap (A4 : Int) = (A4 : Int) := wrapS _ (by omega) (by omega)
      go_region_held3 (fun wx => wx.cell? ⟨w.heap.size, 0, none⟩ = some (.int .i64 K)) (first | exact c0 | (go_keep; done)) (fail)

      obtain ⟨W2, hW2⟩ : ∃ W2, W2 = (wr.alloc (.cells (rga A1 A3 A4 0) 40)).drew := ⟨_, rfl⟩
      rw [← hW2]
      have T2 : Hid (RowAt W2 wr.heap.size 40 (rga A1 A3 A4 0)) := by rw [hW2]; exact RowAt.new wr _ _
      have C2 : Hid (RowAt W2 w.heap.size 25 (cda K M G)) := by rw [hW2]; exact HC.out.alloc _
      have R2 : Hid (RowAt W2 (w.heap.size + 1) 30 #[.int .i64 0, .slice none 0 0]) := by rw [hW2]; exact HR.out.alloc _
      have O2 : Hid (OwnRg W2 (w.heap.size + 4) u11 i (rgL K U f1 t i)) := by rw [hW2]; exact (HO.out.alloc _).drew
      have B2 : Hid (Below w.heap.size w W2) := by rw [hW2]; exact (bal5 HB.out _).drew
      have Z2 : Hid (W2.heap.size = wr.heap.size + 1) := by rw [hW2]; show (wr.alloc _).heap.size = _; rw [size_al]
      have NE := hid (HO.out.ne (c := wr.heap.size) (Or.inr (Nat.le_refl _)))
      have HZr := hid hz
      clear hW2 c0 n0 HO HC HR HB hz z1 z2 z3 y1 y2 y3 x1 x2 x3 m0 m0' m1 m2 m3 m4 q1 q1' q2 q2' q3 q3' q4 q4'
      obtain ⟨B, hBB⟩ : ∃ B, B = U - A4 := ⟨_, rfl⟩
      have eB : (U : Int) - (A4 : Int) = (B : Int) := by omega
      have HBB := hid hBB
      have hB1 : 1 ≤ B := by omega
      have hBU : B ≤ 4096 := by omega
      clear hBB
      have k2 : W2.cell? ⟨wr.heap.size, 2, none⟩ = some (.int .i64 A4) := T2.out.cell 2
      have k3 : W2.cell? ⟨wr.heap.size, 3, none⟩ = some (.int .i64 0) := T2.out.cell 3
      have l3 := T2.out.free 3
      go_upto_region 12 with fail
      obtain ⟨W3, hW3⟩ : ∃ W3, W3 = W2.setCell ⟨wr.heap.size, 3, none⟩ (.int .i64 B) := ⟨_, rfl⟩
      rw [← hW3]
      have T3 : Hid (RowAt W3 wr.heap.size 40 (rga A1 A3 A4 B)) := by rw [hW3]; exact T2.out.set 3 _
      have C3 : Hid (RowAt W3 w.heap.size 25 (cda K M G)) := by rw [hW3]; exact C2.out.other _ _ (show w.heap.size ≠ wr.heap.size by have := HZr.out; omega)
      have R3 : Hid (RowAt W3 (w.heap.size + 1) 30 #[.int .i64 0, .slice none 0 0]) := by rw [hW3]; exact R2.out.other _ _ (show w.heap.size + 1 ≠ wr.heap.size by have := HZr.out; omega)
      have O3 : Hid (OwnRg W3 (w.heap.size + 4) u11 i (rgL K U f1 t i)) := by rw [hW3]; exact O2.out.other _ _ NE.out
      have B3 : Hid (Below w.heap.size w W3) := by rw [hW3]; exact B2.out.setCell (show w.heap.size ≤ wr.heap.size by have := HZr.out; omega) _
      have Z3 : Hid (W3.heap.size = wr.heap.size + 1) := by rw [hW3]; show (World.setCell _ _ _).heap.size = _; rw [World.size_setCell]; exact Z2.out
      clear hW3 T2 C2 R2 O2 B2 Z2 k2 k3 l3
      obtain ⟨E, hE⟩ : ∃ E, E = t - at' := ⟨_, rfl⟩
      have eE : (t : Int) - (at' : Int) = (E : Int) := by omega
      have k3 : W3.cell? ⟨wr.heap.size, 3, none⟩ = some (.int .i64 B) := T3.out.cell 3
      have l3 := T3.out.free 3
      have hE1 : 1 ≤ E := by omega
      have ST := hid (rgAt_step h6 HI1.out)
      rw [← HA.out, ← HA4.out, ← hE, ← HBB.out] at ST
      obtain ⟨Cn, hCn⟩ : ∃ Cn, Cn = if E < B then E else B := ⟨_, rfl⟩
      rw [← hCn] at ST
      have hC1 : 1 ≤ Cn := by rw [hCn]; split <;> omega
      have hC2 : at' + Cn ≤ t := by rw [hCn]; split <;> omega
      have HCn := hid hCn
      clear hE hCn
      by_cases hEB : E < B
      · have hEB' : (E : Int) < (B : Int) := by omega
        have hce : Hid (Cn = E) := by rw [HCn.out]; exact if_pos hEB
        go_upto_region 14 with fail
        obtain ⟨W4, hW4⟩ : ∃ W4, W4 = W3.setCell ⟨wr.heap.size, 3, none⟩ (.int .i64 E) := ⟨_, rfl⟩
        rw [← hW4]
        have T4 : Hid (RowAt W4 wr.heap.size 40 (rga A1 A3 A4 E)) := by rw [hW4]; exact T3.out.set 3 _
        have C4 : Hid (RowAt W4 w.heap.size 25 (cda K M G)) := by rw [hW4]; exact C3.out.other _ _ (show w.heap.size ≠ wr.heap.size by have := HZr.out; omega)
        have R4 : Hid (RowAt W4 (w.heap.size + 1) 30 #[.int .i64 0, .slice none 0 0]) := by rw [hW4]; exact R3.out.other _ _ (show w.heap.size + 1 ≠ wr.heap.size by have := HZr.out; omega)
        have O4 : Hid (OwnRg W4 (w.heap.size + 4) u11 i (rgL K U f1 t i)) := by rw [hW4]; exact O3.out.other _ _ NE.out
        have B4 : Hid (Below w.heap.size w W4) := by rw [hW4]; exact B3.out.setCell (show w.heap.size ≤ wr.heap.size by have := HZr.out; omega) _
        have Z4 : Hid (W4.heap.size = wr.heap.size + 1) := by rw [hW4]; show (World.setCell _ _ _).heap.size = _; rw [World.size_setCell]; exact Z3.out
        obtain ⟨X, hX⟩ : ∃ X, Cn = X ∧ E = X := ⟨E, hce.out, rfl⟩
        obtain ⟨rfl, hX⟩ := hX
        rw [hX] at T4 ⊢
        clear hW4 T3 C3 R3 O3 B3 Z3 k3 l3 hX hce HCn
        have Y4 : Hid (w.heap.size + 4 ≤ W4.heap.size) := by have h9 := Z4.out; have h8 := HZr.out; show _ ≤ _; omega
        have X4 : Hid (i ≤ 1048576) := by have h9 := HI.out; have h8 := rgN_le (u := U) (f := f1) htS; show _ ≤ _; omega
        have NC := hid (O4.out.ne (c := w.heap.size) (Or.inl (by omega)))
        have NR := hid (O4.out.ne (c := w.heap.size + 1) (Or.inl (by omega)))
        have ld0 := T4.out
        go_upto_region 15 with (first
          | (refine wpList_load_row rfl 40 (.tmp 13) rfl wr.heap.size rfl _ _ _ _ ld0 Try.underlying40 rfl (by kernel_rfl) ?_)
          | (refine append_rg (w.heap.size + 4) W4 (by rfl) (.tmp 82) (.tmp 84) 28 (by rfl) Try.underlying28 Try.infoRg _ i _ A1 A3 A4 Cn (by rfl) O4.out Y4.out (by rfl) X4.out ?_; intro v5 w5 hO5 hg5))
        have k5 : w5.cell? ⟨wr.heap.size, 3, none⟩ = some (.int .i64 Cn) := (rowFar5 T4.out hg5 NE.out).cell 3
        have C5 := hid (rowFar5 C4.out hg5 NC.out)
        have R5 := hid (rowFar5 R4.out hg5 NR.out)
        have B5 : Hid (Below w.heap.size w w5) := B4.out.grown hg5 B4.out.size (fun b hb => by have := (World.ownsRow.lt O4.out b hb).1; omega)
        have Z5 : Hid (w.heap.size + 4 ≤ w5.heap.size) := Nat.le_trans Y4.out hg5.size
        have O5 : Hid (OwnRg w5 (w.heap.size + 4) v5 (i + 1) (rgL K U f1 t (i + 1))) := by
          rw [rgL_succ, ← HA.out, ← HZ.out, ← HA1.out, ← HA2.out, ← HA3.out, ← HA4.out, ST.out, Nat.add_sub_cancel_left]
          exact hO5
        have S5 : Hid (at' + Cn = rgAt U f1 t (i + 1)) := ST.out.symm
        clear hO5 hg5 C4 R4 B4 O4 Z4 Y4 T4 ld0 NC NR ST
        go_wp2
        go_roundw
        case rel => exact ⟨i + 1, HI1.out, by rw [← S5.out]; go_num, O5.out, C5.out, R5.out, Z5.out, B5.out⟩
        case measure => simp [intOf]; omega
      · have hEB' : ¬ (E : Int) < (B : Int) := by omega
        have hce : Hid (Cn = B) := by rw [HCn.out]; exact if_neg hEB
        go_upto_region 14 with fail
        obtain ⟨W4, hW4⟩ : ∃ W4, W4 = W3 := ⟨_, rfl⟩
        rw [← hW4]
        have T4 : Hid (RowAt W4 wr.heap.size 40 (rga A1 A3 A4 B)) := by rw [hW4]; exact T3.out
        have C4 : Hid (RowAt W4 w.heap.size 25 (cda K M G)) := by rw [hW4]; exact C3.out
        have R4 : Hid (RowAt W4 (w.heap.size + 1) 30 #[.int .i64 0, .slice none 0 0]) := by rw [hW4]; exact R3.out
        have O4 : Hid (OwnRg W4 (w.heap.size + 4) u11 i (rgL K U f1 t i)) := by rw [hW4]; exact O3.out
        have B4 : Hid (Below w.heap.size w W4) := by rw [hW4]; exact B3.out
        have Z4 : Hid (W4.heap.size = wr.heap.size + 1) := by rw [hW4]; exact Z3.out
        obtain ⟨X, hX⟩ : ∃ X, Cn = X ∧ B = X := ⟨B, hce.out, rfl⟩
        obtain ⟨rfl, hX⟩ := hX
        rw [hX] at T4 ⊢
        clear hW4 T3 C3 R3 O3 B3 Z3 k3 l3 hX hce HCn
        have Y4 : Hid (w.heap.size + 4 ≤ W4.heap.size) := by have h9 := Z4.out; have h8 := HZr.out; show _ ≤ _; omega
        have X4 : Hid (i ≤ 1048576) := by have h9 := HI.out; have h8 := rgN_le (u := U) (f := f1) htS; show _ ≤ _; omega
        have NC := hid (O4.out.ne (c := w.heap.size) (Or.inl (by omega)))
        have NR := hid (O4.out.ne (c := w.heap.size + 1) (Or.inl (by omega)))
        have ld0 := T4.out
        go_upto_region 15 with (first
          | (refine wpList_load_row rfl 40 (.tmp 13) rfl wr.heap.size rfl _ _ _ _ ld0 Try.underlying40 rfl (by kernel_rfl) ?_)
          | (refine append_rg (w.heap.size + 4) W4 (by rfl) (.tmp 82) (.tmp 84) 28 (by rfl) Try.underlying28 Try.infoRg _ i _ A1 A3 A4 Cn (by rfl) O4.out Y4.out (by rfl) X4.out ?_; intro v5 w5 hO5 hg5))
        have k5 : w5.cell? ⟨wr.heap.size, 3, none⟩ = some (.int .i64 Cn) := (rowFar5 T4.out hg5 NE.out).cell 3
        have C5 := hid (rowFar5 C4.out hg5 NC.out)
        have R5 := hid (rowFar5 R4.out hg5 NR.out)
        have B5 : Hid (Below w.heap.size w w5) := B4.out.grown hg5 B4.out.size (fun b hb => by have := (World.ownsRow.lt O4.out b hb).1; omega)
        have Z5 : Hid (w.heap.size + 4 ≤ w5.heap.size) := Nat.le_trans Y4.out hg5.size
        have O5 : Hid (OwnRg w5 (w.heap.size + 4) v5 (i + 1) (rgL K U f1 t (i + 1))) := by
          rw [rgL_succ, ← HA.out, ← HZ.out, ← HA1.out, ← HA2.out, ← HA3.out, ← HA4.out, ST.out, Nat.add_sub_cancel_left]
          exact hO5
        have S5 : Hid (at' + Cn = rgAt U f1 t (i + 1)) := ST.out.symm
        clear hO5 hg5 C4 R4 B4 O4 Z4 Y4 T4 ld0 NC NR ST
        go_wp2
        go_roundw
        case rel => exact ⟨i + 1, HI1.out, by rw [← S5.out]; go_num, O5.out, C5.out, R5.out, Z5.out, B5.out⟩
        case measure => simp [intOf]; omega
    · have hlt' : ¬ (at' : Int) < (t : Int) := by omega
      have hie : Hid (i = rgN U f1 t) := rgN_last h6 HI.out (by rw [← HA.out]; exact hlt)
      obtain ⟨a5, c5, rfl, hRg⟩ := HO.out.rngs
      have HRg := hid hRg
      clear hRg
      go_wp2_with (refine wpList_store_row rfl 30 (.tmp 10) (.tmp 91) rfl (w.heap.size + 1) #[.int .i64 0, .slice a5 i c5] rfl rfl _ _ HR.out (by kernel_rfl) rfl (oneR _ _ _ _) ?_)
      refine bodyPost_ret (v := rsv 0 a5 i c5) ?_ rfl ⟨a5, c5, by rw [← HT.out, ← hie.out], ?_, below_setRow HB.out _ _ (by omega)⟩
      · exact results_cell_row Try.results8 _ _ (w.heap.size + 1) _ _ _ _ rfl (HR.out.setRow _) Try.underlying30 rfl (by kernel_rfl)
      · rw [← HT.out, ← hie.out]
        refine HRg.out.setRow (w.heap.size + 1) _ ?_
        intro b hb e
        have := World.ownsRow.lt HO.out b (by rw [hb]; rfl)
        omega
end Go.Proofs.Ythdmaamocejodaa
