import Derived.Test.YtlobnmcjnaibaaaDoorRIGrid4
namespace Go.Proofs.YtlobnmcjnaibaaaDoorR
open Go.RowKit
set_option maxRecDepth 20000 in
set_option maxHeartbeats 1000000 in
theorem icauchy_ok (R C q : Nat) (hR1 : 1 ≤ R) (hR : R ≤ 64) (hC1 : 1 ≤ C) (hC : C ≤ 64) (hq : q = R * C) (w : World) :
    Calls Tryd.prog 14 #[.int .i64 R, .int .i64 C] w fun e w' => ∃ g, e = .returned (.agg #[.int .i64 0, .int .i64 R, .int .i64 C, .slice (some ⟨g, 0, none⟩) q q]) ∧ w.heap.size ≤ g ∧ Wr .i64 w' g 0 (nl (cauL R C)) ∧ Below w.heap.size w w' := by
  have hqb : q ≤ 64 * 64 := by rw [hq]; exact Nat.mul_le_mul hR hC
  have hq4 : q ≤ 4096 := by omega
  have HQ := hid hq
  clear hq hqb
  have hcl : (cauL R C).length = q := by rw [cauL_len, ← HQ.out]
  have HC := hid hcl
  have hsm : Small (cauL R C) := small_of (fun y hy => by
    unfold cauL at hy; obtain ⟨p, hp, rfl⟩ := List.mem_map.1 hy
    have hp' : p < R * C := by simpa using hp
    refine gp_lt fld8.toFld (Nat.xor_lt_two_pow (n := 8) ?_ ?_) 254
    · have : p / C < R := Nat.div_lt_of_lt_mul (by rw [Nat.mul_comm]; exact hp')
      show _ < 256; omega
    · have : p % C < C := Nat.mod_lt _ (by omega)
      show _ < 256; omega)
  have HS := hid hsm
  clear hcl hsm
  go_enter Tryd.func14, Tryd.ntmps14
  go_wp2_with fail
  refine (isSide_yes R _ ⟨by omega, by omega⟩).mono ?_
  rintro e w1 ⟨rfl, rfl⟩
  go_wp2_with fail
  refine (isSide_yes C _ ⟨by omega, by omega⟩).mono ?_
  rintro e w1 ⟨rfl, rfl⟩
  go_wp2_with fail
  refine (icauGrid R C q hR1 hR hC1 hC HQ.out _).mono ?_
  rintro e w1 ⟨g, rfl, hg, hG, hb⟩
  go_wp2_with fail
  refine (imatrix R C g q (by omega) _ HS.out _ hG HC.out).mono ?_
  rintro e w2 ⟨b, rfl, hbg, hW, hb2⟩
  have hb3 := hb.trans (hb2.mono hb.size)
  have hz := hb.size
  have hz2 := hb3.size
  rw [size_al] at hg hb hb3 hz hz2
  have R1 : Hid (RowAt w2 w.heap.size 28 #[.int .i64 0, .int .i64 0, .int .i64 0, .slice none 0 0]) := (RowAt.new w _ _).below hb3 (by omega)
  have B1 : Hid (Below w.heap.size w w2) := ((Below.refl _ _).alloc (Nat.le_refl _) _).trans (hb3.mono (by omega))
  have HW := hid hW
  clear hb hb2 hb3 hG hW
  go_wp2_with (refine wpList_store_row rfl 28 (.tmp 4) (.tmp 18) rfl w.heap.size #[.int .i64 0, .int .i64 R, .int .i64 C, .slice (some ⟨b, 0, none⟩) q q] rfl rfl _ _ R1.out (by kernel_rfl) rfl (one4 _ _ _ _ _ _) ?_)
  refine bodyPost_ret (v := .agg #[.int .i64 0, .int .i64 R, .int .i64 C, .slice (some ⟨b, 0, none⟩) q q]) ?_ rfl ⟨b, rfl, by omega, ?_, ?_⟩
  · exact results_cell_row Tryd.results14 _ _ w.heap.size _ _ _ _ rfl (R1.out.setRow _) Tryd.underlying28 rfl (by kernel_rfl)
  · exact wr_setRow HW.out _ (by omega)
  · exact below_setRow B1.out _ _ (by omega)
set_option maxRecDepth 20000 in
set_option maxHeartbeats 1000000 in
theorem icauchy_no (r c : Int) (w : World) (hno : ¬ (1 ≤ r ∧ r ≤ 64 ∧ 1 ≤ c ∧ c ≤ 64)) :
    Calls Tryd.prog 14 #[.int .i64 r, .int .i64 c] w fun e w' => e = .returned (mrNone 1) ∧ Below w.heap.size w w' := by
  by_cases h1 : 1 ≤ r ∧ r ≤ 64
  · go_enter Tryd.func14, Tryd.ntmps14
    go_wp2_with fail
    refine (isSide_yes r _ h1).mono ?_
    rintro e w1 ⟨rfl, rfl⟩
    go_wp2_with fail
    refine (isSide_no c _ (fun h => hno ⟨h1.1, h1.2, h.1, h.2⟩)).mono ?_
    rintro e w1 ⟨rfl, rfl⟩
    go_wp2
    exact bodyPost_ret (v := mrNone 1) (by simp [results, Tryd.results14, go_sem]) rfl ⟨rfl, (Below.refl _ _).alloc (Nat.le_refl _) _⟩
  · go_enter Tryd.func14, Tryd.ntmps14
    go_wp2_with fail
    refine (isSide_no r _ h1).mono ?_
    rintro e w1 ⟨rfl, rfl⟩
    go_wp2
    exact bodyPost_ret (v := mrNone 1) (by simp [results, Tryd.results14, go_sem]) rfl ⟨rfl, (Below.refl _ _).alloc (Nat.le_refl _) _⟩
end Go.Proofs.YtlobnmcjnaibaaaDoorR
