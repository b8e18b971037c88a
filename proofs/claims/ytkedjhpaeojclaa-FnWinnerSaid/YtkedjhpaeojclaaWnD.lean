import Derived.Test.YtkedjhpaeojclaaWnI
import Derived.Test.YtkedjhpaeojclaaDrawKit
namespace Go.Proofs.Ytkedjhpaeojclaa
open Go.RowKit
/-! The draws of two entries (by genwn.py). -/
theorem results_rr {P : Program} {fn : Func} {p q : Tmp} {ty ty2 : TypeId} (h : fn.results = #[.cell p ty, .cell q ty2]) (tmps : Array Value) (w : World) (g : Nat) (t : TypeId) (cs : Array Value) (fr : Nat × Nat) (d : TypeDesc) (g2 : Nat) (t2 : TypeId) (cs2 : Array Value) (fr2 : Nat × Nat) (d2 : TypeDesc)
    (hp : tmps.getD p undef = .pointer (some ⟨g, 0, none⟩)) (hq : tmps.getD q undef = .pointer (some ⟨g2, 0, none⟩)) (hg : w.heap[g]? = some (.cells cs t fr)) (hg2 : w.heap[g2]? = some (.cells cs2 t2 fr2))
    (hu : P.underlying ty = some d) (hd : (match d with | .struct _ | .array _ _ => true | _ => false) = true) (hi : (P.info? ty).map (·.size) = some cs.size)
    (hu2 : P.underlying ty2 = some d2) (hd2 : (match d2 with | .struct _ | .array _ _ => true | _ => false) = true) (hi2 : (P.info? ty2).map (·.size) = some cs2.size) :
    (results fn tmps).run P w = .ok (.tuple #[.agg cs, .agg cs2]) w := by
  have hp' : tmps[p]?.getD undef = .pointer (some ⟨g, 0, none⟩) := by simpa using hp
  have hq' : tmps[q]?.getD undef = .pointer (some ⟨g2, 0, none⟩) := by simpa using hq
  simp [results, h, hp', hq', asAddr, run_loadVar_row w g t ty cs fr d hg hu hd hi, run_loadVar_row w g2 t2 ty2 cs2 fr2 d2 hg2 hu2 hd2 hi2]
set_option maxRecDepth 20000 in
set_option maxHeartbeats 1000000 in
theorem siteE_all (W0 w : World) (c : Nat) (a : Option Addr) (len cap p : Nat) (h : Src W0 w c a len cap p) (hp : p ≤ 900000) :
    Calls Try.prog 12 #[.pointer (some ⟨c, 0, none⟩)] w fun e w' => (∃ x : Se, e = .returned (.agg #[.string x.k, .int .i64 x.t, .int .i64 x.s, .bool x.g, .string x.d]) ∧ seOk x) ∧ (∃ p', Src W0 w' c a len cap p' ∧ p' ≤ p + 10) ∧ w.grownBy w' (some c) := by
  have hcl := h.lt
  have S0 : Hid (Src W0 (w.alloc (.cells #[.string ⟨#[]⟩, .int .i64 0, .int .i64 0, .bool false, .string ⟨#[]⟩] 24)) c a len cap p) := h.alloc _
  have R0 : Hid (RowAt (w.alloc (.cells #[.string ⟨#[]⟩, .int .i64 0, .int .i64 0, .bool false, .string ⟨#[]⟩] 24)) w.heap.size 24 #[.string ⟨#[]⟩, .int .i64 0, .int .i64 0, .bool false, .string ⟨#[]⟩]) := RowAt.new _ _ _
  have G0 : Hid (w.grownBy (w.alloc (.cells #[.string ⟨#[]⟩, .int .i64 0, .int .i64 0, .bool false, .string ⟨#[]⟩] 24)) (some c)) := World.grownBy_alloc w _ _
  clear h
  go_enter Try.func12, Try.ntmps12
  go_wp2_with fail
  refine (n_all W0 _ c a len cap p 4 S0.out (by omega) (by omega) (by omega)).mono ?_
  rintro e w1 ⟨⟨r1, rfl, _, _⟩, hs1, hg1⟩
  have S1 := hid hs1
  have R1 := hid (rowF R0.out hg1 hcl)
  have G1 := hid (grown_trans G0.out hg1)
  clear hs1 hg1 S0 R0 G0
  go_wp2_with fail
  refine (n_all W0 _ c a len cap (p + 1) 3 S1.out (by omega) (by omega) (by omega)).mono ?_
  rintro e w2 ⟨⟨r2, rfl, _, _⟩, hs2, hg2⟩
  have S2 := hid hs2
  have R2 := hid (rowF R1.out hg2 hcl)
  have G2 := hid (grown_trans G1.out hg2)
  clear hs2 hg2 S1 R1 G1
  go_wp2_with fail
  refine (one_all W0 _ c a len cap (p + 1 + 1) 3 S2.out (by omega) (by omega) (by omega)).mono ?_
  rintro e w3 ⟨⟨r3, rfl⟩, hs3, hg3⟩
  have S3 := hid hs3
  have R3 := hid (rowF R2.out hg3 hcl)
  have G3 := hid (grown_trans G2.out hg3)
  clear hs3 hg3 S2 R2 G2
  go_wp2_with fail
  refine (word_all W0 _ c a len cap (p + 1 + 1 + 1) S3.out (by omega)).mono ?_
  rintro e w4 ⟨⟨r4, rfl, h4⟩, ⟨p4, hs4, hp4⟩, hg4⟩
  have S4 := hid hs4
  have R4 := hid (rowF R3.out hg4 hcl)
  have G4 := hid (grown_trans G3.out hg4)
  clear hs4 hg4 S3 R3 G3
  go_wp2_with (refine wpList_store_row rfl 24 (.tmp 2) (.tmp 11) rfl w.heap.size #[.string ⟨#[107]⟩, .int .i64 r1, .int .i64 r2, .bool r3, .string r4] rfl rfl _ _ R4.out (by kernel_rfl) rfl (by simp [Value.oneCell']) ?_)
  refine bodyPost_ret (v := .agg #[.string ⟨#[107]⟩, .int .i64 r1, .int .i64 r2, .bool r3, .string r4]) ?_ rfl ⟨⟨⟨⟨#[107]⟩, r1, r2, r3, r4⟩, rfl, by show (⟨#[107]⟩ : ByteArray).size ≤ 100000; decide, by show r4.size ≤ 100000; omega⟩, ⟨p4, S4.out.setRowD hcl _, by omega⟩, grown_setRowD G4.out (Nat.le_refl _) _⟩
  exact results_cell_row Try.results12 _ _ w.heap.size _ _ _ _ rfl (R4.out.setRow _) Try.underlying24 rfl (by kernel_rfl)
set_option maxRecDepth 20000 in
set_option maxHeartbeats 1000000 in
theorem drawWn_all (w : World) (a : Option Addr) (len cap : Nat) (hc : CodeOk w a len) (hlc : len ≤ cap) :
    Calls Try.prog 5 #[.slice a len cap] w fun e w' => (∃ x y : Se, e = .returned (.tuple #[.agg #[.string x.k, .int .i64 x.t, .int .i64 x.s, .bool x.g, .string x.d], .agg #[.string y.k, .int .i64 y.t, .int .i64 y.s, .bool y.g, .string y.d]]) ∧ seOk x ∧ seOk y) ∧ Below w.heap.size w w' := by
  obtain ⟨W1, hW1⟩ : ∃ W, W = (w.alloc (.cells #[.string ⟨#[]⟩, .int .i64 0, .int .i64 0, .bool false, .string ⟨#[]⟩] 24)).alloc (.cells #[.string ⟨#[]⟩, .int .i64 0, .int .i64 0, .bool false, .string ⟨#[]⟩] 24) := ⟨_, rfl⟩
  have R1 : Hid (RowAt W1 w.heap.size 24 #[.string ⟨#[]⟩, .int .i64 0, .int .i64 0, .bool false, .string ⟨#[]⟩]) := by rw [hW1]; exact (RowAt.new _ _ _).alloc _
  have Q1 : Hid (RowAt W1 (w.heap.size + 1) 24 #[.string ⟨#[]⟩, .int .i64 0, .int .i64 0, .bool false, .string ⟨#[]⟩]) := by rw [hW1]; exact RowAt.next _ _ _ (by simp only [World.size_alloc])
  have B1 : Below w.heap.size w W1 := by rw [hW1]; exact ((Below.refl _ _).alloc (Nat.le_refl _) _).alloc (by simp) _
  have KS := hid (source_all W1 a len cap (hc.below B1) hlc)
  have HB1 := hid B1
  have HW1 := hid hW1
  clear hc hlc hW1 B1
  go_enter Try.func5, Try.ntmps5
  go_upto_region 1 with fail
  rw [← HW1.out]
  go_wp2_with fail
  refine KS.out.mono ?_
  rintro e w1 ⟨rfl, hs1, hb1⟩
  go_wp2_with fail
  refine (siteE_all W1 w1 W1.heap.size a len cap 0 hs1 (by omega)).mono ?_
  rintro e w2 ⟨⟨x, rfl, hx⟩, ⟨p2, hs2, hp2⟩, _⟩
  go_wp2_with fail
  refine (siteE_all W1 w2 W1.heap.size a len cap p2 hs2 (by omega)).mono ?_
  rintro e w3 ⟨⟨y, rfl, hy⟩, ⟨p3, hs3, hp3⟩, _⟩
  have b3 := hs3.2.2.2.1
  have R3 := hid (R1.out.below b3 R1.out.lt)
  have Q3 := hid (Q1.out.below b3 Q1.out.lt)
  have B3 := hid (HB1.out.trans (b3.mono HB1.out.size))
  clear hs1 hb1 hs2 hs3 b3 KS R1 Q1 HB1 HW1
  obtain ⟨xk, xt, xs, xg, xd⟩ := x
  obtain ⟨yk, yt, ys, yg, yd⟩ := y
  dsimp only
  have HX := hid hx
  have HY := hid hy
  clear hx hy
  go_wp2_with (first | (refine wpList_store_row rfl 24 (.tmp 2) (.tmp 8) rfl w.heap.size #[.string xk, .int .i64 xt, .int .i64 xs, .bool xg, .string xd] rfl rfl _ _ R3.out (by kernel_rfl) rfl (by simp [Value.oneCell']) ?_) | (refine wpList_store_row rfl 24 (.tmp 3) (.tmp 10) rfl (w.heap.size + 1) #[.string yk, .int .i64 yt, .int .i64 ys, .bool yg, .string yd] rfl rfl _ _ (Q3.out.otherRow _ _ (by omega)) (by kernel_rfl) rfl (by simp [Value.oneCell']) ?_))
  refine bodyPost_ret (v := .tuple #[.agg #[.string xk, .int .i64 xt, .int .i64 xs, .bool xg, .string xd], .agg #[.string yk, .int .i64 yt, .int .i64 ys, .bool yg, .string yd]]) ?_ rfl ⟨⟨⟨xk, xt, xs, xg, xd⟩, ⟨yk, yt, ys, yg, yd⟩, rfl, HX.out, HY.out⟩, below_setRow (below_setRow B3.out _ _ (by omega)) _ _ (by omega)⟩
  exact results_rr Try.results5 _ _ w.heap.size _ _ _ _ (w.heap.size + 1) _ _ _ _ rfl rfl ((R3.out.setRow _).otherRow _ _ (by omega)) ((Q3.out.otherRow _ _ (by omega)).setRow _) Try.underlying24 rfl (by kernel_rfl) Try.underlying24 rfl (by kernel_rfl)
end Go.Proofs.Ytkedjhpaeojclaa
