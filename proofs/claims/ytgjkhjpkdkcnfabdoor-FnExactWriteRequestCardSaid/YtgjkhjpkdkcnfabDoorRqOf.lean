import Derived.Test.YtgjkhjpkdkcnfabDoorLawRq2
import Derived.Test.YtgjkhjpkdkcnfabDoorSWrq
namespace Go.Proofs.YtgjkhjpkdkcnfabDoor
open Go.RowKit
/-! The laws on requests, out of contracts of the program's functions. -/
theorem RqEq.P {r r' : Rq} (h : RqEq r r') : rqP r ↔ rqP r' := by
  unfold rqP
  rw [h.mt, h.pt, h.n1, h.o1, h.n2, h.o2, h.bd]
theorem RqEq.V {r r' : Rq} (h : RqEq r r') : rqV r = rqV r' := by unfold rqV; rw [pb_congr h.P]
theorem RqEq.W {r r' : Rq} (h : RqEq r r') : wrqL r = wrqL r' := by
  unfold wrqL headL
  rw [pb_congr h.P, h.mt, h.pt, h.n1, h.o1, h.n2, h.o2, h.bd]
theorem RqEq.B {r r' : Rq} (h : RqEq r r') {B : Nat} (hb : RqB r B) : RqB r' B := by
  obtain ⟨b1, b2, ⟨b3, b3'⟩, ⟨b4, b4'⟩, b5⟩ := hb
  refine ⟨by rw [← h.mt]; exact b1, by rw [← h.pt]; exact b2, ⟨by rw [← h.n1]; exact b3, ?_⟩, ⟨by rw [← h.n2]; exact b4, ?_⟩, by rw [← h.bd]; exact b5⟩
  · rw [← h.n1, ← h.o1]; exact b3'
  · rw [← h.n2, ← h.o2]; exact b4'
theorem RqEq.symm {r r' : Rq} (h : RqEq r r') : RqEq r' r := ⟨h.mt.symm, h.pt.symm, h.n1.symm, h.o1.symm, h.n2.symm, h.o2.symm, h.bd.symm⟩
theorem RqEq.trans {r r' r2 : Rq} (h : RqEq r r') (k : RqEq r' r2) : RqEq r r2 := ⟨h.mt.trans k.mt, h.pt.trans k.pt, h.n1.trans k.n1, h.o1.trans k.o1, h.n2.trans k.n2, h.o2.trans k.o2, h.bd.trans k.bd⟩
def RqIs (w : World) (r : Rq) : Prop := RqIn w r ∧ RqB r 9223372036854775807
set_option maxRecDepth 20000 in
set_option maxHeartbeats 4000000 in
theorem fnExactWriteRequest_of (P : World → Prop) (hP : ∀ w w', P w → Below w.heap.size w w' → P w')
    (HI : ∀ (r : Rq), RqB r 1048576 → ∀ w, P w → RqIn w r → Calls Tryd.prog 7 #[.agg #[.string r.mt, .string r.pt, .slice r.qs.ad r.qs.n r.qs.cap, .slice r.hs.ad r.hs.n r.hs.cap, .string r.bd]] w fun e w' => e = .returned (.string (ofL (wrqL r))) ∧ Below w.heap.size w w')
    (r : Rq) {w : World} (hw : P w) (h : RqIs w r) :
    Calls Tryd.prog 3 #[.agg #[.string r.mt, .string r.pt, .slice r.qs.ad r.qs.n r.qs.cap, .slice r.hs.ad r.hs.n r.hs.cap, .string r.bd]] w fun e w' => e = .returned (.bool true) ∧ Below w.heap.size w w' := by
  obtain ⟨hI, hB⟩ := h
  have Jb := Jn.box w 24 #[.string r.mt, .string r.pt, .slice r.qs.ad r.qs.n r.qs.cap, .slice r.hs.ad r.hs.n r.hs.cap, .string r.bd]
  obtain ⟨W1, hW1⟩ : ∃ W, W = w.alloc (.cells #[.string r.mt, .string r.pt, .slice r.qs.ad r.qs.n r.qs.cap, .slice r.hs.ad r.hs.n r.hs.cap, .string r.bd] 24) := ⟨_, rfl⟩
  rw [← hW1] at Jb
  have SZ := hid (szRq r 1048576 (by omega) (by omega) hB W1 (hI.below Jb.out.2))
  have HI' := hid HI
  have HP := hid hP
  have HW := hid hw
  have HN := hid hI
  have HT := fun hB wx hbx => hid (toRq r hB wx (hI.below hbx))
  clear HI hP hw hI hB
  obtain ⟨mt, pt, ⟨a1, n1, c1, o1⟩, ⟨a2, n2, c2, o2⟩, bd⟩ := r
  dsimp only at Jb SZ HT hW1 ⊢
  have x0 : W1.cell? ⟨w.heap.size, 0, none⟩ = some (.string mt) := Jb.out.1.cell 0
  have x1 : W1.cell? ⟨w.heap.size, 1, none⟩ = some (.string pt) := Jb.out.1.cell 1
  have x2 : W1.cell? ⟨w.heap.size, 2, none⟩ = some (.slice a1 n1 c1) := Jb.out.1.cell 2
  have x3 : W1.cell? ⟨w.heap.size, 3, none⟩ = some (.slice a2 n2 c2) := Jb.out.1.cell 3
  have x4 : W1.cell? ⟨w.heap.size, 4, none⟩ = some (.string bd) := Jb.out.1.cell 4
  go_enter Tryd.func3, Tryd.ntmps3
  go_wp2_with fail
  rw [← hW1]
  clear hW1
  refine SZ.out.mono ?_
  rintro e w2 ⟨⟨z, rfl, hz1, hz2⟩, hb2⟩
  replace Jb := Jn.next hb2 Jb
  clear hb2 x0 x1 x2 x3 x4 SZ
  by_cases hz : z < 0
  · clear hz2
    go_wp2
    go_ret
    exact ⟨rfl, Jb.out.2⟩
  have HB := hid (hz2.resolve_left hz)
  clear hz2 hz1
  have x0 : w2.cell? ⟨w.heap.size, 0, none⟩ = some (.string mt) := Jb.out.1.cell 0
  have x1 : w2.cell? ⟨w.heap.size, 1, none⟩ = some (.string pt) := Jb.out.1.cell 1
  have x2 : w2.cell? ⟨w.heap.size, 2, none⟩ = some (.slice a1 n1 c1) := Jb.out.1.cell 2
  have x3 : w2.cell? ⟨w.heap.size, 3, none⟩ = some (.slice a2 n2 c2) := Jb.out.1.cell 3
  have x4 : w2.cell? ⟨w.heap.size, 4, none⟩ = some (.string bd) := Jb.out.1.cell 4
  go_wp2_with fail
  refine (HT HB.out _ Jb.out.2).out.mono ?_
  rintro e w3 ⟨⟨r3, rfl, hq3, hm3⟩, hb3⟩
  replace Jb := Jn.next hb3 Jb
  have K3 := hid (sWrq r3 (hq3.B HB.out) w3 hm3.in)
  rw [← hq3.W] at K3
  obtain ⟨V, hV⟩ : ∃ V, V = ofL (wrqL ⟨mt, pt, ⟨a1, n1, c1, o1⟩, ⟨a2, n2, c2, o2⟩, bd⟩) := ⟨_, rfl⟩
  rw [← hV] at K3
  have HV := hid hV
  clear hb3 x0 x1 x2 x3 x4 hV hm3 hq3
  go_wp2_with fail
  refine K3.out.mono ?_
  rintro e w4 ⟨rfl, hb4⟩
  replace Jb := Jn.next hb4 Jb
  clear hb4 K3
  have x0 : w4.cell? ⟨w.heap.size, 0, none⟩ = some (.string mt) := Jb.out.1.cell 0
  have x1 : w4.cell? ⟨w.heap.size, 1, none⟩ = some (.string pt) := Jb.out.1.cell 1
  have x2 : w4.cell? ⟨w.heap.size, 2, none⟩ = some (.slice a1 n1 c1) := Jb.out.1.cell 2
  have x3 : w4.cell? ⟨w.heap.size, 3, none⟩ = some (.slice a2 n2 c2) := Jb.out.1.cell 3
  have x4 : w4.cell? ⟨w.heap.size, 4, none⟩ = some (.string bd) := Jb.out.1.cell 4
  go_wp2_with fail
  refine (HT HB.out _ Jb.out.2).out.mono ?_
  rintro e w5 ⟨⟨r5, rfl, hq5, hm5⟩, hb5⟩
  replace Jb := Jn.next hb5 Jb
  have M5 := hid hm5
  have Q5 := hid hq5
  clear hb5 x0 x1 x2 x3 x4 hm5 hq5
  go_upto_region 7 with ((refine wpList_store_row rfl 29 (.tmp 5) (.tmp 16) rfl w5.heap.size #[.string r5.mt, .string r5.pt, .slice r5.qs.ad r5.qs.n r5.qs.cap, .slice r5.hs.ad r5.hs.n r5.hs.cap, .string r5.bd] rfl rfl _ _ (RowAt.new w5 _ _) (by kernel_rfl) rfl (by simp [Value.oneCell']) ?_); rw [World.setRow_alloc_new])
  obtain ⟨W6, hW6⟩ : ∃ W, W = w5.alloc (.cells #[.string r5.mt, .string r5.pt, .slice r5.qs.ad r5.qs.n r5.qs.cap, .slice r5.hs.ad r5.hs.n r5.hs.cap, .string r5.bd] 29) := ⟨_, rfl⟩
  have B6 : Hid (Below w5.heap.size w5 W6) := by rw [hW6]; exact (Below.refl _ _).alloc (Nat.le_refl _) _
  have X6 : Hid (RowAt W6 w5.heap.size 29 #[.string r5.mt, .string r5.pt, .slice r5.qs.ad r5.qs.n r5.qs.cap, .slice r5.hs.ad r5.hs.n r5.hs.cap, .string r5.bd]) := by rw [hW6]; exact RowAt.new _ _ _
  replace Jb := Jn.next B6.out Jb
  have M6 := hid (M5.out.below B6.out)
  rw [← hW6]
  clear hW6 B6 M5
  have K6 := hid (HI'.out r5 (Q5.out.B HB.out) W6 (HP.out _ _ HW.out Jb.out.2) M6.out.in)
  rw [← Q5.out.W, ← HV.out] at K6
  obtain ⟨X, hX⟩ : ∃ X, X = w5.heap.size := ⟨_, rfl⟩
  rw [← hX] at X6 ⊢
  clear hX
  have y0 := X6.out.cell 0
  have y1 := X6.out.cell 1
  have y2 := X6.out.cell 2
  have y3 := X6.out.cell 3
  have y4 := X6.out.cell 4
  go_wp2_with fail
  refine K6.out.mono ?_
  rintro e w7 ⟨rfl, hb7⟩
  replace Jb := Jn.next hb7 Jb
  have X7 := hid (X6.out.below hb7 X6.out.lt)
  have M7 := hid (M6.out.below hb7)
  clear hb7 K6 y0 y1 y2 y3 y4 X6 M6
  have dF : (V.toList == V.toList) = true := by simp
  have y0 := X7.out.cell 0
  have y1 := X7.out.cell 1
  have y2 := X7.out.cell 2
  have y3 := X7.out.cell 3
  have y4 := X7.out.cell 4
  have x0 : w7.cell? ⟨w.heap.size, 0, none⟩ = some (.string mt) := Jb.out.1.cell 0
  have x1 : w7.cell? ⟨w.heap.size, 1, none⟩ = some (.string pt) := Jb.out.1.cell 1
  have x2 : w7.cell? ⟨w.heap.size, 2, none⟩ = some (.slice a1 n1 c1) := Jb.out.1.cell 2
  have x3 : w7.cell? ⟨w.heap.size, 3, none⟩ = some (.slice a2 n2 c2) := Jb.out.1.cell 3
  have x4 : w7.cell? ⟨w.heap.size, 4, none⟩ = some (.string bd) := Jb.out.1.cell 4
  have KE := fun r8 hq wx hm hbx => hid (eqRq r5 r8 hq (Q5.out.B HB.out) wx (M7.out.in.below hbx) hm)
  have KT := fun wx hbx => HT HB.out wx hbx
  clear HT HP HW HI' HN
  go_upto_region 10 with fail
  go_region_held3 (fun wx => wx.cell? ⟨w.heap.size, 0, none⟩ = some (.string mt) ∧ wx.cell? ⟨w.heap.size, 1, none⟩ = some (.string pt) ∧ wx.cell? ⟨w.heap.size, 2, none⟩ = some (.slice a1 n1 c1) ∧ wx.cell? ⟨w.heap.size, 3, none⟩ = some (.slice a2 n2 c2) ∧ wx.cell? ⟨w.heap.size, 4, none⟩ = some (.string bd) ∧ wx.cell? ⟨X, 0, none⟩ = some (.string r5.mt) ∧ wx.cell? ⟨X, 1, none⟩ = some (.string r5.pt) ∧ wx.cell? ⟨X, 2, none⟩ = some (.slice r5.qs.ad r5.qs.n r5.qs.cap) ∧ wx.cell? ⟨X, 3, none⟩ = some (.slice r5.hs.ad r5.hs.n r5.hs.cap) ∧ wx.cell? ⟨X, 4, none⟩ = some (.string r5.bd))
    (first | with_reducible exact ⟨x0, x1, x2, x3, x4, y0, y1, y2, y3, y4⟩ | exact ⟨Jb.out.1.cell 0, Jb.out.1.cell 1, Jb.out.1.cell 2, Jb.out.1.cell 3, Jb.out.1.cell 4, X7.out.cell 0, X7.out.cell 1, X7.out.cell 2, X7.out.cell 3, X7.out.cell 4⟩)
    (first
      | (go_at_call 6; (first | refine (KT _ Jb.out.2).out.mono ?_ | refine (KT _ (Jn.drew Jb).out.2).out.mono ?_); rintro e w8 ⟨⟨r8, rfl, hq8, hm8⟩, hb8⟩; (first | replace Jb := Jn.next hb8 Jb | replace Jb := Jn.next hb8 (Jn.drew Jb)); (first | have X8 := hid (X7.out.below hb8 X7.out.lt) | have X8 := hid (X7.out.drew.below hb8 X7.out.lt)); have M8 : Hid (Below w7.heap.size w7 w8) := (by first | exact hb8 | exact (Below.refl _ w7).drew.trans hb8); have Q8 := hid (Q5.out.symm.trans hq8); have N8 := hid hm8.in; clear hb8 hq8 hm8 X7; have X7 := X8; clear X8)
      | (go_at_call 8; refine (KE _ Q8.out _ N8.out M8.out).out.mono ?_; rintro e w9 ⟨rfl, hb9⟩; replace Jb := Jn.next hb9 Jb; replace X7 := hid (X7.out.below hb9 X7.out.lt); clear hb9))
  all_goals go_wp2
  all_goals go_ret
  all_goals exact ⟨rfl, Jb.out.2⟩
end Go.Proofs.YtgjkhjpkdkcnfabDoor
