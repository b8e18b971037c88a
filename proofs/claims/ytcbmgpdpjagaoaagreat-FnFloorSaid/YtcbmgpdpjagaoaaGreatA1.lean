import Derived.Test.YtcbmgpdpjagaoaaGreatG2
import Derived.Sort.Grow
import Derived.Test.YtcbmgpdpjagaoaaGreatEnO
import Derived.Test.YtcbmgpdpjagaoaaGreatG4
import Derived.Shelf.SlSortCmp.NoneTotal
import Derived.OwnWalkIn
import Derived.ArgAppend
import Derived.Laws.OwnMore
import Derived.Test.YtcbmgpdpjagaoaaGreatBase
namespace Go.Proofs.YtcbmgpdpjagaoaaGreat
open Go.RowKit Go.Sort
def Gd (w w' : World) : Prop := Below w.heap.size w w' ∧ w.drawn ≤ w'.drawn
theorem Gd.grow {w w' : World} (h : Gd w w') : ∃ q os, w' = Go.Sort.grow (w.drewN q) os := by
 obtain ⟨⟨h1, h2, h3, h4, h5⟩, h6⟩ := h; refine ⟨w'.drawn - w.drawn, w'.heap.extract w.heap.size w'.heap.size, ?_⟩
 cases w with
 | mk hp tp dr os ou =>
  cases w' with
  | mk hp' tp' dr' os' ou' =>
   simp only at h1 h2 h3 h4 h5 h6; subst h1 h2 h3; simp only [Go.Sort.grow, World.drewN, World.mk.injEq, and_true, true_and]; refine ⟨?_, by omega⟩
   apply Array.ext_getElem?
   intro i
   by_cases hi : i < hp.size
   · rw [Array.getElem?_append_left hi]; exact h5 i hi
   · rw [Array.getElem?_append_right (by omega), Array.getElem?_extract]
     by_cases hj : i < hp'.size
     · rw [if_pos (by omega)]; congr 1; omega
     · rw [if_neg (by omega)]; exact Array.getElem?_eq_none (by omega)
theorem drw_nx {w X w1 : World} (h : X.drawn ≤ w1.drawn) (hD : Hid (w.drawn ≤ X.drawn)) : Hid (w.drawn ≤ w1.drawn) := Nat.le_trans hD.out h
theorem drw_up {w X : World} (hD : Hid (w.drawn ≤ X.drawn)) : Hid (w.drawn ≤ X.drew.drawn) := Nat.le_succ_of_le hD.out
set_option maxRecDepth 20000 in
set_option maxHeartbeats 1000000 in
theorem iPlaceD (k : ByteArray) (q : Int) (g : Bool) (t : ByteArray) (w : World) :
 Calls Tryz.prog 43 #[.agg #[.string k, .int .i64 q, .bool g, .string t]] w fun e w' => e = .returned (.agg #[.string k, .int .i64 q]) ∧ Gd w w' := by
 obtain ⟨W0, hW0⟩ : ∃ W, W = (w.alloc (.cells #[.string k, .int .i64 q, .bool g, .string t] 46)).alloc (.cells #[.string ⟨#[]⟩, .int .i64 0] 81) := ⟨_, rfl⟩; have R0 : Hid (RA W0 (w.heap.size + 1) 81 #[.string ⟨#[]⟩, .int .i64 0]) := by rw [hW0]; exact RA.next _ _ _ (by rw [size_al])
 have B0 : Hid (Below w.heap.size w W0) := by rw [hW0]; exact balEn (balEn (Below.refl _ _) _) _
 have A0 : RA W0 w.heap.size 46 #[.string k, .int .i64 q, .bool g, .string t] := by rw [hW0]; exact (RA.new _ _ _).alloc _
 have D0 : Hid (w.drawn ≤ W0.drawn) := by rw [hW0]; exact Nat.le_refl _
 have a0 := A0.cell 0; have a1 := A0.cell 1; clear A0
 go_enter Tryz.func43, Tryz.ntmps43
 go_upto_region 1 with fail
 rw [← hW0]; clear hW0
 go_wp2_with (refine wpList_store_row rfl 81 (.tmp 2) (.tmp 7) rfl (w.heap.size + 1) #[.string k, .int .i64 q] rfl rfl _ _ R0.out (by kernel_rfl) rfl (onePl _ _) ?_)
 refine bodyPost_ret (v := .agg #[.string k, .int .i64 q]) ?_ rfl ⟨rfl, below_setRow B0.out _ _ (by omega), D0.out⟩; exact results_cell_row Tryz.results43 _ _ (w.heap.size + 1) _ _ _ _ rfl (R0.out.setRow _) Tryz.underlying81 rfl (by kernel_rfl)
set_option maxRecDepth 20000 in
set_option maxHeartbeats 2000000 in
theorem iCmpPD (k : ByteArray) (q : Int) (k' : ByteArray) (q' : Int) (w : World) :
 Calls Tryz.prog 79 #[.agg #[.string k, .int .i64 q], .agg #[.string k', .int .i64 q']] w fun e w' => e = .returned (.int .i64 (orI (kCmp k k') (cmpI q' q))) ∧ Gd w w' := by
 have K1 := fun w => hid (iCmpS k k' w); have K2 := fun w => hid (iCompare q' q w); obtain ⟨A, hA⟩ : ∃ A, A = kCmp k k' := ⟨_, rfl⟩; obtain ⟨B, hB⟩ : ∃ B, B = cmpI q' q := ⟨_, rfl⟩; rw [← hA] at K1 ⊢; rw [← hB] at K2 ⊢; clear hA hB; obtain ⟨W2, hW2⟩ : ∃ W, W = (w.alloc (.cells #[.string k, .int .i64 q] 81)).alloc (.cells #[.string k', .int .i64 q'] 81) := ⟨_, rfl⟩; have R1 : RA W2 w.heap.size 81 #[.string k, .int .i64 q] := by rw [hW2]; exact (RA.new _ _ _).alloc _
 have R2 : RA W2 (w.heap.size + 1) 81 #[.string k', .int .i64 q'] := by rw [hW2]; exact RA.next _ _ _ (by rw [size_al])
 have B2 : Hid (Below w.heap.size w W2) := by rw [hW2]; exact balEn (balEn (Below.refl _ _) _) _
 have D2 : Hid (w.drawn ≤ W2.drawn) := by rw [hW2]; exact Nat.le_refl _
 have x0 := R1.cell 0; have x1 := R1.cell 1; have y0 := R2.cell 0; have y1 := R2.cell 1; clear R1 R2
 go_enter Tryz.func79, Tryz.ntmps79
 go_wp2_with fail
 rw [← hW2]; clear hW2
 go_region_held3 (fun wx => wx.cell? ⟨w.heap.size, 0, none⟩ = some (.string k) ∧ wx.cell? ⟨w.heap.size, 1, none⟩ = some (.int .i64 q) ∧ wx.cell? ⟨w.heap.size + 1, 0, none⟩ = some (.string k') ∧ wx.cell? ⟨w.heap.size + 1, 1, none⟩ = some (.int .i64 q')) ((first | (go_keep; done))) ((first
  | (go_at_call 99; refine (K1 _).out.mono ?_; rintro e w2 ⟨rfl, rfl⟩)
  | (go_at_call 100; refine (K2 _).out.mono ?_; rintro e w3 ⟨rfl, rfl⟩)
  | (go_at_call 91; refine (iOr _ A B _ ((RA.new W2 3 #[.int .i64 A, .int .i64 B]).drew.cell 0) ((RA.new W2 3 #[.int .i64 A, .int .i64 B]).drew.cell 1)).mono ?_; rintro e w4 ⟨rfl, rfl⟩)))
 all_goals go_wp2
 all_goals go_ret
 all_goals exact ⟨rfl, (B2.out.alloc B2.out.size _).drew, Nat.le_succ_of_le D2.out⟩
set_option maxRecDepth 20000 in
set_option maxHeartbeats 2000000 in
theorem iCmpED (k : ByteArray) (q : Int) (g : Bool) (t : ByteArray) (k' : ByteArray) (q' : Int) (g' : Bool) (t' : ByteArray) (w : World) :
 Calls Tryz.prog 63 #[.agg #[.string k, .int .i64 q, .bool g, .string t], .agg #[.string k', .int .i64 q', .bool g', .string t']] w fun e w' => e = .returned (.int .i64 (enCmp ⟨k, q, g, t⟩ ⟨k', q', g', t'⟩)) ∧ Gd w w' := by
 have K1 := fun w => hid (iPlaceD k q g t w); have K2 := fun w => hid (iPlaceD k' q' g' t' w); have K3 := fun w => hid (iCmpPD k q k' q' w); obtain ⟨A, hA⟩ : ∃ A, A = enCmp ⟨k, q, g, t⟩ ⟨k', q', g', t'⟩ := ⟨_, rfl⟩; have hA2 : orI (kCmp k k') (cmpI q' q) = A := by rw [hA]; rfl
 rw [hA2] at K3; rw [← hA]; clear hA hA2; obtain ⟨W2, hW2⟩ : ∃ W, W = (w.alloc (.cells #[.string k, .int .i64 q, .bool g, .string t] 46)).alloc (.cells #[.string k', .int .i64 q', .bool g', .string t'] 46) := ⟨_, rfl⟩; have hJ : RA W2 w.heap.size 46 #[.string k, .int .i64 q, .bool g, .string t] := by rw [hW2]; exact (RA.new _ _ _).alloc _
 have hF : RA W2 (w.heap.size + 1) 46 #[.string k', .int .i64 q', .bool g', .string t'] := by rw [hW2]; exact RA.next _ _ _ (by rw [size_al])
 have hW : Hid (Below w.heap.size w W2) := by rw [hW2]; exact balEn (balEn (Below.refl _ _) _) _
 have hN := hid (hW.out.size); have hD : Hid (w.drawn ≤ W2.drawn) := by rw [hW2]; exact Nat.le_refl _
 have x0 := hJ.cell 0; have x1 := hJ.cell 1; have x2 := hJ.cell 2; have x3 := hJ.cell 3; have y0 := hF.cell 0; have y1 := hF.cell 1; have y2 := hF.cell 2; have y3 := hF.cell 3
 go_enter Tryz.func63, Tryz.ntmps63
 go_wp2_with fail
 rw [← hW2]; clear hW2
 go_region_held3 (fun wx => (wx.cell? ⟨w.heap.size, 0, none⟩ = some (.string k) ∧ wx.cell? ⟨w.heap.size, 1, none⟩ = some (.int .i64 q) ∧ wx.cell? ⟨w.heap.size, 2, none⟩ = some (.bool g) ∧ wx.cell? ⟨w.heap.size, 3, none⟩ = some (.string t)) ∧ wx.cell? ⟨w.heap.size + 1, 0, none⟩ = some (.string k') ∧ wx.cell? ⟨w.heap.size + 1, 1, none⟩ = some (.int .i64 q') ∧ wx.cell? ⟨w.heap.size + 1, 2, none⟩ = some (.bool g') ∧ wx.cell? ⟨w.heap.size + 1, 3, none⟩ = some (.string t'))
  ((first | (go_keep; done) | exact ⟨⟨hJ.cell 0, hJ.cell 1, hJ.cell 2, hJ.cell 3⟩, hF.cell 0, hF.cell 1, hF.cell 2, hF.cell 3⟩))
  (((first
  | (go_at_call_of 43 (Value.agg #[Value.string k, Value.int IntKind.i64 q, Value.bool g, Value.string t]); refine (K1 _).out.mono ?_)
  | (go_at_call_of 43 (Value.agg #[Value.string k', Value.int IntKind.i64 q', Value.bool g', Value.string t']); refine (K2 _).out.mono ?_)
  | (go_at_call 79; refine (K3 _).out.mono ?_)); rintro e w1 ⟨rfl, hb, hdr⟩; (first | replace hD := drw_nx hdr hD | replace hD := drw_nx hdr (drw_up hD)); replace hJ := RA.nx hb hJ; replace hF := RA.nx hb hF; (first | replace hW := below_nx hb hW hN | replace hW := below_nx hb (hid_dr hW) hN); replace hN := size_nx hb hN))
 all_goals go_wp2
 all_goals go_ret
 all_goals exact ⟨rfl, hW.out, hD.out⟩
end Go.Proofs.YtcbmgpdpjagaoaaGreat
namespace Go.Proofs.YtcbmgpdpjagaoaaGreat
open Go.RowKit Go.Shelf Go.Sort
set_option linter.unusedVariables false
instance : Inhabited En := ⟨en0⟩
def enV (e : En) : List Value := [.string e.ky, .int .i64 e.sq, .bool e.gn, .string e.tx]
theorem enL_ln (L : List En) : (enL L).length = L.length * 4 := by
 induction L with
 | nil => rfl
 | cons e L ih => rw [show enL (e :: L) = enV e ++ enL L from rfl, List.length_append, ih]; simp [enV]; omega
theorem enA_arr {L : List En} {k : Nat} (h : k < L.length) : L.toArray[k]! = enA L k := by
 have := enA_get h; rw [List.getElem?_eq_getElem h] at this; have e := Option.some.inj this; rw [← e]
 simp [h]
theorem enL_flat (L : List En) : flatK enV 4 L.toArray = (enL L).toArray := by
 refine ext_get! (by simp [enL_ln]) fun t ht => ?_; have ht' : t < L.length * 4 := by simpa using ht
 rw [get_flatK _ _ _ _ (by simpa using ht')]; have hk : t / 4 < L.length := by omega
 rw [enA_arr hk]; obtain ⟨q0, q1, q2, q3⟩ := enL_at L (t / 4) hk
 have hg : ∀ v, (enL L)[t]? = some v → (enL L).toArray[t]! = v := fun v hv => by
  obtain ⟨h1, h2⟩ := List.getElem?_eq_some_iff.1 hv
  simp [h1, h2]
 have hm : t % 4 < 4 := Nat.mod_lt _ (by decide); have hd : t = t / 4 * 4 + t % 4 := by omega
 rcases (by omega : t % 4 = 0 ∨ t % 4 = 1 ∨ t % 4 = 2 ∨ t % 4 = 3) with e | e | e | e
 · rw [e]; rw [hg _ (by rw [hd, e]; exact q0)]; rfl
 · rw [e]; rw [hg _ (by rw [hd, e]; exact q1)]; rfl
 · rw [e]; rw [hg _ (by rw [hd, e]; exact q2)]; rfl
 · rw [e]; rw [hg _ (by rw [hd, e]; exact q3)]; rfl
theorem swoEn : SWO (ltOf enCmp) where
 irrefl x := by unfold ltOf; rw [decide_eq_false_iff_not, enCmp_lt]; exact fun h => enLt_asymm h h
 trans x y z h1 h2 := by
  unfold ltOf at *
  rw [decide_eq_true_eq, enCmp_lt] at *
  exact enLt_trans h1 h2
 ntrans x y z h1 h2 := by
  unfold ltOf at *
  rw [decide_eq_false_iff_not, enCmp_lt] at *
  exact fun h => h1 (enLt_nt h h2)
theorem take_put (F cur : Array Value) (h : F.size ≤ cur.size) : (putCells id 0 F cur).toList.take F.size = F.toList := by
 apply List.ext_getElem?
 intro j
 by_cases hj : j < F.size
 · rw [List.getElem?_take_of_lt hj, Array.getElem?_toList]
   simp [putCells, hj, show j < cur.size by omega]
 · rw [List.getElem?_take_eq_none (by omega), List.getElem?_eq_none (by simp; omega)]
def srtFRen : Ren := ⟨fun x => if x = 6 then 77 else if x = 14 then 98 else if x = 15 then 67 else if x = 20 then 108 else if x = 21 then 109 else if x = 22 then 110 else if x = 23 then 111 else if x = 24 then 112 else if x = 25 then 113 else if x = 26 then 114 else if x = 27 then 115 else if x = 28 then 89 else if x = 29 then 90 else if x = 46 then 118 else if x = 47 then 102 else if x = 48 then 103 else if x = 49 then 119 else if x = 50 then 120 else if x = 57 then 122 else x, fun x => if x = 0 then 0 else if x = 3 then 3 else if x = 4 then 4 else if x = 5 then 5 else if x = 9 then 9 else if x = 22 then 23 else if x = 24 then 46 else if x = 25 then 100 else if x = 39 then 104 else if x = 45 then 123 else if x = 46 then 124 else if x = 50 then 129 else if x = 53 then 132 else if x = 55 then 134 else if x = 66 then 150 else if x = 70 then 154 else if x = 76 then 164 else if x = 77 then 165 else x, fun x => x⟩
set_option maxRecDepth 100000 in
theorem srtFLays : SlLaysF0.n6 Tryz.prog srtFRen := { mixed := by kernel_rfl, f6 := ⟨ "slices.SortFunc[[]loop.example/g00020/impl.RunEntry,loop.example/g00020/impl.RunEntry]", by decide, by kernel_rfl⟩, f14 := ⟨ "slices.pdqsortCmpFunc[loop.example/g00020/impl.RunEntry]", by decide, by kernel_rfl⟩, f15 := by kernel_rfl, f20 := ⟨ "slices.insertionSortCmpFunc[loop.example/g00020/impl.RunEntry]", by decide, by kernel_rfl⟩, f21 := ⟨ "slices.heapSortCmpFunc[loop.example/g00020/impl.RunEntry]", by decide, by kernel_rfl⟩, f22 := ⟨ "slices.breakPatternsCmpFunc[loop.example/g00020/impl.RunEntry]", by decide, by kernel_rfl⟩, f23 := ⟨ "slices.choosePivotCmpFunc[loop.example/g00020/impl.RunEntry]", by decide, by kernel_rfl⟩, f24 := ⟨ "slices.reverseRangeCmpFunc[loop.example/g00020/impl.RunEntry]", by decide, by kernel_rfl⟩, f25 := ⟨ "slices.partialInsertionSortCmpFunc[loop.example/g00020/impl.RunEntry]", by decide, by kernel_rfl⟩, f26 := ⟨ "slices.partitionEqualCmpFunc[loop.example/g00020/impl.RunEntry]", by decide, by kernel_rfl⟩, f27 := ⟨ "slices.partitionCmpFunc[loop.example/g00020/impl.RunEntry]", by decide, by kernel_rfl⟩, f28 := by kernel_rfl, f29 := by kernel_rfl, f46 := ⟨ "slices.siftDownCmpFunc[loop.example/g00020/impl.RunEntry]", by decide, by kernel_rfl⟩, f47 := by kernel_rfl, f48 := by kernel_rfl, f49 := ⟨ "slices.medianAdjacentCmpFunc[loop.example/g00020/impl.RunEntry]", by decide, by kernel_rfl⟩, f50 := ⟨ "slices.medianCmpFunc[loop.example/g00020/impl.RunEntry]", by decide, by kernel_rfl⟩, f57 := ⟨ "slices.order2CmpFunc[loop.example/g00020/impl.RunEntry]", by decide, by kernel_rfl⟩, t0 := by kernel_rfl, a0 := fun _ => by kernel_rfl, z0 := fun _ => by kernel_rfl, v0 := fun _ => by kernel_rfl, t3 := by kernel_rfl, a3 := fun _ => by kernel_rfl, z3 := fun _ => by kernel_rfl, v3 := fun _ => by kernel_rfl, t4 := by kernel_rfl, a4 := fun _ => by kernel_rfl, z4 := fun _ => by kernel_rfl, v4 := fun _ => by kernel_rfl, t5 := by kernel_rfl, a5 := fun _ => by kernel_rfl, z5 := fun _ => by kernel_rfl, v5 := fun _ => by kernel_rfl, t9 := by kernel_rfl, a9 := fun _ => by kernel_rfl, z9 := fun _ => by kernel_rfl, v9 := fun _ => by kernel_rfl, t22 := by kernel_rfl, a22 := fun _ => by kernel_rfl, z22 := fun _ => by kernel_rfl, v22 := fun _ => by kernel_rfl, t25 := by kernel_rfl, a25 := fun _ => by kernel_rfl, z25 := fun _ => by kernel_rfl, v25 := fun _ => by kernel_rfl, t39 := by kernel_rfl, a39 := fun _ => by kernel_rfl, z39 := fun _ => by kernel_rfl, v39 := fun _ => by kernel_rfl, t45 := by kernel_rfl, a45 := fun _ => by kernel_rfl, z45 := fun _ => by kernel_rfl, v45 := fun _ => by kernel_rfl, t46 := by kernel_rfl, a46 := fun _ => by kernel_rfl, z46 := fun _ => by kernel_rfl, v46 := fun _ => by kernel_rfl, t50 := by kernel_rfl, a50 := fun _ => by kernel_rfl, z50 := fun _ => by kernel_rfl, v50 := fun _ => by kernel_rfl, t53 := by kernel_rfl, a53 := fun _ => by kernel_rfl, z53 := fun _ => by kernel_rfl, v53 := fun _ => by kernel_rfl, t55 := by kernel_rfl, a55 := fun _ => by kernel_rfl, z55 := fun _ => by kernel_rfl, v55 := fun _ => by kernel_rfl, t66 := by kernel_rfl, a66 := fun _ => by kernel_rfl, z66 := fun _ => by kernel_rfl, v66 := fun _ => by kernel_rfl, t70 := by kernel_rfl, a70 := fun _ => by kernel_rfl, z70 := fun _ => by kernel_rfl, v70 := fun _ => by kernel_rfl, t76 := by kernel_rfl, a76 := fun _ => by kernel_rfl, z76 := fun _ => by kernel_rfl, v76 := fun _ => by kernel_rfl, t77 := by kernel_rfl, a77 := fun _ => by kernel_rfl, z77 := fun _ => by kernel_rfl, v77 := fun _ => by kernel_rfl }
theorem iSortF (base : Nat) (v : Value) (L : List En) (hl : L.length ≤ 1048576) (w : World) (h : OwnEn w base v L) :
 Calls Tryz.prog 77 #[v, .func (.func 63) #[] #[]] w fun e w' => e = .returned (.tuple #[]) ∧ (∃ L', L'.Perm L ∧ L'.Pairwise (fun a b => ¬ enLt b a) ∧ OwnEn w' base v L') ∧ w.grownBy w' v.ownBlock := by
 rcases h.2 with ⟨hv, hn⟩ | ⟨g, cap, cur, hv, hb, hr, hnc, hm, hsz, htk⟩
 · subst hv
   have e0 : L = [] := List.eq_nil_of_length_eq_zero hn; subst e0; have hc := AnyF.slices_SortFunc_none srtFLays none 0 (.func (.func 63) #[] #[]) w
   change Calls Tryz.prog 77 _ _ _ at hc
   refine hc.mono ?_
   rintro e w' ⟨rfl, rfl⟩
   exact ⟨rfl, ⟨[], List.Perm.refl _, List.Pairwise.nil, h⟩, World.grownBy.refl _ _⟩
 · subst hv
   have R : RA w g 46 cur := hr
   have e1 : ∀ p, p < L.length * 4 → cur[p]? = (enL L)[p]? := fun p hp => by
    have := congrArg (·[p]?) htk; simp only [List.getElem?_take] at this; rw [if_pos hp, Array.getElem?_toList] at this; exact this
   have hH : HoldsK enV 4 w g 0 L.toArray := by
    unfold HoldsK; rw [enL_flat]; intro j hj; have hj' : j < L.length * 4 := by simpa [enL_ln] using hj
    have hj2 : j < (enL L).length := by rw [enL_ln]; exact hj'
    refine ⟨?_, ?_⟩
    · rw [Nat.zero_add, R.cell, e1 j hj']
      simp [hj2]
    · rw [Nat.zero_add]; exact R.free j
   have eg : ∀ args w, (callFunc 63 args).run Tryz.prog w = .ok (.enter 63 args) w := enters_of Tryz.func63 (by kernel_rfl) rfl; have hcmp : CmpLays Tryz.prog 63 #[] enV 4 enCmp g 0 L.toArray.size w := fun m os dk _ x y => (iCmpED x.ky x.sq x.gn x.tx y.ky y.sq y.gn y.tx _).mono fun e w' he => ⟨he.1, he.2.grow⟩; have hc := AnyQ.slices_SortFunc srtFLays 4 (fun _ => by kernel_rfl) (fun _ => by kernel_rfl) enV (fun _ => rfl) (fun x v hv => by simp [enV] at hv; rcases hv with rfl | rfl | rfl | rfl <;> rfl) enCmp swoEn 63 #[] g 0 cap L.toArray w eg hcmp hH R.lt (by simp; omega)
   change Calls Tryz.prog 77 _ _ _ at hc
   refine Calls.mono hc ?_
   rintro e w' ⟨rfl, d', n, os, hp, hs, rfl⟩
   have hsd : d'.size = L.length := by simpa using hp.1
   have hgw : g < w.heap.size := R.lt
   have hG : w.grownBy (sortWorldK enV 4 w g 0 n d' os) (some g) := by
    refine ⟨rfl, rfl, rfl, by simp [sortWorldK, putRowK], fun k hk hne => ?_⟩; unfold sortWorldK putRowK; rw [heap_grow_old _ _ (by simpa using hk)]; have : g ≠ k := fun e => hne (by rw [e])
    simp [putRow, mapBlock, Sort.ahead, Array.getElem?_modify, this]
   have hP : d'.toList.Perm L := by
    have := hp.2.2; simp only [List.size_toArray] at this; rw [Array.extract_eq_self_of_le (by omega), Array.extract_eq_self_of_le (by simp)] at this
    simpa using this
   refine ⟨rfl, ⟨d'.toList, hP, ?_, ?_⟩, hG⟩
   · rw [List.pairwise_iff_getElem]
     intro i j hi hj hij hlt; have hi' : i < d'.size := by simpa using hi
     have hj' : j < d'.size := by simpa using hj
     have := hs i j (Nat.zero_le _) hij (by simpa [hsd] using hj'); unfold ltOf at this; rw [decide_eq_false_iff_not, enCmp_lt, getElem!_pos d' j hj', getElem!_pos d' i hi'] at this; exact this (by simpa using hlt)
   · have hl2 : d'.toList.length = L.length := by simpa using hsd
     have ef : flatK enV 4 d' = (enL d'.toList).toArray := by rw [← enL_flat]
     refine ⟨enL_ln _, .inr ⟨g, cap, putCells id 0 (flatK enV 4 d') cur, by rw [hl2], hb, ?_, by omega, hm, by simp [putCells, hsz], ?_⟩⟩
     · unfold sortWorldK putRowK
       rw [heap_grow_old _ _ (by simpa using hgw)]
       simp [putRow, mapBlock, Sort.ahead, Array.getElem?_modify, hr, onCells]
     · have hfs : (flatK enV 4 d').size = d'.toList.length * 4 := by simp
       have ht := take_put (flatK enV 4 d') cur (by rw [hfs, hl2, hsz]; omega); rw [hfs] at ht; rw [ht, ef]
end Go.Proofs.YtcbmgpdpjagaoaaGreat
namespace Go.Proofs.YtcbmgpdpjagaoaaGreat
open Go.RowKit
theorem run_append_fresh {P : Program} (w : World) (base : Nat) (t ty e : TypeId) (i : TypeInfo) (z : Value) (size bytes : Nat) (ht : P.underlying t = some (.slice e)) (hi : P.info? e = some i) (hz : i.zero = some z)
 (hsize : i.size = size) (hby : i.bytes = bytes) (hzs : z.cells.size = size) (hsz : 0 < size)
 (v : Value) (n : Nat) (xs : List Value) (hown : w.ownsRow base e size v n xs)
 (a : Addr) (m c : Nat) (news : List Value) (hl : news.length = m * size) (hnews : ∀ j u, news[j]? = some u → w.cell? (a.add j) = some u) (h1 : ∀ u ∈ news, u.oneCell' = true)
 (h63 : n + m ≤ maxLen) (hbytes : (n + m) * bytes ≤ 140737488355328) (hbase : base ≤ w.heap.size) :
 ∃ v' w', (Builtin.append_ #[t, t] ty #[v, .slice (some a) m c]).run P w = .ok v' w' ∧ w'.ownsRow base e size v' (n + m) (xs ++ news) ∧ w.grownBy w' v.ownBlock ∧
  (v'.ownBlock = v.ownBlock ∨ ∀ k, v'.ownBlock = some k → w.heap.size ≤ k) := by
 obtain ⟨v', w', hr, k1, k2, _⟩ := run_append_own w base t ty e i z size bytes ht hi hz hsize hby hzs hsz v n xs hown a m c news hl hnews h1 h63 hbytes hbase; refine ⟨v', w', hr, k1, k2, ?_⟩
 rcases hown.2 with ⟨rfl, rfl⟩ | ⟨g, cap, cur, rfl, hb, hg, hn, hm, hs, ht'⟩
 · right
   obtain ⟨v2, w2, hr2, k3, _, _⟩ := run_append_own w w.heap.size t ty e i z size bytes ht hi hz hsize hby hzs hsz (.slice none 0 0) 0 xs ⟨hown.1, .inl ⟨rfl, rfl⟩⟩ a m c news hl hnews h1 h63 hbytes (Nat.le_refl _); rw [hr] at hr2; cases hr2; exact fun k hk => (k3.lt k hk).1
 · by_cases hroom : n + m ≤ cap
   · left
     obtain ⟨w2, hr2, _, _⟩ := run_append_fits w base t ty e i size ht hi hsize g n cap xs hown a m c news hl hnews h1 hroom; rw [hr] at hr2; cases hr2; rfl
   · right
     obtain ⟨v2, w2, hr2, k3, _⟩ := run_append_arg_grows w t ty e i z size bytes ht hi hz hsize hby hzs hsz ⟨g, 0, none⟩ n cap xs hown.1 (hown.cells rfl) a m c news hl hnews (by omega) h63 hbytes; rw [hr] at hr2; cases hr2; exact fun k hk => (k3.lt k hk).1
theorem wpListIn_append_fresh {F : Fence} {n : Nat} {P : Program} (w : World) {ops : Array Oper} {rest : List Oper} {o : Oper} {a : Act} {Q : Exit → Act → World → Prop}
 (hg : o.guard = none) (s x : Operand) (t : TypeId) (hop : o.op = Op.call { callee := Callee.builtin Builtin.append, args := #[s, x], argTypes := #[t, t] })
 (base : Nat) (e : TypeId) (i : TypeInfo) (z : Value) (size bytes : Nat) (h1 : P.underlying t = some (.slice e)) (h2 : P.info? e = some i) (h3 : i.zero = some z) (h4 : i.size = size) (h5 : i.bytes = bytes) (h6 : z.cells.size = size) (h7 : 0 < size)
 (v : Value) (k : Nat) (xs : List Value) (hs : a.eval s = v) (hown : w.ownsRow base e size v k xs) (ad : Addr) (m c : Nat) (news : List Value) (hx : a.eval x = .slice (some ad) m c) (hn : news.length = m * size)
 (hc : ∀ j u, news[j]? = some u → w.cell? (ad.add j) = some u) (h1c : ∀ u ∈ news, u.oneCell' = true) (b1 : k + m ≤ maxLen) (b2 : (k + m) * bytes ≤ 140737488355328) (b3 : base ≤ w.heap.size)
 (hK : ∀ v' w', w'.ownsRow base e size v' (k + m) (xs ++ news) → w.grownBy w' v.ownBlock → (v'.ownBlock = v.ownBlock ∨ ∀ q, v'.ownBlock = some q → w.heap.size ≤ q) → wpListIn F n P ops Q rest (a.put o.dst v') w') :
 wpListIn F n P ops Q (o :: rest) a w := by
 obtain ⟨v', w', hrun, r1, r2, r3⟩ := run_append_fresh (P := P) w base t o.type e i z size bytes h1 h2 h3 h4 h5 h6 h7 v k xs hown ad m c news hn hc h1c b1 b2 b3; refine wpListIn_plain hg fun K hK' => ⟨?_, ?_⟩
 · simp [Oper.about, hop, resolve, Target.leads, Sem.run_pure]
 · rw [Oper.semAt_plain F _ _ (by rw [hop]; intro q hq; cases hq)]
   simp [execOp, hop, resolve, invoke, builtin, hs, hx, hrun, Result.andThen]
   exact hK' _ _ (hK v' w' r1 r2 r3)
end Go.Proofs.YtcbmgpdpjagaoaaGreat
