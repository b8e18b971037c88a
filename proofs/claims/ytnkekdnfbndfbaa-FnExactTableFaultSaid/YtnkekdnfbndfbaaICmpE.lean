import Derived.Test.YtnkekdnfbndfbaaRunM
import Derived.Deep.RegionHeld3
namespace Go.Proofs.Ytnkekdnfbndfbaa
open Go.RowKit
/-! The order of entries: the program's. -/
set_option maxHeartbeats 1000000 in
set_option maxRecDepth 100000 in
theorem iCmpB (a b : ByteArray) (w : World) :
    Calls Try.prog 89 #[.string a, .string b] w fun e w' => e = .returned (.int .i64 (kCmp a b)) ∧ w' = w := by
  go_enter Try.func89, Try.ntmps89
  go_wp2
  rw [run_callFunc_extern Try.func103 (by kernel_rfl) (by kernel_rfl) (by kernel_rfl) (e := Extern.BytealgCompare.compare) (by kernel_rfl), Lib.run_compareString]
  simp only [Result.andThen]
  rw [Oper.upon_value]
  go_wp2
  go_ret
  exact ⟨rfl, rfl⟩
set_option maxHeartbeats 1000000 in
theorem iCmpS (a b : ByteArray) (w : World) :
    Calls Try.prog 74 #[.string a, .string b] w fun e w' => e = .returned (.int .i64 (kCmp a b)) ∧ w' = w := by
  have K := fun w => hid (iCmpB a b w)
  go_enter Try.func74, Try.ntmps74
  go_wp2_with fail
  refine (K _).out.mono ?_
  rintro e w1 ⟨rfl, rfl⟩
  go_wp2
  go_ret
  exact ⟨rfl, rfl⟩
theorem RowAt.nx {X w1 : World} {b : Nat} {t : TypeId} {c : Array Value} (hb : Below X.heap.size X w1) (h : RowAt X b t c) : RowAt w1 b t c := h.below hb h.lt
theorem below_nx {n : Nat} {w X w1 : World} (hb : Below X.heap.size X w1) (h : Hid (Below n w X)) (hn : Hid (n ≤ X.heap.size)) : Hid (Below n w w1) := h.out.trans (hb.mono hn.out)
theorem size_nx {n : Nat} {X w1 : World} (hb : Below X.heap.size X w1) (hn : Hid (n ≤ X.heap.size)) : Hid (n ≤ w1.heap.size) := Nat.le_trans hn.out hb.size
theorem hid_dr {n : Nat} {w X : World} (h : Hid (Below n w X)) : Hid (Below n w X.drew) := h.out.drew
theorem onePl (k : ByteArray) (q : Int) : (#[.string k, .int .i64 q] : Array Value).all (·.oneCell') = true := by simp [Value.oneCell']
set_option maxRecDepth 20000 in
set_option maxHeartbeats 1000000 in
theorem iPlaceOf (k : ByteArray) (q : Int) (g : Bool) (t : ByteArray) (w : World) :
    Calls Try.prog 56 #[.agg #[.string k, .int .i64 q, .bool g, .string t]] w fun e w' => e = .returned (.agg #[.string k, .int .i64 q]) ∧ Below w.heap.size w w' := by
  obtain ⟨W0, hW0⟩ : ∃ W, W = (w.alloc (.cells #[.string k, .int .i64 q, .bool g, .string t] 34)).alloc (.cells #[.string ⟨#[]⟩, .int .i64 0] 88) := ⟨_, rfl⟩
  have R0 : Hid (RowAt W0 (w.heap.size + 1) 88 #[.string ⟨#[]⟩, .int .i64 0]) := by rw [hW0]; exact RowAt.next _ _ _ (by rw [size_al])
  have B0 : Hid (Below w.heap.size w W0) := by rw [hW0]; exact balEn (balEn (Below.refl _ _) _) _
  have A0 : RowAt W0 w.heap.size 34 #[.string k, .int .i64 q, .bool g, .string t] := by rw [hW0]; exact (RowAt.new _ _ _).alloc _
  have a0 := A0.cell 0
  have a1 := A0.cell 1
  clear A0
  go_enter Try.func56, Try.ntmps56
  go_upto_region 1 with fail
  rw [← hW0]
  clear hW0
  go_wp2_with (refine wpList_store_row rfl 88 (.tmp 2) (.tmp 7) rfl (w.heap.size + 1) #[.string k, .int .i64 q] rfl rfl _ _ R0.out (by kernel_rfl) rfl (onePl _ _) ?_)
  refine bodyPost_ret (v := .agg #[.string k, .int .i64 q]) ?_ rfl ⟨rfl, below_setRow B0.out _ _ (by omega)⟩
  exact results_cell_row Try.results56 _ _ (w.heap.size + 1) _ _ _ _ rfl (R0.out.setRow _) Try.underlying88 rfl (by kernel_rfl)
set_option maxRecDepth 20000 in
set_option maxHeartbeats 2000000 in
theorem iCmpP (k : ByteArray) (q : Int) (k' : ByteArray) (q' : Int) (w : World) :
    Calls Try.prog 55 #[.agg #[.string k, .int .i64 q], .agg #[.string k', .int .i64 q']] w fun e w' => e = .returned (.int .i64 (orI (kCmp k k') (cmpI q' q))) ∧ Below w.heap.size w w' := by
  have K1 := fun w => hid (iCmpS k k' w)
  have K2 := fun w => hid (iCompare q' q w)
  obtain ⟨A, hA⟩ : ∃ A, A = kCmp k k' := ⟨_, rfl⟩
  obtain ⟨B, hB⟩ : ∃ B, B = cmpI q' q := ⟨_, rfl⟩
  rw [← hA] at K1 ⊢
  rw [← hB] at K2 ⊢
  clear hA hB
  obtain ⟨W2, hW2⟩ : ∃ W, W = (w.alloc (.cells #[.string k, .int .i64 q] 88)).alloc (.cells #[.string k', .int .i64 q'] 88) := ⟨_, rfl⟩
  have R1 : RowAt W2 w.heap.size 88 #[.string k, .int .i64 q] := by rw [hW2]; exact (RowAt.new _ _ _).alloc _
  have R2 : RowAt W2 (w.heap.size + 1) 88 #[.string k', .int .i64 q'] := by rw [hW2]; exact RowAt.next _ _ _ (by rw [size_al])
  have B2 : Hid (Below w.heap.size w W2) := by rw [hW2]; exact balEn (balEn (Below.refl _ _) _) _
  have x0 := R1.cell 0
  have x1 := R1.cell 1
  have y0 := R2.cell 0
  have y1 := R2.cell 1
  clear R1 R2
  go_enter Try.func55, Try.ntmps55
  go_wp2_with fail
  rw [← hW2]
  clear hW2
  go_region_held3 (fun wx => wx.cell? ⟨w.heap.size, 0, none⟩ = some (.string k) ∧ wx.cell? ⟨w.heap.size, 1, none⟩ = some (.int .i64 q) ∧ wx.cell? ⟨w.heap.size + 1, 0, none⟩ = some (.string k') ∧ wx.cell? ⟨w.heap.size + 1, 1, none⟩ = some (.int .i64 q')) ((first | (go_keep; done))) ((first
    | (go_at_call 74; refine (K1 _).out.mono ?_; rintro e w2 ⟨rfl, rfl⟩)
    | (go_at_call 75; refine (K2 _).out.mono ?_; rintro e w3 ⟨rfl, rfl⟩)
    | (go_at_call 73; refine (iOr _ A B _ ((RowAt.new W2 3 #[.int .i64 A, .int .i64 B]).drew.cell 0) ((RowAt.new W2 3 #[.int .i64 A, .int .i64 B]).drew.cell 1)).mono ?_; rintro e w4 ⟨rfl, rfl⟩)))
  all_goals go_wp2
  all_goals go_ret
  all_goals exact ⟨rfl, (B2.out.alloc B2.out.size _).drew⟩
set_option maxRecDepth 20000 in
set_option maxHeartbeats 2000000 in
theorem iCmpE (k : ByteArray) (q : Int) (g : Bool) (t : ByteArray) (k' : ByteArray) (q' : Int) (g' : Bool) (t' : ByteArray) (w : World) :
    Calls Try.prog 37 #[.agg #[.string k, .int .i64 q, .bool g, .string t], .agg #[.string k', .int .i64 q', .bool g', .string t']] w fun e w' => e = .returned (.int .i64 (enCmp ⟨k, q, g, t⟩ ⟨k', q', g', t'⟩)) ∧ Below w.heap.size w w' := by
  have K1 := fun w => hid (iPlaceOf k q g t w)
  have K2 := fun w => hid (iPlaceOf k' q' g' t' w)
  have K3 := fun w => hid (iCmpP k q k' q' w)
  obtain ⟨A, hA⟩ : ∃ A, A = enCmp ⟨k, q, g, t⟩ ⟨k', q', g', t'⟩ := ⟨_, rfl⟩
  have hA2 : orI (kCmp k k') (cmpI q' q) = A := by rw [hA]; rfl
  rw [hA2] at K3
  rw [← hA]
  clear hA hA2
  obtain ⟨W2, hW2⟩ : ∃ W, W = (w.alloc (.cells #[.string k, .int .i64 q, .bool g, .string t] 34)).alloc (.cells #[.string k', .int .i64 q', .bool g', .string t'] 34) := ⟨_, rfl⟩
  have hJ : RowAt W2 w.heap.size 34 #[.string k, .int .i64 q, .bool g, .string t] := by rw [hW2]; exact (RowAt.new _ _ _).alloc _
  have hF : RowAt W2 (w.heap.size + 1) 34 #[.string k', .int .i64 q', .bool g', .string t'] := by rw [hW2]; exact RowAt.next _ _ _ (by rw [size_al])
  have hW : Hid (Below w.heap.size w W2) := by rw [hW2]; exact balEn (balEn (Below.refl _ _) _) _
  have hN : Hid (w.heap.size ≤ W2.heap.size) := hW.out.size
  have x0 := hJ.cell 0
  have x1 := hJ.cell 1
  have x2 := hJ.cell 2
  have x3 := hJ.cell 3
  have y0 := hF.cell 0
  have y1 := hF.cell 1
  have y2 := hF.cell 2
  have y3 := hF.cell 3
  go_enter Try.func37, Try.ntmps37
  go_wp2_with fail
  rw [← hW2]
  clear hW2
  go_region_held3 (fun wx => (wx.cell? ⟨w.heap.size, 0, none⟩ = some (.string k) ∧ wx.cell? ⟨w.heap.size, 1, none⟩ = some (.int .i64 q) ∧ wx.cell? ⟨w.heap.size, 2, none⟩ = some (.bool g) ∧ wx.cell? ⟨w.heap.size, 3, none⟩ = some (.string t)) ∧ wx.cell? ⟨w.heap.size + 1, 0, none⟩ = some (.string k') ∧ wx.cell? ⟨w.heap.size + 1, 1, none⟩ = some (.int .i64 q') ∧ wx.cell? ⟨w.heap.size + 1, 2, none⟩ = some (.bool g') ∧ wx.cell? ⟨w.heap.size + 1, 3, none⟩ = some (.string t'))
    ((first | (go_keep; done) | exact ⟨⟨hJ.cell 0, hJ.cell 1, hJ.cell 2, hJ.cell 3⟩, hF.cell 0, hF.cell 1, hF.cell 2, hF.cell 3⟩))
    (((first
    | (go_at_call_of 56 (Value.agg #[Value.string k, Value.int IntKind.i64 q, Value.bool g, Value.string t]); refine (K1 _).out.mono ?_)
    | (go_at_call_of 56 (Value.agg #[Value.string k', Value.int IntKind.i64 q', Value.bool g', Value.string t']); refine (K2 _).out.mono ?_)
    | (go_at_call 55; refine (K3 _).out.mono ?_)); rintro e w1 ⟨rfl, hb⟩; replace hJ := RowAt.nx hb hJ; replace hF := RowAt.nx hb hF; (first | replace hW := below_nx hb hW hN | replace hW := below_nx hb (hid_dr hW) hN); replace hN := size_nx hb hN))
  all_goals go_wp2
  all_goals go_ret
  all_goals exact ⟨rfl, hW.out⟩
end Go.Proofs.Ytnkekdnfbndfbaa
