import Derived.Test.YtkedjhpaeojclaaICmp
import Derived.Test.YtkedjhpaeojclaaClone
import Derived.Laws.StructEq
import Derived.Deep.CutRange
namespace Go.Proofs.Ytkedjhpaeojclaa
open Go.RowKit
/-! The winner of two entries: of both sides (by genwn.py). -/
/-- an entry of a site -/
structure Se where
  k : ByteArray
  t : Int
  s : Int
  g : Bool
  d : ByteArray
/-- whether of two entries the second one is later -/
def btP (a b : Se) : Prop := a.t < b.t ∨ (a.t = b.t ∧ a.s < b.s)
instance (a b : Se) : Decidable (btP a b) := by unfold btP; infer_instance
def wnE (a b : Se) : Se := if btP a b then b else a
theorem wnE_t {a b : Se} (h : btP a b) : wnE a b = b := if_pos h
theorem wnE_f {a b : Se} (h : ¬ btP a b) : wnE a b = a := if_neg h
theorem wnE_assoc (a b c : Se) : wnE (wnE a b) c = wnE a (wnE b c) := by
  by_cases h1 : btP a b
  · rw [wnE_t h1]
    by_cases h2 : btP b c
    · rw [wnE_t h2, wnE_t (show btP a c by unfold btP at *; omega)]
    · rw [wnE_f h2, wnE_t h1]
  · rw [wnE_f h1]
    by_cases h2 : btP b c
    · rw [wnE_t h2]
    · rw [wnE_f h2, wnE_f h1, wnE_f (show ¬ btP a c by unfold btP at *; omega)]
theorem RowAt.nxW {w w' : World} {b : Nat} {t : TypeId} {c : Array Value} (hb : Below w.heap.size w w') (h : RowAt w b t c) : RowAt w' b t c := h.below hb h.lt

set_option maxRecDepth 20000 in
set_option maxHeartbeats 1000000 in
theorem sWin (a b : Se) (w : World) : Calls Try.prog 7 #[.agg #[.string a.k, .int .i64 a.t, .int .i64 a.s, .bool a.g, .string a.d], .agg #[.string b.k, .int .i64 b.t, .int .i64 b.s, .bool b.g, .string b.d]] w fun e w' => e = .returned (.agg #[.string (wnE a b).k, .int .i64 (wnE a b).t, .int .i64 (wnE a b).s, .bool (wnE a b).g, .string (wnE a b).d]) ∧ Below w.heap.size w w' := by
  obtain ⟨k, t, s, g, d⟩ := a
  obtain ⟨k', t', s', g', d'⟩ := b
  dsimp only
  obtain ⟨W1, hW1⟩ : ∃ W, W = ((w.alloc (.cells #[.string k, .int .i64 t, .int .i64 s, .bool g, .string d] 24)).alloc (.cells #[.string k', .int .i64 t', .int .i64 s', .bool g', .string d'] 24)).alloc (.cells #[.string ⟨#[]⟩, .int .i64 0, .int .i64 0, .bool false, .string ⟨#[]⟩] 24) := ⟨_, rfl⟩
  have X1 : RowAt W1 w.heap.size 24 #[.string k, .int .i64 t, .int .i64 s, .bool g, .string d] := by rw [hW1]; exact ((RowAt.new _ _ _).alloc _).alloc _
  have X2 : RowAt W1 (w.heap.size + 1) 24 #[.string k', .int .i64 t', .int .i64 s', .bool g', .string d'] := by rw [hW1]; exact (RowAt.next _ _ _ (by simp only [World.size_alloc])).alloc _
  have X3 : RowAt W1 (w.heap.size + 1 + 1) 24 #[.string ⟨#[]⟩, .int .i64 0, .int .i64 0, .bool false, .string ⟨#[]⟩] := by rw [hW1]; exact RowAt.next _ _ _ (by simp only [World.size_alloc])
  have B1 : Below w.heap.size w W1 := by rw [hW1]; exact (((Below.refl _ _).alloc (Nat.le_refl _) _).alloc (by simp) _).alloc (by simp; omega) _
  obtain ⟨R, hR⟩ : ∃ R, R = wnE ⟨k, t, s, g, d⟩ ⟨k', t', s', g', d'⟩ := ⟨_, rfl⟩
  rw [← hR]
  have HW1 := hid hW1
  have HB := hid B1
  have HR := hid hR
  have Y3 := hid X3
  have x0 := X1.cell 0
  have y0 := X2.cell 0
  have x1 := X1.cell 1
  have y1 := X2.cell 1
  have x2 := X1.cell 2
  have y2 := X2.cell 2
  have x3 := X1.cell 3
  have y3 := X2.cell 3
  have x4 := X1.cell 4
  have y4 := X2.cell 4
  clear hW1 B1 hR X1 X2 X3
  by_cases h1 : t < t'
  · have d1 : decide (t < t') = true := decide_eq_true h1
    have e9 : R = ⟨k', t', s', g', d'⟩ := HR.out.trans (wnE_t (by unfold btP; dsimp only; omega))
    subst e9
    dsimp only
    clear HR h1
    go_enter Try.func7, Try.ntmps7
    go_upto_region 1 with fail
    rw [← HW1.out]
    go_upto_region 2 with fail
    go_wp2_with (refine wpList_store_row rfl 24 (.tmp 4) (.tmp 24) rfl (w.heap.size + 1 + 1) #[.string k', .int .i64 t', .int .i64 s', .bool g', .string d'] rfl rfl _ _ Y3.out (by kernel_rfl) rfl (by simp [Value.oneCell']) ?_)
    refine bodyPost_ret (v := .agg #[.string k', .int .i64 t', .int .i64 s', .bool g', .string d']) ?_ rfl ⟨rfl, below_setRow HB.out _ _ (by omega)⟩
    exact results_cell_row Try.results7 _ _ (w.heap.size + 1 + 1) _ _ _ _ rfl (Y3.out.setRow _) Try.underlying24 rfl (by kernel_rfl)
  have d1 : decide (t < t') = false := decide_eq_false h1
  by_cases h2 : t' = t
  · have d2 : (t' == t) = true := by simp [h2]
    by_cases h3 : s < s'
    · have d3 : decide (s < s') = true := decide_eq_true h3
      have e9 : R = ⟨k', t', s', g', d'⟩ := HR.out.trans (wnE_t (by unfold btP; dsimp only; omega))
      subst e9
      dsimp only
      clear HR h1 h2 h3
      go_enter Try.func7, Try.ntmps7
      go_upto_region 1 with fail
      rw [← HW1.out]
      go_upto_region 2 with fail
      go_wp2_with (refine wpList_store_row rfl 24 (.tmp 4) (.tmp 24) rfl (w.heap.size + 1 + 1) #[.string k', .int .i64 t', .int .i64 s', .bool g', .string d'] rfl rfl _ _ Y3.out (by kernel_rfl) rfl (by simp [Value.oneCell']) ?_)
      refine bodyPost_ret (v := .agg #[.string k', .int .i64 t', .int .i64 s', .bool g', .string d']) ?_ rfl ⟨rfl, below_setRow HB.out _ _ (by omega)⟩
      exact results_cell_row Try.results7 _ _ (w.heap.size + 1 + 1) _ _ _ _ rfl (Y3.out.setRow _) Try.underlying24 rfl (by kernel_rfl)
    · have d3 : decide (s < s') = false := decide_eq_false h3
      have e9 : R = ⟨k, t, s, g, d⟩ := HR.out.trans (wnE_f (by unfold btP; dsimp only; omega))
      subst e9
      dsimp only
      clear HR h1 h2 h3
      go_enter Try.func7, Try.ntmps7
      go_upto_region 1 with fail
      rw [← HW1.out]
      go_upto_region 3 with fail
      go_wp2_with (refine wpList_store_row rfl 24 (.tmp 4) (.tmp 25) rfl (w.heap.size + 1 + 1) #[.string k, .int .i64 t, .int .i64 s, .bool g, .string d] rfl rfl _ _ Y3.out (by kernel_rfl) rfl (by simp [Value.oneCell']) ?_)
      refine bodyPost_ret (v := .agg #[.string k, .int .i64 t, .int .i64 s, .bool g, .string d]) ?_ rfl ⟨rfl, below_setRow HB.out _ _ (by omega)⟩
      exact results_cell_row Try.results7 _ _ (w.heap.size + 1 + 1) _ _ _ _ rfl (Y3.out.setRow _) Try.underlying24 rfl (by kernel_rfl)
  · have d2 : (t' == t) = false := by simp [h2]
    have e9 : R = ⟨k, t, s, g, d⟩ := HR.out.trans (wnE_f (by unfold btP; dsimp only; omega))
    subst e9
    dsimp only
    clear HR h1 h2
    go_enter Try.func7, Try.ntmps7
    go_upto_region 1 with fail
    rw [← HW1.out]
    go_upto_region 3 with fail
    go_wp2_with (refine wpList_store_row rfl 24 (.tmp 4) (.tmp 25) rfl (w.heap.size + 1 + 1) #[.string k, .int .i64 t, .int .i64 s, .bool g, .string d] rfl rfl _ _ Y3.out (by kernel_rfl) rfl (by simp [Value.oneCell']) ?_)
    refine bodyPost_ret (v := .agg #[.string k, .int .i64 t, .int .i64 s, .bool g, .string d]) ?_ rfl ⟨rfl, below_setRow HB.out _ _ (by omega)⟩
    exact results_cell_row Try.results7 _ _ (w.heap.size + 1 + 1) _ _ _ _ rfl (Y3.out.setRow _) Try.underlying24 rfl (by kernel_rfl)
theorem or_bt (a b : Se) : decide (orI (cmpI a.t b.t) (cmpI a.s b.s) < 0) = decide (btP a b) := by
  rw [decide_eq_decide]
  unfold orI cmpI btP
  by_cases h1 : a.t < b.t
  · simp [h1]
  · by_cases h2 : b.t < a.t
    · simp [h1, h2]; omega
    · by_cases h3 : a.s < b.s
      · simp [h1, h2, h3]; omega
      · by_cases h4 : b.s < a.s <;> simp [h1, h2, h3, h4]
set_option maxRecDepth 20000 in
set_option maxHeartbeats 2000000 in
theorem iBeaten (a b : Se) (w : World) : Calls Try.prog 15 #[.agg #[.string a.k, .int .i64 a.t, .int .i64 a.s, .bool a.g, .string a.d], .agg #[.string b.k, .int .i64 b.t, .int .i64 b.s, .bool b.g, .string b.d]] w fun e w' => e = .returned (.bool (decide (btP a b))) ∧ Below w.heap.size w w' := by
  rw [← or_bt]
  obtain ⟨k, t, s, g, d⟩ := a
  obtain ⟨k', t', s', g', d'⟩ := b
  dsimp only
  have K1 := fun w => hid (iCompare t t' w)
  have K2 := fun w => hid (iCompare s s' w)
  obtain ⟨A, hA⟩ : ∃ A, A = cmpI t t' := ⟨_, rfl⟩
  obtain ⟨B, hB⟩ : ∃ B, B = cmpI s s' := ⟨_, rfl⟩
  rw [← hA] at K1 ⊢
  rw [← hB] at K2 ⊢
  clear hA hB
  obtain ⟨W2, hW2⟩ : ∃ W, W = (w.alloc (.cells #[.string k, .int .i64 t, .int .i64 s, .bool g, .string d] 24)).alloc (.cells #[.string k', .int .i64 t', .int .i64 s', .bool g', .string d'] 24) := ⟨_, rfl⟩
  have R1 : RowAt W2 w.heap.size 24 #[.string k, .int .i64 t, .int .i64 s, .bool g, .string d] := by rw [hW2]; exact (RowAt.new _ _ _).alloc _
  have R2 : RowAt W2 (w.heap.size + 1) 24 #[.string k', .int .i64 t', .int .i64 s', .bool g', .string d'] := by rw [hW2]; exact RowAt.next _ _ _ (by simp only [World.size_alloc])
  have B2 : Hid (Below w.heap.size w W2) := by rw [hW2]; exact ((Below.refl _ w).alloc (Nat.le_refl _) _).alloc (by simp) _
  have x1 := R1.cell 1
  have x2 := R1.cell 2
  have y1 := R2.cell 1
  have y2 := R2.cell 2
  clear R1 R2
  go_enter Try.func15, Try.ntmps15
  go_upto_region 1 with fail
  rw [← hW2]
  clear hW2
  go_region_held3 (fun wx => wx.cell? ⟨w.heap.size, 1, none⟩ = some (.int .i64 t) ∧ wx.cell? ⟨w.heap.size, 2, none⟩ = some (.int .i64 s) ∧ wx.cell? ⟨w.heap.size + 1, 1, none⟩ = some (.int .i64 t') ∧ wx.cell? ⟨w.heap.size + 1, 2, none⟩ = some (.int .i64 s')) ((first | (go_keep; done))) ((first
    | (go_at_call_of 22 (Value.int IntKind.i64 t); refine (K1 _).out.mono ?_; rintro e w2 ⟨rfl, rfl⟩)
    | (go_at_call_of 22 (Value.int IntKind.i64 s); refine (K2 _).out.mono ?_; rintro e w3 ⟨rfl, rfl⟩)
    | (go_at_call 21; refine (iOr _ A B _ ((RowAt.new W2 3 #[.int .i64 A, .int .i64 B]).drew.cell 0) ((RowAt.new W2 3 #[.int .i64 A, .int .i64 B]).drew.cell 1)).mono ?_; rintro e w4 ⟨rfl, rfl⟩)))
  all_goals go_wp2
  all_goals go_ret
  all_goals exact ⟨rfl, (B2.out.alloc B2.out.size _).drew⟩
set_option maxRecDepth 20000 in
set_option maxHeartbeats 1000000 in
theorem iCopyE (a : Se) (hk : a.k.size ≤ 100000) (hd : a.d.size ≤ 100000) (w : World) : Calls Try.prog 16 #[.agg #[.string a.k, .int .i64 a.t, .int .i64 a.s, .bool a.g, .string a.d]] w fun e w' => e = .returned (.agg #[.string a.k, .int .i64 a.t, .int .i64 a.s, .bool a.g, .string a.d]) ∧ Below w.heap.size w w' := by
  obtain ⟨k, t, s, g, d⟩ := a
  dsimp only at hk hd ⊢
  have K1 := fun w => hid (clone_any k w (by omega))
  have K2 := fun w => hid (clone_any d w (by omega))
  obtain ⟨W1, hW1⟩ : ∃ W, W = (w.alloc (.cells #[.string k, .int .i64 t, .int .i64 s, .bool g, .string d] 24)).alloc (.cells #[.string ⟨#[]⟩, .int .i64 0, .int .i64 0, .bool false, .string ⟨#[]⟩] 24) := ⟨_, rfl⟩
  have X1 : RowAt W1 w.heap.size 24 #[.string k, .int .i64 t, .int .i64 s, .bool g, .string d] := by rw [hW1]; exact (RowAt.new _ _ _).alloc _
  have X2 : RowAt W1 (w.heap.size + 1) 24 #[.string ⟨#[]⟩, .int .i64 0, .int .i64 0, .bool false, .string ⟨#[]⟩] := by rw [hW1]; exact RowAt.next _ _ _ (by simp only [World.size_alloc])
  have B1 : Hid (Below w.heap.size w W1) := by rw [hW1]; exact ((Below.refl _ w).alloc (Nat.le_refl _) _).alloc (by simp) _
  have Y1 := hid X1
  have Y2 := hid X2
  have x0 := X1.cell 0
  clear X1 X2
  go_enter Try.func16, Try.ntmps16
  go_upto_region 1 with fail
  rw [← hW1]
  clear hW1
  go_wp2_with fail
  refine (K1 _).out.mono ?_
  rintro e w2 ⟨rfl, hb2⟩
  have X1b := RowAt.nxW hb2 Y1.out
  have Y2b := hid (RowAt.nxW hb2 Y2.out)
  have B2 := hid (B1.out.trans (hb2.mono B1.out.size))
  have f0 := X1b.free 0
  obtain ⟨W3, hW3⟩ : ∃ W, W = w2.setCell ⟨w.heap.size, 0, none⟩ (.string k) := ⟨_, rfl⟩
  have X1c : RowAt W3 w.heap.size 24 #[.string k, .int .i64 t, .int .i64 s, .bool g, .string d] := by rw [hW3]; exact X1b.set 0 _
  have Y2c : Hid (RowAt W3 (w.heap.size + 1) 24 #[.string ⟨#[]⟩, .int .i64 0, .int .i64 0, .bool false, .string ⟨#[]⟩]) := by rw [hW3]; exact Y2b.out.other _ _ (by simp)
  have B3 : Hid (Below w.heap.size w W3) := by rw [hW3]; exact B2.out.setCell (by simp) _
  have q0 := X1b.cell 0
  have Y1c := hid X1c
  have x4 := X1c.cell 4
  clear hb2 X1b Y2b B2 x0 Y1 Y2 B1 X1c
  go_upto_region 2 with fail
  rw [← hW3]
  clear hW3 q0 f0
  go_wp2_with fail
  refine (K2 _).out.mono ?_
  rintro e w4 ⟨rfl, hb4⟩
  have X1d := RowAt.nxW hb4 Y1c.out
  have Y2d := hid (RowAt.nxW hb4 Y2c.out)
  have B4 := hid (B3.out.trans (hb4.mono B3.out.size))
  have f4 := X1d.free 4
  obtain ⟨W5, hW5⟩ : ∃ W, W = w4.setCell ⟨w.heap.size, 4, none⟩ (.string d) := ⟨_, rfl⟩
  have X1e : RowAt W5 w.heap.size 24 #[.string k, .int .i64 t, .int .i64 s, .bool g, .string d] := by rw [hW5]; exact X1d.set 4 _
  have Y2e : Hid (RowAt W5 (w.heap.size + 1) 24 #[.string ⟨#[]⟩, .int .i64 0, .int .i64 0, .bool false, .string ⟨#[]⟩]) := by rw [hW5]; exact Y2d.out.other _ _ (by simp)
  have B5 : Hid (Below w.heap.size w W5) := by rw [hW5]; exact B4.out.setCell (by simp) _
  have q4 := X1d.cell 4
  have Y1e := hid X1e
  clear hb4 X1d Y2d B4 x4 Y1c Y2c B3 X1e
  go_upto_region 3 with fail
  rw [← hW5]
  clear hW5 q4 f4
  have z0 := Y1e.out.cell 0
  have z1 := Y1e.out.cell 1
  have z2 := Y1e.out.cell 2
  have z3 := Y1e.out.cell 3
  have z4 := Y1e.out.cell 4
  go_wp2_with (refine wpList_store_row rfl 24 (.tmp 2) (.tmp 11) rfl (w.heap.size + 1) #[.string k, .int .i64 t, .int .i64 s, .bool g, .string d] rfl rfl _ _ Y2e.out (by kernel_rfl) rfl (by simp [Value.oneCell']) ?_)
  refine bodyPost_ret (v := .agg #[.string k, .int .i64 t, .int .i64 s, .bool g, .string d]) ?_ rfl ⟨rfl, below_setRow B5.out _ _ (by omega)⟩
  exact results_cell_row Try.results16 _ _ (w.heap.size + 1) _ _ _ _ rfl (Y2e.out.setRow _) Try.underlying24 rfl (by kernel_rfl)
set_option maxRecDepth 20000 in
theorem iLongW (s : ByteArray) (hs : s.size ≤ 100000) (w : World) : Calls Try.prog 14 #[.string s] w fun e w' => e = .returned (.bool false) ∧ w' = w := by
  have d : ¬ (100000 : Int) < (s.size : Int) := by omega
  go_enter Try.func14, Try.ntmps14
  go_wp2
  go_ret
  exact ⟨rfl, rfl⟩
set_option maxRecDepth 20000 in
set_option maxHeartbeats 1000000 in
theorem iIdxW (b : Nat) (n cap : Nat) (ts : Nat → ByteArray) (hn : n ≤ 1048576) (hs : ∀ i, i < n → (ts i).size ≤ 100000) (w : World) (h : ∀ i, i < n → w.cell? ⟨b, 0 + i, none⟩ = some (.string (ts i))) :
    Calls Try.prog 20 #[.slice (some ⟨b, 0, none⟩) n cap, .func (.func 14) #[] #[]] w fun e w' => e = .returned (.int .i64 (-1)) ∧ w' = w := by
  have HH := hid h
  have HS := hid hs
  clear h hs
  go_enter Try.func20, Try.ntmps20
  go_wp2_with fail
  go_loopw [8] (fun q wr => ∃ k : Nat, k ≤ n ∧ q = .int .i64 (k : Int) ∧ wr = w) (fun q _ => n - (intOf q).toNat)
  case atStart => exact ⟨0, Nat.zero_le _, rfl, rfl⟩
  case round =>
    obtain ⟨k, hk, rfl, rfl⟩ := hrel
    by_cases hlt : k < n
    · have d1 : (k : Int) < (n : Int) := by omega
      have k0 : (0 : Int) ≤ (k : Int) := by omega
      have y0 := HH.out k hlt
      have y1 := y0
      rw [Nat.zero_add] at y1
      have KK := fun wx => hid (iLongW (ts k) (HS.out k hlt) wx)
      generalize ts k = p0 at y0 y1 KK
      go_wp2_with fail
      refine (KK _).out.mono ?_
      rintro e w2 ⟨rfl, hw⟩
      obtain rfl := hw
      go_wp2
      go_roundw
      case rel => exact ⟨k + 1, by omega, by go_num, trivial⟩
      case measure => simp [intOf]; omega
    · have d1 : ¬ (k : Int) < (n : Int) := by omega
      go_wp2
      go_ret
      exact ⟨rfl, rfl⟩
set_option maxRecDepth 20000 in
theorem iContW (b : Nat) (n cap : Nat) (ts : Nat → ByteArray) (hn : n ≤ 1048576) (hs : ∀ i, i < n → (ts i).size ≤ 100000) (w : World) (h : ∀ i, i < n → w.cell? ⟨b, 0 + i, none⟩ = some (.string (ts i))) :
    Calls Try.prog 13 #[.slice (some ⟨b, 0, none⟩) n cap, .func (.func 14) #[] #[]] w fun e w' => e = .returned (.bool false) ∧ w' = w := by
  have K := hid (iIdxW b n cap ts hn hs w h)
  clear h hs
  go_enter Try.func13, Try.ntmps13
  go_wp2_with fail
  refine K.out.mono ?_
  rintro e w2 ⟨rfl, hw⟩
  obtain rfl := hw
  go_wp2
  go_ret
  exact ⟨rfl, rfl⟩
/-- an entry with no long text -/
def seOk (a : Se) : Prop := a.k.size ≤ 100000 ∧ a.d.size ≤ 100000
set_option maxRecDepth 20000 in
set_option maxHeartbeats 1000000 in
theorem iWin (a b : Se) (ha : seOk a) (hb : seOk b) (w : World) : Calls Try.prog 6 #[.agg #[.string a.k, .int .i64 a.t, .int .i64 a.s, .bool a.g, .string a.d], .agg #[.string b.k, .int .i64 b.t, .int .i64 b.s, .bool b.g, .string b.d]] w fun e w' => e = .returned (.agg #[.string (wnE a b).k, .int .i64 (wnE a b).t, .int .i64 (wnE a b).s, .bool (wnE a b).g, .string (wnE a b).d]) ∧ Below w.heap.size w w' := by
  have KB := fun w => hid (iBeaten a b w)
  have KA := fun w => hid (iCopyE a ha.1 ha.2 w)
  have KC := fun w => hid (iCopyE b hb.1 hb.2 w)
  have WT := fun h : btP a b => hid (wnE_t h)
  have WF := fun h : ¬ btP a b => hid (wnE_f h)
  obtain ⟨BB, hBB⟩ : ∃ B, B = decide (btP a b) := ⟨_, rfl⟩
  rw [← hBB] at KB
  have HBB := hid hBB
  clear hBB
  obtain ⟨R, hR⟩ : ∃ R, R = wnE a b := ⟨_, rfl⟩
  rw [← hR] at WT WF ⊢
  clear hR
  obtain ⟨k, t, s, g, d⟩ := a
  obtain ⟨k', t', s', g', d'⟩ := b
  dsimp only at KB KA KC ⊢
  obtain ⟨W1, hW1⟩ : ∃ W, W = ((w.alloc (.cells #[.string k, .int .i64 t, .int .i64 s, .bool g, .string d] 24)).alloc (.cells #[.string k', .int .i64 t', .int .i64 s', .bool g', .string d'] 24)).alloc (.cells #[.string ⟨#[]⟩, .int .i64 0, .int .i64 0, .bool false, .string ⟨#[]⟩] 24) := ⟨_, rfl⟩
  have X1 : RowAt W1 w.heap.size 24 #[.string k, .int .i64 t, .int .i64 s, .bool g, .string d] := by rw [hW1]; exact ((RowAt.new _ _ _).alloc _).alloc _
  have X2 : RowAt W1 (w.heap.size + 1) 24 #[.string k', .int .i64 t', .int .i64 s', .bool g', .string d'] := by rw [hW1]; exact (RowAt.next _ _ _ (by simp only [World.size_alloc])).alloc _
  have X3 : RowAt W1 (w.heap.size + 1 + 1) 24 #[.string ⟨#[]⟩, .int .i64 0, .int .i64 0, .bool false, .string ⟨#[]⟩] := by rw [hW1]; exact RowAt.next _ _ _ (by simp only [World.size_alloc])
  have B1 : Below w.heap.size w W1 := by rw [hW1]; exact (((Below.refl _ _).alloc (Nat.le_refl _) _).alloc (by simp) _).alloc (by simp; omega) _
  obtain ⟨W2, hW2⟩ : ∃ W, W = W1.alloc (.cells #[.string k, .string d, .string k', .string d'] 9) := ⟨_, rfl⟩
  have B12 : Below W1.heap.size W1 W2 := by rw [hW2]; exact (Below.refl _ _).alloc (Nat.le_refl _) _
  have N4 : RowAt W2 W1.heap.size 9 #[.string k, .string d, .string k', .string d'] := by rw [hW2]; exact RowAt.new _ _ _
  have Y1 := hid (RowAt.nxW B12 X1)
  have Y2 := hid (RowAt.nxW B12 X2)
  have Y3 := hid (RowAt.nxW B12 X3)
  have HB := hid (B1.trans (B12.mono B1.size))
  have KO : Hid (Calls Try.prog 13 #[.slice (some ⟨W1.heap.size, 0, none⟩) 4 4, .func (.func 14) #[] #[]] W2 fun e w' => e = .returned (.bool false) ∧ w' = W2) := by
    refine iContW _ 4 4 (fun i => match i with | 0 => k | 1 => d | 2 => k' | _ => d') (by omega) (fun i hi => ?_) W2 (fun i hi => ?_)
    · rcases (by omega : i = 0 ∨ i = 1 ∨ i = 2 ∨ i = 3) with rfl | rfl | rfl | rfl
      · exact ha.1
      · exact ha.2
      · exact hb.1
      · exact hb.2
    · rw [Nat.zero_add, N4.cell]
      rcases (by omega : i = 0 ∨ i = 1 ∨ i = 2 ∨ i = 3) with rfl | rfl | rfl | rfl <;> rfl
  have HW1 := hid hW1
  have HW2 := hid hW2
  have x0 := X1.cell 0
  have x4 := X1.cell 4
  have y0 := X2.cell 0
  have y4 := X2.cell 4
  clear hW1 hW2 B12 B1 X1 X2 X3 N4 ha hb
  go_enter Try.func6, Try.ntmps6
  go_upto_region 1 with fail
  rw [← HW1.out]
  go_wp2_with fail
  rw [← HW2.out]
  refine KO.out.mono ?_
  rintro e w2 ⟨rfl, hw⟩
  obtain rfl := hw
  clear x0 x4 y0 y4 KO

  have x0 := Y1.out.cell 0
  have y0 := Y2.out.cell 0
  have x1 := Y1.out.cell 1
  have y1 := Y2.out.cell 1
  have x2 := Y1.out.cell 2
  have y2 := Y2.out.cell 2
  have x3 := Y1.out.cell 3
  have y3 := Y2.out.cell 3
  have x4 := Y1.out.cell 4
  have y4 := Y2.out.cell 4
  go_upto_region 3 with fail
  go_wp2_with fail
  refine (KB _).out.mono ?_
  rintro e w3 ⟨rfl, hb3⟩
  have Y1b := hid (RowAt.nxW hb3 Y1.out)
  have Y2b := hid (RowAt.nxW hb3 Y2.out)
  have Y3b := hid (RowAt.nxW hb3 Y3.out)
  have HBb := hid (HB.out.trans (hb3.mono HB.out.size))
  clear hb3 Y1 Y2 Y3 HB x0 y0 x1 y1 x2 y2 x3 y3 x4 y4
  have x0 := Y1b.out.cell 0
  have y0 := Y2b.out.cell 0
  have x1 := Y1b.out.cell 1
  have y1 := Y2b.out.cell 1
  have x2 := Y1b.out.cell 2
  have y2 := Y2b.out.cell 2
  have x3 := Y1b.out.cell 3
  have y3 := Y2b.out.cell 3
  have x4 := Y1b.out.cell 4
  have y4 := Y2b.out.cell 4
  by_cases hc : btP ⟨k, t, s, g, d⟩ ⟨k', t', s', g', d'⟩
  · have e9 : R = ⟨k', t', s', g', d'⟩ := (WT hc).out
    have e8 : BB = true := HBB.out.trans (decide_eq_true hc)
    subst e9 e8
    dsimp only
    clear hc WT WF HBB
    go_wp2_with fail
    refine (KC _).out.mono ?_
    rintro e w4 ⟨rfl, hb4⟩
    have Y3c := hid (RowAt.nxW hb4 Y3b.out)
    have HBc := hid (HBb.out.trans (hb4.mono HBb.out.size))
    clear hb4
    go_wp2_with (refine wpList_store_row rfl 24 (.tmp 4) (.tmp 20) rfl (w.heap.size + 1 + 1) #[.string k', .int .i64 t', .int .i64 s', .bool g', .string d'] rfl rfl _ _ Y3c.out (by kernel_rfl) rfl (by simp [Value.oneCell']) ?_)
    refine bodyPost_ret (v := .agg #[.string k', .int .i64 t', .int .i64 s', .bool g', .string d']) ?_ rfl ⟨rfl, below_setRow HBc.out _ _ (by omega)⟩
    exact results_cell_row Try.results6 _ _ (w.heap.size + 1 + 1) _ _ _ _ rfl (Y3c.out.setRow _) Try.underlying24 rfl (by kernel_rfl)
  · have e9 : R = ⟨k, t, s, g, d⟩ := (WF hc).out
    have e8 : BB = false := HBB.out.trans (decide_eq_false hc)
    subst e9 e8
    dsimp only
    clear hc WT WF HBB
    go_wp2_with fail
    refine (KA _).out.mono ?_
    rintro e w4 ⟨rfl, hb4⟩
    have Y3c := hid (RowAt.nxW hb4 Y3b.out)
    have HBc := hid (HBb.out.trans (hb4.mono HBb.out.size))
    clear hb4
    go_wp2_with (refine wpList_store_row rfl 24 (.tmp 4) (.tmp 22) rfl (w.heap.size + 1 + 1) #[.string k, .int .i64 t, .int .i64 s, .bool g, .string d] rfl rfl _ _ Y3c.out (by kernel_rfl) rfl (by simp [Value.oneCell']) ?_)
    refine bodyPost_ret (v := .agg #[.string k, .int .i64 t, .int .i64 s, .bool g, .string d]) ?_ rfl ⟨rfl, below_setRow HBc.out _ _ (by omega)⟩
    exact results_cell_row Try.results6 _ _ (w.heap.size + 1 + 1) _ _ _ _ rfl (Y3c.out.setRow _) Try.underlying24 rfl (by kernel_rfl)
end Go.Proofs.Ytkedjhpaeojclaa
