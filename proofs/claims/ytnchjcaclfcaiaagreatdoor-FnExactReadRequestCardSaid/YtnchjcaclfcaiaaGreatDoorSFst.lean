import Derived.Test.YtnchjcaclfcaiaaGreatDoorRdM
namespace Go.Proofs.YtnchjcaclfcaiaaGreatDoor
open Go.RowKit
/-! The specification's l10First. -/
theorem Tryz.infoHpF : (Tryz.prog.info? 54).map (fun i => (i.zero, i.size, i.bytes)) = some (some hz2, 2, 32) := by kernel_rfl
theorem ext_end (s : ByteArray) (i : Nat) : (s.extract i s.size).data.toList = s.data.toList.drop i := by
  rw [ext_mid, List.take_of_length_le (by rw [baLen]; exact Nat.le_refl _)]
theorem idx0 {s p : ByteArray} {z : Int} (h : IdxO s p 0 z) : (z = -1 ∧ cutP p.data.toList s.data.toList = none) ∨ ∃ i : Nat, z = (i : Int) ∧ i + p.size ≤ s.size ∧ cutP p.data.toList s.data.toList = some ((s.extract 0 i).data.toList, (s.extract (i + p.size) s.size).data.toList) := by
  unfold IdxO at h
  rw [List.drop_zero] at h
  rcases h with h | ⟨i, h1, h2, h3⟩
  · exact .inl h
  · refine .inr ⟨i, by rw [h1, Nat.zero_add], by omega, ?_⟩
    rw [h3, ext_take, ext_end]
theorem splA_mem (c : UInt8) : ∀ (l cur x : List UInt8), x ∈ splA c cur l → x.length ≤ cur.length + l.length
  | [], cur, x, h => by
    unfold splA at h
    rw [List.mem_singleton.1 h]; simp
  | y :: r, cur, x, h => by
    unfold splA at h
    split at h
    · rcases List.mem_cons.1 h with rfl | h
      · simp
      · have := splA_mem c r [] x h; simp at this ⊢; omega
    · have := splA_mem c r (cur ++ [y]) x h; simp at this ⊢; omega
theorem OwnHp.setRow {w : World} {base b : Nat} {v : Value} {L : List Hp} (h : OwnHp w base v L) (hb : b < base) (c : Array Value) : OwnHp (w.setRow b c) base v L := by
  refine ⟨h.1, ?_⟩
  rcases h.2 with h2 | ⟨g, cap, cur, e1, e2, e3, e4⟩
  · exact .inl h2
  · exact .inr ⟨g, cap, cur, e1, e2, by rw [setRow_other w b g c (by omega)]; exact e3, e4⟩
theorem unO_all (s : ByteArray) : ∃ b t z, unO s = .agg #[.bool b, .string t, .int .i64 z] ∧ ((b = false ∧ unL s.data.toList = none) ∨ (b = true ∧ ∃ l, unL s.data.toList = some l ∧ t = ofL l ∧ (ofL l).size ≤ 100000)) := by
  have e : unL s.data.toList = unV s := by unfold unL; rw [← ofL_of (b := s) rfl]
  rw [e]
  cases h : unV s with
  | none => exact ⟨_, _, _, unO_none h, .inl ⟨rfl, rfl⟩⟩
  | some l => exact ⟨true, ofL l, _, unO_some h, .inr ⟨rfl, l, rfl, rfl, by rw [ofL_size]; exact unV_len h⟩⟩
theorem strs_set {w : World} {g n c b o : Nat} {x : Value} {ts : Nat → ByteArray} (h : Strs w (some ⟨g, 0, none⟩) n c ts) (hn : g ≠ b) : Strs (w.setCell ⟨b, o, none⟩ x) (some ⟨g, 0, none⟩) n c ts := by
  refine ⟨h.1, ?_⟩
  rcases h.2 with h0 | ⟨b', off, e, h1, h2⟩
  · exact .inl h0
  · cases e
    refine .inr ⟨g, 0, rfl, by simpa using h1, fun i hi => ?_⟩
    rw [← h2 i hi]
    simp only [World.cell?, heap_setCell_other _ _ _ _ (show g ≠ (⟨b, o, none⟩ : Addr).block from hn)]
/-- what l10First answers -/
def AnsF (t : List UInt8) (w : World) (e : Ending) (w' : World) : Prop :=
  ∃ (m p : ByteArray) (v : Value) (L : List Hp) (b : Bool), e = .returned (.tuple #[.agg #[.string m, .string p, v, .slice none 0 0, .string ⟨#[]⟩], .bool b]) ∧ OwnHp w' w.heap.size v L ∧ Below w.heap.size w w' ∧ (b = true → fstO t = some (m, p, L)) ∧ (b = false → fstO t = none)
set_option maxRecDepth 20000 in
set_option maxHeartbeats 1000000 in
theorem fst_ret {t : List UInt8} {w wf : World} {m p : ByteArray} {v : Value} {L : List Hp} {b : Bool} {tm : Array Value}
    (hR : RowAt wf w.heap.size 25 #[.string m, .string p, v, .slice none 0 0, .string ⟨#[]⟩]) (hO : OwnHp wf (w.heap.size + 1) v L) (hB : Below w.heap.size w wf) (hw : (b = true → fstO t = some (m, p, L)) ∧ (b = false → fstO t = none))
    (h2 : tm.getD 2 undef = .pointer (some ⟨w.heap.size, 0, none⟩)) (h3 : tm.getD 3 undef = .bool b) :
    bodyPost Tryz.prog Tryz.f44 (fun e w' => AnsF t w e w') Exit.ret { tmps := tm, defers := [] } wf := by
  have h2' : tm[2]?.getD undef = .pointer (some ⟨w.heap.size, 0, none⟩) := by simpa using h2
  have h3' : tm[3]?.getD undef = .bool b := by simpa using h3
  refine ⟨rfl, .tuple #[.agg #[.string m, .string p, v, .slice none 0 0, .string ⟨#[]⟩], .bool b], ?_, m, p, v, L, b, rfl, hO.mono (by omega), hB, hw.1, hw.2⟩
  have hl := run_loadVar_row (P := Tryz.prog) _ w.heap.size 25 25 _ (0, 0) _ hR Tryz.underlying25 rfl (by kernel_rfl)
  simp [results, Tryz.results44, h2', h3', asAddr, hl]
theorem fst_set {w wx : World} {m p : ByteArray} {v : Value} (h : RowAt wx w.heap.size 25 #[.string ⟨#[]⟩, .string ⟨#[]⟩, .slice none 0 0, .slice none 0 0, .string ⟨#[]⟩]) : RowAt (((((wx.setCell ⟨w.heap.size, 0, none⟩ (.string m)).setCell ⟨w.heap.size, 1, none⟩ (.string p)).setCell ⟨w.heap.size, 2, none⟩ v).setCell ⟨w.heap.size, 3, none⟩ (.slice none 0 0)).setCell ⟨w.heap.size, 4, none⟩ (.string ⟨#[]⟩)) w.heap.size 25 #[.string m, .string p, v, .slice none 0 0, .string ⟨#[]⟩] :=
  ((((h.set 0 (.string m)).set 1 (.string p)).set 2 v).set 3 (.slice none 0 0)).set 4 (.string ⟨#[]⟩)
theorem OwnHp.setCell {w : World} {base : Nat} {v : Value} {L : List Hp} (h : OwnHp w base v L) (a : Addr) (x : Value) (hb : a.block < base) : OwnHp (w.setCell a x) base v L := by
  refine ⟨h.1, ?_⟩
  rcases h.2 with h2 | ⟨g, cap, cur, e1, e2, e3, e4⟩
  · exact .inl h2
  · exact .inr ⟨g, cap, cur, e1, e2, (show RowAt w g _ cur from e3).other a x (by omega), e4⟩
theorem drewC {w : World} {a : Addr} {x : Value} (h : w.cell? a = some x) : w.drew.cell? a = some x := h
theorem far5 {w wx : World} {m p : ByteArray} {u : Value} {b o : Nat} {x : Value} (h : wx.cell? ⟨b, o, none⟩ = some x) (hn : b ≠ w.heap.size) : (((((wx.setCell ⟨w.heap.size, 0, none⟩ (.string m)).setCell ⟨w.heap.size, 1, none⟩ (.string p)).setCell ⟨w.heap.size, 2, none⟩ u).setCell ⟨w.heap.size, 3, none⟩ (.slice none 0 0)).setCell ⟨w.heap.size, 4, none⟩ (.string ⟨#[]⟩)).cell? ⟨b, o, none⟩ = some x := by
  simp only [World.cell?]
  rw [heap_setCell_other _ _ _ _ hn, heap_setCell_other _ _ _ _ hn, heap_setCell_other _ _ _ _ hn, heap_setCell_other _ _ _ _ hn, heap_setCell_other _ _ _ _ hn]
  exact h
theorem five_own {w wx : World} {m p : ByteArray} {v : Value} {u : Value} {L : List Hp} (h : OwnHp wx (w.heap.size + 1) v L) : OwnHp (((((wx.setCell ⟨w.heap.size, 0, none⟩ (.string m)).setCell ⟨w.heap.size, 1, none⟩ (.string p)).setCell ⟨w.heap.size, 2, none⟩ u).setCell ⟨w.heap.size, 3, none⟩ (.slice none 0 0)).setCell ⟨w.heap.size, 4, none⟩ (.string ⟨#[]⟩)).drew (w.heap.size + 1) v L :=
  World.ownsRow.drew (((((h.setCell _ _ (by dsimp only; omega)).setCell _ _ (by dsimp only; omega)).setCell _ _ (by dsimp only; omega)).setCell _ _ (by dsimp only; omega)).setCell _ _ (by dsimp only; omega))
theorem five_below {w wx : World} {m p : ByteArray} {u : Value} (h : Below w.heap.size w wx) : Below w.heap.size w (((((wx.setCell ⟨w.heap.size, 0, none⟩ (.string m)).setCell ⟨w.heap.size, 1, none⟩ (.string p)).setCell ⟨w.heap.size, 2, none⟩ u).setCell ⟨w.heap.size, 3, none⟩ (.slice none 0 0)).setCell ⟨w.heap.size, 4, none⟩ (.string ⟨#[]⟩)).drew :=
  (((((h.setCell (Nat.le_refl _) _).setCell (Nat.le_refl _) _).setCell (Nat.le_refl _) _).setCell (Nat.le_refl _) _).setCell (Nat.le_refl _) _).drew
theorem five_own0 {w wx : World} {m p : ByteArray} {v : Value} {u : Value} {L : List Hp} (h : OwnHp wx (w.heap.size + 1) v L) : OwnHp (((((wx.setCell ⟨w.heap.size, 0, none⟩ (.string m)).setCell ⟨w.heap.size, 1, none⟩ (.string p)).setCell ⟨w.heap.size, 2, none⟩ u).setCell ⟨w.heap.size, 3, none⟩ (.slice none 0 0)).setCell ⟨w.heap.size, 4, none⟩ (.string ⟨#[]⟩)) (w.heap.size + 1) v L :=
  (((((h.setCell _ _ (by dsimp only; omega)).setCell _ _ (by dsimp only; omega)).setCell _ _ (by dsimp only; omega)).setCell _ _ (by dsimp only; omega)).setCell _ _ (by dsimp only; omega))
theorem five_below0 {w wx : World} {m p : ByteArray} {u : Value} (h : Below w.heap.size w wx) : Below w.heap.size w (((((wx.setCell ⟨w.heap.size, 0, none⟩ (.string m)).setCell ⟨w.heap.size, 1, none⟩ (.string p)).setCell ⟨w.heap.size, 2, none⟩ u).setCell ⟨w.heap.size, 3, none⟩ (.slice none 0 0)).setCell ⟨w.heap.size, 4, none⟩ (.string ⟨#[]⟩)) :=
  (((((h.setCell (Nat.le_refl _) _).setCell (Nat.le_refl _) _).setCell (Nat.le_refl _) _).setCell (Nat.le_refl _) _).setCell (Nat.le_refl _) _)
set_option maxRecDepth 20000 in
set_option maxHeartbeats 8000000 in
theorem sFirst (t : ByteArray) (ht : t.size ≤ 400000) (w : World) :
    Calls Tryz.prog 44 #[.string t] w fun e w' => AnsF t.data.toList w e w' := by
  obtain ⟨W0, hW0⟩ : ∃ W, W = (w.alloc (.cells #[.string ⟨#[]⟩, .string ⟨#[]⟩, .slice none 0 0, .slice none 0 0, .string ⟨#[]⟩] 25)).alloc (.cells #[.string ⟨#[]⟩, .string ⟨#[]⟩, .slice none 0 0, .slice none 0 0, .string ⟨#[]⟩] 25) := ⟨_, rfl⟩
  have A2 : Hid (RowAt W0 w.heap.size 25 #[.string ⟨#[]⟩, .string ⟨#[]⟩, .slice none 0 0, .slice none 0 0, .string ⟨#[]⟩]) := by rw [hW0]; exact (RowAt.new _ _ _).alloc _
  have A4 : Hid (RowAt W0 (w.heap.size + 1) 25 #[.string ⟨#[]⟩, .string ⟨#[]⟩, .slice none 0 0, .slice none 0 0, .string ⟨#[]⟩]) := by rw [hW0]; exact RowAt.next _ _ _ (by rw [size_al])
  have B0 : Hid (Below w.heap.size w W0) := by rw [hW0]; exact ((Below.refl _ _).alloc (Nat.le_refl _) _).alloc (by simp) _
  have K1 := hid (sIdx t ⟨#[32]⟩ 0 (by omega) (by decide) (by decide) (Nat.zero_le _) 0 rfl W0)
  go_enter Tryz.func44, Tryz.ntmps44
  go_wp2_with fail
  rw [← hW0]
  clear hW0
  refine K1.out.mono ?_
  rintro e w1 ⟨⟨z, rfl, hz⟩, hw1⟩
  obtain rfl := hw1.symm
  rcases idx0 hz with ⟨rfl, hc⟩ | ⟨i, rfl, hi, hc⟩
  · have F := hid (fstO_none hc)
    clear hz hc
    have k0 := A4.out.cell 0
    have k1 := A4.out.cell 1
    have k2 := A4.out.cell 2
    have k3 := A4.out.cell 3
    have k4 := A4.out.cell 4
    go_wp2_with (refine wpList_store_row rfl 25 (.tmp 2) (.tmp 20) rfl w.heap.size #[.string ⟨#[]⟩, .string ⟨#[]⟩, .slice none 0 0, .slice none 0 0, .string ⟨#[]⟩] rfl rfl _ _ A2.out (by kernel_rfl) rfl (by simp [Value.oneCell']) ?_)
    have RR := A2.out.setRow #[.string ⟨#[]⟩, .string ⟨#[]⟩, .slice none 0 0, .slice none 0 0, .string ⟨#[]⟩]
    exact fst_ret RR (OwnHp.setRow (OwnHp.nil _ _) (by omega) _) (below_setRow B0.out _ _ (Nat.le_refl _)) (⟨fun h => Bool.noConfusion h, fun _ => F.out⟩) rfl rfl
  have C1 := hid hc
  clear hz hc K1
  have hi' : i + 1 ≤ t.size := hi
  have i0 : (0 : Int) ≤ (i : Int) := by omega
  have i1 : (i : Int) ≤ (t.size : Int) := by omega
  have i2 : (i : Int) + 1 ≤ (t.size : Int) := by omega
  have o0 := A4.out.cell 0
  have f0 := A4.out.free 0
  have ms : (t.extract 0 i).size ≤ 400000 := by rw [ByteArray.size_extract]; omega
  have rs : (t.extract (i + 1) t.size).size ≤ 400000 := by rw [ByteArray.size_extract]; omega
  replace C1 : Hid (cutP [32] t.data.toList = some ((t.extract 0 i).data.toList, (t.extract (i + 1) t.size).data.toList)) := C1.out
  go_wp2_with fail
  generalize t.extract 0 i = M at C1 ms ⊢
  generalize t.extract (i + 1) t.size = R at C1 rs ⊢
  obtain ⟨W1, hW1⟩ : ∃ W, W = W0.setCell ⟨w.heap.size + 1, 0, none⟩ (.string M) := ⟨_, rfl⟩
  have A2a : Hid (RowAt W1 w.heap.size 25 #[.string ⟨#[]⟩, .string ⟨#[]⟩, .slice none 0 0, .slice none 0 0, .string ⟨#[]⟩]) := by rw [hW1]; exact A2.out.other _ _ (by dsimp only; omega)
  have A4a : Hid (RowAt W1 (w.heap.size + 1) 25 #[.string M, .string ⟨#[]⟩, .slice none 0 0, .slice none 0 0, .string ⟨#[]⟩]) := by rw [hW1]; exact A4.out.set 0 _
  have B1 : Hid (Below w.heap.size w W1) := by rw [hW1]; exact B0.out.setCell (by dsimp only; omega) _
  have HM : Hid (ofL M.data.toList = M) := (ofL_of rfl).symm
  rw [← hW1]
  clear hW1 A2 A4 B0 o0 f0 i0 i1 i2
  have K2 := hid (sIdx R ⟨#[63]⟩ 0 (by omega) (by decide) (by decide) (Nat.zero_le _) 0 rfl W1)
  refine K2.out.mono ?_
  rintro e w2 ⟨⟨z, rfl, hz⟩, hw2⟩
  obtain rfl := hw2.symm
  rcases idx0 hz with ⟨rfl, hc⟩ | ⟨j, rfl, hj, hc⟩
  · have FI : Hid (fstO t.data.toList = finO M R.data.toList (some [])) := by
      show _ = _
      rw [fstO_plain C1.out hc, HM.out]
    clear hz hc C1 HM K2
    have OW : Hid (OwnHp W1 (w.heap.size + 2) (.slice none 0 0) []) := OwnHp.nil _ _
    go_wp2_with fail
    have LB : Hid (∀ q, q ∈ ([] : List Hp) → q.nm.size ≤ 100000 ∧ q.vl.size ≤ 100000) := fun q hq => absurd hq (by simp)
    have KU := hid (sUn R (by omega) W1)
    refine KU.out.mono ?_
    rintro e w8 ⟨rfl, hb8⟩
    have A2 := hid (A2a.out.below hb8 A2a.out.lt)
    have A4 := hid (A4a.out.below hb8 A4a.out.lt)
    have B8 := hid (B1.out.trans (hb8.mono B1.out.size))
    have O8 := hid (OwnHp.next hb8 OW.out)
    clear hb8 KU A2a A4a B1 OW
    cases hu : unV R with
    | none =>
      rw [unO_none hu]
      have F : Hid (fstO t.data.toList = none) := FI.out.trans (finO_none2 _ _ (by unfold unL; rw [← ofL_of (b := R) rfl]; exact hu))
      clear hu FI
      go_upto_region 24 with fail
      obtain ⟨W8, hW8⟩ : ∃ W, W = w8.alloc (.cells #[.bool false, .string ⟨#[]⟩, .int .i64 0] 30) := ⟨_, rfl⟩
      have A2b : Hid (RowAt W8 w.heap.size 25 #[.string ⟨#[]⟩, .string ⟨#[]⟩, .slice none 0 0, .slice none 0 0, .string ⟨#[]⟩]) := by rw [hW8]; exact A2.out.alloc _
      have A4b : Hid (RowAt W8 (w.heap.size + 1) 25 #[.string M, .string ⟨#[]⟩, .slice none 0 0, .slice none 0 0, .string ⟨#[]⟩]) := by rw [hW8]; exact A4.out.alloc _
      have UU : Hid (RowAt W8 w8.heap.size 30 #[.bool false, .string ⟨#[]⟩, .int .i64 0]) := by rw [hW8]; exact RowAt.new _ _ _
      have B9 : Hid (Below w.heap.size w W8) := by rw [hW8]; exact B8.out.alloc B8.out.size _
      have O9 := hid (World.ownsRow.alloc O8.out (.cells #[.bool false, .string ⟨#[]⟩, .int .i64 0] 30))
      rw [← hW8] at O9
      have ux : Hid (w.heap.size + 1 < w8.heap.size) := A4.out.lt
      obtain ⟨U, hU⟩ : ∃ U, U = w8.heap.size := ⟨_, rfl⟩
      rw [← hW8]
      rw [← hU] at UU ux ⊢
      clear hW8 hU A2 A4 B8 O8
      have u1 := UU.out.cell 1
      have o1 := A4b.out.cell 1
      have f1 := A4b.out.free 1
      go_upto_region 25 with fail
      obtain ⟨W9, hW9⟩ : ∃ W, W = W8.setCell ⟨w.heap.size + 1, 1, none⟩ (.string ⟨#[]⟩) := ⟨_, rfl⟩
      have A2c : Hid (RowAt W9 w.heap.size 25 #[.string ⟨#[]⟩, .string ⟨#[]⟩, .slice none 0 0, .slice none 0 0, .string ⟨#[]⟩]) := by rw [hW9]; exact A2b.out.other _ _ (by dsimp only; omega)
      have A4c : Hid (RowAt W9 (w.heap.size + 1) 25 #[.string M, .string ⟨#[]⟩, .slice none 0 0, .slice none 0 0, .string ⟨#[]⟩]) := by rw [hW9]; exact A4b.out.set 1 _
      have UV : Hid (RowAt W9 U 30 #[.bool false, .string ⟨#[]⟩, .int .i64 0]) := by rw [hW9]; exact UU.out.other _ _ (by have := ux.out; dsimp only; omega)
      have B10 : Hid (Below w.heap.size w W9) := by rw [hW9]; exact B9.out.setCell (by dsimp only; omega) _
      have O10 : Hid (OwnHp W9 (w.heap.size + 2) (.slice none 0 0) []) := by rw [hW9]; exact (OwnHp.mono O9.out (by omega)).setCell _ _ (by dsimp only; omega)
      rw [← hW9]
      clear u1 o1 f1 hW9 UU A2b A4b B9 O9
      have u0 : W9.cell? ⟨U, 0, none⟩ = some (.bool false) := UV.out.cell 0
      have k0 : W9.cell? ⟨w.heap.size + 1, 0, none⟩ = some (.string M) := A4c.out.cell 0
      have a0 := A2c.out.cell 0
      have g0 := A2c.out.free 0
      have k1 : W9.cell? ⟨w.heap.size + 1, 1, none⟩ = some (.string ⟨#[]⟩) := A4c.out.cell 1
      have a1 := A2c.out.cell 1
      have g1 := A2c.out.free 1
      have k2 : W9.cell? ⟨w.heap.size + 1, 2, none⟩ = some (.slice none 0 0) := A4c.out.cell 2
      have a2 := A2c.out.cell 2
      have g2 := A2c.out.free 2
      have k3 : W9.cell? ⟨w.heap.size + 1, 3, none⟩ = some (.slice none 0 0) := A4c.out.cell 3
      have a3 := A2c.out.cell 3
      have g3 := A2c.out.free 3
      have k4 : W9.cell? ⟨w.heap.size + 1, 4, none⟩ = some (.string ⟨#[]⟩) := A4c.out.cell 4
      have a4 := A2c.out.cell 4
      have g4 := A2c.out.free 4
      have n1 : w.heap.size + 1 ≠ w.heap.size := by omega
      have nU : U ≠ w.heap.size := by have := ux.out; omega
      go_region
      all_goals go_wp2
      all_goals exact fst_ret (fst_set A2c.out).drew (five_own (O10.out.mono (by omega))) (five_below B10.out) ⟨fun h => Bool.noConfusion h, fun _ => F.out⟩ rfl rfl
    | some P =>
      rw [show unO R = .agg #[.bool true, .string (ofL P), .int .i64 (R.size : Int)] from unO_some hu]
      have hul : unL R.data.toList = some P := by unfold unL; rw [← ofL_of (b := R) rfl]; exact hu
      have FY := fun hr => hid (FI.out.trans (finO_yes M [] hul hr))
      have FN := fun hr => hid (FI.out.trans (finO_no M [] hul hr))
      have pl : (ofL P).size ≤ 100000 := by rw [ofL_size]; exact unV_len hu
      obtain ⟨PB, hPB⟩ : ∃ b, b = ofL P := ⟨_, rfl⟩
      rw [← hPB] at FY FN pl ⊢
      clear hPB hu hul FI
      obtain ⟨PN, hPN⟩ : ∃ n, n = (R.size : Int) := ⟨_, rfl⟩
      rw [← hPN]
      clear hPN
      go_upto_region 24 with fail
      obtain ⟨W8, hW8⟩ : ∃ W, W = w8.alloc (.cells #[.bool true, .string PB, .int .i64 PN] 30) := ⟨_, rfl⟩
      have A2b : Hid (RowAt W8 w.heap.size 25 #[.string ⟨#[]⟩, .string ⟨#[]⟩, .slice none 0 0, .slice none 0 0, .string ⟨#[]⟩]) := by rw [hW8]; exact A2.out.alloc _
      have A4b : Hid (RowAt W8 (w.heap.size + 1) 25 #[.string M, .string ⟨#[]⟩, .slice none 0 0, .slice none 0 0, .string ⟨#[]⟩]) := by rw [hW8]; exact A4.out.alloc _
      have UU : Hid (RowAt W8 w8.heap.size 30 #[.bool true, .string PB, .int .i64 PN]) := by rw [hW8]; exact RowAt.new _ _ _
      have B9 : Hid (Below w.heap.size w W8) := by rw [hW8]; exact B8.out.alloc B8.out.size _
      have O9 := hid (World.ownsRow.alloc O8.out (.cells #[.bool true, .string PB, .int .i64 PN] 30))
      rw [← hW8] at O9
      have ux : Hid (w.heap.size + 1 < w8.heap.size) := A4.out.lt
      obtain ⟨U, hU⟩ : ∃ U, U = w8.heap.size := ⟨_, rfl⟩
      rw [← hW8]
      rw [← hU] at UU ux ⊢
      clear hW8 hU A2 A4 B8 O8
      have u1 := UU.out.cell 1
      have o1 := A4b.out.cell 1
      have f1 := A4b.out.free 1
      go_upto_region 25 with fail
      obtain ⟨W9, hW9⟩ : ∃ W, W = W8.setCell ⟨w.heap.size + 1, 1, none⟩ (.string PB) := ⟨_, rfl⟩
      have A2c : Hid (RowAt W9 w.heap.size 25 #[.string ⟨#[]⟩, .string ⟨#[]⟩, .slice none 0 0, .slice none 0 0, .string ⟨#[]⟩]) := by rw [hW9]; exact A2b.out.other _ _ (by dsimp only; omega)
      have A4c : Hid (RowAt W9 (w.heap.size + 1) 25 #[.string M, .string PB, .slice none 0 0, .slice none 0 0, .string ⟨#[]⟩]) := by rw [hW9]; exact A4b.out.set 1 _
      have UV : Hid (RowAt W9 U 30 #[.bool true, .string PB, .int .i64 PN]) := by rw [hW9]; exact UU.out.other _ _ (by have := ux.out; dsimp only; omega)
      have B10 : Hid (Below w.heap.size w W9) := by rw [hW9]; exact B9.out.setCell (by dsimp only; omega) _
      have O10 : Hid (OwnHp W9 (w.heap.size + 2) (.slice none 0 0) []) := by rw [hW9]; exact (OwnHp.mono O9.out (by omega)).setCell _ _ (by dsimp only; omega)
      rw [← hW9]
      clear u1 o1 f1 hW9 UU A2b A4b B9 O9
      have u0 : W9.cell? ⟨U, 0, none⟩ = some (.bool true) := UV.out.cell 0
      have k0 : W9.cell? ⟨w.heap.size + 1, 0, none⟩ = some (.string M) := A4c.out.cell 0
      have a0 := A2c.out.cell 0
      have g0 := A2c.out.free 0
      have k1 : W9.cell? ⟨w.heap.size + 1, 1, none⟩ = some (.string PB) := A4c.out.cell 1
      have a1 := A2c.out.cell 1
      have g1 := A2c.out.free 1
      have k2 : W9.cell? ⟨w.heap.size + 1, 2, none⟩ = some (.slice none 0 0) := A4c.out.cell 2
      have a2 := A2c.out.cell 2
      have g2 := A2c.out.free 2
      have k3 : W9.cell? ⟨w.heap.size + 1, 3, none⟩ = some (.slice none 0 0) := A4c.out.cell 3
      have a3 := A2c.out.cell 3
      have g3 := A2c.out.free 3
      have k4 : W9.cell? ⟨w.heap.size + 1, 4, none⟩ = some (.string ⟨#[]⟩) := A4c.out.cell 4
      have a4 := A2c.out.cell 4
      have g4 := A2c.out.free 4
      have n1 : w.heap.size + 1 ≠ w.heap.size := by omega
      have nU : U ≠ w.heap.size := by have := ux.out; omega
      have HP9 : Hid (Hps W9 none 0 0 (hAt [])) := by obtain ⟨a, c, e, h⟩ := O10.out.hps; cases e; exact h
      have hB9 : Hid (RqB ⟨M, PB, ⟨none, 0, 0, hAt []⟩, ⟨none, 0, 0, hAt []⟩, ⟨#[]⟩⟩ 1048576) := ⟨by dsimp only; omega, by dsimp only; omega, ⟨Nat.zero_le _, fun i hi => ⟨Nat.le_trans (LB.out _ (hAt_mem (L := []) hi)).1 (by omega), Nat.le_trans (LB.out _ (hAt_mem (L := []) hi)).2 (by omega)⟩⟩, ⟨Nat.zero_le _, fun i hi => absurd hi (Nat.not_lt_zero _)⟩, Nat.zero_le _⟩
      have KF := fun wx (hb : Below W9.heap.size W9 wx) => hid (sRqF ⟨M, PB, ⟨none, 0, 0, hAt []⟩, ⟨none, 0, 0, hAt []⟩, ⟨#[]⟩⟩ hB9.out wx ⟨HP9.out.below hb, ⟨Nat.le_refl _, .inl rfl⟩⟩)
      dsimp only at KF
      clear HP9 hB9
      by_cases hr : rqP ⟨M, PB, ⟨none, 0, 0, hAt []⟩, ⟨none, 0, 0, hAt []⟩, ⟨#[]⟩⟩
      · have F := FY hr
        simp only [rqV_t hr] at KF
        clear hr FY FN
        go_region_held3 (fun wx => wx.cell? ⟨w.heap.size + 1, 0, none⟩ = some (.string M) ∧ wx.cell? ⟨w.heap.size + 1, 1, none⟩ = some (.string PB) ∧ wx.cell? ⟨w.heap.size + 1, 2, none⟩ = some (.slice none 0 0) ∧ wx.cell? ⟨w.heap.size + 1, 3, none⟩ = some (.slice none 0 0) ∧ wx.cell? ⟨w.heap.size + 1, 4, none⟩ = some (.string ⟨#[]⟩) ∧ wx.cell? ⟨U, 0, none⟩ = some (.bool true))
          (first | with_reducible exact ⟨k0, k1, k2, k3, k4, u0⟩ | with_reducible exact ⟨drewC k0, drewC k1, drewC k2, drewC k3, drewC k4, drewC u0⟩ | with_reducible exact ⟨far5 k0 n1, far5 k1 n1, far5 k2 n1, far5 k3 n1, far5 k4 n1, far5 u0 nU⟩)
          ((go_at_call 26; (first | refine (KF _ (Below.refl _ _)).out.mono ?_ | refine (KF _ (Below.refl _ W9).drew).out.mono ?_); rintro e w11 ⟨rfl, hb11⟩; (first | have B9w : Hid (Below W9.heap.size W9 w11) := hb11 | have B9w : Hid (Below W9.heap.size W9 w11) := (Below.refl _ W9).drew.trans hb11); replace A4c := hid (A4c.out.below B9w.out A4c.out.lt); replace A2c := hid (A2c.out.below B9w.out A2c.out.lt); replace UV := hid (UV.out.below B9w.out UV.out.lt); replace O10 := hid (OwnHp.next B9w.out O10.out); replace B10 := hid (B10.out.trans (B9w.out.mono B10.out.size)); clear hb11; replace k0 : w11.cell? ⟨w.heap.size + 1, 0, none⟩ = some (.string M) := A4c.out.cell 0; replace k1 : w11.cell? ⟨w.heap.size + 1, 1, none⟩ = some (.string PB) := A4c.out.cell 1; replace k2 : w11.cell? ⟨w.heap.size + 1, 2, none⟩ = some (.slice none 0 0) := A4c.out.cell 2; replace k3 : w11.cell? ⟨w.heap.size + 1, 3, none⟩ = some (.slice none 0 0) := A4c.out.cell 3; replace k4 : w11.cell? ⟨w.heap.size + 1, 4, none⟩ = some (.string ⟨#[]⟩) := A4c.out.cell 4; replace u0 : w11.cell? ⟨U, 0, none⟩ = some (.bool true) := UV.out.cell 0; replace a0 := A2c.out.cell 0; replace a1 := A2c.out.cell 1; replace a2 := A2c.out.cell 2; replace a3 := A2c.out.cell 3; replace a4 := A2c.out.cell 4; replace g0 := A2c.out.free 0; replace g1 := A2c.out.free 1; replace g2 := A2c.out.free 2; replace g3 := A2c.out.free 3; replace g4 := A2c.out.free 4))
        all_goals go_wp2
        all_goals first | exact fst_ret (fst_set A2c.out) (five_own0 (O10.out.mono (by omega))) (five_below0 B10.out) ⟨fun _ => F.out, fun h => Bool.noConfusion h⟩ rfl rfl | exact fst_ret (fst_set A2c.out).drew (five_own (O10.out.mono (by omega))) (five_below B10.out) ⟨fun _ => F.out, fun h => Bool.noConfusion h⟩ rfl rfl
      · have F := FN hr
        simp only [rqV_f hr] at KF
        clear hr FY FN
        go_region_held3 (fun wx => wx.cell? ⟨w.heap.size + 1, 0, none⟩ = some (.string M) ∧ wx.cell? ⟨w.heap.size + 1, 1, none⟩ = some (.string PB) ∧ wx.cell? ⟨w.heap.size + 1, 2, none⟩ = some (.slice none 0 0) ∧ wx.cell? ⟨w.heap.size + 1, 3, none⟩ = some (.slice none 0 0) ∧ wx.cell? ⟨w.heap.size + 1, 4, none⟩ = some (.string ⟨#[]⟩) ∧ wx.cell? ⟨U, 0, none⟩ = some (.bool true))
          (first | with_reducible exact ⟨k0, k1, k2, k3, k4, u0⟩ | with_reducible exact ⟨drewC k0, drewC k1, drewC k2, drewC k3, drewC k4, drewC u0⟩ | with_reducible exact ⟨far5 k0 n1, far5 k1 n1, far5 k2 n1, far5 k3 n1, far5 k4 n1, far5 u0 nU⟩)
          ((go_at_call 26; (first | refine (KF _ (Below.refl _ _)).out.mono ?_ | refine (KF _ (Below.refl _ W9).drew).out.mono ?_); rintro e w11 ⟨rfl, hb11⟩; (first | have B9w : Hid (Below W9.heap.size W9 w11) := hb11 | have B9w : Hid (Below W9.heap.size W9 w11) := (Below.refl _ W9).drew.trans hb11); replace A4c := hid (A4c.out.below B9w.out A4c.out.lt); replace A2c := hid (A2c.out.below B9w.out A2c.out.lt); replace UV := hid (UV.out.below B9w.out UV.out.lt); replace O10 := hid (OwnHp.next B9w.out O10.out); replace B10 := hid (B10.out.trans (B9w.out.mono B10.out.size)); clear hb11; replace k0 : w11.cell? ⟨w.heap.size + 1, 0, none⟩ = some (.string M) := A4c.out.cell 0; replace k1 : w11.cell? ⟨w.heap.size + 1, 1, none⟩ = some (.string PB) := A4c.out.cell 1; replace k2 : w11.cell? ⟨w.heap.size + 1, 2, none⟩ = some (.slice none 0 0) := A4c.out.cell 2; replace k3 : w11.cell? ⟨w.heap.size + 1, 3, none⟩ = some (.slice none 0 0) := A4c.out.cell 3; replace k4 : w11.cell? ⟨w.heap.size + 1, 4, none⟩ = some (.string ⟨#[]⟩) := A4c.out.cell 4; replace u0 : w11.cell? ⟨U, 0, none⟩ = some (.bool true) := UV.out.cell 0; replace a0 := A2c.out.cell 0; replace a1 := A2c.out.cell 1; replace a2 := A2c.out.cell 2; replace a3 := A2c.out.cell 3; replace a4 := A2c.out.cell 4; replace g0 := A2c.out.free 0; replace g1 := A2c.out.free 1; replace g2 := A2c.out.free 2; replace g3 := A2c.out.free 3; replace g4 := A2c.out.free 4))
        all_goals go_wp2
        all_goals first | exact fst_ret (fst_set A2c.out) (five_own0 (O10.out.mono (by omega))) (five_below0 B10.out) ⟨fun h => Bool.noConfusion h, fun _ => F.out⟩ rfl rfl | exact fst_ret (fst_set A2c.out).drew (five_own (O10.out.mono (by omega))) (five_below B10.out) ⟨fun h => Bool.noConfusion h, fun _ => F.out⟩ rfl rfl
  have C2 := hid hc
  clear hz hc K2
  have hj' : j + 1 ≤ R.size := hj
  have j0 : (0 : Int) ≤ (j : Int) := by omega
  have j1 : (j : Int) ≤ (R.size : Int) := by omega
  have j2 : (j : Int) + 1 ≤ (R.size : Int) := by omega
  have ps : (R.extract 0 j).size ≤ 400000 := by rw [ByteArray.size_extract]; omega
  have ss : (R.extract (j + 1) R.size).size ≤ 400000 := by rw [ByteArray.size_extract]; omega
  have FQ : Hid (fstO t.data.toList = finO M (R.extract 0 j).data.toList (qyO (splA 38 [] (R.extract (j + 1) R.size).data.toList))) := by
    show _ = _
    rw [fstO_query C1.out C2.out, HM.out]
    rfl
  clear C1 C2 HM
  go_wp2_with fail
  generalize R.extract 0 j = PT at FQ ps ⊢
  generalize R.extract (j + 1) R.size = S at FQ ss ⊢
  clear j0 j1 j2 hj hj' rs
  have KS : Hid (Calls Tryz.prog 76 #[.string S, .int .u8 38] W1 fun e w' => (∃ v, e = .returned v ∧ OwnStrs w' W1.heap.size v (splB 38 S)) ∧ Below W1.heap.size W1 w') := sSplit S (by omega) 38 W1
  refine KS.out.mono ?_
  rintro e w3 ⟨⟨vS, rfl, hOS⟩, hb3⟩
  obtain ⟨AL, hAL⟩ : ∃ A, A = splA 38 [] S.data.toList := ⟨_, rfl⟩
  have hsb : splB 38 S = AL.map ofL := by rw [hAL]; rfl
  have hal := splA_len 38 S.data.toList []
  have hmem := splA_mem 38 S.data.toList []
  rw [← hAL] at FQ hal hmem
  rw [hsb] at hOS
  have hl : (AL.map ofL).length = AL.length := by simp
  obtain ⟨aS, cS, rfl⟩ := hOS.slice
  obtain ⟨gS, rfl, hgS, _, hSt⟩ := hOS.strs (ts := fun i => ofL (AL.getD i [])) (by rw [hl]; omega) (fun i hi => by
    rw [hl] at hi
    rw [List.getElem?_map, List.getElem?_eq_getElem hi, List.getD_eq_getElem?_getD, List.getElem?_eq_getElem hi]; rfl)
  rw [hl] at hSt
  rw [hl]
  obtain ⟨nS, hnS⟩ : ∃ n, n = AL.length := ⟨_, rfl⟩
  rw [← hnS] at hSt hal ⊢
  have TZ : Hid (∀ i, i < nS → (ofL (AL.getD i [])).size ≤ 400000 ∧ AL.drop i = AL.getD i [] :: AL.drop (i + 1)) := fun i hi => by
    have hi2 : i < AL.length := by omega
    have e : AL.getD i [] = AL[i] := by rw [List.getD_eq_getElem?_getD, List.getElem?_eq_getElem hi2]; rfl
    rw [e]
    refine ⟨?_, List.drop_eq_getElem_cons hi2⟩
    rw [ofL_size]
    have := hmem _ (List.getElem_mem hi2)
    rw [baLen] at this
    simp at this
    omega
  have nS9 : nS ≤ 400001 := by have := hal.2; rw [baLen] at this; omega
  have DN : Hid (AL.drop nS = []) := by rw [hnS]; exact List.drop_length
  have A2d := hid (A2a.out.below hb3 A2a.out.lt)
  have A4d := hid (A4a.out.below hb3 A4a.out.lt)
  have B3d := hid (B1.out.trans (hb3.mono B1.out.size))
  have ST := hid hSt
  have gS1 : w.heap.size + 1 < gS := Nat.lt_of_lt_of_le A4a.out.lt hgS
  have gS2 : gS < w3.heap.size := by
    rcases hSt.2 with q | ⟨b, off, e, h1, _⟩
    · omega
    · cases e; exact h1
  obtain ⟨B3, hB3⟩ : ∃ b, b = w3.heap.size := ⟨_, rfl⟩
  have gS3 : gS < B3 := by omega
  have B3s : B3 ≤ w3.heap.size := by omega
  have TSz := TZ
  clear hOS hb3 hAL hsb hal hmem hl hnS hSt A2a A4a B1 KS hgS gS2 hB3
  go_wp2_with fail
  go_loopw [10] (fun iv wr => ∃ (i : Nat) (v : Value) (L : List Hp), i ≤ nS ∧ iv = .int .i64 (i : Int) ∧ OwnHp wr B3 v L ∧ RowAt wr w.heap.size 25 #[.string ⟨#[]⟩, .string ⟨#[]⟩, .slice none 0 0, .slice none 0 0, .string ⟨#[]⟩] ∧ RowAt wr (w.heap.size + 1) 25 #[.string M, .string ⟨#[]⟩, v, .slice none 0 0, .string ⟨#[]⟩] ∧ Strs wr (some ⟨gS, 0, none⟩) nS cS (fun i => ofL (AL.getD i [])) ∧ Below w.heap.size w wr ∧ B3 ≤ wr.heap.size ∧ qyO AL = (qyO (AL.drop i)).map (fun N => L ++ N) ∧ L.length ≤ i ∧ ∀ q, q ∈ L → q.nm.size ≤ 100000 ∧ q.vl.size ≤ 100000) (fun iv _ => nS - (intOf iv).toNat)
  case atStart => exact ⟨0, _, [], Nat.zero_le _, rfl, OwnHp.nil _ _, A2d.out, A4d.out, ST.out, B3d.out, B3s, by simp, Nat.le_refl _, fun q hq => absurd hq (by simp)⟩
  case round =>
    obtain ⟨i', v, L, hi, rfl, hO, hA2, hA4, hST, hBe, hB3w, hQ, hLl, hLs⟩ := hrel
    clear A2d A4d B3d ST B3s
    have OW := hid hO
    have A2 := hid hA2
    have A4 := hid hA4
    have ST := hid hST
    have BW := hid hBe
    have HQ := hid hQ
    have LB := hid hLs
    clear hO hA2 hA4 hST hBe hQ hLs
    have hB3 : w.heap.size + 2 ≤ B3 := by omega
    by_cases hlt : i' < nS
    · have d3 : (i' : Int) < (nS : Int) := by omega
      obtain ⟨av, vc, rfl, _⟩ := OW.out.hps
      obtain ⟨nL, hnL⟩ : ∃ n, n = L.length := ⟨_, rfl⟩
      rw [← hnL] at A4 hLl
      replace OW : Hid (OwnHp wr B3 (.slice av nL vc) L) := by rw [hnL]; exact OW.out
      have HnL := hid hnL
      clear hnL
      have i0 : (0 : Int) ≤ (i' : Int) := by omega
      obtain ⟨_, hc⟩ : nS ≤ cS ∧ ∀ k, k < nS → wr.cell? ⟨gS, k, none⟩ = some (.string (ofL (AL.getD k []))) := by
        refine ⟨ST.out.1, fun k hk => ?_⟩
        rcases ST.out.2 with q | ⟨b, off, e, _, h2⟩
        · omega
        · cases e
          have := h2 k hk
          rw [Nat.zero_add] at this
          exact this
      have c0 := hc i' hlt
      clear hc
      have sz := (TSz.out i' hlt).1
      have AD := hid (TSz.out i' hlt).2
      have HX : Hid ((ofL (AL.getD i' [])).data.toList = AL.getD i' []) := ofL_l _
      obtain ⟨x, hx⟩ : ∃ x, x = ofL (AL.getD i' []) := ⟨_, rfl⟩
      rw [← hx] at c0 sz HX
      rw [← HX.out] at AD
      clear hx HX
      have K3 := hid (sIdx x ⟨#[61]⟩ 0 (by omega) (by decide) (by decide) (Nat.zero_le _) 0 rfl wr)
      go_wp2_with fail
      refine K3.out.mono ?_
      rintro e w4 ⟨⟨z, rfl, hz⟩, hw4⟩
      obtain rfl := hw4.symm
      rcases idx0 hz with ⟨rfl, hcp⟩ | ⟨k, rfl, hk, hcp⟩
      · have F : Hid (fstO t.data.toList = none) := by
          show _ = _
          rw [FQ.out, HQ.out, AD.out, qyO_none1 hcp]
          rfl
        clear hz hcp K3
        have k0 := A4.out.cell 0
        have k1 := A4.out.cell 1
        have k2 := A4.out.cell 2
        have k3 := A4.out.cell 3
        have k4 := A4.out.cell 4
        go_wp2_with (refine wpList_store_row rfl 25 (.tmp 2) (.tmp 55) rfl w.heap.size #[.string M, .string ⟨#[]⟩, .slice av nL vc, .slice none 0 0, .string ⟨#[]⟩] rfl rfl _ _ A2.out (by kernel_rfl) rfl (by simp [Value.oneCell']) ?_)
        have RR := A2.out.setRow #[.string M, .string ⟨#[]⟩, .slice av nL vc, .slice none 0 0, .string ⟨#[]⟩]
        exact fst_ret RR (OwnHp.setRow (OW.out.mono (by omega)) (by omega) _) (below_setRow BW.out _ _ (Nat.le_refl _)) (⟨fun h => Bool.noConfusion h, fun _ => F.out⟩) rfl rfl
      have C3 := hid hcp
      clear hz hcp K3
      have hk' : k + 1 ≤ x.size := hk
      have k0 : (0 : Int) ≤ (k : Int) := by omega
      have k1 : (k : Int) ≤ (x.size : Int) := by omega
      have k2 : (k : Int) + 1 ≤ (x.size : Int) := by omega
      have ns : (x.extract 0 k).size ≤ 400000 := by rw [ByteArray.size_extract]; omega
      have ys : (x.extract (k + 1) x.size).size ≤ 400000 := by rw [ByteArray.size_extract]; omega
      replace C3 : Hid (cutP [61] x.data.toList = some ((x.extract 0 k).data.toList, (x.extract (k + 1) x.size).data.toList)) := C3.out
      have KN := fun wx => hid (sUn (x.extract 0 k) (by omega) wx)
      have KY := fun wx => hid (sUn (x.extract (k + 1) x.size) (by omega) wx)
      obtain ⟨b1, t1, z1, hu1, hm1⟩ := unO_all (x.extract 0 k)
      obtain ⟨b2, t2, z2, hu2, hm2⟩ := unO_all (x.extract (k + 1) x.size)
      rw [hu1] at KN
      rw [hu2] at KY
      have M1 := hid hm1
      have M2 := hid hm2
      clear hu1 hu2 hm1 hm2
      go_wp2_with fail
      refine (KN _).out.mono ?_
      rintro e w5 ⟨rfl, hb5⟩
      have A2e := hid (A2.out.below hb5 A2.out.lt)
      have A4e := hid (A4.out.below hb5 A4.out.lt)
      have STe := hid (ST.out.below hb5)
      have BWe := hid (BW.out.trans (hb5.mono BW.out.size))
      have OWe := hid (OwnHp.next hb5 OW.out)
      have gw : gS < wr.heap.size := by omega
      have c0e : w5.cell? ⟨gS, i', none⟩ = some (.string x) := (hb5.cell (p := ⟨gS, i', none⟩) gw).trans c0
      have B3e : B3 ≤ w5.heap.size := Nat.le_trans hB3w hb5.size
      clear hb5 A2 A4 ST BW OW c0 gw
      go_upto_region 19 with fail
      obtain ⟨W5, hW5⟩ : ∃ W, W = w5.alloc (.cells #[.bool b1, .string t1, .int .i64 z1] 30) := ⟨_, rfl⟩
      have B5 : Hid (Below w5.heap.size w5 W5) := by rw [hW5]; exact (Below.refl _ _).alloc (Nat.le_refl _) _
      have NR : Hid (RowAt W5 w5.heap.size 30 #[.bool b1, .string t1, .int .i64 z1]) := by rw [hW5]; exact RowAt.new _ _ _
      have A2 := hid (A2e.out.below B5.out A2e.out.lt)
      have A4 := hid (A4e.out.below B5.out A4e.out.lt)
      have ST := hid (STe.out.below B5.out)
      have BW := hid (BWe.out.trans (B5.out.mono BWe.out.size))
      have OW := hid (OwnHp.next B5.out OWe.out)
      have gw : gS < w5.heap.size := by omega
      have c0 : W5.cell? ⟨gS, i', none⟩ = some (.string x) := (B5.out.cell (p := ⟨gS, i', none⟩) gw).trans c0e
      have B3f : B3 ≤ W5.heap.size := Nat.le_trans B3e B5.out.size
      obtain ⟨XN, hXN⟩ : ∃ X, X = w5.heap.size := ⟨_, rfl⟩
      rw [← hW5]
      rw [← hXN] at NR ⊢
      have XN1 : w.heap.size + 1 < XN := by omega
      have XN2 : XN < W5.heap.size := NR.out.lt
      clear hW5 B5 A2e A4e STe BWe OWe c0e gw hXN B3e
      go_wp2_with fail
      refine (KY _).out.mono ?_
      rintro e w6 ⟨rfl, hb6⟩
      have A2e := hid (A2.out.below hb6 A2.out.lt)
      have A4e := hid (A4.out.below hb6 A4.out.lt)
      have STe := hid (ST.out.below hb6)
      have BWe := hid (BW.out.trans (hb6.mono BW.out.size))
      have OWe := hid (OwnHp.next hb6 OW.out)
      have NRe := hid (NR.out.below hb6 NR.out.lt)
      have B3e : B3 ≤ w6.heap.size := Nat.le_trans B3f hb6.size
      have XN3 : XN < w6.heap.size := Nat.lt_of_lt_of_le XN2 hb6.size
      clear hb6 A2 A4 ST BW OW c0 NR XN2
      go_upto_region 20 with fail
      obtain ⟨W6, hW6⟩ : ∃ W, W = w6.alloc (.cells #[.bool b2, .string t2, .int .i64 z2] 30) := ⟨_, rfl⟩
      have B6 : Hid (Below w6.heap.size w6 W6) := by rw [hW6]; exact (Below.refl _ _).alloc (Nat.le_refl _) _
      have YR : Hid (RowAt W6 w6.heap.size 30 #[.bool b2, .string t2, .int .i64 z2]) := by rw [hW6]; exact RowAt.new _ _ _
      have A2 := hid (A2e.out.below B6.out A2e.out.lt)
      have A4 := hid (A4e.out.below B6.out A4e.out.lt)
      have ST := hid (STe.out.below B6.out)
      have BW := hid (BWe.out.trans (B6.out.mono BWe.out.size))
      have OW := hid (OwnHp.next B6.out OWe.out)
      have NR := hid (NRe.out.below B6.out NRe.out.lt)
      have B3g : B3 ≤ W6.heap.size := Nat.le_trans B3e B6.out.size
      obtain ⟨XY, hXY⟩ : ∃ X, X = w6.heap.size := ⟨_, rfl⟩
      rw [← hW6]
      rw [← hXY] at YR ⊢
      have XY1 : w.heap.size + 1 < XY := by omega
      clear hW6 B6 A2e A4e STe BWe OWe NRe hXY B3e B3f
      have n0 : W6.cell? ⟨XN, 0, none⟩ = some (.bool b1) := NR.out.cell 0
      have y0 : W6.cell? ⟨XY, 0, none⟩ = some (.bool b2) := YR.out.cell 0
      rcases M1.out with ⟨rfl, hn1⟩ | ⟨rfl, l1, hn1, rfl, hs1⟩
      · have F : Hid (fstO t.data.toList = none) := by
          show _ = _
          rw [FQ.out, HQ.out, AD.out, qyO_none2 C3.out hn1]
          rfl
        clear hn1
        have k0 := A4.out.cell 0
        have k1 := A4.out.cell 1
        have k2 := A4.out.cell 2
        have k3 := A4.out.cell 3
        have k4 := A4.out.cell 4
        go_wp2_with (refine wpList_store_row rfl 25 (.tmp 2) (.tmp 79) rfl w.heap.size #[.string M, .string ⟨#[]⟩, .slice av nL vc, .slice none 0 0, .string ⟨#[]⟩] rfl rfl _ _ A2.out (by kernel_rfl) rfl (by simp [Value.oneCell']) ?_)
        have RR := A2.out.setRow #[.string M, .string ⟨#[]⟩, .slice av nL vc, .slice none 0 0, .string ⟨#[]⟩]
        exact fst_ret RR (OwnHp.setRow (OW.out.mono (by omega)) (by omega) _) (below_setRow BW.out _ _ (Nat.le_refl _)) (⟨fun h => Bool.noConfusion h, fun _ => F.out⟩) rfl rfl
      rcases M2.out with ⟨rfl, hn2⟩ | ⟨rfl, l2, hn2, rfl, hs2⟩
      · have F : Hid (fstO t.data.toList = none) := by
          show _ = _
          rw [FQ.out, HQ.out, AD.out, qyO_none3 C3.out hn1 hn2]
          rfl
        clear hn1 hn2
        have k0 := A4.out.cell 0
        have k1 := A4.out.cell 1
        have k2 := A4.out.cell 2
        have k3 := A4.out.cell 3
        have k4 := A4.out.cell 4
        go_wp2_with (refine wpList_store_row rfl 25 (.tmp 2) (.tmp 79) rfl w.heap.size #[.string M, .string ⟨#[]⟩, .slice av nL vc, .slice none 0 0, .string ⟨#[]⟩] rfl rfl _ _ A2.out (by kernel_rfl) rfl (by simp [Value.oneCell']) ?_)
        have RR := A2.out.setRow #[.string M, .string ⟨#[]⟩, .slice av nL vc, .slice none 0 0, .string ⟨#[]⟩]
        exact fst_ret RR (OwnHp.setRow (OW.out.mono (by omega)) (by omega) _) (below_setRow BW.out _ _ (Nat.le_refl _)) (⟨fun h => Bool.noConfusion h, fun _ => F.out⟩) rfl rfl
      have NQ : Hid (qyO AL = (qyO (AL.drop (i' + 1))).map (fun N => (L ++ [(⟨ofL l1, ofL l2⟩ : Hp)]) ++ N)) := by
        show _ = _
        rw [HQ.out, AD.out, qyO_some C3.out hn1 hn2, Option.map_map]
        congr 1
        funext N
        simp
      have NL : Hid ((L ++ [(⟨ofL l1, ofL l2⟩ : Hp)]).length ≤ i' + 1) := by show _ ≤ _; rw [List.length_append, ← HnL.out]; simp; omega
      have NB : Hid (∀ q, q ∈ L ++ [(⟨ofL l1, ofL l2⟩ : Hp)] → q.nm.size ≤ 100000 ∧ q.vl.size ≤ 100000) := fun q hq => by
        rcases List.mem_append.1 hq with hq | hq
        · exact LB.out q hq
        · rw [List.mem_singleton.1 hq]; exact ⟨hs1, hs2⟩
      obtain ⟨T1, hT1⟩ : ∃ T, T = ofL l1 := ⟨_, rfl⟩
      obtain ⟨T2, hT2⟩ : ∃ T, T = ofL l2 := ⟨_, rfl⟩
      rw [← hT1] at NR NQ NL NB
      rw [← hT2] at YR NQ NL NB
      clear hT1 hT2 hn1 hn2 hs1 hs2 M1 M2
      have n1 : W6.cell? ⟨XN, 1, none⟩ = some (.string T1) := NR.out.cell 1
      have y1 : W6.cell? ⟨XY, 1, none⟩ = some (.string T2) := YR.out.cell 1
      have o2 : W6.cell? ⟨w.heap.size + 1, 2, none⟩ = some (.slice av nL vc) := A4.out.cell 2
      have LL : nL + 1 ≤ 1048576 := by omega
      go_wp2_with (first | (at_builtin; refine append_hp1 B3 W6 rfl (.tmp 81) (.tmp 87) 23 rfl Tryz.underlying23 Tryz.infoHpF _ L T1 T2 rfl OW.out B3g rfl (by rw [← HnL.out]; exact LL) ?_) | go_in)
      intro v7 w7 hO7 hg7
      have A2f := hid (row_grown A2.out hg7 (OwnHp.apart OW.out (by omega)))
      have A4f := hid (row_grown A4.out hg7 (OwnHp.apart OW.out (by omega)))
      have STf := hid (strs_grown ST.out hg7 (OwnHp.apart OW.out gS3))
      have BWf := hid (BW.out.grown hg7 BW.out.size fun k hk => by have := (World.ownsRow.lt OW.out k hk).1; omega)
      have OWf := hid hO7
      have B3h : B3 ≤ w7.heap.size := Nat.le_trans B3g hg7.size
      clear hO7 hg7 A2 A4 ST BW OW n0 n1 y0 y1 o2 NR YR
      have o2 := A4f.out.cell 2
      have f2 := A4f.out.free 2
      obtain ⟨v7a, v7c, hv7, _⟩ := OWf.out.hps
      obtain ⟨n7, hn7⟩ : ∃ n, n = (L ++ [(⟨T1, T2⟩ : Hp)]).length := ⟨_, rfl⟩
      rw [← hn7] at hv7
      subst hv7
      clear hn7
      go_wp2
      go_roundw
      case rel => exact ⟨i' + 1, .slice v7a n7 v7c, L ++ [(⟨T1, T2⟩ : Hp)], by omega, by go_num, OWf.out.setCell _ _ (by dsimp only; omega), A2f.out.other _ _ (by dsimp only; omega), A4f.out.set 2 _, strs_set STf.out (by omega), BWf.out.setCell (by dsimp only; omega) _, by simpa using B3h, NQ.out, NL.out, NB.out⟩
      case measure => simp [intOf]; omega
    · have d3 : ¬ (i' : Int) < (nS : Int) := by omega
      have ei : i' = nS := by omega
      have FI : Hid (fstO t.data.toList = finO M PT.data.toList (some L)) := by
        show _ = _
        rw [FQ.out, HQ.out, ei, DN.out]
        simp [qyO]
      obtain ⟨av, vc, rfl, _⟩ := OW.out.hps
      have OX := hid (OW.out.mono hB3)
      have A2x := A2
      have A4x := A4
      have BX := BW
      clear ei HQ FQ DN ST TSz TZ A2 A4 BW OW
      go_wp2_with fail
      have KU := hid (sUn PT (by omega) wr)
      refine KU.out.mono ?_
      rintro e w8 ⟨rfl, hb8⟩
      have A2 := hid (A2x.out.below hb8 A2x.out.lt)
      have A4 := hid (A4x.out.below hb8 A4x.out.lt)
      have B8 := hid (BX.out.trans (hb8.mono BX.out.size))
      have O8 := hid (OwnHp.next hb8 OX.out)
      clear hb8 KU A2x A4x BX OX
      cases hu : unV PT with
      | none =>
        rw [unO_none hu]
        have F : Hid (fstO t.data.toList = none) := FI.out.trans (finO_none2 _ _ (by unfold unL; rw [← ofL_of (b := PT) rfl]; exact hu))
        clear hu FI
        go_upto_region 24 with fail
        obtain ⟨W8, hW8⟩ : ∃ W, W = w8.alloc (.cells #[.bool false, .string ⟨#[]⟩, .int .i64 0] 30) := ⟨_, rfl⟩
        have A2b : Hid (RowAt W8 w.heap.size 25 #[.string ⟨#[]⟩, .string ⟨#[]⟩, .slice none 0 0, .slice none 0 0, .string ⟨#[]⟩]) := by rw [hW8]; exact A2.out.alloc _
        have A4b : Hid (RowAt W8 (w.heap.size + 1) 25 #[.string M, .string ⟨#[]⟩, .slice av L.length vc, .slice none 0 0, .string ⟨#[]⟩]) := by rw [hW8]; exact A4.out.alloc _
        have UU : Hid (RowAt W8 w8.heap.size 30 #[.bool false, .string ⟨#[]⟩, .int .i64 0]) := by rw [hW8]; exact RowAt.new _ _ _
        have B9 : Hid (Below w.heap.size w W8) := by rw [hW8]; exact B8.out.alloc B8.out.size _
        have O9 := hid (World.ownsRow.alloc O8.out (.cells #[.bool false, .string ⟨#[]⟩, .int .i64 0] 30))
        rw [← hW8] at O9
        have ux : Hid (w.heap.size + 1 < w8.heap.size) := A4.out.lt
        obtain ⟨U, hU⟩ : ∃ U, U = w8.heap.size := ⟨_, rfl⟩
        rw [← hW8]
        rw [← hU] at UU ux ⊢
        clear hW8 hU A2 A4 B8 O8
        have u1 := UU.out.cell 1
        have o1 := A4b.out.cell 1
        have f1 := A4b.out.free 1
        go_upto_region 25 with fail
        obtain ⟨W9, hW9⟩ : ∃ W, W = W8.setCell ⟨w.heap.size + 1, 1, none⟩ (.string ⟨#[]⟩) := ⟨_, rfl⟩
        have A2c : Hid (RowAt W9 w.heap.size 25 #[.string ⟨#[]⟩, .string ⟨#[]⟩, .slice none 0 0, .slice none 0 0, .string ⟨#[]⟩]) := by rw [hW9]; exact A2b.out.other _ _ (by dsimp only; omega)
        have A4c : Hid (RowAt W9 (w.heap.size + 1) 25 #[.string M, .string ⟨#[]⟩, .slice av L.length vc, .slice none 0 0, .string ⟨#[]⟩]) := by rw [hW9]; exact A4b.out.set 1 _
        have UV : Hid (RowAt W9 U 30 #[.bool false, .string ⟨#[]⟩, .int .i64 0]) := by rw [hW9]; exact UU.out.other _ _ (by have := ux.out; dsimp only; omega)
        have B10 : Hid (Below w.heap.size w W9) := by rw [hW9]; exact B9.out.setCell (by dsimp only; omega) _
        have O10 : Hid (OwnHp W9 (w.heap.size + 2) (.slice av L.length vc) L) := by rw [hW9]; exact (OwnHp.mono O9.out (by omega)).setCell _ _ (by dsimp only; omega)
        rw [← hW9]
        clear u1 o1 f1 hW9 UU A2b A4b B9 O9
        have u0 : W9.cell? ⟨U, 0, none⟩ = some (.bool false) := UV.out.cell 0
        have k0 : W9.cell? ⟨w.heap.size + 1, 0, none⟩ = some (.string M) := A4c.out.cell 0
        have a0 := A2c.out.cell 0
        have g0 := A2c.out.free 0
        have k1 : W9.cell? ⟨w.heap.size + 1, 1, none⟩ = some (.string ⟨#[]⟩) := A4c.out.cell 1
        have a1 := A2c.out.cell 1
        have g1 := A2c.out.free 1
        have k2 : W9.cell? ⟨w.heap.size + 1, 2, none⟩ = some (.slice av L.length vc) := A4c.out.cell 2
        have a2 := A2c.out.cell 2
        have g2 := A2c.out.free 2
        have k3 : W9.cell? ⟨w.heap.size + 1, 3, none⟩ = some (.slice none 0 0) := A4c.out.cell 3
        have a3 := A2c.out.cell 3
        have g3 := A2c.out.free 3
        have k4 : W9.cell? ⟨w.heap.size + 1, 4, none⟩ = some (.string ⟨#[]⟩) := A4c.out.cell 4
        have a4 := A2c.out.cell 4
        have g4 := A2c.out.free 4
        have n1 : w.heap.size + 1 ≠ w.heap.size := by omega
        have nU : U ≠ w.heap.size := by have := ux.out; omega
        go_region
        all_goals go_wp2
        all_goals exact fst_ret (fst_set A2c.out).drew (five_own (O10.out.mono (by omega))) (five_below B10.out) ⟨fun h => Bool.noConfusion h, fun _ => F.out⟩ rfl rfl
      | some P =>
        rw [show unO PT = .agg #[.bool true, .string (ofL P), .int .i64 (PT.size : Int)] from unO_some hu]
        have hul : unL PT.data.toList = some P := by unfold unL; rw [← ofL_of (b := PT) rfl]; exact hu
        have FY := fun hr => hid (FI.out.trans (finO_yes M L hul hr))
        have FN := fun hr => hid (FI.out.trans (finO_no M L hul hr))
        have pl : (ofL P).size ≤ 100000 := by rw [ofL_size]; exact unV_len hu
        obtain ⟨PB, hPB⟩ : ∃ b, b = ofL P := ⟨_, rfl⟩
        rw [← hPB] at FY FN pl ⊢
        clear hPB hu hul FI
        obtain ⟨PN, hPN⟩ : ∃ n, n = (PT.size : Int) := ⟨_, rfl⟩
        rw [← hPN]
        clear hPN
        go_upto_region 24 with fail
        obtain ⟨W8, hW8⟩ : ∃ W, W = w8.alloc (.cells #[.bool true, .string PB, .int .i64 PN] 30) := ⟨_, rfl⟩
        have A2b : Hid (RowAt W8 w.heap.size 25 #[.string ⟨#[]⟩, .string ⟨#[]⟩, .slice none 0 0, .slice none 0 0, .string ⟨#[]⟩]) := by rw [hW8]; exact A2.out.alloc _
        have A4b : Hid (RowAt W8 (w.heap.size + 1) 25 #[.string M, .string ⟨#[]⟩, .slice av L.length vc, .slice none 0 0, .string ⟨#[]⟩]) := by rw [hW8]; exact A4.out.alloc _
        have UU : Hid (RowAt W8 w8.heap.size 30 #[.bool true, .string PB, .int .i64 PN]) := by rw [hW8]; exact RowAt.new _ _ _
        have B9 : Hid (Below w.heap.size w W8) := by rw [hW8]; exact B8.out.alloc B8.out.size _
        have O9 := hid (World.ownsRow.alloc O8.out (.cells #[.bool true, .string PB, .int .i64 PN] 30))
        rw [← hW8] at O9
        have ux : Hid (w.heap.size + 1 < w8.heap.size) := A4.out.lt
        obtain ⟨U, hU⟩ : ∃ U, U = w8.heap.size := ⟨_, rfl⟩
        rw [← hW8]
        rw [← hU] at UU ux ⊢
        clear hW8 hU A2 A4 B8 O8
        have u1 := UU.out.cell 1
        have o1 := A4b.out.cell 1
        have f1 := A4b.out.free 1
        go_upto_region 25 with fail
        obtain ⟨W9, hW9⟩ : ∃ W, W = W8.setCell ⟨w.heap.size + 1, 1, none⟩ (.string PB) := ⟨_, rfl⟩
        have A2c : Hid (RowAt W9 w.heap.size 25 #[.string ⟨#[]⟩, .string ⟨#[]⟩, .slice none 0 0, .slice none 0 0, .string ⟨#[]⟩]) := by rw [hW9]; exact A2b.out.other _ _ (by dsimp only; omega)
        have A4c : Hid (RowAt W9 (w.heap.size + 1) 25 #[.string M, .string PB, .slice av L.length vc, .slice none 0 0, .string ⟨#[]⟩]) := by rw [hW9]; exact A4b.out.set 1 _
        have UV : Hid (RowAt W9 U 30 #[.bool true, .string PB, .int .i64 PN]) := by rw [hW9]; exact UU.out.other _ _ (by have := ux.out; dsimp only; omega)
        have B10 : Hid (Below w.heap.size w W9) := by rw [hW9]; exact B9.out.setCell (by dsimp only; omega) _
        have O10 : Hid (OwnHp W9 (w.heap.size + 2) (.slice av L.length vc) L) := by rw [hW9]; exact (OwnHp.mono O9.out (by omega)).setCell _ _ (by dsimp only; omega)
        rw [← hW9]
        clear u1 o1 f1 hW9 UU A2b A4b B9 O9
        have u0 : W9.cell? ⟨U, 0, none⟩ = some (.bool true) := UV.out.cell 0
        have k0 : W9.cell? ⟨w.heap.size + 1, 0, none⟩ = some (.string M) := A4c.out.cell 0
        have a0 := A2c.out.cell 0
        have g0 := A2c.out.free 0
        have k1 : W9.cell? ⟨w.heap.size + 1, 1, none⟩ = some (.string PB) := A4c.out.cell 1
        have a1 := A2c.out.cell 1
        have g1 := A2c.out.free 1
        have k2 : W9.cell? ⟨w.heap.size + 1, 2, none⟩ = some (.slice av L.length vc) := A4c.out.cell 2
        have a2 := A2c.out.cell 2
        have g2 := A2c.out.free 2
        have k3 : W9.cell? ⟨w.heap.size + 1, 3, none⟩ = some (.slice none 0 0) := A4c.out.cell 3
        have a3 := A2c.out.cell 3
        have g3 := A2c.out.free 3
        have k4 : W9.cell? ⟨w.heap.size + 1, 4, none⟩ = some (.string ⟨#[]⟩) := A4c.out.cell 4
        have a4 := A2c.out.cell 4
        have g4 := A2c.out.free 4
        have n1 : w.heap.size + 1 ≠ w.heap.size := by omega
        have nU : U ≠ w.heap.size := by have := ux.out; omega
        have HP9 : Hid (Hps W9 av L.length vc (hAt L)) := by obtain ⟨a, c, e, h⟩ := O10.out.hps; cases e; exact h
        have hB9 : Hid (RqB ⟨M, PB, ⟨av, L.length, vc, hAt L⟩, ⟨none, 0, 0, hAt []⟩, ⟨#[]⟩⟩ 1048576) := ⟨by dsimp only; omega, by dsimp only; omega, ⟨(by dsimp only; omega), fun i hi => ⟨Nat.le_trans (LB.out _ (hAt_mem (L := L) hi)).1 (by omega), Nat.le_trans (LB.out _ (hAt_mem (L := L) hi)).2 (by omega)⟩⟩, ⟨Nat.zero_le _, fun i hi => absurd hi (Nat.not_lt_zero _)⟩, Nat.zero_le _⟩
        have KF := fun wx (hb : Below W9.heap.size W9 wx) => hid (sRqF ⟨M, PB, ⟨av, L.length, vc, hAt L⟩, ⟨none, 0, 0, hAt []⟩, ⟨#[]⟩⟩ hB9.out wx ⟨HP9.out.below hb, ⟨Nat.le_refl _, .inl rfl⟩⟩)
        dsimp only at KF
        clear HP9 hB9
        by_cases hr : rqP ⟨M, PB, ⟨av, L.length, vc, hAt L⟩, ⟨none, 0, 0, hAt []⟩, ⟨#[]⟩⟩
        · have F := FY hr
          simp only [rqV_t hr] at KF
          clear hr FY FN
          go_region_held3 (fun wx => wx.cell? ⟨w.heap.size + 1, 0, none⟩ = some (.string M) ∧ wx.cell? ⟨w.heap.size + 1, 1, none⟩ = some (.string PB) ∧ wx.cell? ⟨w.heap.size + 1, 2, none⟩ = some (.slice av L.length vc) ∧ wx.cell? ⟨w.heap.size + 1, 3, none⟩ = some (.slice none 0 0) ∧ wx.cell? ⟨w.heap.size + 1, 4, none⟩ = some (.string ⟨#[]⟩) ∧ wx.cell? ⟨U, 0, none⟩ = some (.bool true))
            (first | with_reducible exact ⟨k0, k1, k2, k3, k4, u0⟩ | with_reducible exact ⟨drewC k0, drewC k1, drewC k2, drewC k3, drewC k4, drewC u0⟩ | with_reducible exact ⟨far5 k0 n1, far5 k1 n1, far5 k2 n1, far5 k3 n1, far5 k4 n1, far5 u0 nU⟩)
            ((go_at_call 26; (first | refine (KF _ (Below.refl _ _)).out.mono ?_ | refine (KF _ (Below.refl _ W9).drew).out.mono ?_); rintro e w11 ⟨rfl, hb11⟩; (first | have B9w : Hid (Below W9.heap.size W9 w11) := hb11 | have B9w : Hid (Below W9.heap.size W9 w11) := (Below.refl _ W9).drew.trans hb11); replace A4c := hid (A4c.out.below B9w.out A4c.out.lt); replace A2c := hid (A2c.out.below B9w.out A2c.out.lt); replace UV := hid (UV.out.below B9w.out UV.out.lt); replace O10 := hid (OwnHp.next B9w.out O10.out); replace B10 := hid (B10.out.trans (B9w.out.mono B10.out.size)); clear hb11; replace k0 : w11.cell? ⟨w.heap.size + 1, 0, none⟩ = some (.string M) := A4c.out.cell 0; replace k1 : w11.cell? ⟨w.heap.size + 1, 1, none⟩ = some (.string PB) := A4c.out.cell 1; replace k2 : w11.cell? ⟨w.heap.size + 1, 2, none⟩ = some (.slice av L.length vc) := A4c.out.cell 2; replace k3 : w11.cell? ⟨w.heap.size + 1, 3, none⟩ = some (.slice none 0 0) := A4c.out.cell 3; replace k4 : w11.cell? ⟨w.heap.size + 1, 4, none⟩ = some (.string ⟨#[]⟩) := A4c.out.cell 4; replace u0 : w11.cell? ⟨U, 0, none⟩ = some (.bool true) := UV.out.cell 0; replace a0 := A2c.out.cell 0; replace a1 := A2c.out.cell 1; replace a2 := A2c.out.cell 2; replace a3 := A2c.out.cell 3; replace a4 := A2c.out.cell 4; replace g0 := A2c.out.free 0; replace g1 := A2c.out.free 1; replace g2 := A2c.out.free 2; replace g3 := A2c.out.free 3; replace g4 := A2c.out.free 4))
          all_goals go_wp2
          all_goals first | exact fst_ret (fst_set A2c.out) (five_own0 (O10.out.mono (by omega))) (five_below0 B10.out) ⟨fun _ => F.out, fun h => Bool.noConfusion h⟩ rfl rfl | exact fst_ret (fst_set A2c.out).drew (five_own (O10.out.mono (by omega))) (five_below B10.out) ⟨fun _ => F.out, fun h => Bool.noConfusion h⟩ rfl rfl
        · have F := FN hr
          simp only [rqV_f hr] at KF
          clear hr FY FN
          go_region_held3 (fun wx => wx.cell? ⟨w.heap.size + 1, 0, none⟩ = some (.string M) ∧ wx.cell? ⟨w.heap.size + 1, 1, none⟩ = some (.string PB) ∧ wx.cell? ⟨w.heap.size + 1, 2, none⟩ = some (.slice av L.length vc) ∧ wx.cell? ⟨w.heap.size + 1, 3, none⟩ = some (.slice none 0 0) ∧ wx.cell? ⟨w.heap.size + 1, 4, none⟩ = some (.string ⟨#[]⟩) ∧ wx.cell? ⟨U, 0, none⟩ = some (.bool true))
            (first | with_reducible exact ⟨k0, k1, k2, k3, k4, u0⟩ | with_reducible exact ⟨drewC k0, drewC k1, drewC k2, drewC k3, drewC k4, drewC u0⟩ | with_reducible exact ⟨far5 k0 n1, far5 k1 n1, far5 k2 n1, far5 k3 n1, far5 k4 n1, far5 u0 nU⟩)
            ((go_at_call 26; (first | refine (KF _ (Below.refl _ _)).out.mono ?_ | refine (KF _ (Below.refl _ W9).drew).out.mono ?_); rintro e w11 ⟨rfl, hb11⟩; (first | have B9w : Hid (Below W9.heap.size W9 w11) := hb11 | have B9w : Hid (Below W9.heap.size W9 w11) := (Below.refl _ W9).drew.trans hb11); replace A4c := hid (A4c.out.below B9w.out A4c.out.lt); replace A2c := hid (A2c.out.below B9w.out A2c.out.lt); replace UV := hid (UV.out.below B9w.out UV.out.lt); replace O10 := hid (OwnHp.next B9w.out O10.out); replace B10 := hid (B10.out.trans (B9w.out.mono B10.out.size)); clear hb11; replace k0 : w11.cell? ⟨w.heap.size + 1, 0, none⟩ = some (.string M) := A4c.out.cell 0; replace k1 : w11.cell? ⟨w.heap.size + 1, 1, none⟩ = some (.string PB) := A4c.out.cell 1; replace k2 : w11.cell? ⟨w.heap.size + 1, 2, none⟩ = some (.slice av L.length vc) := A4c.out.cell 2; replace k3 : w11.cell? ⟨w.heap.size + 1, 3, none⟩ = some (.slice none 0 0) := A4c.out.cell 3; replace k4 : w11.cell? ⟨w.heap.size + 1, 4, none⟩ = some (.string ⟨#[]⟩) := A4c.out.cell 4; replace u0 : w11.cell? ⟨U, 0, none⟩ = some (.bool true) := UV.out.cell 0; replace a0 := A2c.out.cell 0; replace a1 := A2c.out.cell 1; replace a2 := A2c.out.cell 2; replace a3 := A2c.out.cell 3; replace a4 := A2c.out.cell 4; replace g0 := A2c.out.free 0; replace g1 := A2c.out.free 1; replace g2 := A2c.out.free 2; replace g3 := A2c.out.free 3; replace g4 := A2c.out.free 4))
          all_goals go_wp2
          all_goals first | exact fst_ret (fst_set A2c.out) (five_own0 (O10.out.mono (by omega))) (five_below0 B10.out) ⟨fun h => Bool.noConfusion h, fun _ => F.out⟩ rfl rfl | exact fst_ret (fst_set A2c.out).drew (five_own (O10.out.mono (by omega))) (five_below B10.out) ⟨fun h => Bool.noConfusion h, fun _ => F.out⟩ rfl rfl
end Go.Proofs.YtnchjcaclfcaiaaGreatDoor
