import Derived.Test.YtgoplcjjoiiagaaGreatDoorIUnEsc
import Derived.Test.YtgoplcjjoiiagaaGreatDoorIEsc
namespace Go.Proofs.YtgoplcjjoiiagaaGreatDoor
open Go.RowKit
/-! The program's UnEscape, whole. -/
theorem CurAt.madeE (w : World) (s : ByteArray) (p : Int) : CurAt (w.alloc (.cells #[.string s, .int .i64 p] 61)) w.heap.size s p := heap_alloc_new w _
theorem CurAt.farE {w w' : World} {c : Nat} {s : ByteArray} {p : Int} {r : Option Nat} (h : CurAt w c s p) (hg : w.grownBy w' r) (hne : some c ≠ r) : CurAt w' c s p := (hg.block c h.lt hne).trans h
theorem leftI_inE (s : ByteArray) (k : Nat) (h : k ≤ s.size) : leftI s k = s.size - k := by unfold leftI; rw [if_neg (by omega)]
def sliceLenE : Value → Nat
  | .slice _ n _ => n
  | _ => 0
theorem OwnNums.lenE {w : World} {base : Nat} {e : TypeId} {k : IntKind} {v : Value} {xs : List Int} (h : OwnNums w base e k v xs) : sliceLenE v = xs.length := by
  rcases h.2 with ⟨rfl, h0⟩ | ⟨g, cap, cur, rfl, _⟩
  · rw [h0]; rfl
  · rfl
set_option maxRecDepth 20000 in
set_option maxHeartbeats 400000 in
theorem iUn_no (s : ByteArray) (h : 100000 < s.size) (w : World) :
    Calls Tryz.prog 9 #[.string s] w fun e w' => e = .returned (unO s) ∧ Below w.heap.size w w' := by
  have HN := hid (unO_none (unV_big s (by omega)))
  have d1 : decide (100000 < (s.size : Int)) = true := by simp; omega
  have K := fun wx => hid (iTooLong s wx)
  rw [d1] at K
  go_enter Tryz.func9, Tryz.ntmps9
  go_wp2_with fail
  refine (K _).out.mono ?_
  rintro e w1 ⟨rfl, hw⟩
  obtain rfl := hw.symm
  go_wp2
  refine bodyPost_ret (v := .agg #[.bool false, .string ⟨#[]⟩, .int .i64 0]) (by simp [results, Tryz.results9, go_sem]) rfl ⟨by rw [HN.out], ?_⟩
  exact (Below.refl _ _).alloc (Nat.le_refl _) _
set_option maxRecDepth 20000 in
set_option maxHeartbeats 2000000 in
theorem iUn_yes (s : ByteArray) (hs : s.size ≤ 100000) (w : World) :
    Calls Tryz.prog 9 #[.string s] w fun e w' => e = .returned (unO s) ∧ Below w.heap.size w w' := by
  have d1 : decide (100000 < (s.size : Int)) = false := by simp; omega
  have K := fun wx => hid (iTooLong s wx)
  rw [d1] at K
  clear d1
  obtain ⟨Wa, hWa⟩ : ∃ Wa, Wa = w.alloc (.cells #[.bool false, .string ⟨#[]⟩, .int .i64 0] 30) := ⟨_, rfl⟩
  obtain ⟨W0, hW0⟩ : ∃ W0, W0 = (w.alloc (.cells #[.bool false, .string ⟨#[]⟩, .int .i64 0] 30)).alloc (.cells #[.string s, .int .i64 0] 61) := ⟨_, rfl⟩
  have HW := hid hW0
  have HA := hid hWa
  have hbw : Below w.heap.size w W0 := by rw [hW0]; exact ((Below.refl _ _).alloc (Nat.le_refl _) _).alloc (by simp) _
  have hcw : CurAt W0 (w.heap.size + 1) s 0 := by
    have := CurAt.madeE (w.alloc (.cells #[.bool false, .string ⟨#[]⟩, .int .i64 0] 30)) s 0
    rw [World.size_alloc] at this; rw [hW0]; exact this
  have hBw : Blk W0 w.heap.size #[.bool false, .string ⟨#[]⟩, .int .i64 0] 30 := by
    rw [hW0]; exact (Blk.made w _ _).past (by simp) _
  have hsw : W0.heap.size = w.heap.size + 2 := by rw [hW0]; simp
  have HSW := hid hsw
  clear hsw hW0 hWa
  go_enter Tryz.func9, Tryz.ntmps9
  go_wp2_with fail
  refine (K _).out.mono ?_
  rintro e w1 ⟨rfl, hw⟩
  obtain rfl := hw.symm
  clear K
  go_wp2_with (first | (at_make; rw [← HW.out]; refine make_nums W0 W0 rfl (.const (.int .i64 0)) (.tmp 14) 22 rfl 5 .u8 1 Tryz.underlying22 Tryz.infoB (by decide) .i64 .i64 (s.size : Int) s.size rfl rfl rfl (by omega) (Below.refl _ _) ?_))
  intro w0 hown0 hbel0
  have hc1 : CurAt w0 (w.heap.size + 1) s 0 := (hbel0.block _ (by rw [HSW.out]; omega)).trans hcw
  have hB1 : Blk w0 w.heap.size #[.bool false, .string ⟨#[]⟩, .int .i64 0] 30 := (hbel0.block _ (by rw [HSW.out]; omega)).trans hBw
  have HB1 := hid (hbw.trans (hbel0.mono (by rw [HSW.out]; omega)))
  have HZ1 := hid hbel0.size
  clear hcw hBw hbw hbel0
  go_wp2_with fail
  go_loopw [4] (fun v wr => ∃ (k : Nat) (B : List UInt8), k ≤ s.size ∧ B.length ≤ k ∧ esc B = s.data.toList.take k ∧ OwnNums wr W0.heap.size 5 .u8 v (ni B) ∧ CurAt wr (w.heap.size + 1) s (k : Int) ∧ Blk wr w.heap.size #[.bool false, .string ⟨#[]⟩, .int .i64 0] 30 ∧ Below w.heap.size w wr ∧ W0.heap.size ≤ wr.heap.size)
    (fun v _ => s.size - sliceLenE v)
  case atStart => exact ⟨0, [], by omega, Nat.le_refl _, rfl, hown0, hc1, hB1, HB1.out, HZ1.out⟩
  case round =>
    obtain ⟨k, B, hk, hBl, hE, hown, hcur, hB, hbel, hsz⟩ := hrel
    have HE := hid hE
    have HBL := hid hBl
    have hxn : (ni B).length ≤ 100000 := by rw [ni_len]; omega
    have HBel := hid hbel
    have HSZ := hid hsz
    clear hE hBl hbel hsz hown0 hc1 hB1
    by_cases hlt : k < s.size
    · have d0 : decide (0 < leftI s (k : Int)) = true := by rw [leftI_inE s k (by omega)]; simp; omega
      go_wp2_with fail
      refine (left_all _ s _ _ hcur (by omega)).mono ?_
      rintro e w1 ⟨rfl, rfl⟩
      go_wp2_with fail
      refine (tEsc _ s k _ hcur (by omega) hlt).mono ?_
      rintro e w2 ⟨hh, hg2⟩
      have hB2 := hB.far hg2 (Nat.lt_of_lt_of_le (by rw [HSW.out]; omega) HSZ.out) (by simp)
      have HB2 := hid (HBel.out.grown hg2 HBel.out.size (by intro j hj; cases hj; omega))
      have hown2 := hown.kept hg2 (by rw [HSW.out]; omega)
      have HZ2 : Hid (W0.heap.size ≤ w2.heap.size) := Nat.le_trans HSZ.out hg2.size
      clear hg2 hB hcur hown
      rcases hh with ⟨n, x, htk, hn0, rfl, hc2⟩ | ⟨hno, y, rfl⟩
      · have HS := hid (esc_step HE.out htk)
        have hkn : k + n ≤ s.size := htk.1
        have NX : Hid (ni (B ++ [x]) = ni B ++ [(x.toNat : Int)]) := by show _ = _; rw [ni_app]; rfl
        clear htk
        go_wp2_with (first | (at_builtin; refine append_num2 W0.heap.size _ rfl (.tmp 27) (.tmp 29) 22 rfl 5 .u8 1 Tryz.underlying22 Tryz.infoB (by decide) _ (ni B) _ rfl hown2 HZ2.out rfl ?_ ?_; omega))
        intro v' w3 hown3 hg3
        have hc3 := hc2.farE hg3 (hown2.ne (by rw [HSW.out]; omega))
        have hB3 := hB2.far hg3 (Nat.lt_of_lt_of_le (by rw [HSW.out]; omega) HZ2.out) (hown2.ne (by rw [HSW.out]; omega))
        have HB3 := hid (HB2.out.grown hg3 HB2.out.size (by intro j hj; have := (World.ownsRow.lt hown2 j hj).1; rw [HSW.out] at this; omega))
        have HZ3 : Hid (W0.heap.size ≤ w3.heap.size) := Nat.le_trans HZ2.out hg3.size
        have HL := hid hown2.lenE
        have HL3 := hid hown3.lenE
        rw [← NX.out] at hown3
        clear hg3 hown2 hc2 hB2
        go_wp2
        go_roundw
        case rel => exact ⟨k + n, B ++ [x], hkn, by have := HBL.out; simp; omega, HS.out, hown3, hc3, hB3, HB3.out, HZ3.out⟩
        case measure =>
          have e1 := HL.out
          have e2 := HL3.out
          have e3 := HBL.out
          simp only [List.length_append, List.length_singleton, ni_len] at e1 e2
          simp
          omega
      · have HN := hid (unO_none (esc_stop HE.out hlt hno))
        have q0 := hB2.cell 0 _ rfl
        have q1 := hB2.cell 1 _ rfl
        have q2 := hB2.cell 2 _ rfl
        have f0 := hB2.free 0
        have f1 := hB2.free 1
        have f2 := hB2.free 2
        clear hB2 hown2 hno
        go_wp2
        refine bodyPost_ret (v := .agg #[.bool false, .string ⟨#[]⟩, .int .i64 0]) (by simp [results, Tryz.results9, go_sem, q0, q1, q2]) rfl ⟨by rw [HN.out], ?_⟩
        exact ((HB2.out.setCell (Nat.le_refl _) _).setCell (Nat.le_refl _) _).setCell (Nat.le_refl _) _
    · have hks : k = s.size := by omega
      have HY : Hid (unO s = .agg #[.bool true, .string ⟨B.toArray⟩, .int .i64 (s.size : Int)]) := by
        show _ = _
        have := HE.out
        rw [List.take_of_length_le (by simp; omega)] at this
        exact unO_some (unV_esc s B this hs)
      rw [hks] at hcur
      have hcv := conv_owned wr.drew 22 5 9 Tryz.underlying22 Tryz.underlying5 Tryz.underlying9 hown.drew
      rw [ni_str] at hcv
      have p1 := hcur.place
      have q0 := hB.cell 0 _ rfl
      have q1 := hB.cell 1 _ rfl
      have q2 := hB.cell 2 _ rfl
      have f0 := hB.free 0
      have f1 := hB.free 1
      have f2 := hB.free 2
      have d1 : decide (0 < leftI s (s.size : Int)) = false := by simp [leftI]
      clear hown hB hks
      go_wp2_with fail
      refine (left_all _ s _ _ hcur (by omega)).mono ?_
      rintro e w1 ⟨rfl, rfl⟩
      go_wp2_with fail
      go_region
      all_goals go_wp2
      refine bodyPost_ret (v := .agg #[.bool true, .string ⟨B.toArray⟩, .int .i64 s.size]) (by simp [results, Tryz.results9, go_sem, q0, q1, q2]) rfl ⟨by rw [HY.out], ?_⟩
      exact (((HBel.out.setCell (Nat.le_refl _) _).setCell (Nat.le_refl _) _).setCell (Nat.le_refl _) _).drew
theorem iUn (s : ByteArray) (w : World) : Calls Tryz.prog 9 #[.string s] w fun e w' => e = .returned (unO s) ∧ Below w.heap.size w w' := by
  by_cases h : s.size ≤ 100000
  · exact iUn_yes s h w
  · exact iUn_no s (by omega) w
end Go.Proofs.YtgoplcjjoiiagaaGreatDoor
