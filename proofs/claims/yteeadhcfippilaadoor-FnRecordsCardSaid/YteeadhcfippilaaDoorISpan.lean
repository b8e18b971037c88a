import Derived.Test.YteeadhcfippilaaDoorRecM
namespace Go.Proofs.YteeadhcfippilaaDoor
open Go.RowKit
/-! The program's takeSpan, takeHeader. -/
theorem grown_alloc {a b : World} {r : Option Nat} (h : a.grownBy b r) (o : Obj) : a.grownBy (b.alloc o) r :=
  ⟨h.os, h.tape, h.output, by have := h.size; simp; omega, fun k hk hne => (Below.heap_alloc b o k (Nat.lt_of_lt_of_le hk h.size)).trans (h.block k hk hne)⟩
theorem grown_fresh {a b : World} {r : Option Nat} (h : a.grownBy b r) {k o : Nat} (hk : a.heap.size ≤ k) (v : Value) : a.grownBy (b.setCell ⟨k, o, none⟩ v) r := by
  have hb : Below a.heap.size b (b.setCell ⟨k, o, none⟩ v) := (Below.refl a.heap.size b).setCell hk v
  exact ⟨hb.os.trans h.os, hb.tape.trans h.tape, hb.output.trans h.output, Nat.le_trans h.size hb.size, fun j hj hne => (hb.block j hj).trans (h.block j hj hne)⟩
theorem grown_narrow {a b c : World} {r : Option Nat} (h : a.grownBy b r) (k : b.grownBy c r) : a.grownBy c r := grown_trans h k
theorem grown_skip {a : World} {o : Obj} {c : World} {r : Option Nat} (k : (a.alloc o).grownBy c r) : a.grownBy c r := grown_trans (grown_alloc (World.grownBy.refl _ _) o) k
theorem CurAt.past {w : World} {c : Nat} {s : ByteArray} {p : Int} (h : CurAt w c s p) (o : Obj) : CurAt (w.alloc o) c s p := (Below.heap_alloc w o c h.lt).trans h
theorem CurAt.fresh {w : World} {c : Nat} {s : ByteArray} {p : Int} (h : CurAt w c s p) {k o : Nat} (hk : k ≠ c) (v : Value) : CurAt (w.setCell ⟨k, o, none⟩ v) c s p := by
  have hg : w.grownBy (w.setCell ⟨k, o, none⟩ v) (some k) := grown_set
  exact (hg.block c h.lt (by intro q; cases q; exact hk rfl)).trans h

set_option maxRecDepth 20000 in
set_option maxHeartbeats 1000000 in
theorem takeSpan_all (c : Nat) (s : ByteArray) (p most : Nat) (w : World) (hc : CurAt w c s (p : Nat)) (hs : s.size ≤ 1048576) (hmo : most ≤ 100000) :
    Calls Tryd.prog 36 #[.pointer (some ⟨c, 0, none⟩), .int .i64 (most : Nat)] w fun e w' => w.grownBy w' (some c) ∧
      ((∃ a n, spanN s p most = some (a, n) ∧ e = .returned (.tuple #[.agg #[.int .i64 (a : Nat), .int .i64 (n : Nat)], .bool true]) ∧ CurAt w' c s ((a + n : Nat) : Int)) ∨
       (spanN s p most = none ∧ e = .returned (.tuple #[.agg #[.int .i64 0, .int .i64 0], .bool false]))) := by
  have hlt := hc.lt
  go_enter Tryd.func36, Tryd.ntmps36
  go_wp2_with fail
  refine (takeNum_all c s p _ (hc.past _) hs).mono ?_
  rintro e w1 ⟨hg, h⟩
  have hB1 : Blk w1 w.heap.size #[.int .i64 0, .int .i64 0] 43 := (Blk.made w _ _).far hg (by simp) (by simp; omega)
  have HG : Hid (w.grownBy w1 (some c)) := grown_skip hg
  have hz : w.heap.size < w1.heap.size := hB1.lt
  have q0 := hB1.cell 0 _ rfl
  have q1 := hB1.cell 1 _ rfl
  have f0 := hB1.free 0
  have f1 := hB1.free 1
  have hne : w.heap.size ≠ c := by omega
  have hne' : c ≠ w.heap.size := by omega
  clear hg hB1 hc
  rcases h with ⟨v, n, hn, rfl, hc1⟩ | ⟨x, hn, rfl⟩
  · obtain ⟨a, ea, han, hn1, hn9, hv⟩ := getNum_in s p v n hn
    obtain rfl : p = a := by omega
    have hc2 : CurAt w1 c s ((p + n : Nat) : Int) := by simpa using hc1
    have HT : Hid (spanN s p most = if v ≤ most ∧ p + n + v ≤ s.size then some (p + n, v) else none) := by
      show _ = _; unfold spanN; rw [hn]
    obtain ⟨q, hq⟩ : ∃ q, q = p + n := ⟨_, rfl⟩
    rw [← hq] at hc2 HT
    have HQ := hid hq
    have hqs : q ≤ s.size := by omega
    clear hn hc1 ea hq
    by_cases hbig : most < v
    · have d0 : decide ((most : Int) < (v : Int)) = true := by simp; omega
      go_wp2
      refine bodyPost_ret (v := .tuple #[.agg #[.int .i64 0, .int .i64 0], .bool false]) (by simp [results, Tryd.results36, go_sem, q0, q1]) rfl ⟨grown_fresh (grown_fresh HG.out (Nat.le_refl _) _) (Nat.le_refl _) _, Or.inr ⟨?_, rfl⟩⟩
      rw [HT.out, if_neg (by omega)]
    · have d0 : decide ((most : Int) < (v : Int)) = false := by simp; omega
      by_cases hfit : s.size - q < v
      · have d1 : decide (leftI s (q : Int) < (v : Int)) = true := by simp [leftI]; omega
        go_wp2_with fail
        refine (left_all c s _ _ hc2 hs).mono ?_
        rintro e w' ⟨rfl, rfl⟩
        go_wp2
        refine bodyPost_ret (v := .tuple #[.agg #[.int .i64 0, .int .i64 0], .bool false]) (by simp [results, Tryd.results36, go_sem, q0, q1]) rfl ⟨grown_fresh (grown_fresh HG.out (Nat.le_refl _) _) (Nat.le_refl _) _, Or.inr ⟨?_, rfl⟩⟩
        rw [HT.out, if_neg (by omega)]
      · have d1 : decide (leftI s (q : Int) < (v : Int)) = false := by simp [leftI]; omega
        have HS : Hid (spanN s p most = some (q, v)) := by show _ = _; rw [HT.out, if_pos (by omega)]
        have hp := hc2.place
        have hfr := hc2.free
        have hwr : IntKind.i64.wrap ((q : Int) + (v : Int)) = (q : Int) + (v : Int) := by simp [IntKind.wrap, IntKind.bits, IntKind.signed]; omega
        have hlt1 : c < w1.heap.size := hc2.lt
        go_wp2_with fail
        refine (left_all c s _ _ hc2 hs).mono ?_
        rintro e w' ⟨rfl, rfl⟩
        go_wp2
        refine bodyPost_ret (v := .tuple #[.agg #[.int .i64 (q : Nat), .int .i64 (v : Nat)], .bool true]) (by simp [results, Tryd.results36, go_sem, hz, q0, q1]) rfl ⟨?_, Or.inl ⟨q, v, HS.out, rfl, ?_⟩⟩
        · exact grown_alloc (grown_fresh (grown_fresh (grown_trans HG.out grown_set) (Nat.le_refl _) _) (Nat.le_refl _) _) _
        · have h1 := hc2.set ((q : Int) + (v : Int))
          rw [show ((q + v : Nat) : Int) = (q : Int) + (v : Int) by omega]
          exact ((h1.fresh hne _).fresh hne _).past _
  · go_wp2
    refine bodyPost_ret (v := .tuple #[.agg #[.int .i64 0, .int .i64 0], .bool false]) (by simp [results, Tryd.results36, go_sem, q0, q1]) rfl ⟨grown_fresh (grown_fresh HG.out (Nat.le_refl _) _) (Nat.le_refl _) _, Or.inr ⟨?_, rfl⟩⟩
    unfold spanN; rw [hn]
set_option maxRecDepth 20000 in
set_option maxHeartbeats 1000000 in
theorem takeHeader_all (c : Nat) (s : ByteArray) (p : Nat) (w : World) (hc : CurAt w c s (p : Nat)) (hs : s.size ≤ 1048576) :
    Calls Tryd.prog 35 #[.pointer (some ⟨c, 0, none⟩)] w fun e w' => w.grownBy w' (some c) ∧
      ((∃ ka ks g, headN s p = some (ka, ks, g) ∧ e = .returned (.tuple #[.agg #[.int .i64 (ka : Nat), .int .i64 (ks : Nat), .bool g], .bool true]) ∧ CurAt w' c s ((ka + ks + 1 : Nat) : Int)) ∨
       (headN s p = none ∧ ∃ (x y : Int) (z : Bool), e = .returned (.tuple #[.agg #[.int .i64 x, .int .i64 y, .bool z], .bool false]))) := by
  have hlt := hc.lt
  go_enter Tryd.func35, Tryd.ntmps35
  go_wp2_with fail
  refine (takeSpan_all c s p 200 _ (hc.past _) hs (by decide)).mono ?_
  rintro e w1 ⟨hg, h⟩
  have hB1 : Blk w1 w.heap.size #[.int .i64 0, .int .i64 0, .bool false] 45 := (Blk.made w _ _).far hg (by simp) (by simp; omega)
  have HG : Hid (w.grownBy w1 (some c)) := grown_skip hg
  have hz : w.heap.size < w1.heap.size := hB1.lt
  have hne : w.heap.size ≠ c := by omega
  have hne' : c ≠ w.heap.size := by omega
  clear hg hc
  rcases h with ⟨ka, ks, hn, rfl, hc1⟩ | ⟨hn, rfl⟩
  · have HI := hid (span_in s _ _ _ _ hn)
    have HT : Hid (headN s p = if ks = 0 ∨ s.size ≤ ka + ks ∨ 1 < byteAt s (ka + ks) then none else some (ka, ks, byteAt s (ka + ks) == 1)) := by
      show _ = _; unfold headN; rw [hn]
    obtain ⟨q, hq⟩ : ∃ q, q = ka + ks := ⟨_, rfl⟩
    rw [← hq] at hc1 HT
    have HQ := hid hq
    have hqs : q ≤ s.size := by have := HI.out.2.1; omega
    clear hn hq
    by_cases h0 : ks = 0
    · have d0 : ((ks : Int) == 0) = true := by simp; omega
      have q0 := hB1.cell 0 _ rfl
      have q1 := hB1.cell 1 _ rfl
      have q2 := hB1.cell 2 _ rfl
      have f0 := hB1.free 0
      have f1 := hB1.free 1
      have f2 := hB1.free 2
      have H0 := hid h0
      clear h0
      go_wp2
      refine bodyPost_ret (v := .tuple #[.agg #[.int .i64 0, .int .i64 0, .bool false], .bool false]) (by simp [results, Tryd.results35, go_sem, hz, q0, q1, q2]) rfl ⟨?_, Or.inr ⟨by rw [HT.out, if_pos (Or.inl H0.out)], 0, 0, false, rfl⟩⟩
      exact grown_alloc (grown_fresh (grown_fresh (grown_fresh HG.out (Nat.le_refl _) _) (Nat.le_refl _) _) (Nat.le_refl _) _) _
    · have d0 : ((ks : Int) == 0) = false := by simp; omega
      have H0 := hid h0
      clear h0
      by_cases h1 : s.size ≤ q
      · have hl : leftI s (q : Int) = 0 := by unfold leftI; split <;> omega
        have HL := hid hl
        clear hl
        go_wp2_with fail
        refine (byte_no c s (q : Int) _ (hc1.past _) hs HL.out).mono ?_
        rintro e w' ⟨rfl, rfl⟩
        have q0 := hB1.cell 0 _ rfl
        have q1 := hB1.cell 1 _ rfl
        have q2 := hB1.cell 2 _ rfl
        have f0 := hB1.free 0
        have f1 := hB1.free 1
        have f2 := hB1.free 2
        go_wp2
        refine bodyPost_ret (v := .tuple #[.agg #[.int .i64 (ka : Nat), .int .i64 (ks : Nat), .bool false], .bool false]) (by simp [results, Tryd.results35, go_sem, hz, q0, q1, q2]) rfl ⟨?_, Or.inr ⟨by rw [HT.out, if_pos (Or.inr (Or.inl h1))], _, _, _, rfl⟩⟩
        exact grown_alloc (grown_fresh (grown_fresh (grown_fresh HG.out (Nat.le_refl _) _) (Nat.le_refl _) _) (Nat.le_refl _) _) _
      · have hq : q < s.size := by omega
        go_wp2_with fail
        refine (byte_yes c s q _ (hc1.past _) hs hq).mono ?_
        rintro e w2 ⟨rfl, hc2, hg2⟩
        have hk2 : Blk w2 w1.heap.size #[.int .i64 (ka : Nat), .int .i64 (ks : Nat)] 43 := (Blk.made w1 _ _).far hg2 (by simp) (by have := hc1.lt; simp; omega)
        have hB2 := (hB1.past hz (.cells #[.int .i64 (ka : Nat), .int .i64 (ks : Nat)] 43)).far hg2 (by simp; omega) (by simp; omega)
        have HG2 : Hid (w.grownBy w2 (some c)) := grown_trans (grown_alloc HG.out _) hg2
        have hz2 : w.heap.size < w2.heap.size := hB2.lt
        have q0 := hB2.cell 0 _ rfl
        have q1 := hB2.cell 1 _ rfl
        have q2 := hB2.cell 2 _ rfl
        have f0 := hB2.free 0
        have f1 := hB2.free 1
        have f2 := hB2.free 2
        have k0 := hk2.cell 0 _ rfl
        have k1 := hk2.cell 1 _ rfl
        have hb := byteAt_get s q hq
        have HC2 := hid hc2
        clear hg2 hB1 hB2 hk2 hc1 hc2 HG
        by_cases h2 : 1 < byteAt s q
        · have HN : Hid (headN s p = none) := by show _ = _; rw [HT.out, if_pos (Or.inr (Or.inr h2))]
          have d3 : decide ((s[q].toNat : Int) ≤ 1) = false := by simp; omega
          have d2 : ((s[q].toNat : Int) == 1) = false := by simp; omega
          clear hb
          go_wp2
          refine bodyPost_ret (v := .tuple #[.agg #[.int .i64 (ka : Nat), .int .i64 (ks : Nat), .bool false], .bool false]) (by simp [results, Tryd.results35, go_sem, q0, q1, q2]) rfl ⟨?_, Or.inr ⟨HN.out, _, _, _, rfl⟩⟩
          exact grown_fresh (grown_fresh (grown_fresh HG2.out (Nat.le_refl _) _) (Nat.le_refl _) _) (Nat.le_refl _) _
        · have HN : Hid (headN s p = some (ka, ks, byteAt s q == 1)) := by show _ = _; rw [HT.out, if_neg (by have := H0.out; omega)]
          have d3 : decide ((s[q].toNat : Int) ≤ 1) = true := by simp; omega
          have d2 : ((s[q].toNat : Int) == 1) = (byteAt s q == 1) := by rw [hb, Bool.eq_iff_iff]; simp only [beq_iff_eq]; omega
          obtain ⟨g, hgg⟩ : ∃ g, g = (byteAt s q == 1) := ⟨_, rfl⟩
          rw [← hgg] at HN d2
          clear hb hgg
          go_wp2
          refine bodyPost_ret (v := .tuple #[.agg #[.int .i64 (ka : Nat), .int .i64 (ks : Nat), .bool g], .bool true]) (by simp [results, Tryd.results35, go_sem, q0, q1, q2]) rfl ⟨?_, Or.inl ⟨ka, ks, g, HN.out, rfl, ?_⟩⟩
          · exact grown_fresh (grown_fresh (grown_fresh HG2.out (Nat.le_refl _) _) (Nat.le_refl _) _) (Nat.le_refl _) _
          · rw [show ((ka + ks + 1 : Nat) : Int) = ((q + 1 : Nat) : Int) by have := HQ.out; omega]
            exact ((HC2.out.fresh hne _).fresh hne _).fresh hne _
  · have q0 := hB1.cell 0 _ rfl
    have q1 := hB1.cell 1 _ rfl
    have q2 := hB1.cell 2 _ rfl
    have f0 := hB1.free 0
    have f1 := hB1.free 1
    have f2 := hB1.free 2
    have HN : Hid (headN s p = none) := by show _ = _; unfold headN; rw [hn]
    clear hn
    go_wp2
    refine bodyPost_ret (v := .tuple #[.agg #[.int .i64 0, .int .i64 0, .bool false], .bool false]) (by simp [results, Tryd.results35, go_sem, hz, q0, q1, q2]) rfl ⟨?_, Or.inr ⟨HN.out, 0, 0, false, rfl⟩⟩
    exact grown_alloc (grown_fresh (grown_fresh (grown_fresh HG.out (Nat.le_refl _) _) (Nat.le_refl _) _) (Nat.le_refl _) _) _
end Go.Proofs.YteeadhcfippilaaDoor
