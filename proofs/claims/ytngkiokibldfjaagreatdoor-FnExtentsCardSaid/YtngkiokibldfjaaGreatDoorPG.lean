import Derived.Test.YtngkiokibldfjaaGreatDoorPE
import Derived.Deep.RegionHeld3
namespace Go.Proofs.YtngkiokibldfjaaGreatDoor
open Go.RowKit
/-! The program's takeSpan, takeHeader. -/
theorem grown_alloc {a b : World} {r : Option Nat} (h : a.grownBy b r) (o : Obj) : a.grownBy (b.alloc o) r :=
  ⟨h.os, h.tape, h.output, by have := h.size; simp; omega, fun k hk hne => (Below.heap_alloc b o k (Nat.lt_of_lt_of_le hk h.size)).trans (h.block k hk hne)⟩
theorem grown_fresh {a b : World} {r : Option Nat} (h : a.grownBy b r) {k o : Nat} (hk : a.heap.size ≤ k) (v : Value) : a.grownBy (b.setCell ⟨k, o, none⟩ v) r := by
  have hb : Below a.heap.size b (b.setCell ⟨k, o, none⟩ v) := (Below.refl a.heap.size b).setCell hk v
  exact ⟨hb.os.trans h.os, hb.tape.trans h.tape, hb.output.trans h.output, Nat.le_trans h.size hb.size, fun j hj hne => (hb.block j hj).trans (h.block j hj hne)⟩
theorem grown_narrow {a b c : World} {r : Option Nat} (h : a.grownBy b r) (k : b.grownBy c r) : a.grownBy c r := grown_trans h k
theorem grown_skip {a : World} {o : Obj} {c : World} {r : Option Nat} (k : (a.alloc o).grownBy c r) : a.grownBy c r := grown_trans (grown_alloc (World.grownBy.refl _ _) o) k
theorem CurAt.past {w : World} {c : Nat} {s : ByteArray} {p : Int} (h : CurAt w c s p) (o : Obj) : CurAt (w.alloc o) c s p := (Below.heap_alloc w o c h.lt).trans h
theorem CurAt.fresh {w : World} {c : Nat} {s : ByteArray} {p : Int} (h : CurAt w c s p) {k o : Nat} (hk : k ≠ c) (v : Value) : CurAt (w.setCell ⟨k, o, none⟩ v) c s p := by
  have hg : w.grownBy (w.setCell ⟨k, o, none⟩ v) (some k) := grown_set
  exact (hg.block c h.lt (by intro q; cases q; exact hk rfl)).trans h

set_option maxRecDepth 20000 in
set_option maxHeartbeats 1000000 in
theorem takeSpan_all (c : Nat) (s : ByteArray) (p most : Nat) (w : World) (hc : CurAt w c s (p : Nat)) (hs : s.size ≤ 1048576) (hmo : most ≤ 100000) :
    Calls Tryz.prog 125 #[.pointer (some ⟨c, 0, none⟩), .int .i64 (most : Nat)] w fun e w' => w.grownBy w' (some c) ∧
      ((∃ a n, spanN s p most = some (a, n) ∧ e = .returned (.tuple #[.agg #[.int .i64 (a : Nat), .int .i64 (n : Nat)], .bool true]) ∧ CurAt w' c s ((a + n : Nat) : Int)) ∨
       (spanN s p most = none ∧ e = .returned (.tuple #[.agg #[.int .i64 0, .int .i64 0], .bool false]))) := by
  have hlt := hc.lt
  go_enter Tryz.func125, Tryz.ntmps125
  go_wp2_with fail
  refine (takeNum_all c s p _ (hc.past _) hs).mono ?_
  rintro e w1 ⟨hg, h⟩
  have hB1 : Blk w1 w.heap.size #[.int .i64 0, .int .i64 0] 106 := (Blk.made w _ _).far hg (by simp) (by simp; omega)
  have HG : Hid (w.grownBy w1 (some c)) := grown_skip hg
  have hz : w.heap.size < w1.heap.size := hB1.lt
  have q0 := hB1.cell 0 _ rfl
  have q1 := hB1.cell 1 _ rfl
  have f0 := hB1.free 0
  have f1 := hB1.free 1
  have hne : w.heap.size ≠ c := by omega
  have hne' : c ≠ w.heap.size := by omega
  clear hg hB1 hc
  rcases h with ⟨v, n, hn, rfl, hc1⟩ | ⟨x, hn, rfl⟩
  · obtain ⟨a, ea, han, hn1, hn9, hv⟩ := getNum_in s p v n hn
    obtain rfl : p = a := by omega
    have hc2 : CurAt w1 c s ((p + n : Nat) : Int) := by simpa using hc1
    have HT : Hid (spanN s p most = if v ≤ most ∧ p + n + v ≤ s.size then some (p + n, v) else none) := by
      show _ = _; unfold spanN; rw [hn]
    obtain ⟨q, hq⟩ : ∃ q, q = p + n := ⟨_, rfl⟩
    rw [← hq] at hc2 HT
    have HQ := hid hq
    have hqs : q ≤ s.size := by omega
    clear hn hc1 ea hq
    by_cases hbig : most < v
    · have d0 : decide ((most : Int) < (v : Int)) = true := by simp; omega
      go_wp2
      refine bodyPost_ret (v := .tuple #[.agg #[.int .i64 0, .int .i64 0], .bool false]) (by simp [results, Tryz.results125, go_sem, q0, q1]) rfl ⟨grown_fresh (grown_fresh HG.out (Nat.le_refl _) _) (Nat.le_refl _) _, Or.inr ⟨?_, rfl⟩⟩
      rw [HT.out, if_neg (by omega)]
    · have d0 : decide ((most : Int) < (v : Int)) = false := by simp; omega
      by_cases hfit : s.size - q < v
      · have d1 : decide (leftI s (q : Int) < (v : Int)) = true := by simp [leftI]; omega
        go_wp2_with fail
        refine (left_all c s _ _ hc2 hs).mono ?_
        rintro e w' ⟨rfl, rfl⟩
        go_wp2
        refine bodyPost_ret (v := .tuple #[.agg #[.int .i64 0, .int .i64 0], .bool false]) (by simp [results, Tryz.results125, go_sem, q0, q1]) rfl ⟨grown_fresh (grown_fresh HG.out (Nat.le_refl _) _) (Nat.le_refl _) _, Or.inr ⟨?_, rfl⟩⟩
        rw [HT.out, if_neg (by omega)]
      · have d1 : decide (leftI s (q : Int) < (v : Int)) = false := by simp [leftI]; omega
        have HS : Hid (spanN s p most = some (q, v)) := by show _ = _; rw [HT.out, if_pos (by omega)]
        have hp := hc2.place
        have hfr := hc2.free
        have hwr : IntKind.i64.wrap ((q : Int) + (v : Int)) = (q : Int) + (v : Int) := by simp [IntKind.wrap, IntKind.bits, IntKind.signed]; omega
        have hlt1 : c < w1.heap.size := hc2.lt
        go_wp2_with fail
        refine (left_all c s _ _ hc2 hs).mono ?_
        rintro e w' ⟨rfl, rfl⟩
        go_wp2
        refine bodyPost_ret (v := .tuple #[.agg #[.int .i64 (q : Nat), .int .i64 (v : Nat)], .bool true]) (by simp [results, Tryz.results125, go_sem, hz, q0, q1]) rfl ⟨?_, Or.inl ⟨q, v, HS.out, rfl, ?_⟩⟩
        · exact grown_alloc (grown_fresh (grown_fresh (grown_trans HG.out grown_set) (Nat.le_refl _) _) (Nat.le_refl _) _) _
        · have h1 := hc2.set ((q : Int) + (v : Int))
          rw [show ((q + v : Nat) : Int) = (q : Int) + (v : Int) by omega]
          exact ((h1.fresh hne _).fresh hne _).past _
  · go_wp2
    refine bodyPost_ret (v := .tuple #[.agg #[.int .i64 0, .int .i64 0], .bool false]) (by simp [results, Tryz.results125, go_sem, q0, q1]) rfl ⟨grown_fresh (grown_fresh HG.out (Nat.le_refl _) _) (Nat.le_refl _) _, Or.inr ⟨?_, rfl⟩⟩
    unfold spanN; rw [hn]
set_option maxRecDepth 20000 in
set_option maxHeartbeats 1000000 in
theorem takeHeader_all (c : Nat) (s : ByteArray) (p : Nat) (w : World) (hc : CurAt w c s (p : Nat)) (hs : s.size ≤ 1048576) :
    Calls Tryz.prog 124 #[.pointer (some ⟨c, 0, none⟩)] w fun e w' => w.grownBy w' (some c) ∧
      ((∃ ka ks g, headN s p = some (ka, ks, g) ∧ e = .returned (.tuple #[.agg #[.int .i64 (ka : Nat), .int .i64 (ks : Nat), .bool g], .bool true]) ∧ CurAt w' c s ((ka + ks + 1 : Nat) : Int)) ∨
       (headN s p = none ∧ ∃ (x y : Int) (z : Bool), e = .returned (.tuple #[.agg #[.int .i64 x, .int .i64 y, .bool z], .bool false]))) := by
  have hlt := hc.lt
  go_enter Tryz.func124, Tryz.ntmps124
  go_wp2_with fail
  refine (takeSpan_all c s p 200 _ (hc.past _) hs (by decide)).mono ?_
  rintro e w1 ⟨hg, h⟩
  have hB1 : Blk w1 w.heap.size #[.int .i64 0, .int .i64 0, .bool false] 108 := (Blk.made w _ _).far hg (by simp) (by simp; omega)
  have HG : Hid (w.grownBy w1 (some c)) := grown_skip hg
  have hz : w.heap.size < w1.heap.size := hB1.lt
  have hne : w.heap.size ≠ c := by omega
  have hne' : c ≠ w.heap.size := by omega
  clear hg hc
  rcases h with ⟨ka, ks, hn, rfl, hc1⟩ | ⟨hn, rfl⟩
  · have HI := hid (span_in s _ _ _ _ hn)
    have HT : Hid (headN s p = if ks = 0 ∨ s.size ≤ ka + ks ∨ 1 < byteAt s (ka + ks) then none else some (ka, ks, byteAt s (ka + ks) == 1)) := by
      show _ = _; unfold headN; rw [hn]
    obtain ⟨q, hq⟩ : ∃ q, q = ka + ks := ⟨_, rfl⟩
    rw [← hq] at hc1 HT
    have HQ := hid hq
    have hqs : q ≤ s.size := by have := HI.out.2.1; omega
    clear hn hq
    by_cases h0 : ks = 0
    · have d0 : ((ks : Int) == 0) = true := by simp; omega
      have q0 := hB1.cell 0 _ rfl
      have q1 := hB1.cell 1 _ rfl
      have q2 := hB1.cell 2 _ rfl
      have f0 := hB1.free 0
      have f1 := hB1.free 1
      have f2 := hB1.free 2
      have H0 := hid h0
      clear h0
      go_wp2
      refine bodyPost_ret (v := .tuple #[.agg #[.int .i64 0, .int .i64 0, .bool false], .bool false]) (by simp [results, Tryz.results124, go_sem, hz, q0, q1, q2]) rfl ⟨?_, Or.inr ⟨by rw [HT.out, if_pos (Or.inl H0.out)], 0, 0, false, rfl⟩⟩
      exact grown_alloc (grown_fresh (grown_fresh (grown_fresh HG.out (Nat.le_refl _) _) (Nat.le_refl _) _) (Nat.le_refl _) _) _
    · have d0 : ((ks : Int) == 0) = false := by simp; omega
      have H0 := hid h0
      clear h0
      by_cases h1 : s.size ≤ q
      · have hl : leftI s (q : Int) = 0 := by unfold leftI; split <;> omega
        have HL := hid hl
        clear hl
        go_wp2_with fail
        refine (byte_no c s (q : Int) _ (hc1.past _) hs HL.out).mono ?_
        rintro e w' ⟨rfl, rfl⟩
        have q0 := hB1.cell 0 _ rfl
        have q1 := hB1.cell 1 _ rfl
        have q2 := hB1.cell 2 _ rfl
        have f0 := hB1.free 0
        have f1 := hB1.free 1
        have f2 := hB1.free 2
        go_wp2
        refine bodyPost_ret (v := .tuple #[.agg #[.int .i64 (ka : Nat), .int .i64 (ks : Nat), .bool false], .bool false]) (by simp [results, Tryz.results124, go_sem, hz, q0, q1, q2]) rfl ⟨?_, Or.inr ⟨by rw [HT.out, if_pos (Or.inr (Or.inl h1))], _, _, _, rfl⟩⟩
        exact grown_alloc (grown_fresh (grown_fresh (grown_fresh HG.out (Nat.le_refl _) _) (Nat.le_refl _) _) (Nat.le_refl _) _) _
      · have hq : q < s.size := by omega
        go_wp2_with fail
        refine (byte_yes c s q _ (hc1.past _) hs hq).mono ?_
        rintro e w2 ⟨rfl, hc2, hg2⟩
        have hk2 : Blk w2 w1.heap.size #[.int .i64 (ka : Nat), .int .i64 (ks : Nat)] 106 := (Blk.made w1 _ _).far hg2 (by simp) (by have := hc1.lt; simp; omega)
        have hB2 := (hB1.past hz (.cells #[.int .i64 (ka : Nat), .int .i64 (ks : Nat)] 106)).far hg2 (by simp; omega) (by simp; omega)
        have HG2 : Hid (w.grownBy w2 (some c)) := grown_trans (grown_alloc HG.out _) hg2
        have hz2 : w.heap.size < w2.heap.size := hB2.lt
        have q0 := hB2.cell 0 _ rfl
        have q1 := hB2.cell 1 _ rfl
        have q2 := hB2.cell 2 _ rfl
        have f0 := hB2.free 0
        have f1 := hB2.free 1
        have f2 := hB2.free 2
        have k0 := hk2.cell 0 _ rfl
        have k1 := hk2.cell 1 _ rfl
        have hb := byteAt_get s q hq
        have HC2 := hid hc2
        clear hg2 hB1 hB2 hk2 hc1 hc2 HG
        by_cases h2 : 1 < byteAt s q
        · have HN : Hid (headN s p = none) := by show _ = _; rw [HT.out, if_pos (Or.inr (Or.inr h2))]
          have d3 : decide ((s[q].toNat : Int) ≤ 1) = false := by simp; omega
          have d2 : ((s[q].toNat : Int) == 1) = false := by simp; omega
          clear hb
          go_wp2
          refine bodyPost_ret (v := .tuple #[.agg #[.int .i64 (ka : Nat), .int .i64 (ks : Nat), .bool false], .bool false]) (by simp [results, Tryz.results124, go_sem, q0, q1, q2]) rfl ⟨?_, Or.inr ⟨HN.out, _, _, _, rfl⟩⟩
          exact grown_fresh (grown_fresh (grown_fresh HG2.out (Nat.le_refl _) _) (Nat.le_refl _) _) (Nat.le_refl _) _
        · have HN : Hid (headN s p = some (ka, ks, byteAt s q == 1)) := by show _ = _; rw [HT.out, if_neg (by have := H0.out; omega)]
          have d3 : decide ((s[q].toNat : Int) ≤ 1) = true := by simp; omega
          have d2 : ((s[q].toNat : Int) == 1) = (byteAt s q == 1) := by rw [hb, Bool.eq_iff_iff]; simp only [beq_iff_eq]; omega
          obtain ⟨g, hgg⟩ : ∃ g, g = (byteAt s q == 1) := ⟨_, rfl⟩
          rw [← hgg] at HN d2
          clear hb hgg
          go_wp2
          refine bodyPost_ret (v := .tuple #[.agg #[.int .i64 (ka : Nat), .int .i64 (ks : Nat), .bool g], .bool true]) (by simp [results, Tryz.results124, go_sem, q0, q1, q2]) rfl ⟨?_, Or.inl ⟨ka, ks, g, HN.out, rfl, ?_⟩⟩
          · exact grown_fresh (grown_fresh (grown_fresh HG2.out (Nat.le_refl _) _) (Nat.le_refl _) _) (Nat.le_refl _) _
          · rw [show ((ka + ks + 1 : Nat) : Int) = ((q + 1 : Nat) : Int) by have := HQ.out; omega]
            exact ((HC2.out.fresh hne _).fresh hne _).fresh hne _
  · have q0 := hB1.cell 0 _ rfl
    have q1 := hB1.cell 1 _ rfl
    have q2 := hB1.cell 2 _ rfl
    have f0 := hB1.free 0
    have f1 := hB1.free 1
    have f2 := hB1.free 2
    have HN : Hid (headN s p = none) := by show _ = _; unfold headN; rw [hn]
    clear hn
    go_wp2
    refine bodyPost_ret (v := .tuple #[.agg #[.int .i64 0, .int .i64 0, .bool false], .bool false]) (by simp [results, Tryz.results124, go_sem, hz, q0, q1, q2]) rfl ⟨?_, Or.inr ⟨HN.out, 0, 0, false, rfl⟩⟩
    exact grown_alloc (grown_fresh (grown_fresh (grown_fresh HG.out (Nat.le_refl _) _) (Nat.le_refl _) _) (Nat.le_refl _) _) _
end Go.Proofs.YtngkiokibldfjaaGreatDoor
namespace Go.Proofs.YtngkiokibldfjaaGreatDoor
open Go.RowKit
/-! The program's frameAt. -/
structure Errs (w : World) (ea eb : Addr) : Prop where
  mark : w.cell? ⟨0, 0, none⟩ = some (.iface 213 (.pointer (some ea)))
  bent : w.cell? ⟨1, 0, none⟩ = some (.iface 213 (.pointer (some eb)))
  two : 1 < w.heap.size
  ne : ea ≠ eb
  rowA : ∃ c t, w.heap[ea.block]? = some (.cells c t (0, 0))
  rowB : ∃ c t, w.heap[eb.block]? = some (.cells c t (0, 0))
theorem heap_lt {w : World} {k : Nat} {o : Obj} (h : w.heap[k]? = some o) : k < w.heap.size := by
  rcases Nat.lt_or_ge k w.heap.size with h1 | h1
  · exact h1
  · rw [Array.getElem?_eq_none h1] at h; cases h
theorem Errs.below {w w' : World} {ea eb : Addr} (h : Errs w ea eb) (hb : Below w.heap.size w w') : Errs w' ea eb := by
  obtain ⟨c1, t1, r1⟩ := h.rowA
  obtain ⟨c2, t2, r2⟩ := h.rowB
  have h2 := h.two
  exact ⟨(hb.cell (by show 0 < _; omega)).trans h.mark, (hb.cell (by show 1 < _; omega)).trans h.bent, Nat.lt_of_lt_of_le h2 hb.size, h.ne, ⟨c1, t1, (hb.block _ (heap_lt r1)).trans r1⟩, ⟨c2, t2, (hb.block _ (heap_lt r2)).trans r2⟩⟩
theorem keep_newD {X : World} {c : Array Value} {t : TypeId} {n i : Nat} {v : Value} (hn : n = X.heap.size) (hv : c[i]? = some v) : (X.alloc (.cells c t)).drew.cell? ⟨n, i, none⟩ = some v := by
  show (X.alloc (.cells c t)).cell? ⟨n, i, none⟩ = some v
  rw [World.cell?_alloc_at _ _ _ _ hn]; exact hv
theorem far_set {X : World} {b o k i : Nat} {v : Value} {u : Option Value} (h : b ≠ k) (hx : X.cell? ⟨k, i, none⟩ = u) : (X.setCell ⟨b, o, none⟩ v).cell? ⟨k, i, none⟩ = u := (World.cell?_setCell_far X ⟨b, o, none⟩ ⟨k, i, none⟩ v h).trans hx
theorem keep_old {X : World} {o : Obj} {n i : Nat} {u : Option Value} (hn : n < X.heap.size) (hx : X.cell? ⟨n, i, none⟩ = u) : (X.alloc o).drew.cell? ⟨n, i, none⟩ = u := (((Below.refl X.heap.size X).alloc (Nat.le_refl _) o).cell hn).trans hx
def frmV (f : Fr) : Value := .agg #[.int .i64 (f.kat : Nat), .int .i64 (f.ksz : Nat), .bool f.gone, .int .i64 (f.bat : Nat), .int .i64 (f.bsz : Nat), .int .i64 (f.at' : Nat), .int .i64 (f.next : Nat)]
def frm0 : Value := .agg #[.int .i64 0, .int .i64 0, .bool false, .int .i64 0, .int .i64 0, .int .i64 0, .int .i64 0]
def errV (a : Addr) : Value := .iface 213 (.pointer (some a))
def FrameP (s : ByteArray) (p : Int) (ea eb : Addr) (e : Ending) : Prop :=
  (¬ Marked s p ∧ e = .returned (.tuple #[frm0, errV ea])) ∨ (Marked s p ∧ frmN s p.toNat = none ∧ e = .returned (.tuple #[frm0, errV eb])) ∨
  (∃ f, Marked s p ∧ frmN s p.toNat = some f ∧ e = .returned (.tuple #[frmV f, .nilIface]))
set_option maxRecDepth 20000 in
set_option maxHeartbeats 2000000 in
theorem frameAt_all (s : ByteArray) (p : Int) (hs : s.size ≤ 1048576) (w : World) (ea eb : Addr) (hE : Errs w ea eb) :
    Calls Tryz.prog 110 #[.string s, .int .i64 p] w fun e w' => FrameP s p ea eb e ∧ Below w.heap.size w w' := by
  have HE := hid hE
  have two := hE.two
  have n0 : ¬ 0 = w.heap.size := by omega
  have n1 : ¬ 1 = w.heap.size := by omega
  have m0 : w.heap.size ≠ 0 := by omega
  have m1 : w.heap.size ≠ 1 := by omega
  have n0' : 0 < w.heap.size := by omega
  have n1' : 1 < w.heap.size := by omega
  clear hE
  have hc0 := CurAt.made (w.alloc (.cells #[.int .i64 0, .int .i64 0, .bool false, .int .i64 0, .int .i64 0, .int .i64 0, .int .i64 0] 110)) s p
  rw [World.size_alloc] at hc0
  have HB0 : Hid (Below w.heap.size w ((w.alloc (.cells #[.int .i64 0, .int .i64 0, .bool false, .int .i64 0, .int .i64 0, .int .i64 0, .int .i64 0] 110)).alloc (.cells #[.string s, .int .i64 p] 183))) := ((Below.refl _ _).alloc (Nat.le_refl _) _).alloc (by simp) _
  by_cases hl : leftI s p = 0
  · have HM : Hid (¬ Marked s p) := fun q => by have := q.1; have := q.2.1; unfold leftI at hl; rw [if_neg (by omega)] at hl; omega
    have HL := hid hl
    clear hl
    have e0 := HE.out.mark
    go_enter Tryz.func110, Tryz.ntmps110
    go_wp2_with fail
    refine (byte_no _ s p _ hc0 hs HL.out).mono ?_
    rintro e w' ⟨rfl, rfl⟩
    go_wp2_with fail
    go_region_held3 (fun wx => wx.cell? ⟨0, 0, none⟩ = some (.iface 213 (.pointer (some ea)))) (first | (go_keep; done) | (simp [World.cell?_setCell_far, e0]; done) | trace_state) (fail)
    all_goals go_wp2
    all_goals (
      refine bodyPost_ret (v := .tuple #[frm0, errV ea]) (by simp [results, Tryz.results110, go_sem, frm0, errV]) rfl ⟨Or.inl ⟨HM.out, rfl⟩, ?_⟩
      repeat (first | with_reducible exact HB0.out | with_reducible refine Below.drew ?_ | with_reducible refine Below.setCell ?_ (by simp) _ | with_reducible refine Below.setCell ?_ (by simp; omega) _ | with_reducible refine Below.alloc ?_ (by first | omega | (simp; done) | (simp; omega)) _))
  obtain ⟨a, rfl⟩ : ∃ a : Nat, p = a := by
    unfold leftI at hl
    split at hl
    · exact absurd rfl hl
    · exact Int.eq_ofNat_of_zero_le (by omega)
  have ha : a < s.size := by unfold leftI at hl; split at hl <;> omega
  clear hl
  go_enter Tryz.func110, Tryz.ntmps110
  go_wp2_with fail
  refine (byte_yes _ s a _ hc0 hs ha).mono ?_
  rintro e w1 ⟨rfl, hc1, hg1⟩
  have hB1 : Blk w1 w.heap.size #[.int .i64 0, .int .i64 0, .bool false, .int .i64 0, .int .i64 0, .int .i64 0, .int .i64 0] 110 := ((Blk.made w _ _).past (by simp) _).far hg1 (by simp; omega) (by simp)
  have HB1 : Hid (Below w.heap.size w w1) := HB0.out.grown hg1 (by simp; omega) (by intro k hk; cases hk; omega)
  have HE1 : Hid (Errs w1 ea eb) := HE.out.below HB1.out
  have hz1 : w.heap.size + 1 < w1.heap.size := by have := hg1.size; simp at this; omega
  clear hg1 hc0 HB0
  have hb := byteAt_get s a ha
  by_cases hm : byteAt s a = 231
  case neg =>
    have HM : Hid (¬ Marked s (a : Nat)) := fun q => hm (by simpa using q.2.2)
    have d0 : ((s[a].toNat : Int) != 231) = true := by rw [hb] at hm; simp; omega
    clear hm hb
    have q0 := hB1.cell 0 _ rfl
    have f0 := hB1.free 0
    have q1 := hB1.cell 1 _ rfl
    have f1 := hB1.free 1
    have q2 := hB1.cell 2 _ rfl
    have f2 := hB1.free 2
    have q3 := hB1.cell 3 _ rfl
    have f3 := hB1.free 3
    have q4 := hB1.cell 4 _ rfl
    have f4 := hB1.free 4
    have q5 := hB1.cell 5 _ rfl
    have f5 := hB1.free 5
    have q6 := hB1.cell 6 _ rfl
    have f6 := hB1.free 6
    have e0 := HE1.out.mark
    go_wp2_with fail
    go_region_held3 (fun wx => wx.cell? ⟨0, 0, none⟩ = some (.iface 213 (.pointer (some ea)))) (first | (go_keep; done) | (simp [World.cell?_setCell_far, m0, e0]; done) | trace_state) (fail)
    all_goals go_wp2
    all_goals (
      refine bodyPost_ret (v := .tuple #[frm0, errV ea]) (by simp [results, Tryz.results110, go_sem, frm0, errV, q0, q1, q2, q3, q4, q5, q6]) rfl ⟨Or.inl ⟨HM.out, rfl⟩, ?_⟩
      repeat (first | with_reducible exact HB1.out | with_reducible refine Below.drew ?_ | with_reducible refine Below.setCell ?_ (by simp) _ | with_reducible refine Below.setCell ?_ (by simp; omega) _ | with_reducible refine Below.alloc ?_ (by first | omega | (simp; done) | (simp; omega)) _))
  have HM : Hid (Marked s (a : Nat)) := ⟨by omega, by omega, by simpa using hm⟩
  have d0 : ((s[a].toNat : Int) != 231) = false := by rw [hb] at hm; simp; omega
  clear hm hb
  go_wp2_with fail
  refine (takeHeader_all (w.heap.size + 1) s (a + 1) _ hc1 hs).mono ?_
  rintro e w2 ⟨hg2, h⟩
  have hB2 := hB1.far hg2 (by omega) (by simp)
  have HB2 : Hid (Below w.heap.size w w2) := HB1.out.grown hg2 (by omega) (by intro k hk; cases hk; omega)
  have HE2 : Hid (Errs w2 ea eb) := HE.out.below HB2.out
  have hz2 : w.heap.size + 1 < w2.heap.size := by have := hg2.size; omega
  clear hg2 hB1 HB1 HE1
  rcases h with ⟨ka, ks, g, hn, rfl, hc2⟩ | ⟨hn, x, y, z, rfl⟩
  case inr =>
    have HN : Hid (frmN s a = none) := by show _ = _; unfold frmN; rw [hn]
    clear hn
    have q0 := hB2.cell 0 _ rfl
    have f0 := hB2.free 0
    have q1 := hB2.cell 1 _ rfl
    have f1 := hB2.free 1
    have q2 := hB2.cell 2 _ rfl
    have f2 := hB2.free 2
    have q3 := hB2.cell 3 _ rfl
    have f3 := hB2.free 3
    have q4 := hB2.cell 4 _ rfl
    have f4 := hB2.free 4
    have q5 := hB2.cell 5 _ rfl
    have f5 := hB2.free 5
    have q6 := hB2.cell 6 _ rfl
    have f6 := hB2.free 6
    have e1 := HE2.out.bent
    have hz3 : w.heap.size < w2.heap.size := by omega
    have hz4 : 1 < w2.heap.size := by omega
    have hz5 : ¬ w.heap.size = w2.heap.size := by omega
    have hz6 : ¬ 1 = w2.heap.size := by omega
    go_wp2_with fail
    go_region_held3 (fun wx => wx.cell? ⟨1, 0, none⟩ = some (.iface 213 (.pointer (some eb)))) (first | (go_keep; done) | (simp [World.cell?_setCell_far, m1, e1, hz4]; done) | trace_state) (fail)
    all_goals go_wp2
    all_goals (
      refine bodyPost_ret (v := .tuple #[frm0, errV eb]) (by simp [results, Tryz.results110, go_sem, frm0, errV, hz3, q0, q1, q2, q3, q4, q5, q6]) rfl ⟨Or.inr (Or.inl ⟨HM.out, HN.out, rfl⟩), ?_⟩
      repeat (first | with_reducible exact HB2.out | with_reducible refine Below.drew ?_ | with_reducible refine Below.setCell ?_ (by simp) _ | with_reducible refine Below.setCell ?_ (by simp; omega) _ | with_reducible refine Below.alloc ?_ (by first | omega | (simp; done) | (simp; omega)) _))

  obtain ⟨q, hq⟩ : ∃ q, q = ka + ks + 1 := ⟨_, rfl⟩
  rw [← hq] at hc2
  have HN : Hid (frmN s a = match spanN s q 100000 with
    | none => none
    | some (ba, bs) => if (g = true ∧ 0 < bs) ∨ s.size < ba + bs + 4 then none else some ⟨ka, ks, g, ba, bs, a, ba + bs + 4⟩) := by
    show _ = _; unfold frmN; rw [hn, hq]; rfl
  clear hn hq
  go_wp2_with fail
  refine (takeSpan_all (w.heap.size + 1) s q 100000 _ (hc2.past _) hs (by decide)).mono ?_
  rintro e w3 ⟨hg3, h⟩
  have hB3 := (hB2.past (by omega) (.cells #[.int .i64 (ka : Nat), .int .i64 (ks : Nat), .bool g] 108)).far hg3 (by simp; omega) (by simp)
  have hH3 : Blk w3 w2.heap.size #[.int .i64 (ka : Nat), .int .i64 (ks : Nat), .bool g] 108 := (Blk.made w2 _ _).far hg3 (by simp) (by simp; omega)
  have HB3 : Hid (Below w.heap.size w w3) := (HB2.out.alloc (by omega) _).grown hg3 (by simp; omega) (by intro k hk; cases hk; omega)
  have HE3 : Hid (Errs w3 ea eb) := HE.out.below HB3.out
  have hz3 : w2.heap.size < w3.heap.size := by have := hg3.size; simp at this; omega
  clear hg3 hB2 HB2 HE2 hc2
  have q0 := hB3.cell 0 _ rfl
  have f0 := hB3.free 0
  have q1 := hB3.cell 1 _ rfl
  have f1 := hB3.free 1
  have q2 := hB3.cell 2 _ rfl
  have f2 := hB3.free 2
  have q3 := hB3.cell 3 _ rfl
  have f3 := hB3.free 3
  have q4 := hB3.cell 4 _ rfl
  have f4 := hB3.free 4
  have q5 := hB3.cell 5 _ rfl
  have f5 := hB3.free 5
  have q6 := hB3.cell 6 _ rfl
  have f6 := hB3.free 6
  have h0 := hH3.cell 0 _ rfl
  have h1 := hH3.cell 1 _ rfl
  have h2 := hH3.cell 2 _ rfl
  have e1 := HE3.out.bent
  have y1 : w.heap.size < w3.heap.size := by omega
  have y2 : w.heap.size + 1 < w3.heap.size := by omega
  have y3 : 1 < w3.heap.size := by omega
  have y4 : ¬ w2.heap.size = w.heap.size := by omega
  have y5 : ¬ w.heap.size + 1 = w.heap.size := by omega
  have y6 : ¬ w3.heap.size = w.heap.size := by omega
  have m2 : w.heap.size ≠ w2.heap.size := by omega
  rcases h with ⟨ba, bs, hn, rfl, hc3⟩ | ⟨hn, rfl⟩
  case inr =>
    have HN : Hid (frmN s a = none) := by show _ = _; rw [HN.out, hn]
    clear hn
    go_wp2_with fail
    go_region_held3 (fun wx => wx.cell? ⟨1, 0, none⟩ = some (.iface 213 (.pointer (some eb)))) (first | (go_keep; done) | (simp [World.cell?_setCell_far, m1, e1, y3]; done) | trace_state) (fail)
    all_goals go_wp2
    all_goals (
      refine bodyPost_ret (v := .tuple #[frm0, errV eb]) (by simp [results, Tryz.results110, go_sem, frm0, errV, y1, q0, q1, q2, q3, q4, q5, q6]) rfl ⟨Or.inr (Or.inl ⟨HM.out, HN.out, rfl⟩), ?_⟩
      repeat (first | with_reducible exact HB3.out | with_reducible refine Below.drew ?_ | with_reducible refine Below.setCell ?_ (by simp) _ | with_reducible refine Below.setCell ?_ (by simp; omega) _ | with_reducible refine Below.alloc ?_ (by first | omega | (simp; done) | (simp; omega)) _))

  have HN : Hid (frmN s a = if (g = true ∧ 0 < bs) ∨ s.size < ba + bs + 4 then none else some ⟨ka, ks, g, ba, bs, a, ba + bs + 4⟩) := by show _ = _; rw [HN.out, hn]
  have I3 := span_in s _ _ _ _ hn
  obtain ⟨r, hr⟩ : ∃ r, r = ba + bs := ⟨_, rfl⟩
  rw [← hr] at hc3 HN
  have hrs : r ≤ s.size := by have := I3.2.1; omega
  have HR := hid hr
  clear hn I3 hr
  by_cases c1 : g = true ∧ 0 < bs
  · have HN2 : Hid (frmN s a = none) := by show _ = _; rw [HN.out, if_pos (Or.inl c1)]
    clear HN
    obtain ⟨rfl, c1⟩ := c1
    have d1 : decide ((0 : Int) < (bs : Int)) = true := by simp; omega
    have d1' : decide (0 < bs) = true := by simp; omega
    have d1'' : 0 < bs := c1
    clear c1
    go_wp2_with fail
    go_region_held3 (fun wx => wx.cell? ⟨1, 0, none⟩ = some (.iface 213 (.pointer (some eb)))) (first | (go_keep; done) | (simp [World.cell?_setCell_far, m1, e1, y3]; done) | trace_state) (fail)
    all_goals go_wp2
    all_goals (
      refine bodyPost_ret (v := .tuple #[frm0, errV eb]) (by simp [results, Tryz.results110, go_sem, frm0, errV, y1, q0, q1, q2, q3, q4, q5, q6]) rfl ⟨Or.inr (Or.inl ⟨HM.out, HN2.out, rfl⟩), ?_⟩
      repeat (first | with_reducible exact HB3.out | with_reducible refine Below.drew ?_ | with_reducible refine Below.setCell ?_ (by simp) _ | with_reducible refine Below.setCell ?_ (by simp; omega) _ | with_reducible refine Below.alloc ?_ (by first | omega | (simp; done) | (simp; omega)) _))

  have hp := hc3.place
  have LF := fun W (h : CurAt W (w.heap.size + 1) s (r : Nat)) => hid (left_all (w.heap.size + 1) s (r : Nat) W h hs)
  have c1' : g = false ∨ (g = true ∧ bs = 0) := by
    cases g with
    | false => exact Or.inl rfl
    | true => right; refine ⟨rfl, ?_⟩; have : ¬ 0 < bs := fun q => c1 ⟨rfl, q⟩; omega
  by_cases c2 : s.size < r + 4
  · have HN2 : Hid (frmN s a = none) := by show _ = _; rw [HN.out, if_pos (Or.inr c2)]
    clear HN
    have lf : leftI s (r : Int) = s.size - r := by unfold leftI; rw [if_neg (show ¬ ((r : Int) < 0 ∨ (s.size : Int) < r) by omega)]
    have d2 : decide (leftI s (r : Int) < 4) = true := by rw [lf]; simp; omega
    clear lf
    clear c1
    rcases c1' with rfl | ⟨rfl, rfl⟩
    all_goals (
      go_wp2_with fail
      refine (LF _ (hc3.past _)).out.mono ?_
      rintro e w4 ⟨rfl, rfl⟩
      go_wp2_with fail)
    all_goals go_region_held3 (fun wx => wx.cell? ⟨1, 0, none⟩ = some (.iface 213 (.pointer (some eb)))) (first | (go_keep; done) | (simp [World.cell?_setCell_far, m1, e1, y3]; done) | trace_state) (fail)
    all_goals go_wp2
    all_goals (
      refine bodyPost_ret (v := .tuple #[frm0, errV eb]) (by simp [results, Tryz.results110, go_sem, frm0, errV, y1, q0, q1, q2, q3, q4, q5, q6]) rfl ⟨Or.inr (Or.inl ⟨HM.out, HN2.out, rfl⟩), ?_⟩
      repeat (first | with_reducible exact HB3.out | with_reducible refine Below.drew ?_ | with_reducible refine Below.setCell ?_ (by simp) _ | with_reducible refine Below.setCell ?_ (by simp; omega) _ | with_reducible refine Below.alloc ?_ (by first | omega | (simp; done) | (simp; omega)) _))

  have HN2 : Hid (frmN s a = some ⟨ka, ks, g, ba, bs, a, r + 4⟩) := by show _ = _; rw [HN.out, if_neg (by rintro (q | q); (exact c1 q); exact c2 q)]
  clear HN
  have lf : leftI s (r : Int) = s.size - r := by unfold leftI; rw [if_neg (show ¬ ((r : Int) < 0 ∨ (s.size : Int) < r) by omega)]
  have d2 : decide (leftI s (r : Int) < 4) = false := by rw [lf]; simp; omega
  clear lf
  have wr : IntKind.i64.wrap ((r : Int) + 4) = (r : Int) + 4 := by simp [IntKind.wrap, IntKind.bits, IntKind.signed]; omega
  clear c1
  rcases c1' with rfl | ⟨rfl, rfl⟩
  · go_wp2_with fail
    refine (LF _ (hc3.past _)).out.mono ?_
    rintro e w4 ⟨rfl, rfl⟩
    go_wp2_with fail
    go_region_held3 (fun wx => ((wx.cell? ⟨w2.heap.size, 0, none⟩ = some (.int .i64 (ka : Nat)) ∧ wx.cell? ⟨w2.heap.size, 1, none⟩ = some (.int .i64 (ks : Nat))) ∧ wx.cell? ⟨w2.heap.size, 2, none⟩ = some (.bool false)) ∧ (wx.cell? ⟨w3.heap.size, 0, none⟩ = some (.int .i64 (ba : Nat)) ∧ wx.cell? ⟨w3.heap.size, 1, none⟩ = some (.int .i64 (bs : Nat))) ∧ wx.cell? ⟨w.heap.size + 1, 1, none⟩ = some (.int .i64 (r : Nat))) (first | (go_keep; done) | exact ⟨⟨⟨keep_old (by simpa using hz3) (far_set m2 (far_set m2 (far_set m2 (far_set m2 (far_set m2 (far_set m2 (far_set m2 h0))))))), keep_old (by simpa using hz3) (far_set m2 (far_set m2 (far_set m2 (far_set m2 (far_set m2 (far_set m2 (far_set m2 h1)))))))⟩, keep_old (by simpa using hz3) (far_set m2 (far_set m2 (far_set m2 (far_set m2 (far_set m2 (far_set m2 (far_set m2 h2)))))))⟩, ⟨keep_newD (by simp) rfl, keep_newD (by simp) rfl⟩, by go_keep⟩ | trace_state) (fail)
    all_goals go_wp2
    all_goals (
      refine bodyPost_ret (v := .tuple #[.agg #[.int .i64 (ka : Nat), .int .i64 (ks : Nat), .bool false, .int .i64 (ba : Nat), .int .i64 (bs : Nat), .int .i64 (a : Nat), .int .i64 ((r : Int) + 4)], .nilIface]) (by simp [results, Tryz.results110, go_sem, y1, q0, q1, q2, q3, q4, q5, q6]) rfl ⟨Or.inr (Or.inr ⟨_, HM.out, HN2.out, rfl⟩), ?_⟩
      repeat (first | with_reducible exact HB3.out | with_reducible refine Below.drew ?_ | with_reducible refine Below.setCell ?_ (by simp) _ | with_reducible refine Below.setCell ?_ (by simp; omega) _ | with_reducible refine Below.alloc ?_ (by first | omega | (simp; done) | (simp; omega)) _))
  · go_wp2_with fail
    refine (LF _ (hc3.past _)).out.mono ?_
    rintro e w4 ⟨rfl, rfl⟩
    go_wp2_with fail
    go_region_held3 (fun wx => ((wx.cell? ⟨w2.heap.size, 0, none⟩ = some (.int .i64 (ka : Nat)) ∧ wx.cell? ⟨w2.heap.size, 1, none⟩ = some (.int .i64 (ks : Nat))) ∧ wx.cell? ⟨w2.heap.size, 2, none⟩ = some (.bool true)) ∧ (wx.cell? ⟨w3.heap.size, 0, none⟩ = some (.int .i64 (ba : Nat)) ∧ wx.cell? ⟨w3.heap.size, 1, none⟩ = some (.int .i64 0)) ∧ wx.cell? ⟨w.heap.size + 1, 1, none⟩ = some (.int .i64 (r : Nat))) (first | (go_keep; done) | exact ⟨⟨⟨keep_old (by simpa using hz3) (far_set m2 (far_set m2 (far_set m2 (far_set m2 (far_set m2 (far_set m2 (far_set m2 h0))))))), keep_old (by simpa using hz3) (far_set m2 (far_set m2 (far_set m2 (far_set m2 (far_set m2 (far_set m2 (far_set m2 h1)))))))⟩, keep_old (by simpa using hz3) (far_set m2 (far_set m2 (far_set m2 (far_set m2 (far_set m2 (far_set m2 (far_set m2 h2)))))))⟩, ⟨keep_newD (by simp) rfl, keep_newD (by simp) rfl⟩, by go_keep⟩ | trace_state) (fail)
    all_goals go_wp2
    all_goals (
      refine bodyPost_ret (v := .tuple #[.agg #[.int .i64 (ka : Nat), .int .i64 (ks : Nat), .bool true, .int .i64 (ba : Nat), .int .i64 0, .int .i64 (a : Nat), .int .i64 ((r : Int) + 4)], .nilIface]) (by simp [results, Tryz.results110, go_sem, y1, q0, q1, q2, q3, q4, q5, q6]) rfl ⟨Or.inr (Or.inr ⟨_, HM.out, HN2.out, rfl⟩), ?_⟩
      repeat (first | with_reducible exact HB3.out | with_reducible refine Below.drew ?_ | with_reducible refine Below.setCell ?_ (by simp) _ | with_reducible refine Below.setCell ?_ (by simp; omega) _ | with_reducible refine Below.alloc ?_ (by first | omega | (simp; done) | (simp; omega)) _))
end Go.Proofs.YtngkiokibldfjaaGreatDoor
