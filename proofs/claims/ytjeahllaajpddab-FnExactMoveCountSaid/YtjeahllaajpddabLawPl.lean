import Derived.Test.YtjeahllaajpddabAnsKit
import Derived.Test.YtjeahllaajpddabSPlace2
namespace Go.Proofs.Ytjeahllaajpddab
open Go.RowKit
/-! The laws' own functions on places. -/
theorem own_form {w : World} {base : Nat} {e : TypeId} {size : Nat} {a : Option Addr} {m n c : Nat} {xs : List Value} (h : w.ownsRow base e size (.slice a m c) n xs) :
    (n = 0 ∧ a = none ∧ c = 0) ∨ ∃ g cur, a = some ⟨g, 0, none⟩ ∧ base ≤ g ∧ w.heap[g]? = some (.cells cur e (0, 0)) ∧ n ≤ c ∧ cur.size = c * size ∧ cur.toList.take (n * size) = xs := by
  rcases h.2 with ⟨h', h0⟩ | ⟨g, cap, cur, h', hb, hg, hnc, hcm, hcs, ht⟩
  · simp only [Value.slice.injEq] at h'
    exact .inl ⟨h0, h'.1, h'.2.2⟩
  · simp only [Value.slice.injEq] at h'
    obtain ⟨rfl, _, rfl⟩ := h'
    exact .inr ⟨g, cur, rfl, hb, hg, hnc, hcs, ht⟩
theorem Ow.of_nums {w : World} {base : Nat} {e : TypeId} {a : Option Addr} {n c : Nat} {xs : List Int} (h : OwnNums w base e .i64 (.slice a n c) xs) : Ow w base a xs.length c xs := by
  rcases own_form h with ⟨h0, rfl, rfl⟩ | ⟨g, cur, rfl, hb, hg, hnc, hcs, htake⟩
  · exact ⟨rfl, by omega, .inl h0⟩
  · refine ⟨rfl, hnc, .inr ⟨g, 0, rfl, hb, cur, e, hg, by omega, fun i hi => ?_⟩⟩
    rw [Nat.zero_add]
    have : (cur.toList.take (xs.length * 1))[i]? = some (.int .i64 (xs.getD i 0)) := by
      rw [htake, List.getElem?_map, List.getElem?_eq_getElem hi]
      simp [hi]
    rw [List.getElem?_take, if_pos (by omega), Array.getElem?_toList] at this
    exact this
/-- an answer: places -/
def AnsPl (C : Int) (xs : List Int) (w : World) (e : Ending) (w' : World) : Prop := ∃ a c, e = .returned (plv C a xs.length c) ∧ Ow w' w.heap.size a xs.length c xs ∧ Below w.heap.size w w'
theorem turned_al {lo hi : Nat} {w w' : World} {o : Obj} (h : Turned lo hi (w.alloc o) w') : Turned lo hi w w' := by
  have b : Below w.heap.size w (w.alloc o) := (Below.refl _ w).alloc (Nat.le_refl _) _
  exact ⟨h.os.trans b.os, h.tape.trans b.tape, h.output.trans b.output, Nat.le_trans b.size h.size, fun k hk hn => (h.block k (Nat.lt_of_lt_of_le hk b.size) hn).trans (b.block k hk)⟩
theorem markOwn (lo hi : Nat) (a : Option Addr) (len cap : Nat) (xs : List Int) (k0 : Nat) (w : World) (h : Own w lo hi a len cap xs) (hl : len ≤ 1048576) (hk0 : k0 ≤ 1073741824) :
    Calls Try.prog 29 #[.slice a len cap, .int .i64 k0] w fun e w' => e = .returned (.int .i64 (k0 + len : Nat)) ∧ Own w' lo hi a len cap (marks k0 len) ∧ Turned lo hi w w' := by
  rcases h.2.2 with h0 | ⟨b, off, rfl, h1, h2, hw⟩
  · subst h0
    refine (mark64_0 a cap k0 w).mono ?_
    rintro e w' ⟨rfl, rfl⟩
    exact ⟨rfl, ⟨by simp [marks], h.2.1, .inl rfl⟩, .of_below (Below.refl _ _)⟩
  · have hx := h.1
    have hc := h.2.1
    subst hx
    refine (mark64 b off cap xs k0 w hw hl hk0).mono ?_
    rintro e w' ⟨rfl, hw', hg⟩
    exact ⟨rfl, ⟨marks_len _ _, hc, .inr ⟨b, off, rfl, h1, h2, hw'⟩⟩, .of_grown hg h1 h2⟩
set_option maxRecDepth 20000 in
set_option maxHeartbeats 1000000 in
theorem eqPl (C : Int) (a : Option Addr) (c : Nat) (a' : Option Addr) (c' : Nat) (xs : List Int) (hl : xs.length ≤ 1048576) (w : World) (h : Ints .i64 w a xs.length c xs) (h' : Ints .i64 w a' xs.length c' xs) :
    Calls Try.prog 13 #[plv C a xs.length c, plv C a' xs.length c'] w fun e w' => e = .returned (.bool true) ∧ Below w.heap.size w w' := by
  have dC : (C != C) = false := by simp
  have B2 : Hid (∀ o o', Below w.heap.size w ((w.alloc o).alloc o')) := fun o o' => ((Below.refl _ w).alloc (Nat.le_refl _) _).alloc (by simp) _
  have H1 : Hid (∀ o o', Ints .i64 ((w.alloc o).alloc o') a xs.length c xs) := fun o o' => (h.alloc _).alloc _
  have H2 : Hid (∀ o o', Ints .i64 ((w.alloc o).alloc o') a' xs.length c' xs) := fun o o' => (h'.alloc _).alloc _
  clear h h'
  unfold plv
  go_enter Try.func13, Try.ntmps13
  go_wp2_with fail
  refine (eq64 a xs.length c xs a' xs.length c' xs _ (H1.out _ _) (H2.out _ _) hl hl rfl).mono ?_
  rintro e w2 ⟨rfl, hb2⟩
  go_wp2
  go_ret
  exact ⟨rfl, (B2.out _ _).trans (hb2.mono (B2.out _ _).size)⟩
set_option maxRecDepth 20000 in
set_option maxHeartbeats 1000000 in
theorem markNds (b n : Nat) (F : Nat → Value) (hl : n ≤ 1048576) (w : World) (h : FRow w b 44 (n * 2) F) :
    Calls Try.prog 14 #[.slice (some ⟨b, 0, none⟩) n n, .int .i64 1] w fun e w' => e = .returned (.int .i64 ((1 + n * 2 : Nat) : Int)) ∧ w.grownBy w' (some b) := by
  have HF := hid h
  clear h
  go_enter Try.func14, Try.ntmps14
  go_wp2_with fail
  go_loopw [1, 5] (fun q r wr => ∃ (k : Nat) (F : Nat → Value), k ≤ n ∧ q = .int .i64 ((1 + k * 2 : Nat) : Int) ∧ r = .int .i64 (k : Int) ∧ FRow wr b 44 (n * 2) F ∧ w.grownBy wr (some b)) (fun _ r _ => n - (intOf r).toNat)
  case atStart => exact ⟨0, F, Nat.zero_le _, rfl, rfl, HF.out, below_grown (Below.refl _ _) _⟩
  case round =>
    obtain ⟨k, F', hk, rfl, rfl, hF, hg⟩ := hrel
    have F1 := hid hF
    have G1 := hid hg
    clear hF hg
    by_cases hlt : k < n
    · have hlt' : (k : Int) < (n : Int) := by omega
      have k0 : (0 : Int) ≤ (k : Int) := by omega
      have c0 := F1.out.cell (p := k * 2) (by omega)
      have f0 := F1.out.free (k * 2)
      have F2 := hid (F1.out.set (k * 2) (.int .i64 ((1 + k * 2 : Nat) : Int)))
      have c1 := F2.out.cell (p := k * 2 + 1) (by omega)
      have f1 := F2.out.free (k * 2 + 1)
      have F3 := hid (F2.out.set (k * 2 + 1) (.int .i64 ((1 + k * 2 + 1 : Nat) : Int)))
      have G3 : Hid (w.grownBy ((wr.setCell ⟨b, k * 2, none⟩ (.int .i64 ((1 + k * 2 : Nat) : Int))).setCell ⟨b, k * 2 + 1, none⟩ (.int .i64 ((1 + k * 2 + 1 : Nat) : Int))) (some b)) := grown_trans G1.out (grown_trans grown_set grown_set)
      obtain ⟨K, hK⟩ : ∃ K : Nat, K = 1 + k * 2 := ⟨_, rfl⟩
      have hKb : K ≤ 3000000 := by omega
      rw [← hK] at c1 f1 F2 F3 G3 ⊢
      have hK2 : Hid (K + 2 = 1 + (k + 1) * 2) := by show _ = _; omega
      clear hK
      go_wp2
      go_roundw
      case rel => exact ⟨k + 1, _, hlt, by rw [← hK2.out]; go_num, by go_num, F3.out, G3.out⟩
      case measure => simp [intOf]; omega
    · have hlt' : ¬ (k : Int) < (n : Int) := by omega
      obtain rfl : k = n := by omega
      go_wp2
      go_ret
      exact ⟨rfl, G1.out⟩
theorem markNdsT (b n : Nat) (F : Nat → Value) (K : Nat) (hK : K = 1 + n * 2) (hl : n ≤ 1048576) (w : World) (h : FRow w b 44 (n * 2) F) :
    Calls Try.prog 14 #[.slice (some ⟨b, 0, none⟩) n n, .int .i64 1] w fun e w' => e = .returned (.int .i64 (K : Int)) ∧ Turned b (b + 1) w w' := by
  subst hK
  exact (markNds b n F hl w h).mono fun e w' q => ⟨q.1, .of_grown q.2 (Nat.le_refl _) (Nat.lt_succ_self _)⟩
set_option maxRecDepth 20000 in
set_option maxHeartbeats 1000000 in
theorem markPl (C : Int) (lo hi : Nat) (a : Option Addr) (len cap : Nat) (xs : List Int) (M : Nat) (hM : M = 1 + len) (w : World) (h : Own w lo hi a len cap xs) (hl : len ≤ 1048576) :
    Calls Try.prog 15 #[plv C a len cap, .int .i64 1] w fun e w' => e = .returned (.int .i64 (M : Nat)) ∧ Own w' lo hi a len cap (marks 1 len) ∧ Turned lo hi w w' := by
  subst hM
  have B1 : Hid (∀ o, Below w.heap.size w (w.alloc o)) := fun o => (Below.refl _ w).alloc (Nat.le_refl _) _
  have H1 : Hid (∀ o, Own (w.alloc o) lo hi a len cap xs) := fun o => h.alloc _
  clear h
  unfold plv
  go_enter Try.func15, Try.ntmps15
  go_wp2_with fail
  refine (markOwn lo hi a len cap xs 1 _ (H1.out _) hl (by decide)).mono ?_
  rintro e w2 ⟨rfl, ho2, ht2⟩
  have O2 := hid ho2
  have T2 : Hid (Turned lo hi w w2) := turned_al ht2
  clear ho2 ht2
  go_wp2
  go_ret
  exact ⟨rfl, O2.out, T2.out⟩
set_option maxRecDepth 20000 in
set_option maxHeartbeats 1000000 in
theorem heldPl (C : Int) (lo hi : Nat) (a : Option Addr) (len cap : Nat) (M : Nat) (hM : M = 1 + len) (w : World) (h : Own w lo hi a len cap (marks 1 len)) (hl : len ≤ 1048576) :
    Calls Try.prog 16 #[plv C a len cap, .int .i64 1] w fun e w' => e = .returned (.int .i64 (M : Nat)) ∧ Below w.heap.size w w' := by
  subst hM
  have B1 : Hid (∀ o, Below w.heap.size w (w.alloc o)) := fun o => (Below.refl _ w).alloc (Nat.le_refl _) _
  have H1 : Hid (∀ o, Ow (w.alloc o) lo a len cap (marks 1 len)) := fun o => h.ow.alloc _
  clear h
  unfold plv
  go_enter Try.func16, Try.ntmps16
  go_wp2_with fail
  refine (heldOw lo a len cap 1 _ (H1.out _) hl (by decide)).mono ?_
  rintro e w2 ⟨rfl, rfl⟩
  have d1 : ¬ ((1 + len : Nat) : Int) < 0 := by omega
  obtain ⟨M, hM⟩ : ∃ M : Nat, M = 1 + len := ⟨_, rfl⟩
  rw [← hM] at d1 ⊢
  go_wp2
  go_ret
  exact ⟨rfl, B1.out _⟩
end Go.Proofs.Ytjeahllaajpddab
