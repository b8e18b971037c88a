import Derived.Test.YtmjolkagkeonfaaGreatDoorG7
import Derived.Test.YtmjolkagkeonfaaGreatDoorSWr
namespace Go.Proofs.YtmjolkagkeonfaaGreatDoor
open Go.RowKit
set_option linter.unusedVariables false
/-! What is written of right statements is read back. -/
theorem spl_tail (c : UInt8) : ∀ (r : List (List UInt8)) (x : List UInt8), (∀ y ∈ x :: r, ∀ b ∈ y, b ≠ c) → splA c [] (x ++ Lib.joinTail [c] r) = x :: r
  | [], x, h => by
    have := splA_run c x [] [] (h x (by simp))
    simp [Lib.joinTail] at this ⊢
    rw [this]; simp [splA]
  | y :: r, x, h => by
    have e : Lib.joinTail [c] (y :: r) = c :: (y ++ Lib.joinTail [c] r) := by simp [Lib.joinTail]
    rw [e, splA_run c x [] _ (h x (by simp)), splA_sep, spl_tail c r y (fun z hz => h z (by simp at hz ⊢; exact .inr hz))]
    simp
theorem spl_join (c : UInt8) (xs : List (List UInt8)) (hx : xs ≠ []) (h : ∀ y ∈ xs, ∀ b ∈ y, b ≠ c) : splA c [] (Lib.join xs [c]) = xs := by
  cases xs with
  | nil => exact absurd rfl hx
  | cons x r => rw [Lib.join_cons]; exact spl_tail c r x h
/-! Words. -/
theorem wdP_b {s : ByteArray} (h : wdP s) : ∀ b ∈ s.data.toList, 33 ≤ b.toNat ∧ b.toNat ≤ 126 := fun b hb => by
  obtain ⟨i, hi, rfl⟩ := List.getElem_of_mem hb
  have hi2 : i < s.size := by rw [baLen] at hi; exact hi
  exact h.2.2 i hi2
theorem cmP_b {s : ByteArray} (h : ¬ cmP s) : ∀ b ∈ s.data.toList, b ≠ 44 := fun b hb e => by
  obtain ⟨i, hi, rfl⟩ := List.getElem_of_mem hb
  have hi2 : i < s.size := by rw [baLen] at hi; exact hi
  exact h ⟨i, hi2, e⟩
def okW (x : List UInt8) : Prop := x ≠ [] ∧ ∀ b ∈ x, 33 ≤ b.toNat ∧ b.toNat ≤ 126
theorem okW_ne {x : List UInt8} (h : okW x) {c : UInt8} (hc : c.toNat < 33) : ∀ b ∈ x, b ≠ c := fun b hb e => by
  have := (h.2 b hb).1
  rw [e] at this
  omega
theorem wdP_ok {s : ByteArray} (h : wdP s) : okW s.data.toList := ⟨fun e => by have := h.1; rw [← baLen, e] at this; simp at this, wdP_b h⟩
theorem jn_b {n : Nat} {ts : Nat → ByteArray} (h : lsP n ts) : okW (jn ts n) := by
  obtain ⟨h1, h2, h3⟩ := h
  have q : ∀ k, 1 ≤ k → k ≤ n → okW (jn ts k) := by
    intro k
    induction k with
    | zero => intro h; omega
    | succ k ih =>
      intro _ hk
      by_cases k0 : k = 0
      · subst k0; rw [jn_one]; exact wdP_ok (h3 0 (by omega)).1
      · rw [jn_next ts k (by omega)]
        have i1 := ih (by omega) (by omega)
        have i2 := wdP_ok (h3 k (by omega)).1
        refine ⟨by simp, fun b hb => ?_⟩
        simp only [List.mem_append, List.mem_singleton] at hb
        rcases hb with (hb | hb) | hb
        · exact i1.2 b hb
        · subst hb; decide
        · exact i2.2 b hb
  exact q n h1 (Nat.le_refl _)
def tsL (ts : Nat → ByteArray) (n : Nat) : List ByteArray := (List.range n).map ts
def csL (o : Nat → Cn) (n : Nat) : List Cn := (List.range n).map o
theorem tsL_len (ts : Nat → ByteArray) (n : Nat) : (tsL ts n).length = n := by simp [tsL]
theorem csL_len (o : Nat → Cn) (n : Nat) : (csL o n).length = n := by simp [csL]
theorem tsL_at {ts : Nat → ByteArray} {n i : Nat} (h : i < n) : atB (tsL ts n) i = ts i := by simp [atB, tsL, List.getD_eq_getElem?_getD, h]
theorem csL_at {o : Nat → Cn} {n i : Nat} (h : i < n) : atC (csL o n) i = o i := by simp [atC, csL, List.getD_eq_getElem?_getD, h]
theorem spl_jn {n : Nat} {ts : Nat → ByteArray} (h : lsP n ts) : splB 44 (ofL (jn ts n)) = tsL ts n := by
  unfold splB
  rw [ofL_l]
  unfold jn
  rw [spl_join 44 (jl ts n) (fun e => by have := congrArg List.length e; unfold jl at this; simp at this; have := h.1; omega)]
  · unfold jl tsL
    rw [List.map_map]
    exact List.map_congr_left fun i _ => (ofL_of rfl).symm
  · intro y hy b hb
    unfold jl at hy
    obtain ⟨i, hi, rfl⟩ := List.mem_map.1 hy
    exact cmP_b (h.2.2 i (List.mem_range.1 hi)).2 b hb
/-- a statement as data -/
def psO (s : St) : PS := ⟨s.ef, tsL s.wo.ts s.wo.n, tsL s.wa.ts s.wa.n, tsL s.wi.ts s.wi.n, csL s.cs.o s.cs.n⟩
def hdW (s : St) : List (List UInt8) := [ew s.ef, kWho, jn s.wo.ts s.wo.n, kDo, jn s.wa.ts s.wa.n, kOn, jn s.wi.ts s.wi.n]
def cnW (o : Nat → Cn) : Nat → List (List UInt8)
  | 0 => []
  | k + 1 => cnW o k ++ [kw (o k).kd, cv (o k)]
def bdW (s : St) : List UInt8 := lnH s ++ ifsL s.cs.o s.cs.n
theorem hd_join (s : St) : Lib.join (hdW s) [32] = lnH s := by
  unfold hdW lnH kWho kDo kOn
  rw [Lib.join_cons]
  simp [Lib.joinTail]
theorem bd_join (s : St) (k : Nat) : Lib.join (hdW s ++ cnW s.cs.o k) [32] = lnH s ++ ifsL s.cs.o k := by
  induction k with
  | zero => simp [cnW, ifsL, hd_join]
  | succ k ih =>
    have e : hdW s ++ cnW s.cs.o (k + 1) = (hdW s ++ cnW s.cs.o k ++ [kw (s.cs.o k).kd]) ++ [cv (s.cs.o k)] := by simp [cnW]
    rw [e, join_snoc _ _ _ (by simp), join_snoc _ _ _ (by simp [hdW]), ih]
    simp [ifsL, cw]
theorem kw_ok (k : Int) : okW (kw k) := by
  unfold kw
  split
  · exact ⟨by simp, by decide⟩
  · split
    · exact ⟨by simp, by decide⟩
    · split
      · exact ⟨by simp, by decide⟩
      · exact ⟨by simp, by decide⟩
theorem ew_ok (e : Int) : okW (ew e) := by
  unfold ew
  split
  · exact ⟨by simp, by decide⟩
  · exact ⟨by simp, by decide⟩
theorem cv_ok {c : Cn} (h : cnP c) : okW (cv c) := by
  unfold cv
  rcases h with ⟨h1, h2, _⟩ | ⟨h1, _⟩
  · rw [if_pos h1]; exact wdP_ok h2
  · rw [if_neg (by omega)]
    refine ⟨fun e => ?_, fun b hb => ?_⟩
    · have := decDigits_pos c.tm.toNat
      rw [e] at this; simp at this
    · have := decDigits_dg _ b hb
      unfold dgC at this
      omega
theorem bd_ok {s : St} (h : stP s) : ∀ x ∈ hdW s ++ cnW s.cs.o s.cs.n, okW x := by
  obtain ⟨h0, h1, h2, h3, h4⟩ := h
  intro x hx
  rcases List.mem_append.1 hx with hx | hx
  · simp only [hdW, List.mem_cons, List.mem_nil_iff, or_false] at hx
    rcases hx with rfl | rfl | rfl | rfl | rfl | rfl | rfl
    · exact ew_ok _
    · exact ⟨by simp [kWho], by decide⟩
    · exact jn_b h1
    · exact ⟨by simp [kDo], by decide⟩
    · exact jn_b h2
    · exact ⟨by simp [kOn], by decide⟩
    · exact jn_b h3
  · have q : ∀ k, k ≤ s.cs.n → ∀ x ∈ cnW s.cs.o k, okW x := by
      intro k
      induction k with
      | zero => intro _ x hx; simp [cnW] at hx
      | succ k ih =>
        intro hk x hx
        rw [cnW] at hx
        rcases List.mem_append.1 hx with hx | hx
        · exact ih (by omega) x hx
        · simp only [List.mem_cons, List.mem_nil_iff, or_false] at hx
          rcases hx with rfl | rfl
          · exact kw_ok _
          · exact cv_ok (h4 k (by omega))
    exact q _ (Nat.le_refl _) x hx
theorem bd_wds {s : St} (h : stP s) : wdsL (ofL (bdW s)) = (hdW s ++ cnW s.cs.o s.cs.n).map ofL := by
  have ok := bd_ok h
  rw [wdsL_eq, ofL_l]
  unfold bdW
  rw [← bd_join, spl_join 32 _ (by simp [hdW]) (fun y hy => okW_ne (ok y hy) (by decide))]
  congr 1
  rw [List.filter_eq_self]
  intro x hx
  have := (ok x hx).1
  unfold ne0
  have : 0 < x.length := List.length_pos_iff.2 this
  simp [this]
theorem cd_cw {c : Cn} (h : cnP c) : cdS (ofL (kw c.kd)) (ofL (cv c)) = c := by
  obtain ⟨kd, tx, tm⟩ := c
  have y : ∀ l, isW (ofL l) l := fun l => by unfold isW; rw [ofL_l]
  have n : ∀ l m, l ≠ m → ¬ isW (ofL l) m := fun l m h e => h (by unfold isW at e; rw [ofL_l] at e; exact e)
  rcases h with ⟨h1, h2, h3⟩ | ⟨h1, h2, h3, h4⟩
  · dsimp only at h1 h2 h3
    subst h3
    have e2 : cv ⟨kd, tx, 0⟩ = tx.data.toList := by unfold cv; rw [if_pos h1]
    rw [e2, ← ofL_of (b := tx) rfl]
    rcases h1 with rfl | rfl
    · dsimp only
      rw [show kw 1 = kPrefix from rfl]
      unfold cdS; rw [if_pos (y _)]
    · dsimp only
      rw [show kw 4 = kFrom from rfl]
      unfold cdS; rw [if_neg (n _ _ (by decide)), if_pos (y _)]
  · dsimp only at h1 h2 h3 h4
    subst h2
    obtain ⟨N, rfl⟩ := Int.eq_ofNat_of_zero_le h3
    have e2 : cv ⟨kd, ⟨#[]⟩, (N : Int)⟩ = Lib.decDigits N := by
      unfold cv; rw [if_neg (by dsimp only; omega)]; rfl
    have e3 : timV (ofL (Lib.decDigits N)) = N := by
      unfold timV
      rw [pb_t ⟨N, by omega, ofL_l _⟩, if_pos rfl, ofL_l, numL_dec]
    rw [e2]
    rcases h1 with rfl | rfl
    · dsimp only
      rw [show kw 2 = kBefore from rfl]
      unfold cdS; rw [if_neg (n _ _ (by decide)), if_neg (n _ _ (by decide)), if_pos (y _), e3]
    · dsimp only
      rw [show kw 3 = kAfter from rfl]
      unfold cdS; rw [if_neg (n _ _ (by decide)), if_neg (n _ _ (by decide)), if_neg (n _ _ (by decide)), if_pos (y _), e3]
theorem cdsS_app : ∀ (u : List ByteArray) (a b : ByteArray), u.length % 2 = 0 → cdsS (u ++ [a, b]) = cdsS u ++ [cdS a b]
  | [], a, b, _ => rfl
  | [x], a, b, h => by simp at h
  | x :: y :: r, a, b, h => by
    have := cdsS_app r a b (by simp at h; omega)
    simp only [List.cons_append, cdsS, this]
theorem cnW_len (o : Nat → Cn) (k : Nat) : (cnW o k).length = 2 * k := by
  induction k with
  | zero => rfl
  | succ k ih => rw [cnW, List.length_append, ih]; simp; omega
theorem cds_cnW {o : Nat → Cn} {n : Nat} (h : isP n o) : ∀ k, k ≤ n → cdsS ((cnW o k).map ofL) = csL o k := by
  intro k
  induction k with
  | zero => intro _; rfl
  | succ k ih =>
    intro hk
    rw [cnW, List.map_append]
    simp only [List.map_cons, List.map_nil]
    rw [cdsS_app _ _ _ (by rw [List.length_map, cnW_len]; omega), ih (by omega), cd_cw (h k (by omega))]
    simp [csL, List.range_succ]
theorem bd_sS {s : St} (h : stP s) : sS ((hdW s ++ cnW s.cs.o s.cs.n).map ofL) = psO s := by
  obtain ⟨h0, h1, h2, h3, h4⟩ := h
  have d : ((hdW s ++ cnW s.cs.o s.cs.n).map ofL).drop 7 = (cnW s.cs.o s.cs.n).map ofL := by simp [hdW]
  have a0 : atB ((hdW s ++ cnW s.cs.o s.cs.n).map ofL) 0 = ofL (ew s.ef) := rfl
  have a2 : atB ((hdW s ++ cnW s.cs.o s.cs.n).map ofL) 2 = ofL (jn s.wo.ts s.wo.n) := rfl
  have a4 : atB ((hdW s ++ cnW s.cs.o s.cs.n).map ofL) 4 = ofL (jn s.wa.ts s.wa.n) := rfl
  have a6 : atB ((hdW s ++ cnW s.cs.o s.cs.n).map ofL) 6 = ofL (jn s.wi.ts s.wi.n) := rfl
  have e : efV (ofL (ew s.ef)) = s.ef := by
    unfold efV isW
    simp only [ofL_l]
    rcases h0 with h0 | h0
    · rw [h0]; decide
    · rw [h0]; decide
  unfold sS psO
  rw [d, a0, a2, a4, a6, spl_jn h1, spl_jn h2, spl_jn h3, cds_cnW h4 _ (Nat.le_refl _), e]
theorem lsP_O {n : Nat} {ts : Nat → ByteArray} (h : lsP n ts) : lsP (tsL ts n).length (atB (tsL ts n)) := by
  rw [tsL_len]
  exact ⟨h.1, h.2.1, fun i hi => by rw [tsL_at hi]; exact h.2.2 i hi⟩
theorem psP_O {s : St} (h : stP s) : psP (psO s) := by
  obtain ⟨h0, h1, h2, h3, h4⟩ := h
  exact ⟨h0, lsP_O h1, lsP_O h2, lsP_O h3, fun i hi => by
    have hi : i < (csL s.cs.o s.cs.n).length := hi
    rw [csL_len] at hi
    show cnP (atC (csL s.cs.o s.cs.n) i)
    rw [csL_at hi]; exact h4 i hi⟩
theorem bd_lnP {s : St} (h : stP s) : lnP ((hdW s ++ cnW s.cs.o s.cs.n).map ofL) := by
  refine ⟨⟨?_, ?_, ?_, ?_, ?_⟩, ?_⟩
  · simp [hdW]
  · rw [List.length_map, List.length_append, cnW_len]
    show (7 + 2 * s.cs.n) % 2 = 1
    omega
  · show (ofL kWho).data.toList = _; rw [ofL_l]
  · show (ofL kDo).data.toList = _; rw [ofL_l]
  · show (ofL kOn).data.toList = _; rw [ofL_l]
  · rw [bd_sS h]; exact psP_O h
/-! The whole. -/
def rwL (R : Nat → St) (m : Nat) : List PS := (List.range m).map fun i => psO (R i)
theorem out_spl {R : Nat → St} : ∀ m, (∀ k, k < m → stP (R k)) → splA 10 [] (outL R m) = ((List.range m).map fun i => bdW (R i)) ++ [[]] := by
  have go : ∀ (m : Nat) (r : List UInt8), (∀ k, k < m → stP (R k)) → splA 10 [] (outL R m ++ r) = ((List.range m).map fun i => bdW (R i)) ++ splA 10 [] r := by
    intro m
    induction m with
    | zero => intro r _; rfl
    | succ m ih =>
      intro r h
      have e : outL R (m + 1) ++ r = outL R m ++ (bdW (R m) ++ (10 :: r)) := by simp [outL, ln, bdW]
      rw [e, ih _ (fun k hk => h k (by omega))]
      have hb : ∀ b ∈ bdW (R m), b ≠ 10 := by
        intro b hb
        have ok := bd_ok (h m (by omega))
        unfold bdW at hb
        rw [← bd_join, show hdW (R m) ++ cnW (R m).cs.o (R m).cs.n = ew (R m).ef :: ((hdW (R m)).tail ++ cnW (R m).cs.o (R m).cs.n) from rfl, Lib.join_cons] at hb
        rcases List.mem_append.1 hb with hb | hb
        · exact okW_ne (ew_ok _) (by decide) b hb
        · unfold Lib.joinTail at hb
          obtain ⟨l, hl, hbl⟩ := List.mem_flatten.1 hb
          obtain ⟨x, hx, rfl⟩ := List.mem_map.1 hl
          rcases List.mem_append.1 hbl with q | q
          · simp at q; subst q; decide
          · exact okW_ne (ok x (by show x ∈ ew (R m).ef :: ((hdW (R m)).tail ++ cnW (R m).cs.o (R m).cs.n); exact List.mem_cons_of_mem _ hx)) (by decide) b q
      rw [splA_run 10 _ [] _ hb, splA_sep]
      simp [List.range_succ]
  intro m h
  have := go m [] h
  rw [List.append_nil] at this
  rw [this]; rfl
theorem rd_lines (R : Nat → St) : ∀ (m i k : Nat) (acc : List PS), (∀ j, j < m → stP (R (k + j)) ∧ (R (k + j)).cs.n ≤ 10) → acc.length + m ≤ 50 →
    rdP i acc ((((List.range m).map fun j => bdW (R (k + j))) ++ [[]]).map ofL) = (0, 0, acc ++ (List.range m).map fun j => psO (R (k + j))) := by
  intro m
  induction m with
  | zero =>
    intro i k acc _ _
    have e : wdsL (ofL []) = [] := by rw [wdsL_eq, ofL_l]; rfl
    show rdP i acc [ofL []] = _
    rw [rdP_skip e, rdP]
    simp
  | succ m ih =>
    intro i k acc h hm
    have h0 := h 0 (by omega)
    rw [Nat.add_zero] at h0
    rw [List.range_succ_eq_map]
    simp only [List.map_cons, List.map_map, List.cons_append, Nat.add_zero]
    have w0 := bd_wds h0.1
    have ne : ¬ wdsL (ofL (bdW (R k))) = [] := by rw [w0]; simp [hdW]
    have l0 : lnP (wdsL (ofL (bdW (R k)))) := by rw [w0]; exact bd_lnP h0.1
    have s0 : sS (wdsL (ofL (bdW (R k)))) = psO (R k) := by rw [w0]; exact bd_sS h0.1
    have c0 : (psO (R k)).cs.length = (R k).cs.n := csL_len _ _
    rw [rdP_ok ne l0 ⟨by omega, by rw [s0, c0]; exact h0.2⟩, s0]
    have q := ih (i + 1) (k + 1) (acc ++ [psO (R k)]) (fun j hj => by have := h (j + 1) (by omega); rw [show k + 1 + j = k + (j + 1) by omega]; exact this) (by rw [List.length_append]; simp; omega)
    have f1 : (fun j => bdW (R (k + j))) ∘ Nat.succ = fun j => bdW (R (k + 1 + j)) := by funext j; simp [Nat.add_comm, Nat.add_left_comm]
    have f2 : (fun j => psO (R (k + j))) ∘ Nat.succ = fun j => psO (R (k + 1 + j)) := by funext j; simp [Nat.add_comm, Nat.add_left_comm]
    rw [f1, f2, q]
    simp
theorem wr_back {m : Nat} {R : Nat → St} (h : plP m R) {t : ByteArray} (ht : t.data.toList = outL R m) (hl : (outL R m).length ≤ 10000) : polO t = (0, 0, rwL R m) := by
  unfold polO
  rw [if_pos (by rw [← baLen, ht]; exact hl)]
  unfold splB
  rw [ht, out_spl m fun k hk => (h.2 k hk).1]
  have := rd_lines R m 0 0 [] (fun j hj => by rw [Nat.zero_add]; exact h.2 j hj) (by simpa using h.1)
  simp only [Nat.zero_add, List.nil_append] at this
  exact this
theorem wr_none {m : Nat} {R : Nat → St} {t : ByteArray} (ht : t.data.toList = wrV m R) (h : plP m R) (hn : t.size ≠ 0 ∨ m = 0) : t.data.toList = outL R m ∧ (outL R m).length ≤ 10000 := by
  by_cases hl : (outL R m).length ≤ 10000
  · rw [wrV_ok ⟨h, hl⟩] at ht; exact ⟨ht, hl⟩
  · rw [wrV_no (fun q => hl q.2)] at ht
    rcases hn with hn | hn
    · exact absurd (by rw [← baLen, ht]; rfl) hn
    · subst hn; exact absurd (Nat.zero_le _) hl
end Go.Proofs.YtmjolkagkeonfaaGreatDoor
