import Derived.Test.YtekdphfifdfmbaaSoS
import Derived.Laws.AppendOwnNone
namespace Go.Proofs.Ytekdphfifdfmbaa
open Go.RowKit
set_option linter.unusedVariables false
/-! The specification's merging: many entries appended; the sieve, entry by entry. -/
theorem enL_one (L : List En) : ∀ u ∈ enL L, u.oneCell' = true := by
  intro u hu
  simp only [enL, List.mem_flatMap] at hu
  obtain ⟨e, _, hu⟩ := hu
  simp at hu
  rcases hu with rfl | rfl | rfl | rfl <;> rfl
/-- many entries are appended -/
theorem append_ens {ops : Array Oper} {rest : List Oper} {o : Oper} {a : Act} {Q : Exit → Act → World → Prop} (base : Nat) (wr : World) (hgd : o.guard = none) (s x : Operand)
    (ho : o.op = .call { callee := .builtin .append, args := #[s, x], argTypes := #[26, 26] })
    (v : Value) (L M : List En) (n : Nat) (hn1 : M.length = n) (hs : a.eval s = v) (hown : OwnEn wr base v L) (hsz : base ≤ wr.heap.size)
    (ad : Option Addr) (c : Nat) (hx : a.eval x = .slice ad n c) (hn : ad = none → c = 0) (hM : Ens wr ad n c (enA M)) (hlen : L.length + n ≤ 1048576)
    (h : ∀ v' w', OwnEn w' base v' (L ++ M) → wr.grownBy w' v.ownBlock → wpList Try.prog ops Q rest (a.put o.dst v') w') :
    wpList Try.prog ops Q (o :: rest) a wr := by
  subst hn1
  obtain ⟨i0, hi, hz0, hz1, hz2⟩ := info_parts Try.infoEn
  cases ad with
  | none =>
    have hc0 := hn rfl
    subst hc0
    have hl0 : M.length = 0 := by have := hM.1; omega
    have hM0 : M = [] := List.eq_nil_of_length_eq_zero hl0
    subst hM0
    refine wpList_append_own_none hgd s x 26 ho base 34 i0 4 Try.underlying26 hi v L.length _ hs hown hx ?_
    refine h v wr (by rw [List.append_nil]; exact hown) ?_
    exact ⟨rfl, rfl, rfl, Nat.le_refl _, fun _ _ _ => rfl⟩
  | some ad =>
    refine wpList_append_own _ hgd s x 26 ho base 34 i0 _ 4 48 Try.underlying26 hi hz0 hz1 hz2 rfl (by decide) v L.length _ hs hown ad M.length c (enL M) hx (enL_len M) ?_ (enL_one M) ?_ ?_ hsz ?_
    · intro j u hj
      have hl : j < M.length * 4 := by rw [← enL_len]; exact (List.getElem?_eq_some_iff.1 hj).1
      obtain ⟨q0, q1, q2, q3⟩ := enL_at M (j / 4) (by omega)
      rcases hM.2 with h0 | ⟨b, off, e, hb, hc⟩
      · omega
      have e := Option.some.inj e
      subst e
      obtain ⟨r0, r1, r2, r3⟩ := hc (j / 4) (by omega)
      have ad0 : ∀ k, (⟨b, off, none⟩ : Addr).add k = ⟨b, off + k, none⟩ := fun k => by cases k <;> rfl
      rcases (by omega : j = j / 4 * 4 ∨ j = j / 4 * 4 + 1 ∨ j = j / 4 * 4 + 2 ∨ j = j / 4 * 4 + 3) with e | e | e | e
      · rw [e] at hj ⊢; rw [q0] at hj; rw [← hj, ad0]; exact r0
      · rw [e] at hj ⊢; rw [q1] at hj; rw [← hj]; exact r1
      · rw [e] at hj ⊢; rw [q2] at hj; rw [← hj]; exact r2
      · rw [e] at hj ⊢; rw [q3] at hj; rw [← hj]; exact r3
    · unfold maxLen; omega
    · omega
    · intro v' w' h1 h2 h3
      refine h v' w' ?_ h2
      unfold OwnEn
      rw [enL_app, List.length_append]
      exact h1
def lastO : Option En → List En → Option En
  | p, [] => p
  | _, x :: r => lastO (some x) r
theorem lastO_snoc (e : En) : ∀ (L : List En) (p : Option En), lastO p (L ++ [e]) = some e
  | [], p => rfl
  | x :: r, p => lastO_snoc e r (some x)
open Classical in
theorem mgS_snoc (fl : Int) (e : En) : ∀ (L : List En) (pr : Option En), mgS fl pr (L ++ [e]) = mgS fl pr L ++ (if e.sq ≤ fl ∧ (oldP fl (lastO pr L) e ∨ e.gn = true) then [] else [e])
  | [], pr => by
    show (if e.sq ≤ fl ∧ (oldP fl pr e ∨ e.gn = true) then [] else [e]) ++ [] = [] ++ _
    rw [List.append_nil, List.nil_append]; rfl
  | x :: r, pr => by
    show (if x.sq ≤ fl ∧ (oldP fl pr x ∨ x.gn = true) then [] else [x]) ++ mgS fl (some x) (r ++ [e]) = ((if x.sq ≤ fl ∧ (oldP fl pr x ∨ x.gn = true) then [] else [x]) ++ mgS fl (some x) r) ++ _
    rw [mgS_snoc fl e r (some x), List.append_assoc]; rfl
theorem take_enA {L : List En} {i : Nat} (h : i < L.length) : L.take (i + 1) = L.take i ++ [enA L i] := by
  rw [List.take_add_one, enA_get h]; rfl
/-- what is left of the first i entries -/
noncomputable def mgN (fl : Int) (L : List En) (i : Nat) : List En := mgS fl none (L.take i)
theorem lastO_take {L : List En} {i : Nat} (h : i < L.length) (e : En) (fl : Int) : oldP fl (lastO none (L.take i)) e ↔ 0 < i ∧ (enA L (i - 1)).ky = e.ky ∧ (enA L (i - 1)).sq ≤ fl := by
  cases i with
  | zero => constructor
            · rintro ⟨p, hp, _⟩; cases hp
            · rintro ⟨h0, _⟩; omega
  | succ i =>
    rw [take_enA (by omega), lastO_snoc, Nat.add_sub_cancel]
    constructor
    · rintro ⟨p, hp, h1, h2⟩; cases hp; exact ⟨by omega, h1, h2⟩
    · rintro ⟨_, h1, h2⟩; exact ⟨_, rfl, h1, h2⟩
theorem mgN_skip {fl : Int} {L : List En} {i : Nat} (h : i < L.length) (h1 : (enA L i).sq ≤ fl) (h2 : (0 < i ∧ (enA L (i - 1)).ky = (enA L i).ky ∧ (enA L (i - 1)).sq ≤ fl) ∨ (enA L i).gn = true) : mgN fl L (i + 1) = mgN fl L i := by
  unfold mgN
  rw [take_enA h, mgS_snoc, if_pos ⟨h1, h2.imp (lastO_take h _ fl).2 id⟩, List.append_nil]
theorem mgN_keep {fl : Int} {L : List En} {i : Nat} (h : i < L.length) (h1 : ¬ ((enA L i).sq ≤ fl ∧ ((0 < i ∧ (enA L (i - 1)).ky = (enA L i).ky ∧ (enA L (i - 1)).sq ≤ fl) ∨ (enA L i).gn = true))) : mgN fl L (i + 1) = mgN fl L i ++ [enA L i] := by
  unfold mgN
  rw [take_enA h, mgS_snoc, if_neg fun q => h1 ⟨q.1, q.2.imp (lastO_take h _ fl).1 id⟩]
theorem mgN_0 (fl : Int) (L : List En) : mgN fl L 0 = [] := rfl
theorem mgN_all (fl : Int) (L : List En) : mgN fl L L.length = mgS fl none L := by unfold mgN; rw [List.take_length]
theorem mgN_len {fl : Int} {L : List En} : ∀ i, i ≤ L.length → (mgN fl L i).length ≤ i
  | 0, _ => by rw [mgN_0]; exact Nat.le_refl _
  | i + 1, h => by
    have := mgN_len (fl := fl) (L := L) i (by omega)
    by_cases q : (enA L i).sq ≤ fl ∧ ((0 < i ∧ (enA L (i - 1)).ky = (enA L i).ky ∧ (enA L (i - 1)).sq ≤ fl) ∨ (enA L i).gn = true)
    · rw [mgN_skip h q.1 q.2]; omega
    · rw [mgN_keep h q, List.length_append]; show _ + 1 ≤ _; omega
theorem enA_range (o : Nat → En) {n k : Nat} (h : k < n) : enA ((List.range n).map o) k = o k := by
  unfold enA; rw [List.getD_eq_getElem?_getD, List.getElem?_map, List.getElem?_range h]; rfl
theorem Ens.cg {w : World} {a : Option Addr} {n c : Nat} {o o' : Nat → En} (h : Ens w a n c o) (e : ∀ k, k < n → o k = o' k) : Ens w a n c o' := by
  refine ⟨h.1, ?_⟩
  rcases h.2 with h0 | ⟨b, off, e1, h1, h2⟩
  · exact .inl h0
  · exact .inr ⟨b, off, e1, h1, fun k hk => by rw [← e k hk]; exact h2 k hk⟩

open Classical in
noncomputable def mrL (R : Nat → Rn) (m : Nat) (fl : Int) : List En := if m ≤ 20 ∧ runsOk R m then mgV R m fl else []
theorem mrL_ok {R : Nat → Rn} {m : Nat} {fl : Int} (h : m ≤ 20 ∧ runsOk R m) : mrL R m fl = mgV R m fl := if_pos h
theorem mrL_no {R : Nat → Rn} {m : Nat} {fl : Int} (h : ¬ (m ≤ 20 ∧ runsOk R m)) : mrL R m fl = [] := if_neg h
theorem mrL_len (R : Nat → Rn) (m : Nat) (fl : Int) : (mrL R m fl).length ≤ 1000 := by
  by_cases h : m ≤ 20 ∧ runsOk R m
  · rw [mrL_ok h]; exact Nat.le_trans (mgV_len fl) h.2.2
  · rw [mrL_no h]; exact Nat.zero_le _
theorem mrL_fit (R : Nat → Rn) (m : Nat) (fl : Int) : ∀ e ∈ mrL R m fl, fitE e := fun e he => by
  by_cases h : m ≤ 20 ∧ runsOk R m
  · rw [mrL_ok h] at he; exact mgV_fit h.2 fl e he
  · rw [mrL_no h] at he; cases he
theorem mrL_cg {R R' : Nat → Rn} {m : Nat} {fl : Int} (h : ∀ k, k < m → (R k).n = (R' k).n ∧ (R k).o = (R' k).o) : mrL R m fl = mrL R' m fl := by
  have c : ∀ i, i ≤ m → cntR R i = cntR R' i := fun i => by
    induction i with
    | zero => intro _; rfl
    | succ i ih => intro hi; show cntR R i + _ = cntR R' i + _; rw [ih (by omega), (h i (by omega)).1]
  have a : ∀ i, i ≤ m → allE R i = allE R' i := fun i => by
    induction i with
    | zero => intro _; rfl
    | succ i ih => intro hi; show allE R i ++ _ = allE R' i ++ _; rw [ih (by omega), (h i (by omega)).1, (h i (by omega)).2]
  have q : runsOk R m ↔ runsOk R' m := by
    unfold runsOk
    rw [c m (Nat.le_refl _)]
    refine and_congr_left fun _ => ⟨fun f k hk => ?_, fun f k hk => ?_⟩
    · rw [← (h k hk).1, ← (h k hk).2]; exact f k hk
    · rw [(h k hk).1, (h k hk).2]; exact f k hk
  have v : mgV R m fl = mgV R' m fl := by
    obtain ⟨S, hS⟩ := sd_ex (enA (allE R m)) (cntR R m)
    rw [mgV_eq hS]
    rw [a m (Nat.le_refl _), c m (Nat.le_refl _)] at hS
    rw [mgV_eq hS]
  by_cases g : m ≤ 20 ∧ runsOk R m
  · rw [mrL_ok g, mrL_ok ⟨g.1, q.1 g.2⟩, v]
  · rw [mrL_no g, mrL_no fun z => g ⟨z.1, q.2 z.2⟩]
end Go.Proofs.Ytekdphfifdfmbaa
