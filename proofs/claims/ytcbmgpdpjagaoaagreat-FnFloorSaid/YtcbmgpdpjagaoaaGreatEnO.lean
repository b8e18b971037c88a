import Derived.Test.YtcbmgpdpjagaoaaGreatG2
import Derived.Test.YtcbmgpdpjagaoaaGreatG1
import Derived.OwnWalk
import Derived.OwnWalkIn
namespace Go.Proofs.YtcbmgpdpjagaoaaGreat
open Go.RowKit
set_option linter.unusedVariables false
def enA (L : List En) (i : Nat) : En := L.getD i en0
theorem enA_get {L : List En} {i : Nat} (h : i < L.length) : L[i]? = some (enA L i) := by
 unfold enA; rw [List.getD_eq_getElem?_getD, List.getElem?_eq_getElem h]; rfl
def enL (L : List En) : List Value := L.flatMap fun e => [.string e.ky, .int .i64 e.sq, .bool e.gn, .string e.tx]
theorem enL_app (A B : List En) : enL (A ++ B) = enL A ++ enL B := by simp [enL]
theorem enL_at : ∀ (L : List En) (k : Nat), k < L.length → (enL L)[k * 4]? = some (.string (enA L k).ky) ∧ (enL L)[k * 4 + 1]? = some (.int .i64 (enA L k).sq) ∧ (enL L)[k * 4 + 2]? = some (.bool (enA L k).gn) ∧ (enL L)[k * 4 + 3]? = some (.string (enA L k).tx)
 | [], k, h => by simp at h
 | e :: L, 0, h => ⟨rfl, rfl, rfl, rfl⟩
 | e :: L, k + 1, h => by
  have q := enL_at L k (by simpa using h); have e1 : enL (e :: L) = .string e.ky :: .int .i64 e.sq :: .bool e.gn :: .string e.tx :: enL L := rfl; have e2 : enA (e :: L) (k + 1) = enA L k := by unfold enA; simp
  rw [e1, e2, show (k + 1) * 4 = k * 4 + 1 + 1 + 1 + 1 by omega]; simp only [List.getElem?_cons_succ]; exact q
def OwnEn (w : World) (base : Nat) (v : Value) (L : List En) : Prop := w.ownsRow base 46 4 v L.length (enL L)
theorem OwnEn.nil (w : World) (base : Nat) : OwnEn w base (.slice none 0 0) [] := ⟨rfl, .inl ⟨rfl, rfl⟩⟩
theorem OwnEn.slice {w : World} {base : Nat} {v : Value} {L : List En} (h : OwnEn w base v L) : ∃ a c, v = .slice a L.length c := by
 rcases h.2 with ⟨h0, h1⟩ | ⟨g, cap, cur, he, _⟩
 · exact ⟨_, _, by rw [h0, h1]⟩
 · exact ⟨_, _, he⟩
theorem OwnEn.row {w : World} {base : Nat} {v : Value} {L : List En} (h : OwnEn w base v L) {g : Nat} (hg : v.ownBlock = some g) : base ≤ g ∧ g < w.heap.size ∧ ∃ cs, RA w g 46 cs := by
 rcases h.2 with ⟨rfl, _⟩ | ⟨g', cap, cur, rfl, hb, hr, r⟩
 · cases hg
 · have e : g' = g := Option.some.inj hg
   subst e; exact ⟨hb, (show RA w g' 46 cur from hr).lt, cur, hr⟩
theorem OwnEn.keep {w w' : World} {base : Nat} {v : Value} {L : List En} (h : OwnEn w base v L) (hk : ∀ g cs, v.ownBlock = some g → RA w g 46 cs → RA w' g 46 cs) : OwnEn w' base v L := by
 refine ⟨h.1, ?_⟩
 rcases h.2 with h0 | ⟨g, cap, cur, he, hb, hr, r⟩
 · exact .inl h0
 · exact .inr ⟨g, cap, cur, he, hb, hk g cur (by rw [he]; rfl) hr, r⟩
theorem OwnEn.below {w w' : World} {base : Nat} {v : Value} {L : List En} (h : OwnEn w base v L) (hb : Below w.heap.size w w') : OwnEn w' base v L := h.keep fun g cs _ hr => hr.below hb hr.lt
theorem OwnEn.ens {w : World} {base : Nat} {a : Option Addr} {n c : Nat} {L : List En} (h : OwnEn w base (.slice a n c) L) : n = L.length ∧ Ens w a n c (enA L) := by
 rcases h.2 with ⟨h0, h1⟩ | ⟨g, cap, cur, he, hb, hr, hnc, hm, hsz, htk⟩
 · cases h0
   exact ⟨h1.symm, Nat.le_refl _, .inl rfl⟩
 · cases he
   have R : RA w g 46 cur := hr; refine ⟨rfl, hnc, .inr ⟨g, 0, rfl, R.lt, fun k hk => ?_⟩⟩
   have e1 : ∀ p, p < L.length * 4 → cur[p]? = (enL L)[p]? := fun p hp => by
    have := congrArg (·[p]?) htk; simp only [List.getElem?_take] at this; rw [if_pos hp, Array.getElem?_toList] at this; exact this
   have q := enL_at L k hk; simp only [Nat.zero_add]; rw [R.cell, R.cell, R.cell, R.cell, e1 _ (by omega), e1 _ (by omega), e1 _ (by omega), e1 _ (by omega)]; exact q
theorem append_en {ops : Array Oper} {rest : List Oper} {o : Oper} {a : Act} {Q : Exit → Act → World → Prop} (base : Nat) (wr : World) (hgd : o.guard = none) (s x : Operand)
 (ho : o.op = .call { callee := .builtin .append, args := #[s, x], argTypes := #[23, 23] })
 (v : Value) (L : List En) (e : En) (hs : a.eval s = v) (hown : OwnEn wr base v L) (hsz : base ≤ wr.heap.size)
 (hx : a.eval x = .slice (some ⟨wr.heap.size, 0, none⟩) 1 1) (hlen : L.length ≤ 1048576)
 (h : ∀ v' w', OwnEn w' base v' (L ++ [e]) → wr.grownBy w' v.ownBlock → wpList Tryz.prog ops Q rest (a.put o.dst v') w') :
 wpList Tryz.prog ops Q (o :: rest) a (wr.alloc (.cells #[.string e.ky, .int .i64 e.sq, .bool e.gn, .string e.tx] 46)) := by
 obtain ⟨i0, hi, hz0, hz1, hz2⟩ := info_parts Tryz.infoEn; refine wpList_append_own _ hgd s x 23 ho base 46 i0 _ 4 48 Tryz.underlying23 hi hz0 hz1 hz2 rfl (by decide) v L.length _ hs (World.ownsRow.alloc hown _) ⟨wr.heap.size, 0, none⟩ 1 1 [.string e.ky, .int .i64 e.sq, .bool e.gn, .string e.tx] hx rfl ?_ ?_ ?_ ?_ ?_ ?_
 · intro j u hj
   have R := RA.new wr 46 #[.string e.ky, .int .i64 e.sq, .bool e.gn, .string e.tx]
   match j, hj with
   | 0, hj => simp at hj; subst hj; exact R.cell 0
   | 1, hj => simp at hj; subst hj; exact R.cell 1
   | 2, hj => simp at hj; subst hj; exact R.cell 2
   | 3, hj => simp at hj; subst hj; exact R.cell 3
 · intro u hu; simp at hu; rcases hu with rfl | rfl | rfl | rfl <;> rfl
 · unfold maxLen; omega
 · omega
 · simp; omega
 · intro v' w' h1 h2 h3
   refine h v' w' ?_ (grown_trans (World.grownBy_alloc wr _ _) h2); unfold OwnEn; rw [enL_app, List.length_append]; exact h1
theorem append_enIn {F : Fence} {n : Nat} {ops : Array Oper} {rest : List Oper} {o : Oper} {a : Act} {Q : Exit → Act → World → Prop} (base : Nat) (wr : World) (hgd : o.guard = none) (s x : Operand)
 (ho : o.op = .call { callee := .builtin .append, args := #[s, x], argTypes := #[23, 23] })
 (v : Value) (L : List En) (e : En) (hs : a.eval s = v) (hown : OwnEn wr base v L) (hsz : base ≤ wr.heap.size)
 (hx : a.eval x = .slice (some ⟨wr.heap.size, 0, none⟩) 1 1) (hlen : L.length ≤ 1048576)
 (h : ∀ v' w', OwnEn w' base v' (L ++ [e]) → wr.grownBy w' v.ownBlock → wpListIn F n Tryz.prog ops Q rest (a.put o.dst v') w') :
 wpListIn F n Tryz.prog ops Q (o :: rest) a (wr.alloc (.cells #[.string e.ky, .int .i64 e.sq, .bool e.gn, .string e.tx] 46)) := by
 obtain ⟨i0, hi, hz0, hz1, hz2⟩ := info_parts Tryz.infoEn; refine wpListIn_append_own _ hgd s x 23 ho base 46 i0 _ 4 48 Tryz.underlying23 hi hz0 hz1 hz2 rfl (by decide) v L.length _ hs (World.ownsRow.alloc hown _) ⟨wr.heap.size, 0, none⟩ 1 1 [.string e.ky, .int .i64 e.sq, .bool e.gn, .string e.tx] hx rfl ?_ ?_ ?_ ?_ ?_ ?_
 · intro j u hj
   have R := RA.new wr 46 #[.string e.ky, .int .i64 e.sq, .bool e.gn, .string e.tx]
   match j, hj with
   | 0, hj => simp at hj; subst hj; exact R.cell 0
   | 1, hj => simp at hj; subst hj; exact R.cell 1
   | 2, hj => simp at hj; subst hj; exact R.cell 2
   | 3, hj => simp at hj; subst hj; exact R.cell 3
 · intro u hu; simp at hu; rcases hu with rfl | rfl | rfl | rfl <;> rfl
 · unfold maxLen; omega
 · omega
 · simp; omega
 · intro v' w' h1 h2 h3
   refine h v' w' ?_ (grown_trans (World.grownBy_alloc wr _ _) h2); unfold OwnEn; rw [enL_app, List.length_append]; exact h1
end Go.Proofs.YtcbmgpdpjagaoaaGreat
