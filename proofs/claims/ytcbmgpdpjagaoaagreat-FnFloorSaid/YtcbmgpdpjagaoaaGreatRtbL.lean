import Derived.Test.YtcbmgpdpjagaoaaGreatT1
import Derived.Test.YtcbmgpdpjagaoaaGreatT2
import Derived.Test.YtcbmgpdpjagaoaaGreatS2
import Derived.Deep.RegionHeld3
import Derived.Deep.RegionLaw
import Derived.Deep.CutBlock
import Derived.Deep.CutRange
import Derived.BigQuiet
namespace Go.Proofs.YtcbmgpdpjagaoaaGreat
open Go.RowKit
set_option linter.unusedVariables false
theorem run_append_ens {ty : TypeId} (base : Nat) (wr : World) (v : Value) (L M : List En) (n : Nat) (hn1 : M.length = n) (hown : OwnEn wr base v L) (hsz : base ≤ wr.heap.size)
 (ad : Option Addr) (c : Nat) (hn : ad = none → c = 0) (hM : Ens wr ad n c (enA M)) (hlen : L.length + n ≤ 1048576) :
 ∃ v' w', (Builtin.append_ #[23, 23] ty #[v, .slice ad n c]).run Tryz.prog wr = .ok v' w' ∧ OwnEn w' base v' (L ++ M) ∧ wr.grownBy w' v.ownBlock := by
 subst hn1; obtain ⟨i0, hi, hz0, hz1, hz2⟩ := info_parts Tryz.infoEn
 cases ad with
 | none =>
  have hc0 := hn rfl; subst hc0; have hl0 : M.length = 0 := by have := hM.1; omega
  have hM0 : M = [] := List.eq_nil_of_length_eq_zero hl0; subst hM0; exact ⟨v, wr, run_append_owned_none (P := Tryz.prog) (w := wr) base 23 ty 46 i0 4 Tryz.underlying23 hi v L.length _ hown, by rw [List.append_nil]; exact hown, ⟨rfl, rfl, rfl, Nat.le_refl _, fun _ _ _ => rfl⟩⟩
 | some ad =>
  obtain ⟨v', w', h1, h2, h3, _⟩ := run_append_own (P := Tryz.prog) wr base 23 ty 46 i0 _ 4 48 Tryz.underlying23 hi hz0 hz1 hz2 rfl (by decide) v L.length _ hown ad M.length c (enL M) (enL_len M) (by
   intro j u hj; have hl : j < M.length * 4 := by rw [← enL_len]; exact (List.getElem?_eq_some_iff.1 hj).1
   obtain ⟨q0, q1, q2, q3⟩ := enL_at M (j / 4) (by omega)
   rcases hM.2 with h0 | ⟨b, off, e, hb, hc⟩
   · omega
   have e := Option.some.inj e; subst e; obtain ⟨r0, r1, r2, r3⟩ := hc (j / 4) (by omega); have ad0 : ∀ k, (⟨b, off, none⟩ : Addr).add k = ⟨b, off + k, none⟩ := fun k => by cases k <;> rfl
   rcases (by omega : j = j / 4 * 4 ∨ j = j / 4 * 4 + 1 ∨ j = j / 4 * 4 + 2 ∨ j = j / 4 * 4 + 3) with e | e | e | e
   · rw [e] at hj ⊢; rw [q0] at hj; rw [← hj, ad0]; exact r0
   · rw [e] at hj ⊢; rw [q1] at hj; rw [← hj]; exact r1
   · rw [e] at hj ⊢; rw [q2] at hj; rw [← hj]; exact r2
   · rw [e] at hj ⊢; rw [q3] at hj; rw [← hj]; exact r3) (enL_one M) (by unfold maxLen; omega) (by omega) hsz
  refine ⟨v', w', h1, ?_, h3⟩; have e1 : L.length + M.length = (L ++ M).length := by rw [List.length_append]
  have e2 : enL L ++ enL M = enL (L ++ M) := by simp [enL]
  rw [e1, e2] at h2; exact h2
theorem step_append_ens {ops : Array Oper} {o : Oper} {a : Act} {K : Act → World → Prop} {Q' : Exit → Act → World → Prop} {E : Prop} (base : Nat) (wr : World) (hgd : o.guard = none) (s x : Operand)
 (ho : o.op = .call { callee := .builtin .append, args := #[s, x], argTypes := #[23, 23] })
 (v : Value) (L M : List En) (n : Nat) (hn1 : M.length = n) (hs : a.eval s = v) (hown : OwnEn wr base v L) (hsz : base ≤ wr.heap.size)
 (ad : Option Addr) (c : Nat) (hx : a.eval x = .slice ad n c) (hn : ad = none → c = 0) (hM : Ens wr ad n c (enA M)) (hlen : L.length + n ≤ 1048576)
 (h : ∀ v' w', OwnEn w' base v' (L ++ M) → wr.grownBy w' v.ownBlock → K (a.put o.dst v') w') :
 if Region.wanted o (yielded ops a.tmps) = true then Oper.wp Tryz.prog o a wr K Q' else E := by
 have hw : Region.wanted o (yielded ops a.tmps) = true := by simp [Region.wanted, hgd]
 rw [if_pos hw]; obtain ⟨v', w', hr, h1, h2⟩ := run_append_ens (ty := o.type) base wr v L M n hn1 hown hsz ad c hn hM hlen; unfold Oper.wp
 simp [execOp, ho, resolve, invoke, builtin, hs, hx, hr, Result.andThen]
 exact h v' w' h1 h2
theorem stepR_append {ops : Array Oper} {o : Oper} {a : Act} {K : Act → World → Prop} {Q' : Exit → Act → World → Prop} {E : Prop} (base : Nat) (w : World) (hgd : o.guard = none) (s x : Operand)
 (ho : o.op = .call { callee := .builtin .append, args := #[s, x], argTypes := #[26, 26] })
 (v : Value) (Q : List (Value × List En)) (p : Value × List En) (hs : a.eval s = v) (hown : w.ownsRow base 25 1 v Q.length (Q.map Prod.fst)) (hsz : base ≤ w.heap.size)
 (b : Nat) (hbox : RA w b 25 #[p.1]) (hx : a.eval x = .slice (some ⟨b, 0, none⟩) 1 1) (h1c : p.1.oneCell' = true) (hlen : Q.length ≤ 1048576)
 (h : ∀ v' w', w'.ownsRow base 25 1 v' (Q ++ [p]).length ((Q ++ [p]).map Prod.fst) → w.grownBy w' v.ownBlock → K (a.put o.dst v') w') :
 if Region.wanted o (yielded ops a.tmps) = true then Oper.wp Tryz.prog o a w K Q' else E := by
 have hw : Region.wanted o (yielded ops a.tmps) = true := by simp [Region.wanted, hgd]
 rw [if_pos hw]; obtain ⟨i0, hi, hz0, hz1, hz2⟩ := info_parts Tryz.infoRn8
 obtain ⟨v', w', hr, h2, h3, _⟩ := run_append_own (P := Tryz.prog) w base 26 o.type 25 i0 _ 1 24 Tryz.underlying26 hi hz0 hz1 hz2 rfl (by decide) v Q.length _ hown ⟨b, 0, none⟩ 1 1 [p.1] rfl (by
  intro j u hj
  match j, hj with
  | 0, hj => simp at hj; subst hj; exact hbox.cell 0) (by intro u hu; simp at hu; rw [hu]; exact h1c) (by unfold maxLen; omega) (by omega) hsz
 unfold Oper.wp
 simp [execOp, ho, resolve, invoke, builtin, hs, hx, hr, Result.andThen]
 refine h v' w' ?_ h3; rw [List.length_append, List.map_append]; exact h2
structure RtF (w W : World) (X b base : Nat) (s f : Int) (tc : Array Value) (FF : List En) (vF vR : Value) (Q : List (Value × List En)) (rL : List (List En)) : Prop where
 src : RA W w.heap.size 28 tc
 res : RA W X 35 #[.int .i64 0, .int .i64 0, .slice none 0 0, .slice none 0 0, .slice none 0 0]
 tb : RA W b 28 #[.int .i64 s, .int .i64 f, vF, vR]
 fr : OwnEn W base vF FF
 rs : W.ownsRow base 25 1 vR Q.length (Q.map Prod.fst)
 ru : ∀ p ∈ Q, OwnEn W base p.1 p.2
 ap : ∀ p ∈ Q, ∀ g, p.1.ownBlock = some g → vF.ownBlock ≠ some g
 eq : Q.map Prod.snd = rL
 bl : Below w.heap.size w W
 sz : base ≤ W.heap.size
 nx : w.heap.size ≤ X ∧ w.heap.size < b ∧ b < base ∧ X < base
theorem RtF.below {w W W' : World} {X b base : Nat} {s f : Int} {tc : Array Value} {FF : List En} {vF vR : Value} {Q : List (Value × List En)} {rs : List (List En)} (h : RtF w W X b base s f tc FF vF vR Q rs) (hb : Below W.heap.size W W') : RtF w W' X b base s f tc FF vF vR Q rs :=
 ⟨h.src.below hb h.src.lt, h.res.below hb h.res.lt, h.tb.below hb h.tb.lt, h.fr.below hb, or_keep h.rs fun g cs _ r => r.below hb r.lt, fun p hp => (h.ru p hp).below hb, h.ap, h.eq, h.bl.trans (hb.mono h.bl.size), Nat.le_trans h.sz hb.size, h.nx⟩
theorem RtF.push {w W W1 : World} {X b base : Nat} {s f : Int} {tc : Array Value} {FF : List En} {vF vR v' : Value} {Q : List (Value × List En)} {rs : List (List En)} {p : Value × List En} (h : RtF w W X b base s f tc FF vF vR Q rs) (hg : W.grownBy W1 vR.ownBlock) (hp : OwnEn W base p.1 p.2) (hx : ∀ g, p.1.ownBlock = some g → vF.ownBlock ≠ some g) (hr : W1.ownsRow base 25 1 v' (Q ++ [p]).length ((Q ++ [p]).map Prod.fst)) :
 RtF w (W1.setCell ⟨b, 3, none⟩ v') X b base s f tc FF vF v' (Q ++ [p]) (rs ++ [p.2]) ∧ RA W1 b 28 #[.int .i64 s, .int .i64 f, vF, vR] := by
 have k1 : ∀ {g ty cs}, RA W g ty cs → ty ≠ 25 → RA W1 g ty cs := fun {g ty cs} r hn => (hg.block g r.lt (fun e => by obtain ⟨_, _, cs', r'⟩ := or_row h.rs e.symm; exact row_ne r r' hn rfl)).trans r; have tb1 := k1 h.tb (by decide); have k2 : ∀ {g ty cs}, RA W1 g ty cs → g ≠ b → RA (W1.setCell ⟨b, 3, none⟩ v') g ty cs := fun {g ty cs} r hn => r.other _ _ hn; have nt : ∀ {g ty cs}, RA W1 g ty cs → ty ≠ 28 → g ≠ b := fun {g ty cs} r hn => row_ne r tb1 hn; have b1 : Below w.heap.size w W1 := h.bl.grown hg h.bl.size (fun g e => by have := (or_row h.rs e).1; have := h.nx; omega); refine ⟨⟨k2 (k1 h.src (by decide)) (by have := h.nx; omega), k2 (k1 h.res (by decide)) (nt (k1 h.res (by decide)) (by decide)), tb1.set 3 v', h.fr.keep fun g cs _ r => k2 (k1 r (by decide)) (nt (k1 r (by decide)) (by decide)), or_keep hr fun g cs _ r => k2 r (nt r (by decide)), fun q hq => ?_, fun q hq => ?_, by rw [List.map_append, h.eq]; rfl, b1.setCell (by show w.heap.size ≤ b; have := h.nx; omega) _, Nat.le_trans h.sz (Nat.le_trans hg.size grown_set.size), h.nx⟩, tb1⟩
 · rcases List.mem_append.1 hq with hq | hq
   · exact (h.ru q hq).keep fun g cs _ r => k2 (k1 r (by decide)) (nt (k1 r (by decide)) (by decide))
   · rw [List.mem_singleton] at hq
     subst hq; exact hp.keep fun g cs _ r => k2 (k1 r (by decide)) (nt (k1 r (by decide)) (by decide))
 · rcases List.mem_append.1 hq with hq | hq
   · exact h.ap q hq
   · rw [List.mem_singleton] at hq
     subst hq; exact hx
end Go.Proofs.YtcbmgpdpjagaoaaGreat
