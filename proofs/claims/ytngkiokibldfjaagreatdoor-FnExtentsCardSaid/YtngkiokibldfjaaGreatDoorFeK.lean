import Derived.Test.YtngkiokibldfjaaGreatDoorEA
import Derived.Test.YtngkiokibldfjaaGreatDoorOpsO
import Derived.Test.YtngkiokibldfjaaGreatDoorQA
import Derived.Test.YtngkiokibldfjaaGreatDoorXS
import Derived.Test.YtngkiokibldfjaaGreatDoorPI
import Derived.Test.YtngkiokibldfjaaGreatDoorPJ
import Derived.BigQuiet
namespace Go.Proofs.YtngkiokibldfjaaGreatDoor
open Go.RowKit
set_option linter.unusedVariables false
/-! FnExtents: what its walk wants: both RunExtent at whatever is drawn, texts compared, the records of a text. -/
theorem below_drewX {W w : World} (h : Below W.heap.size W w) (n : Nat) : Below W.heap.size W (w.drewN n) := ⟨h.os, h.tape, h.output, h.size, h.block⟩
set_option maxRecDepth 20000 in
set_option maxHeartbeats 1000000 in
theorem lwTexts_eqX (a : Option Addr) (n cap : Nat) (a' : Option Addr) (cap' : Nat) (o : Nat → ByteArray) (w : World) (h : Strs w a n cap o) (h' : Strs w a' n cap' o) (hl : n ≤ 1048576) :
    Calls Tryz.prog 11 #[.slice a n cap, .slice a' n cap'] w fun e w' => e = .returned (.bool true) ∧ Below w.heap.size w w' := by
  have d0 : ((n : Int) != (n : Int)) = false := by simp
  go_enter Tryz.func11, Tryz.ntmps11
  go_wp2
  go_loopw [5] (fun y wr => ∃ (k : Nat), k ≤ n ∧ y = .int .i64 k ∧ Below w.heap.size w wr) (fun y _ => n - (intOf y).toNat)
  case atStart => exact ⟨0, Nat.zero_le _, rfl, Below.refl _ _⟩
  case round =>
    obtain ⟨k, hk, rfl, hb⟩ := hrel
    by_cases hlt : k < n
    · rcases h.2 with h00 | ⟨b, off, rfl, hbl, hc⟩
      · omega
      · rcases h'.2 with h01 | ⟨b', off', rfl, hbl', hc'⟩
        · omega
        · have c1 : wr.cell? ⟨b, off + k, none⟩ = some (.string (o k)) := (hb.cell (p := ⟨b, off + k, none⟩) hbl).trans (hc k hlt)
          have c3 : wr.cell? ⟨b', off' + k, none⟩ = some (.string (o k)) := (hb.cell (p := ⟨b', off' + k, none⟩) hbl').trans (hc' k hlt)
          have hlt' : (k : Int) < (n : Int) := by omega
          have i0 : (0 : Int) ≤ (k : Int) := by omega
          obtain ⟨x, hx⟩ : ∃ x, x = o k := ⟨_, rfl⟩
          rw [← hx] at c1 c3
          clear hx
          go_wp2_with fail
          go_quiet (fail)
          go_wp2
          go_roundw
          case rel => exact ⟨k + 1, by omega, by go_num, below_drewX hb nq⟩
          case measure => simp [intOf]; omega
    · go_wp2
      go_ret
      exact ⟨rfl, hb⟩
set_option maxRecDepth 20000 in
set_option maxHeartbeats 2000000 in
theorem sScanX (s : ByteArray) (hs : s.size ≤ 1048576) (L : List Fr) (hL : L = if 300000 < s.size then [] else sc s 0) (w : World) :
    Calls Tryz.prog 12 #[.string s] w fun e w' => ∃ a c, e = .returned (.slice a L.length c) ∧ Rcs w' a L.length c (rcF s L) ∧ Below w.heap.size w w' := by
  by_cases h : 300000 < s.size
  · have d0 : decide ((300000 : Int) < (s.size : Int)) = true := by simp; omega
    rw [if_pos h] at hL
    subst hL
    go_enter Tryz.func12, Tryz.ntmps12
    go_wp2
    go_ret
    exact ⟨_, _, rfl, ⟨Nat.zero_le _, Or.inl rfl⟩, (Below.refl _ _).alloc (Nat.le_refl _) _⟩
  · have d0 : decide ((300000 : Int) < (s.size : Int)) = false := by simp; omega
    rw [if_neg h] at hL
    subst hL
    go_enter Tryz.func12, Tryz.ntmps12
    go_wp2_with fail
    refine (sScan s hs _).mono ?_
    rintro e w1 ⟨a, c, rfl, hR, hb⟩
    have HR := hid hR
    have HB := hid hb
    clear hR hb
    go_wp2
    go_ret
    exact ⟨_, _, rfl, HR.out, HB.out⟩
theorem strs_ownX {w : World} {base : Nat} {v : Value} {xs : List ByteArray} (h : OwnStrs w base v xs) : ∃ a c, v = .slice a xs.length c ∧ Strs w a xs.length c fun i => xs.getD i ⟨#[]⟩ := by
  obtain ⟨a, c, rfl⟩ := h.slice
  by_cases h0 : 0 < xs.length
  · obtain ⟨g, rfl, _, _, hs⟩ := h.strs (ts := fun i => xs.getD i ⟨#[]⟩) h0 (fun i hi => by rw [List.getD_eq_getElem?_getD, List.getElem?_eq_getElem hi]; rfl)
    exact ⟨_, _, rfl, hs⟩
  · exact ⟨a, c, rfl, by omega, .inl (by omega)⟩
def AnE (d1 : ByteArray) (s1 : Int) (L : List XOt) (w : World) (e : Ending) (w' : World) : Prop := (∃ a c O, e = .returned (.agg #[.string d1, .int .i64 s1, .slice a L.length c]) ∧ O.map Prod.fst = L ∧ w'.ownsRow w.heap.size 36 4 (.slice a L.length c) O.length (xoL O) ∧ ∀ p ∈ O, OwnStrs w' w.heap.size p.2 p.1.ks) ∧ Below w.heap.size w w'
theorem anE_no (d : ByteArray) (s : Int) (L : List Op) (hb : rBad d s L) {w : World} {e : Ending} {w' : World} (h : RxN w e w') : AnE (rRes d s L).1.1 (rRes d s L).1.2 (rRes d s L).2 w e w' := by
  have er : rRes d s L = ((⟨#[]⟩, 0), []) := if_pos hb
  rw [er]
  obtain ⟨rfl, hB⟩ := h
  exact ⟨⟨none, 0, [], rfl, rfl, ⟨rfl, .inl ⟨rfl, rfl⟩⟩, fun p hp => (by cases hp)⟩, hB⟩
theorem anE_yes (d : ByteArray) (s : Int) (L : List Op) (hb : ¬ rBad d s L) {w : World} {e : Ending} {w' : World} (h : (∃ vO O, e = .returned (.agg #[.string (xRun d s.toNat (fun k => L.getD k opZ) L.length).1.1, .int .i64 ((xRun d s.toNat (fun k => L.getD k opZ) L.length).1.2 : Nat), vO]) ∧ O.map Prod.fst = (xRun d s.toNat (fun k => L.getD k opZ) L.length).2 ∧ w'.ownsRow w.heap.size 36 4 vO O.length (xoL O) ∧ ∀ p ∈ O, OwnStrs w' w.heap.size p.2 p.1.ks) ∧ Below w.heap.size w w') : AnE (rRes d s L).1.1 (rRes d s L).1.2 (rRes d s L).2 w e w' := by
  have er : rRes d s L = (((xF d s.toNat L).1.1, (((xF d s.toNat L).1.2 : Nat) : Int)), (xF d s.toNat L).2) := if_neg hb
  rw [er, xF_run]
  obtain ⟨⟨v, O, rfl, h1, h2, h3⟩, hB⟩ := h
  have hl : O.length = (xRun d s.toNat (fun k => L.getD k opZ) L.length).2.length := by rw [← h1, List.length_map]
  obtain ⟨a, c, hv⟩ := orSlice h2
  rw [hl] at hv
  subst hv
  exact ⟨⟨a, c, O, rfl, h1, h2, h3⟩, hB⟩
theorem iRunE (ea eb : Addr) (d : ByteArray) (s : Int) (L : List Op) (b : Option Addr) (c : Nat) (hz : ∀ k, k < L.length → (L.getD k opZ).ky.size ≤ 1048576 ∧ (L.getD k opZ).dt.size ≤ 1048576) (W : World) (hE : Errs W ea eb) (hT : TB W) (h : Exs W b L.length c (fun k => L.getD k opZ)) :
    Calls Tryz.prog 8 #[.agg #[.string d, .int .i64 s], .slice b L.length c] W fun e w' => AnE (rRes d s L).1.1 (rRes d s L).1.2 (rRes d s L).2 W e w' := by
  by_cases hb : rBad d s L
  · exact (iRunX_no d s b L.length c hb W).mono fun e w' h => anE_no d s L hb h
  · have c' : ¬ (2000 < L.length ∨ 300000 < d.size ∨ s < 0 ∨ (d.size : Int) < s) := hb
    have es : s = ((s.toNat : Nat) : Int) := by omega
    have K := iRunX ea eb d s.toNat ⟨by omega, by omega⟩ b L.length c (fun k => L.getD k opZ) (by omega) hz W hE hT h
    rw [← es] at K
    refine K.mono fun e w' h => anE_yes d s L hb ?_
    obtain ⟨⟨v, O, h0, h1, h2, h3, _⟩, hB⟩ := h
    exact ⟨⟨v, O, h0, h1, h2, h3⟩, hB⟩
theorem sRunE (d : ByteArray) (s : Int) (L : List Op) (b : Option Addr) (c : Nat) (hz : ∀ k, k < L.length → (L.getD k opZ).ky.size ≤ 1048576 ∧ (L.getD k opZ).dt.size ≤ 1048576) (W : World) (h : Exs W b L.length c (fun k => L.getD k opZ)) :
    Calls Tryz.prog 10 #[.agg #[.string d, .int .i64 s], .slice b L.length c] W fun e w' => AnE (rRes d s L).1.1 (rRes d s L).1.2 (rRes d s L).2 W e w' := by
  by_cases hb : rBad d s L
  · exact (sRunX_no d s b L.length c hb W).mono fun e w' h => anE_no d s L hb h
  · have c' : ¬ (2000 < L.length ∨ 300000 < d.size ∨ s < 0 ∨ (d.size : Int) < s) := hb
    have es : s = ((s.toNat : Nat) : Int) := by omega
    have K := sRunX d s.toNat ⟨by omega, by omega⟩ b L.length c (fun k => L.getD k opZ) (by omega) hz W h
    rw [← es] at K
    exact K.mono fun e w' h => anE_yes d s L hb h
theorem xoL_getE : ∀ (O : List (XOt × Value)) (k c : Nat) (p : XOt × Value), O[k]? = some p → c < 4 → (xoL O)[k * 4 + c]? = ([.int .i64 p.1.cd, .string p.1.dt, p.2, .int .i64 p.1.hl] : List Value)[c]?
  | [], k, c, p, h, _ => by simp at h
  | q :: O, 0, c, p, h, hc => by
    have e : q = p := by simpa using h
    subst e
    simp only [xoL, List.flatMap_cons, Nat.zero_mul, Nat.zero_add]
    rw [List.getElem?_append_left (by simp; omega)]
  | q :: O, k + 1, c, p, h, hc => by
    simp only [xoL, List.flatMap_cons]
    rw [List.getElem?_append_right (by simp; omega), show (k + 1) * 4 + c - ([.int .i64 q.1.cd, .string q.1.dt, q.2, .int .i64 q.1.hl] : List Value).length = k * 4 + c by simp; omega]
    exact xoL_getE O k c p (by simpa using h) hc
/-- one answer of a run, with its keys -/
theorem outE_at {w : World} {base : Nat} {a : Option Addr} {n c : Nat} {O : List (XOt × Value)} {L : List XOt} (h : w.ownsRow base 36 4 (.slice a n c) O.length (xoL O)) (hs : ∀ p ∈ O, OwnStrs w base p.2 p.1.ks) (hL : O.map Prod.fst = L) {P : Nat} (hP : P < L.length) :
    ∃ (g : Nat) (x : XOt) (ka : Option Addr) (kc : Nat), a = some ⟨g, 0, none⟩ ∧ g < w.heap.size ∧ L[P]? = some x ∧ w.cell? ⟨g, P * 4, none⟩ = some (.int .i64 x.cd) ∧ w.cell? ⟨g, P * 4 + 1, none⟩ = some (.string x.dt) ∧ w.cell? ⟨g, P * 4 + 2, none⟩ = some (.slice ka x.ks.length kc) ∧ w.cell? ⟨g, P * 4 + 3, none⟩ = some (.int .i64 x.hl) ∧ Strs w ka x.ks.length kc fun i => x.ks.getD i ⟨#[]⟩ := by
  have hl : O.length = L.length := by rw [← hL, List.length_map]
  rcases h.2 with ⟨h0, h1⟩ | ⟨g, cap, cur, he, hb, hr, hnc, hm, hsz, htk⟩
  · omega
  · injection he with e1 e2 e3
    subst e1 e3
    have R : RowAt w g 36 cur := hr
    have hPO : P < O.length := by omega
    obtain ⟨ka, kc, hk, hS⟩ := strs_ownX (hs O[P] (List.getElem_mem hPO))
    have hp : O[P]? = some O[P] := List.getElem?_eq_getElem hPO
    have e1 : ∀ c, c < 4 → w.cell? ⟨g, P * 4 + c, none⟩ = ([.int .i64 O[P].1.cd, .string O[P].1.dt, O[P].2, .int .i64 O[P].1.hl] : List Value)[c]? := fun c hc => by
      have := congrArg (·[P * 4 + c]?) htk
      simp only [List.getElem?_take] at this
      rw [if_pos (by omega), Array.getElem?_toList] at this
      rw [R.cell, ← xoL_getE O P c _ hp hc]
      exact this
    refine ⟨g, O[P].1, ka, kc, rfl, R.lt, by rw [← hL, List.getElem?_map, hp]; rfl, e1 0 (by decide), e1 1 (by decide), ?_, e1 3 (by decide), hS⟩
    have := e1 2 (by decide)
    rw [hk] at this
    exact this
end Go.Proofs.YtngkiokibldfjaaGreatDoor
