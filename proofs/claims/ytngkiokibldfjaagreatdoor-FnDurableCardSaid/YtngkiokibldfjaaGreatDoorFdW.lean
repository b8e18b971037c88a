import Derived.Test.YtngkiokibldfjaaGreatDoorOpsO
import Derived.Test.YtngkiokibldfjaaGreatDoorPC
import Derived.Test.YtngkiokibldfjaaGreatDoorCode
import Derived.Test.YtngkiokibldfjaaGreatDoorPA
import Derived.BigQuiet
import Derived.Deep.CutBlock
import Derived.Deep.CutRange
namespace Go.Proofs.YtngkiokibldfjaaGreatDoor
open Go.RowKit
set_option linter.unusedVariables false
/-! FnDurable: the law's walk. -/
theorem lwAt_fix (w : World) (a : Option Addr) (len cap i : Nat) (hc : CodeOk w a len) (hi : i ≤ 1000) : ∃ r : Nat, r < 256 ∧ ∀ wx, Below w.heap.size w wx →
    Calls Tryz.prog 6 #[.slice a len cap, .int .i64 (i : Int)] wx fun e w' => e = .returned (.int .i64 (r : Int)) ∧ w' = wx := by
  have hl := hc.1
  by_cases h : i < len
  · rcases hc.2 with h0 | ⟨b, off, rfl, hb, hcell⟩
    · omega
    · obtain ⟨z, hz, e0⟩ := hcell i h
      refine ⟨z, hz, fun wx hx => ?_⟩
      have e1 : wx.cell? ⟨b, off + i, none⟩ = some (.int .u8 z) := (hx.cell (p := ⟨b, off + i, none⟩) hb).trans e0
      have i1 : (i : Int) < (len : Int) := by omega
      clear e0 hcell
      go_enter Tryz.func6, Tryz.ntmps6
      go_wp2
      go_ret
      exact ⟨rfl, rfl⟩
  · refine ⟨(i * 61 + 29) % 256, by omega, fun wx hx => ?_⟩
    clear hx
    go_enter Tryz.func6, Tryz.ntmps6
    go_wp2
    go_ret
    exact ⟨congrArg (fun x => Ending.returned (.int .i64 x)) (by omega), rfl⟩
theorem lwAt_fun (w : World) (a : Option Addr) (len cap : Nat) (hc : CodeOk w a len) : ∃ rv : Nat → Nat, ∀ i, i ≤ 1000 → rv i < 256 ∧ ∀ wx, Below w.heap.size w wx →
    Calls Tryz.prog 6 #[.slice a len cap, .int .i64 (i : Int)] wx fun e w' => e = .returned (.int .i64 (rv i : Int)) ∧ w' = wx :=
  ⟨fun i => if h : i ≤ 1000 then (lwAt_fix w a len cap i hc h).choose else 0, fun i hi => by
    simp only [dif_pos hi]
    exact (lwAt_fix w a len cap i hc hi).choose_spec⟩
def kyA : ByteArray := ⟨#[97]⟩
def kyB : ByteArray := ⟨#[98]⟩
def kyC : ByteArray := ⟨#[99]⟩
def kyF (j : Nat) : ByteArray := if j = 0 then kyA else if j = 1 then kyB else kyC
def vaF (i : Nat) : ByteArray := ⟨#[118]⟩ ++ strOfNums [65 + (i : Int)]
theorem dur_of (rv : Nat → Nat) : Dur (fun i => kyF (rv i % 3)) vaF := by
  refine ⟨fun i => ?_, fun i => ?_⟩
  · show (kyF (rv i % 3)).size = 1
    unfold kyF
    split
    · rfl
    · split <;> rfl
  · show (_ ++ strOfNums [_]).size = 2
    rw [ByteArray.size_append, strOfNums_size]; rfl
/-- the operations so far, the keys, what is looked for -/
structure FdJ (w : World) (L : List Op) (fa : Array Value) (v : Value) (wr : World) : Prop where
  op : OwnOp wr w.heap.size v L
  ks : RowAt wr w.heap.size 9 #[.string kyA, .string kyB, .string kyC]
  fs : RowAt wr (w.heap.size + 1 + 1) 9 fa
  bl : Below w.heap.size w wr
theorem FdJ.below {w : World} {L : List Op} {fa : Array Value} {v : Value} {A B : World} (h : FdJ w L fa v A) (hb : Below A.heap.size A B) : FdJ w L fa v B :=
  ⟨h.op.below hb, h.ks.below hb h.ks.lt, h.fs.below hb h.fs.lt, h.bl.trans (hb.mono h.bl.size)⟩
theorem FdJ.app {w : World} {L L' : List Op} {fa : Array Value} {v v' : Value} {A B : World} (h : FdJ w L fa v A) (ho : OwnOp B w.heap.size v' L') (hg : A.grownBy B v.ownBlock) : FdJ w L' fa v' B :=
  ⟨ho, ownKeep h.op h.ks (by decide) hg, ownKeep h.op h.fs (by decide) hg, h.bl.grown hg h.bl.size fun g e => (orRow h.op e).1⟩
theorem FdJ.put {w : World} {L : List Op} {fa : Array Value} {v : Value} {A : World} (h : FdJ w L fa v A) (j : Nat) (u : Value) : FdJ w L (fa.setIfInBounds j u) v (A.setCell ⟨w.heap.size + 1 + 1, j, none⟩ u) :=
  ⟨ownSet h.op h.fs (by decide), h.ks.other _ _ (by show w.heap.size ≠ w.heap.size + 1 + 1; omega), h.fs.set j u, h.bl.setCell (p := ⟨w.heap.size + 1 + 1, j, none⟩) (by show w.heap.size ≤ w.heap.size + 1 + 1; omega) u⟩
def fsA (K V : Nat → ByteArray) (n kp i : Nat) : Array Value := #[.string (fN K V n kp kyA i), .string (fN K V n kp kyB i), .string (fN K V n kp kyC i)]
theorem fs_at {w : World} {b : Nat} {K V : Nat → ByteArray} {n kp i : Nat} (h : RowAt w b 9 (fsA K V n kp i)) {j : Nat} (hj : j < 3) : w.cell? ⟨b, j, none⟩ = some (.string (fN K V n kp (kyF j) i)) := by
  rw [h.cell]
  match j, hj with
  | 0, _ => rfl
  | 1, _ => rfl
  | 2, _ => rfl
theorem bldL_len (K V : Nat → ByteArray) (n : Nat) : ∀ i, (bldL K V n i).length ≤ 2 * i
  | 0 => Nat.le_refl _
  | i + 1 => by
    have := bldL_len K V n i
    unfold bldL
    split <;> simp only [List.length_append, List.length_cons, List.length_nil] <;> omega
theorem ks_at {w : World} {b : Nat} (h : RowAt w b 9 #[.string kyA, .string kyB, .string kyC]) {j : Nat} (hj : j < 3) : w.cell? ⟨b, j, none⟩ = some (.string (kyF j)) := by
  rw [h.cell]
  match j, hj with
  | 0, _ => rfl
  | 1, _ => rfl
  | 2, _ => rfl
/-- the array of what is looked for, behind round i -/
theorem fs_put (K V : Nat → ByteArray) (n kp i j : Nat) (hj : j < 3) (hK : K i = kyF j) (hc : i < n ∨ 11 * (i + 1 - n) ≤ kp) :
    (fsA K V n kp i).setIfInBounds j (.string (V i)) = fsA K V n kp (i + 1) := by
  have st : ∀ key, fN K V n kp key (i + 1) = if kyF j = key then V i else fN K V n kp key i := fun key => by
    show (if K i = key ∧ _ then _ else _) = _
    rw [hK]
    by_cases e : kyF j = key
    · rw [if_pos e, if_pos ⟨e, hc⟩]
    · rw [if_neg e, if_neg (fun q => e q.1)]
  have ab : kyA ≠ kyB := by decide
  have ac : kyA ≠ kyC := by decide
  have bc : kyB ≠ kyC := by decide
  unfold fsA
  rw [st, st, st]
  match j, hj with
  | 0, _ => show #[_, _, _] = _; rw [show kyF 0 = kyA from rfl, if_pos rfl, if_neg ab, if_neg ac]
  | 1, _ => show #[_, _, _] = _; rw [show kyF 1 = kyB from rfl, if_pos rfl, if_neg (Ne.symm ab), if_neg bc]
  | 2, _ => show #[_, _, _] = _; rw [show kyF 2 = kyC from rfl, if_pos rfl, if_neg (Ne.symm ac), if_neg (Ne.symm bc)]
theorem fs_pass (K V : Nat → ByteArray) (n kp i : Nat) (hc : ¬ (i < n ∨ 11 * (i + 1 - n) ≤ kp)) : fsA K V n kp (i + 1) = fsA K V n kp i := by
  have f : ∀ key, fN K V n kp key (i + 1) = fN K V n kp key i := fun key => if_neg fun q => hc q.2
  unfold fsA
  rw [f, f, f]
def AnD (d1 : ByteArray) (s1 : Int) (L : List XOt) (w : World) (e : Ending) (w' : World) : Prop := (∃ v O, e = .returned (.agg #[.string d1, .int .i64 s1, v]) ∧ O.map Prod.fst = L ∧ w'.ownsRow w.heap.size 36 4 v O.length (xoL O) ∧ ∀ p ∈ O, ∃ a n c, p.2 = .slice a n c) ∧ Below w.heap.size w w'
theorem xoL_get : ∀ (O : List (XOt × Value)) (k c : Nat) (p : XOt × Value), O[k]? = some p → c < 4 → (xoL O)[k * 4 + c]? = ([.int .i64 p.1.cd, .string p.1.dt, p.2, .int .i64 p.1.hl] : List Value)[c]?
  | [], k, c, p, h, _ => by simp at h
  | q :: O, 0, c, p, h, hc => by
    have e : q = p := by simpa using h
    subst e
    simp only [xoL, List.flatMap_cons, Nat.zero_mul, Nat.zero_add]
    rw [List.getElem?_append_left (by simp; omega)]
  | q :: O, k + 1, c, p, h, hc => by
    simp only [xoL, List.flatMap_cons]
    rw [List.getElem?_append_right (by simp; omega), show (k + 1) * 4 + c - ([.int .i64 q.1.cd, .string q.1.dt, q.2, .int .i64 q.1.hl] : List Value).length = k * 4 + c by simp; omega]
    exact xoL_get O k c p (by simpa using h) hc
/-- one answer of a run -/
theorem out_at {w : World} {base : Nat} {a : Option Addr} {n c : Nat} {O : List (XOt × Value)} (h : w.ownsRow base 36 4 (.slice a n c) O.length (xoL O)) (hs : ∀ p ∈ O, ∃ a n c, p.2 = .slice a n c) {P : Nat} (hP : P < O.length) :
    ∃ (g : Nat) (x : XOt) (ka : Option Addr) (kn kc : Nat), a = some ⟨g, 0, none⟩ ∧ g < w.heap.size ∧ (O.map Prod.fst)[P]? = some x ∧ w.cell? ⟨g, P * 4, none⟩ = some (.int .i64 x.cd) ∧ w.cell? ⟨g, P * 4 + 1, none⟩ = some (.string x.dt) ∧ w.cell? ⟨g, P * 4 + 2, none⟩ = some (.slice ka kn kc) ∧ w.cell? ⟨g, P * 4 + 3, none⟩ = some (.int .i64 x.hl) := by
  rcases h.2 with ⟨h0, h1⟩ | ⟨g, cap, cur, he, hb, hr, hnc, hm, hsz, htk⟩
  · omega
  · injection he with e1 e2 e3
    subst e1 e3
    have R : RowAt w g 36 cur := hr
    obtain ⟨ka, kn, kc, hk⟩ := hs O[P] (List.getElem_mem hP)
    have hp : O[P]? = some O[P] := List.getElem?_eq_getElem hP
    have e1 : ∀ c, c < 4 → w.cell? ⟨g, P * 4 + c, none⟩ = ([.int .i64 O[P].1.cd, .string O[P].1.dt, O[P].2, .int .i64 O[P].1.hl] : List Value)[c]? := fun c hc => by
      have := congrArg (·[P * 4 + c]?) htk
      simp only [List.getElem?_take] at this
      rw [if_pos (by omega), Array.getElem?_toList] at this
      rw [R.cell, ← xoL_get O P c _ hp hc]
      exact this
    refine ⟨g, O[P].1, ka, kn, kc, rfl, R.lt, by rw [List.getElem?_map, hp]; rfl, e1 0 (by decide), e1 1 (by decide), ?_, e1 3 (by decide)⟩
    have := e1 2 (by decide)
    rw [hk] at this
    exact this
def rdL : Nat → List Op
  | 0 => []
  | k + 1 => rdL k ++ [opRd (kyF k)]
theorem rdL_len : ∀ k, (rdL k).length = k
  | 0 => rfl
  | k + 1 => by show (rdL k ++ [_]).length = _; rw [List.length_append, rdL_len k]; rfl
/-- what the law sees of read k -/
theorem dur_sees {K V : Nat → ByteArray} (h : Dur K V) (n m kp : Nat) (hn : n + m ≤ 1000) (k : Nat) (hk : k < 3) (x : XOt) (hx : (xF ⟨#[]⟩ 0 (durL K V n m kp ++ rdL 3)).2[(durL K V n m kp ++ rdL 3).length - 3 + k]? = some x) :
    ((fN K V n kp (kyF k) (n + m)).size = 0 ∧ x.cd = 5) ∨ ((fN K V n kp (kyF k) (n + m)).size ≠ 0 ∧ x.cd = 0 ∧ x.dt = fN K V n kp (kyF k) (n + m)) := by
  obtain ⟨x0, x1, x2, e, h0, h1, h2⟩ := dur_outs (durL K V n m kp) ⟨#[]⟩ 0 kyA kyB kyC
  have eL : durL K V n m kp ++ rdL 3 = durL K V n m kp ++ [opRd kyA] ++ [opRd kyB] ++ [opRd kyC] := by
    show _ ++ (([] ++ [opRd kyA]) ++ [opRd kyB] ++ [opRd kyC]) = _
    simp
  have ln : (xF ⟨#[]⟩ 0 (durL K V n m kp)).2.length = (durL K V n m kp).length := by rw [xF_run, xRun_len]
  have l3 : (durL K V n m kp ++ rdL 3).length - 3 + k = (durL K V n m kp).length + k := by rw [List.length_append, rdL_len]; omega
  rw [l3, eL, e, List.getElem?_append_right (by omega), ln, Nat.add_sub_cancel_left] at hx
  have key : ∀ (y : XOt) (q : ByteArray), y.cd = (if (rdX (xF ⟨#[]⟩ 0 (durL K V n m kp)).1.1 q).isSome then 0 else 5) ∧ y.dt = (rdX (xF ⟨#[]⟩ 0 (durL K V n m kp)).1.1 q).getD ⟨#[]⟩ →
      ((fN K V n kp q (n + m)).size = 0 ∧ y.cd = 5) ∨ ((fN K V n kp q (n + m)).size ≠ 0 ∧ y.cd = 0 ∧ y.dt = fN K V n kp q (n + m)) := by
    intro y q hy
    rw [dur_read h n m kp hn q] at hy
    by_cases c : (fN K V n kp q (n + m)).size = 0
    · rw [if_pos c] at hy; exact .inl ⟨c, hy.1⟩
    · rw [if_neg c] at hy; exact .inr ⟨c, hy.1, hy.2⟩
  match k, hk, hx with
  | 0, _, hx => have e := Option.some.inj hx; subst e; exact key x0 kyA h0
  | 1, _, hx => have e := Option.some.inj hx; subst e; exact key x1 kyB h1
  | 2, _, hx => have e := Option.some.inj hx; subst e; exact key x2 kyC h2
theorem durL_len (K V : Nat → ByteArray) (n m : Nat) (kp : Int) : (durL K V n m kp).length ≤ 2 * (n + m) + 2 := by
  have := bldL_len K V n (n + m)
  unfold durL
  split <;> simp only [List.length_append, List.length_cons, List.length_nil] <;> omega
theorem dur_sz {K V : Nat → ByteArray} (h : Dur K V) (n m : Nat) (kp : Int) : ∀ k, ((durL K V n m kp ++ rdL 3).getD k opZ).ky.size ≤ 1048576 ∧ ((durL K V n m kp ++ rdL 3).getD k opZ).dt.size ≤ 1048576 := by
  have z : ∀ o : Op, (o.ky.size ≤ 1 ∧ o.dt.size ≤ 2) → o.ky.size ≤ 1048576 ∧ o.dt.size ≤ 1048576 := fun o q => by omega
  have bl : ∀ i, ∀ o ∈ bldL K V n i, o.ky.size ≤ 1 ∧ o.dt.size ≤ 2 := by
    intro i
    induction i with
    | zero => intro o ho; cases ho
    | succ i ih =>
      intro o ho
      unfold bldL at ho
      rcases List.mem_append.1 ho with ho | ho
      · split at ho
        · rcases List.mem_append.1 ho with ho | ho
          · exact ih o ho
          · rw [List.mem_singleton] at ho; subst ho; exact ⟨Nat.zero_le _, Nat.zero_le _⟩
        · exact ih o ho
      · rw [List.mem_singleton] at ho; subst ho
        have := h.k1 i
        have := h.v2 i
        show (K i).size ≤ 1 ∧ (V i).size ≤ 2
        omega
  have all : ∀ o ∈ durL K V n m kp ++ rdL 3, o.ky.size ≤ 1 ∧ o.dt.size ≤ 2 := by
    intro o ho
    rcases List.mem_append.1 ho with ho | ho
    · unfold durL at ho
      rcases List.mem_append.1 ho with ho | ho
      · split at ho
        · rcases List.mem_append.1 ho with ho | ho
          · exact bl _ o ho
          · rw [List.mem_singleton] at ho; subst ho; exact ⟨Nat.zero_le _, Nat.zero_le _⟩
        · exact bl _ o ho
      · rw [List.mem_singleton] at ho; subst ho; exact ⟨Nat.zero_le _, Nat.zero_le _⟩
    · have e : rdL 3 = [opRd kyA, opRd kyB, opRd kyC] := rfl
      rw [e] at ho
      simp only [List.mem_cons, List.not_mem_nil, or_false] at ho
      rcases ho with rfl | rfl | rfl <;> exact ⟨Nat.le_refl _, Nat.zero_le _⟩
  intro k
  by_cases hk : k < (durL K V n m kp ++ rdL 3).length
  · have e : (durL K V n m kp ++ rdL 3).getD k opZ = (durL K V n m kp ++ rdL 3)[k] := by rw [List.getD_eq_getElem?_getD, List.getElem?_eq_getElem hk]; rfl
    rw [e]
    exact z _ (all _ (List.getElem_mem _))
  · have e : (durL K V n m kp ++ rdL 3).getD k opZ = opZ := by rw [List.getD_eq_getElem?_getD, List.getElem?_eq_none (by omega)]; rfl
    rw [e]
    exact ⟨Nat.zero_le _, Nat.zero_le _⟩

set_option maxRecDepth 20000 in
set_option maxHeartbeats 8000000 in
theorem fnDurable_core (w : World) (a0 : Option Addr) (len0 cap0 : Nat) (hc0 : CodeOk w a0 len0) (hl0 : len0 ≤ cap0) (a1 : Option Addr) (len1 cap1 : Nat) (hc1 : CodeOk w a1 len1) (hl1 : len1 ≤ cap1)
    (HI : ∀ (L : List Op) (W : World) (b : Option Addr) (c : Nat), L.length ≤ 100 → (∀ k, k < L.length → (L.getD k opZ).ky.size ≤ 1048576 ∧ (L.getD k opZ).dt.size ≤ 1048576) → Below w.heap.size w W → Exs W b L.length c (fun k => L.getD k opZ) →
      Calls Tryz.prog 8 #[.agg #[.string ⟨#[]⟩, .int .i64 0], .slice b L.length c] W fun e w' => AnD (xF ⟨#[]⟩ 0 L).1.1 ((xF ⟨#[]⟩ 0 L).1.2 : Nat) (xF ⟨#[]⟩ 0 L).2 W e w') :
    Calls Tryz.prog 3 #[.slice a0 len0 cap0, .slice a1 len1 cap1] w fun e w' => e = .returned (.bool true) ∧ Below w.heap.size w w' := by
  have b0 := hc0.1
  have b1 := hc1.1
  have d0 : decide ((1048576 : Int) < (len0 : Int)) = false := by simp; omega
  have d1 : decide ((1048576 : Int) < (len1 : Int)) = false := by simp; omega
  obtain ⟨rc, hrc⟩ := lwAt_fun w a0 len0 cap0 hc0
  obtain ⟨rv, hrv⟩ := lwAt_fun w a1 len1 cap1 hc1
  have KC := hid hrc
  have KV := hid hrv
  have KI := hid HI
  have DU := hid (dur_of rv)
  obtain ⟨K, hK⟩ : ∃ K : Nat → ByteArray, K = fun i => kyF (rv i % 3) := ⟨_, rfl⟩
  rw [← hK] at DU
  have HK : Hid (∀ i, K i = kyF (rv i % 3)) := fun i => by rw [hK]
  obtain ⟨N, hN⟩ : ∃ N, N = rc 0 % 8 := ⟨_, rfl⟩
  obtain ⟨M, hM⟩ : ∃ M, M = rc 1 % 6 := ⟨_, rfl⟩
  obtain ⟨kp, hkp⟩ : ∃ k, k = rc 2 % 120 := ⟨_, rfl⟩
  have n8 : N < 8 := by rw [hN]; exact Nat.mod_lt _ (by decide)
  have m6 : M < 6 := by rw [hM]; exact Nat.mod_lt _ (by decide)
  have k120 : kp < 120 := by rw [hkp]; exact Nat.mod_lt _ (by decide)
  have eN : (rc 0 : Int).tmod 8 = (N : Int) := by rw [hN]; exact (Int.ofNat_tmod _ _).symm
  have eM : (rc 1 : Int).tmod 6 = (M : Int) := by rw [hM]; exact (Int.ofNat_tmod _ _).symm
  have eK : (rc 2 : Int).tmod 120 = (kp : Int) := by rw [hkp]; exact (Int.ofNat_tmod _ _).symm
  obtain ⟨W3, hW3⟩ : ∃ W, W = ((w.alloc (.cells #[.string ⟨#[97]⟩, .string ⟨#[98]⟩, .string ⟨#[99]⟩] 9)).alloc (.cells #[] 27)).alloc (.cells #[.string ⟨#[]⟩, .string ⟨#[]⟩, .string ⟨#[]⟩] 9) := ⟨_, rfl⟩
  have bA : Below w.heap.size w (w.alloc (.cells #[.string ⟨#[97]⟩, .string ⟨#[98]⟩, .string ⟨#[99]⟩] 9)) := (Below.refl _ _).alloc (Nat.le_refl _) _
  have b3 : Below w.heap.size w W3 := by rw [hW3]; exact (bA.alloc (by simp) _).alloc (by simp only [World.size_alloc]; omega) _
  have rA : RowAt (w.alloc (.cells #[.string ⟨#[97]⟩, .string ⟨#[98]⟩, .string ⟨#[99]⟩] 9)) w.heap.size 9 #[.string kyA, .string kyB, .string kyC] := RowAt.new _ _ _
  have I0 : Hid (FdJ w (bldL K vaF N 0) (fsA K vaF N kp 0) (.slice (some ⟨w.heap.size + 1, 0, none⟩) 0 0) W3) := by
    refine ⟨?_, ?_, ?_, b3⟩
    · have e := OwnOp.empty (w.alloc (.cells #[.string ⟨#[97]⟩, .string ⟨#[98]⟩, .string ⟨#[99]⟩] 9)) w.heap.size (by simp)
      rw [World.size_alloc] at e
      rw [hW3]
      exact e.below ((Below.refl _ _).alloc (Nat.le_refl _) _)
    · rw [hW3]; exact (rA.alloc _).alloc _
    · rw [hW3]; exact RowAt.next _ _ _ (by simp)
  clear hc0 hc1 b0 b1 hrc hrv HI hK hN hM hkp bA rA b3
  go_enter Tryz.func3, Tryz.ntmps3
  go_upto_region 6 with fail
  clear d0 d1
  rw [← hW3]
  clear hW3
  go_wp2_with fail
  refine ((KC.out 0 (by omega)).2 W3 I0.out.bl).mono ?_
  rintro e w4 ⟨rfl, rfl⟩
  go_wp2_with fail
  refine ((KC.out 1 (by omega)).2 w4 I0.out.bl).mono ?_
  rintro e w5 ⟨rfl, rfl⟩
  go_wp2_with fail
  refine ((KC.out 2 (by omega)).2 w5 I0.out.bl).mono ?_
  rintro e w6 ⟨rfl, rfl⟩
  clear KC
  go_wp2_with fail
  clear eN eM eK
  go_loopw [6, 10, 12] (fun y6 y10 y12 wr => ∃ (i sz : Nat) (V : Value), i ≤ N + M ∧ Hid (sz = 11 * (i - N)) ∧ V = y6 ∧ y12 = .int .i64 (i : Int) ∧ y10 = .int .i64 (sz : Int) ∧ FdJ w (bldL K vaF N i) (fsA K vaF N kp i) V wr) (fun _ _ y12 _ => N + M - (intOf y12).toNat)
  case atStart => exact ⟨0, 0, _, Nat.zero_le _, (by show 0 = 11 * (0 - N); omega), rfl, rfl, rfl, I0.out⟩
  case round =>
    obtain ⟨i, sz, V, hi, HSZ, rfl, rfl, rfl, hI⟩ := hrel
    obtain ⟨av, cv, hv⟩ := hI.op.slice
    obtain ⟨nv, hnv⟩ : ∃ x, x = (bldL K vaF N i).length := ⟨_, rfl⟩
    have LB := bldL_len K vaF N i
    have I1 := hid hI
    rw [← hnv] at hv LB
    clear hnv hI I0
    subst hv
    by_cases hlt : i < N + M
    · have hlt' : (i : Int) < (N : Int) + (M : Int) := by omega
      have KL := hid ((KV.out i (by omega)).2 wr I1.out.bl)
      obtain ⟨J, hJ⟩ : ∃ j, j = rv i % 3 := ⟨_, rfl⟩
      have J3 : J < 3 := by rw [hJ]; exact Nat.mod_lt _ (by decide)
      have eJ : (rv i : Int).tmod 3 = (J : Int) := by rw [hJ]; exact (Int.ofNat_tmod _ _).symm
      have KJ : Hid (K i = kyF J) := by show _ = _; rw [hJ]; exact HK.out i
      obtain ⟨ri, hri⟩ : ∃ x, x = rv i := ⟨_, rfl⟩
      rw [← hri] at KL eJ
      clear hJ hri
      have J3' : (J : Int) < 3 := by omega
      have J0 : (0 : Int) ≤ (J : Int) := by omega
      have wu : IntKind.u8.wrap (65 + (i : Int)) = 65 + (i : Int) := by rw [IntKind.wrap_u8']; omega
      have cg := fun (W : World) => convGw (W.alloc (.cells #[.int .u8 (65 + (i : Int))] 5)) W.heap.size (65 + (i : Int)) ((RowAt.new W _ _).cell 0)
      have z1 : ¬ 9223372036854775807 < 1 + (strOfNums [65 + (i : Int)]).size := by rw [str1w]; omega
      have CK : Hid (∀ wx, RowAt wx w.heap.size 9 #[.string kyA, .string kyB, .string kyC] → wx.cell? ⟨w.heap.size, J, none⟩ = some (.string (K i))) := fun wx h => by rw [KJ.out]; exact ks_at h J3
      have FK : Hid (∀ wx, RowAt wx (w.heap.size + 1 + 1) 9 (fsA K vaF N kp i) → wx.cell? ⟨w.heap.size + 1 + 1, J, none⟩ = some (.string (fN K vaF N kp (kyF J) i))) := fun wx h => fs_at h J3
      go_wp2_with fail
      refine KL.out.mono ?_
      rintro e w7 ⟨rfl, rfl⟩
      go_upto_region 15 with fail
      obtain ⟨vv, hvv⟩ : ∃ v : ByteArray, v = vaF i := ⟨_, rfl⟩
      rw [show (⟨#[118]⟩ ++ strOfNums [65 + (i : Int)] : ByteArray) = vv from hvv.symm]
      replace hvv := hid hvv
      obtain ⟨W8, hW8⟩ : ∃ W, W = w7.alloc (.cells #[.int .u8 (65 + (i : Int))] 5) := ⟨_, rfl⟩
      have I8 := hid (I1.out.below (by rw [hW8]; exact (Below.refl _ _).alloc (Nat.le_refl _) _ : Below w7.heap.size w7 W8))
      rw [← hW8]
      clear hW8 cg z1 wu KL I1 eJ
      rcases (show i < N ∨ i = N ∨ N < i by omega) with hx | hx | hx
      · clear hlt
        have c1 : ¬ (i : Int) = (N : Int) := by omega
        have c2 : ¬ (N : Int) ≤ (i : Int) := by omega
        have c3 : (i : Int) < (N : Int) := by omega
        have E2 : Hid (bldL K vaF N (i + 1) = bldL K vaF N i ++ [opPut (K i) vv]) := by show (if i = N then _ else _) ++ _ = _; rw [if_neg (by omega), hvv.out]
        have c0 := CK.out W8 I8.out.ks
        go_wp2_with (first | (at_builtin; refine append_op w.heap.size W8 rfl (.tmp 63) (.tmp 70) rfl _ (bldL K vaF N i) (opPut (K i) vv) rfl I8.out.op I8.out.bl.size rfl (by have := bldL_len K vaF N i; omega) ?_) | go_in)
        intro v10 w10 hO10 hg10
        have I10 := hid (I8.out.app hO10 hg10)
        rw [← E2.out] at I10
        obtain ⟨a10, cc10, hv10⟩ := I10.out.op.slice
        obtain ⟨n10, hn10⟩ : ∃ x, x = (bldL K vaF N (i + 1)).length := ⟨_, rfl⟩
        rw [← hn10] at hv10
        subst hv10
        clear hO10 hg10 I8 c0 hn10
        obtain ⟨w11, hw11⟩ : ∃ x, x = w10 := ⟨_, rfl⟩
        rw [← hw11] at I10 ⊢
        clear hw11
        have I10X := I10
        have CC : i < N ∨ 11 * (i + 1 - N) ≤ kp := .inl (by omega)
        obtain ⟨sz2, hsz2⟩ : ∃ x, x = sz := ⟨_, rfl⟩
        have SZ : Hid (sz2 = 11 * (i + 1 - N)) := by have := HSZ.out; show _ = _; omega
        rw [← hsz2]
        clear hsz2 CK I10
        have PU := hid (I10X.out.put J (.string vv))
        have EF : Hid ((fsA K vaF N kp i).setIfInBounds J (.string vv) = fsA K vaF N kp (i + 1)) := by show _ = _; rw [hvv.out]; exact fs_put K vaF N kp i J J3 KJ.out CC
        rw [EF.out] at PU
        have e0 := FK.out w11 I10X.out.fs
        have f0 := I10X.out.fs.free J
        clear CC
        go_wp2_with fail
        go_roundw
        case rel => exact ⟨i + 1, sz2, _, by omega, SZ, rfl, by go_num, rfl, PU.out⟩
        case measure => simp [intOf]; omega
      · clear hlt
        subst hx
        have c2 : (i : Int) ≤ (i : Int) := by omega
        have c3 : ¬ (i : Int) < (i : Int) := by omega
        have E2 : Hid (bldL K vaF i (i + 1) = bldL K vaF i i ++ [opSy, opPut (K i) vv]) := by show (if i = i then _ else _) ++ _ = _; rw [if_pos (by omega), hvv.out, List.append_assoc]; rfl
        go_wp2_with (first | (at_builtin; refine append_op w.heap.size W8 rfl (.tmp 59) (.tmp 61) rfl _ (bldL K vaF i i) opSy rfl I8.out.op I8.out.bl.size rfl (by have := bldL_len K vaF i i; omega) ?_) | go_in)
        intro v9 w9 hO9 hg9
        have I9 := hid (I8.out.app hO9 hg9)
        obtain ⟨a9, cc9, hv9⟩ := I9.out.op.slice
        obtain ⟨n9, hn9⟩ : ∃ x, x = (bldL K vaF i i ++ [opSy]).length := ⟨_, rfl⟩
        rw [← hn9] at hv9
        subst hv9
        clear hO9 hg9 I8 hn9
        have c0 := CK.out w9 I9.out.ks
        go_wp2_with (first | (at_builtin; refine append_op w.heap.size w9 rfl (.tmp 63) (.tmp 70) rfl _ (bldL K vaF i i ++ [opSy]) (opPut (K i) vv) rfl I9.out.op I9.out.bl.size rfl (by have := bldL_len K vaF i i; rw [List.length_append]; show _ + 1 ≤ _; omega) ?_) | go_in)
        intro v10 w10 hO10 hg10
        have I10 := hid (I9.out.app hO10 hg10)
        rw [← E2.out] at I10
        obtain ⟨a10, cc10, hv10⟩ := I10.out.op.slice
        obtain ⟨n10, hn10⟩ : ∃ x, x = (bldL K vaF i (i + 1)).length := ⟨_, rfl⟩
        rw [← hn10] at hv10
        subst hv10
        clear hO10 hg10 I9 c0 hn10
        have c0 := CK.out w10 I10.out.ks
        have KP := hid (sPutRec (K i) false vv (by have := DU.out.k1 i; omega) (by have := DU.out.v2 i; rw [← hvv.out] at this; omega) w10)
        have RS : (recV (K i) false vv).size = 11 := by rw [hvv.out]; exact DU.out.size i
        obtain ⟨rr, hrr⟩ : ∃ x, x = recV (K i) false vv := ⟨_, rfl⟩
        rw [← hrr] at KP RS
        obtain ⟨sz2, hsz2⟩ : ∃ x, x = sz + 11 := ⟨_, rfl⟩
        have SZ : Hid (sz2 = 11 * (i + 1 - i)) := by have := HSZ.out; show _ = _; omega
        have sz2b : (sz : Int) + (rr.size : Int) = (sz2 : Int) := by omega
        have sb : sz2 ≤ 1000 := by have := SZ.out; omega
        clear hrr RS hsz2
        go_wp2_with (first | (refine KP.out.mono ?_) | go_in)
        rintro e w11 ⟨rfl, hb11⟩
        have I10X := hid (I10.out.below hb11)
        clear hb11 I10 KP c0 CK
        by_cases hk : sz2 ≤ kp
        · have hk' : (sz2 : Int) ≤ (kp : Int) := by omega
          have CC : i < i ∨ 11 * (i + 1 - i) ≤ kp := .inr (by have := SZ.out; omega)
          have PU := hid (I10X.out.put J (.string vv))
          have EF : Hid ((fsA K vaF i kp i).setIfInBounds J (.string vv) = fsA K vaF i kp (i + 1)) := by show _ = _; rw [hvv.out]; exact fs_put K vaF i kp i J J3 KJ.out CC
          rw [EF.out] at PU
          have e0 := FK.out w11 I10X.out.fs
          have f0 := I10X.out.fs.free J
          clear CC
          go_wp2_with fail
          go_roundw
          case rel => exact ⟨i + 1, sz2, _, by omega, SZ, rfl, by go_num, rfl, PU.out⟩
          case measure => simp [intOf]; omega
        · have hk' : decide ((sz2 : Int) ≤ (kp : Int)) = false := by simp; omega
          have FP : Hid (fsA K vaF i kp (i + 1) = fsA K vaF i kp i) := fs_pass K vaF i kp i (by have := SZ.out; omega)
          rw [← FP.out] at I10X
          go_wp2_with fail
          go_roundw
          case rel => exact ⟨i + 1, sz2, _, by omega, SZ, rfl, by go_num, rfl, I10X.out⟩
          case measure => simp [intOf]; omega
      · clear hlt
        have c1 : ¬ (i : Int) = (N : Int) := by omega
        have c2 : (N : Int) ≤ (i : Int) := by omega
        have c3 : ¬ (i : Int) < (N : Int) := by omega
        have E2 : Hid (bldL K vaF N (i + 1) = bldL K vaF N i ++ [opPut (K i) vv]) := by show (if i = N then _ else _) ++ _ = _; rw [if_neg (by omega), hvv.out]
        have c0 := CK.out W8 I8.out.ks
        go_wp2_with (first | (at_builtin; refine append_op w.heap.size W8 rfl (.tmp 63) (.tmp 70) rfl _ (bldL K vaF N i) (opPut (K i) vv) rfl I8.out.op I8.out.bl.size rfl (by have := bldL_len K vaF N i; omega) ?_) | go_in)
        intro v10 w10 hO10 hg10
        have I10 := hid (I8.out.app hO10 hg10)
        rw [← E2.out] at I10
        obtain ⟨a10, cc10, hv10⟩ := I10.out.op.slice
        obtain ⟨n10, hn10⟩ : ∃ x, x = (bldL K vaF N (i + 1)).length := ⟨_, rfl⟩
        rw [← hn10] at hv10
        subst hv10
        clear hO10 hg10 I8 c0 hn10
        have c0 := CK.out w10 I10.out.ks
        have KP := hid (sPutRec (K i) false vv (by have := DU.out.k1 i; omega) (by have := DU.out.v2 i; rw [← hvv.out] at this; omega) w10)
        have RS : (recV (K i) false vv).size = 11 := by rw [hvv.out]; exact DU.out.size i
        obtain ⟨rr, hrr⟩ : ∃ x, x = recV (K i) false vv := ⟨_, rfl⟩
        rw [← hrr] at KP RS
        obtain ⟨sz2, hsz2⟩ : ∃ x, x = sz + 11 := ⟨_, rfl⟩
        have SZ : Hid (sz2 = 11 * (i + 1 - N)) := by have := HSZ.out; show _ = _; omega
        have sz2b : (sz : Int) + (rr.size : Int) = (sz2 : Int) := by omega
        have sb : sz2 ≤ 1000 := by have := SZ.out; omega
        clear hrr RS hsz2
        go_wp2_with (first | (refine KP.out.mono ?_) | go_in)
        rintro e w11 ⟨rfl, hb11⟩
        have I10X := hid (I10.out.below hb11)
        clear hb11 I10 KP c0 CK
        by_cases hk : sz2 ≤ kp
        · have hk' : (sz2 : Int) ≤ (kp : Int) := by omega
          have CC : i < N ∨ 11 * (i + 1 - N) ≤ kp := .inr (by have := SZ.out; omega)
          have PU := hid (I10X.out.put J (.string vv))
          have EF : Hid ((fsA K vaF N kp i).setIfInBounds J (.string vv) = fsA K vaF N kp (i + 1)) := by show _ = _; rw [hvv.out]; exact fs_put K vaF N kp i J J3 KJ.out CC
          rw [EF.out] at PU
          have e0 := FK.out w11 I10X.out.fs
          have f0 := I10X.out.fs.free J
          clear CC
          go_wp2_with fail
          go_roundw
          case rel => exact ⟨i + 1, sz2, _, by omega, SZ, rfl, by go_num, rfl, PU.out⟩
          case measure => simp [intOf]; omega
        · have hk' : decide ((sz2 : Int) ≤ (kp : Int)) = false := by simp; omega
          have FP : Hid (fsA K vaF N kp (i + 1) = fsA K vaF N kp i) := fs_pass K vaF N kp i (by have := SZ.out; omega)
          rw [← FP.out] at I10X
          go_wp2_with fail
          go_roundw
          case rel => exact ⟨i + 1, sz2, _, by omega, SZ, rfl, by go_num, rfl, I10X.out⟩
          case measure => simp [intOf]; omega
    · have hlt' : ¬ (i : Int) < (N : Int) + (M : Int) := by omega
      have e : i = N + M := by omega
      rw [e] at I1 LB
      obtain ⟨fa, hfa⟩ : ∃ x, x = fsA K vaF N kp (N + M) := ⟨_, rfl⟩
      rw [← hfa] at I1
      have HFA := hid hfa
      clear e hfa hi HSZ KV
      go_upto_if 97 with fail
      go_cut [6] from 96 to 101 (fun y6 wx => ∃ (V : Value), V = y6 ∧ FdJ w (if M = 0 then bldL K vaF N (N + M) ++ [opSy] else bldL K vaF N (N + M)) fa V wx)
      case first =>
        rcases Nat.eq_zero_or_pos M with h0 | h0
        · subst h0
          go_wp2_with (first | (at_builtin; refine append_op w.heap.size wr rfl (.tmp 98) (.tmp 100) rfl _ (bldL K vaF N (N + 0)) opSy rfl I1.out.op I1.out.bl.size rfl (by have := bldL_len K vaF N (N + 0); omega) ?_) | go_in)
          intro v9 w9 hO9 hg9
          have I9 := hid (I1.out.app hO9 hg9)
          clear hO9 hg9
          go_wp2_with fail
          go_meet
          case rel => exact ⟨_, rfl, by simpa using I9.out⟩
        · have m1 : ¬ (M : Int) = 0 := by omega
          go_wp2_with fail
          go_meet
          case rel => exact ⟨_, rfl, by rw [if_neg (by omega)]; exact I1.out⟩
      case rest =>
      obtain ⟨V2, rfl, hI2⟩ := hcut
      obtain ⟨a2, c2, hv2⟩ := hI2.op.slice
      have I2 := hid hI2
      obtain ⟨LA, hLA⟩ : ∃ L, L = (if M = 0 then bldL K vaF N (N + M) ++ [opSy] else bldL K vaF N (N + M)) := ⟨_, rfl⟩
      rw [← hLA] at hv2 I2
      have LN : LA.length ≤ 40 := by
        have := bldL_len K vaF N (N + M)
        rw [hLA]
        split
        · rw [List.length_append]; show _ + 1 ≤ _; omega
        · omega
      have HLA : Hid (LA ++ [opCr (kp : Int)] = durL K vaF N M (kp : Int)) := by show LA ++ _ = _; rw [hLA]; rfl
      obtain ⟨n2, hn2⟩ : ∃ x, x = LA.length := ⟨_, rfl⟩
      rw [← hn2] at hv2
      subst hv2
      clear hLA hn2 hI2 I1 LB
      go_wp2_with (first | (at_builtin; refine append_op w.heap.size wc rfl (.tmp 102) (.tmp 105) rfl _ LA (opCr (kp : Int)) rfl I2.out.op I2.out.bl.size rfl (by omega) ?_) | go_in)
      intro v3 w3 hO3 hg3
      have I3 := hid (I2.out.app hO3 hg3)
      rw [HLA.out] at I3
      obtain ⟨LD, hLD⟩ : ∃ L, L = durL K vaF N M (kp : Int) := ⟨_, rfl⟩
      have LDN := durL_len K vaF N M (kp : Int)
      rw [← hLD] at I3 LDN
      have HLD := hid hLD
      clear hO3 hg3 I2 hLD HLA LN
      go_wp2_with fail
      go_loopw [6, 15] (fun y6 y15 wr => ∃ (k : Nat) (V : Value), k ≤ 3 ∧ V = y6 ∧ y15 = .int .i64 (k : Int) ∧ FdJ w (LD ++ rdL k) fa V wr) (fun _ y15 _ => 3 - (intOf y15).toNat)
      case atStart => exact ⟨0, _, Nat.zero_le _, rfl, rfl, by simpa [rdL] using I3.out⟩
      case round =>
        obtain ⟨k, V, hk, rfl, rfl, hJ⟩ := hrel
        obtain ⟨WK, rfl⟩ : ∃ v, v = wr := ⟨_, rfl⟩
        obtain ⟨a4, c4, hv4⟩ := hJ.op.slice
        obtain ⟨n4, hn4⟩ : ∃ x, x = (LD ++ rdL k).length := ⟨_, rfl⟩
        have J4 := hid hJ
        have ln4 : n4 ≤ 100 := by rw [hn4, List.length_append, rdL_len]; omega
        have HN4 := hid hn4
        rw [← hn4] at hv4
        subst hv4
        clear hJ hn4 I3
        by_cases h3 : k < 3
        · have h3' : (k : Int) < 3 := by omega
          have k0 : (0 : Int) ≤ (k : Int) := by omega
          have c0 := ks_at J4.out.ks h3
          have E5 : Hid (LD ++ rdL (k + 1) = LD ++ (rdL k ++ [opRd (kyF k)])) := rfl
          obtain ⟨q, hq⟩ : ∃ q, q = kyF k := ⟨_, rfl⟩
          rw [← hq] at c0 E5
          clear hq
          go_wp2_with (first | (at_builtin; refine append_op w.heap.size WK rfl (.tmp 111) (.tmp 117) rfl _ (LD ++ rdL k) (opRd q) rfl J4.out.op J4.out.bl.size rfl (by have := HN4.out; omega) ?_) | go_in)
          intro v5 w5 hO5 hg5
          have I5 := hid (J4.out.app hO5 hg5)
          rw [← E5.out] at I5
          clear hO5 hg5 c0 J4 HN4
          go_wp2_with fail
          go_roundw
          case rel => exact ⟨k + 1, _, by omega, rfl, by go_num, I5.out⟩
          case measure => simp [intOf]; omega
        · have h3' : ¬ (k : Int) < 3 := by omega
          have e : k = 3 := by omega
          have SZ := hid (dur_sz DU.out N M (kp : Int))
          have SE := hid (dur_sees DU.out N M kp (by omega))
          rw [← HLD.out] at SZ SE
          rw [e] at J4 HN4
          clear e hk
          obtain ⟨LZ, hLZ⟩ : ∃ L, L = LD ++ rdL 3 := ⟨_, rfl⟩
          have lz3 : 3 ≤ n4 := by have := HN4.out; rw [List.length_append, rdL_len] at this; omega
          rw [← hLZ] at J4 HN4 SZ SE
          have XE : Hid (Exs WK a4 n4 c4 (fun k => LZ.getD k opZ)) := by
            have := J4.out.op
            rw [HN4.out] at this ⊢
            exact this.exs _ (Nat.le_refl _)
          have KR : Hid (Calls Tryz.prog 8 #[.agg #[.string ⟨#[]⟩, .int .i64 0], .slice a4 n4 c4] WK fun e w' => AnD (xF ⟨#[]⟩ 0 LZ).1.1 ((xF ⟨#[]⟩ 0 LZ).1.2 : Nat) (xF ⟨#[]⟩ 0 LZ).2 WK e w') := by
            have := KI.out LZ WK a4 c4 (by rw [← HN4.out]; omega) (fun k _ => SZ.out k) J4.out.bl (by rw [← HN4.out]; exact XE.out)
            rw [← HN4.out] at this
            exact this
          have RL : Hid ((xF ⟨#[]⟩ 0 LZ).2.length = n4) := by show _ = _; rw [xF_run, xRun_len, ← HN4.out]
          obtain ⟨D1, hD1⟩ : ∃ x, x = (xF ⟨#[]⟩ 0 LZ).1.1 := ⟨_, rfl⟩
          obtain ⟨S1, hS1⟩ : ∃ x : Int, x = ((xF ⟨#[]⟩ 0 LZ).1.2 : Nat) := ⟨_, rfl⟩
          obtain ⟨LO, hLO⟩ : ∃ x, x = (xF ⟨#[]⟩ 0 LZ).2 := ⟨_, rfl⟩
          rw [← hD1, ← hS1, ← hLO] at KR
          rw [← hLO, ← HN4.out] at SE
          rw [← hLO] at RL
          clear hD1 hS1 hLO hLZ XE SZ HLD KI HN4
          go_upto_region 29 with fail
          go_wp2_with (first | (refine KR.out.mono ?_) | go_in)
          rintro e w6 ⟨⟨v6, O6, rfl, h6a, h6b, h6c⟩, hb6⟩
          obtain ⟨a6, c6, hv6⟩ := orSlice h6b
          have l6 : O6.length = n4 := by have := congrArg List.length h6a; rw [List.length_map] at this; rw [this, RL.out]
          have OW := hid h6b
          have OS := hid h6c
          have OF := hid h6a
          have OL := hid l6
          rw [l6] at hv6
          subst hv6
          have J6 := hid (J4.out.below hb6)
          obtain ⟨X6, hX6⟩ : ∃ x, x = w6.heap.size := ⟨_, rfl⟩
          obtain ⟨W7, hW7⟩ : ∃ W, W = w6.alloc (.cells #[.string D1, .int .i64 S1, .slice a6 n4 c6] 33) := ⟨_, rfl⟩
          have b7 : Below w6.heap.size w6 W7 := by rw [hW7]; exact (Below.refl _ _).alloc (Nat.le_refl _) _
          have R7 : Hid (RowAt W7 X6 33 #[.string D1, .int .i64 S1, .slice a6 n4 c6]) := by rw [hW7, hX6]; exact RowAt.new _ _ _
          have J7 := hid (J6.out.below b7)
          have OW7 : Hid (W7.ownsRow WK.heap.size 36 4 (.slice a6 n4 c6) O6.length (xoL O6)) := orKeep OW.out fun g cs _ r => r.below b7 r.lt
          have HW7 := hid hW7
          have HX6 := hid hX6
          clear h6a h6b h6c hb6 l6 b7 hW7 hX6 J4 J6 OW KR RL
          go_upto_region 30 with ((refine wpList_store_row rfl 33 (.tmp 16) (.tmp 121) rfl w6.heap.size #[.string D1, .int .i64 S1, .slice a6 n4 c6] rfl rfl _ _ (RowAt.new w6 _ _) (by kernel_rfl) rfl (by simp [Value.oneCell']) ?_); rw [World.setRow_alloc_new])
          rw [← HW7.out, ← HX6.out]
          clear HW7 HX6
          have r2 := R7.out.cell 2
          go_wp2_with fail
          clear r2
          go_loopw [17] (fun y17 wx => ∃ k3 : Nat, k3 ≤ 3 ∧ y17 = .int .i64 (k3 : Int) ∧ Below W7.heap.size W7 wx) (fun y17 _ => 3 - (intOf y17).toNat)
          case atStart => exact ⟨0, Nat.zero_le _, rfl, Below.refl _ _⟩
          case round =>
            obtain ⟨k3, hk3, rfl, hB⟩ := hrel
            obtain ⟨WR, rfl⟩ : ∃ v, v = wr := ⟨_, rfl⟩
            have B8 := hid hB
            clear hB
            by_cases h33 : k3 < 3
            · have h33' : (k3 : Int) < 3 := by omega
              have k0 : (0 : Int) ≤ (k3 : Int) := by omega
              obtain ⟨P, hP⟩ : ∃ P, P = n4 - 3 + k3 := ⟨_, rfl⟩
              have pE : (n4 : Int) - 3 + (k3 : Int) = (P : Int) := by omega
              have p0 : (0 : Int) ≤ (P : Int) := by omega
              have p1 : (P : Int) < (n4 : Int) := by omega
              have r2 := (R7.out.below B8.out R7.out.lt).cell 2
              have OWR : WR.ownsRow WK.heap.size 36 4 (.slice a6 n4 c6) O6.length (xoL O6) := orKeep OW7.out fun g cs _ r => r.below B8.out r.lt
              obtain ⟨g, x, ka, kn, kc, hga, hgl, hx, x0, x1, x2, x3⟩ := out_at OWR OS.out (P := P) (by rw [OL.out]; omega)
              rw [OF.out] at hx
              have SS := SE.out k3 h33 x (by rw [← hP]; exact hx)
              obtain ⟨F, hF⟩ : ∃ F, F = fN K vaF N kp (kyF k3) (N + M) := ⟨_, rfl⟩
              have FF := (J7.out.fs.below B8.out J7.out.fs.lt)
              rw [HFA.out] at FF
              have f0 := fs_at FF h33
              rw [← hF] at f0 SS
              obtain ⟨xc, xd, xk, xh⟩ := x
              simp only at x0 x1 x3 SS
              obtain ⟨W9, hW9⟩ : ∃ W, W = WR.alloc (.cells #[.int .i64 xc, .string xd, .slice ka kn kc, .int .i64 xh] 36) := ⟨_, rfl⟩
              have b9 : Below WR.heap.size WR W9 := by rw [hW9]; exact (Below.refl _ _).alloc (Nat.le_refl _) _
              have R9 : RowAt W9 WR.heap.size 36 #[.int .i64 xc, .string xd, .slice ka kn kc, .int .i64 xh] := by rw [hW9]; exact RowAt.new _ _ _
              have F9 := fs_at (FF.below b9 FF.lt) h33
              rw [← hF] at F9
              have B9 := hid (B8.out.trans (b9.mono B8.out.size))
              have q0 := R9.cell 0
              have q1 := R9.cell 1
              have HW9 := hid hW9
              clear hP hx OWR FF hF f0 b9 R9 hW9
              subst hga
              go_upto_region 36 with ((refine wpList_store_row rfl 36 (.tmp 18) (.tmp 140) rfl WR.heap.size #[.int .i64 xc, .string xd, .slice ka kn kc, .int .i64 xh] rfl rfl _ _ (RowAt.new WR _ _) (by kernel_rfl) rfl (by simp [Value.oneCell']) ?_); rw [World.setRow_alloc_new])
              rw [← HW9.out]
              clear HW9 r2 x0 x1 x2 x3
              have F9' : W9.cell? ⟨w.heap.size + 1 + 1, k3, none⟩ = some (.string F) := F9
              rcases SS with ⟨s0, rfl⟩ | ⟨s0, rfl, rfl⟩
              · have e0 : F.toList.isEmpty = true := ba_empty F s0
                clear s0 pE p0 p1
                refine wp_region_held_drew (S := fun wx => wx.cell? ⟨w.heap.size + 1 + 1, k3, none⟩ = some (.string F) ∧ wx.cell? ⟨WR.heap.size, 0, none⟩ = some (.int .i64 5) ∧ wx.cell? ⟨WR.heap.size, 1, none⟩ = some (.string xd)) (by kernel_rfl) ?_ (fun hHeld => ?_)
                · exact ⟨F9', q0, q1⟩
                refine wpAnyH_take (i := 0) (oi := { dst := some 141, op := Op.move (Operand.tmp 7), type := 23, pos := "laws.go:500", after := #[], guard := none }) (v := ?v1x0) rfl (by kernel_rfl) (by kernel_rfl) (by kernel_rfl) (fun _ _ _ h => h) (Or.inl ⟨by rfl, ?hy1x0⟩) hHeld ?rest1x0
                case hy1x0 => (intro w hSw; (try dsimp only at hSw); go_simp; try with_reducible rfl)
                simp only [Act.put, List.setIfInBounds_toArray, List.set_cons_zero, List.set_cons_succ]
                refine wpAnyH_take (i := 1) (oi := { dst := some 142, op := Op.move (Operand.tmp 17), type := 3, pos := "laws.go:500", after := #[], guard := none }) (v := ?v1x1) rfl (by kernel_rfl) (by kernel_rfl) (by kernel_rfl) (fun _ _ _ h => h) (Or.inl ⟨by rfl, ?hy1x1⟩) hHeld ?rest1x1
                case hy1x1 => (intro w hSw; (try dsimp only at hSw); go_simp; try with_reducible rfl)
                simp only [Act.put, List.setIfInBounds_toArray, List.set_cons_zero, List.set_cons_succ]
                refine wpAnyH_take (i := 2) (oi := { dst := some 143, op := Op.indexAddr 23 (Operand.tmp 141) (Operand.tmp 142), type := 0, pos := "laws.go:500", after := #[{ on := 0, ground := Ground.data }, { on := 1, ground := Ground.data }], guard := none }) (v := ?v1x2) rfl (by kernel_rfl) (by kernel_rfl) (by kernel_rfl) (fun _ _ _ h => h) (Or.inl ⟨by rfl, ?hy1x2⟩) hHeld ?rest1x2
                case hy1x2 => (intro w hSw; (try dsimp only at hSw); go_simp; try with_reducible rfl)
                simp only [Act.put, List.setIfInBounds_toArray, List.set_cons_zero, List.set_cons_succ]
                refine wpAnyH_take (i := 3) (oi := { dst := some 144, op := Op.load 9 (Operand.tmp 143), type := 9, pos := "laws.go:500", after := #[{ on := 2, ground := Ground.data }], guard := none }) (v := ?v1x3) rfl (by kernel_rfl) (by kernel_rfl) (by kernel_rfl) (fun _ _ _ h => h) (Or.inl ⟨by rfl, ?hy1x3⟩) hHeld ?rest1x3
                case hy1x3 => (intro w hSw; (try dsimp only at hSw); go_simp; try with_reducible rfl)
                simp only [Act.put, List.setIfInBounds_toArray, List.set_cons_zero, List.set_cons_succ]
                refine wpAnyH_take (i := 4) (oi := { dst := some 145, op := Op.binOp BinOp.eql 9 (Operand.tmp 144) (Operand.const (Value.string { data := #[] })) 9, type := 4, pos := "laws.go:500", after := #[{ on := 3, ground := Ground.data }], guard := none }) (v := ?v1x4) rfl (by kernel_rfl) (by kernel_rfl) (by kernel_rfl) (fun _ _ _ h => h) (Or.inl ⟨by rfl, ?hy1x4⟩) hHeld ?rest1x4
                case hy1x4 => (intro w hSw; (try dsimp only at hSw); go_simp; try with_reducible rfl)
                simp only [Act.put, List.setIfInBounds_toArray, List.set_cons_zero, List.set_cons_succ]
                refine wpAnyH_take (i := 5) (oi := { dst := some 146, op := Op.move (Operand.tmp 145), type := 4, pos := "laws.go:500", after := #[{ on := 4, ground := Ground.data }], guard := none }) (v := ?v1x5) rfl (by kernel_rfl) (by kernel_rfl) (by kernel_rfl) (fun _ _ _ h => h) (Or.inl ⟨by rfl, ?hy1x5⟩) hHeld ?rest1x5
                case hy1x5 => (intro w hSw; (try dsimp only at hSw); go_simp; try with_reducible rfl)
                simp only [Act.put, List.setIfInBounds_toArray, List.set_cons_zero, List.set_cons_succ]
                refine wpAnyH_take (i := 6) (oi := { dst := some 147, op := Op.fieldAddr 36 (Operand.tmp 18) 0, type := 0, pos := "laws.go:500", after := #[{ on := 5, ground := Ground.guard }], guard := some (5, true) }) (v := ?v1x6) rfl (by kernel_rfl) (by kernel_rfl) (by kernel_rfl) (fun _ _ _ h => h) (Or.inl ⟨by rfl, ?hy1x6⟩) hHeld ?rest1x6
                case hy1x6 => (intro w hSw; (try dsimp only at hSw); go_simp; try with_reducible rfl)
                simp only [Act.put, List.setIfInBounds_toArray, List.set_cons_zero, List.set_cons_succ]
                refine wpAnyH_take (i := 7) (oi := { dst := some 148, op := Op.load 2 (Operand.tmp 147), type := 2, pos := "laws.go:500", after := #[{ on := 6, ground := Ground.data }, { on := 5, ground := Ground.guard }], guard := some (5, true) }) (v := ?v1x7) rfl (by kernel_rfl) (by kernel_rfl) (by kernel_rfl) (fun _ _ _ h => h) (Or.inl ⟨by rfl, ?hy1x7⟩) hHeld ?rest1x7
                case hy1x7 => (intro w hSw; (try dsimp only at hSw); go_simp; try with_reducible rfl)
                simp only [Act.put, List.setIfInBounds_toArray, List.set_cons_zero, List.set_cons_succ]
                refine wpAnyH_take (i := 8) (oi := { dst := some 149, op := Op.binOp BinOp.neq 2 (Operand.tmp 148) (Operand.const (Value.int IntKind.i64 5)) 2, type := 4, pos := "laws.go:500", after := #[{ on := 7, ground := Ground.data }, { on := 5, ground := Ground.guard }], guard := some (5, true) }) (v := ?v1x8) rfl (by kernel_rfl) (by kernel_rfl) (by kernel_rfl) (fun _ _ _ h => h) (Or.inl ⟨by rfl, ?hy1x8⟩) hHeld ?rest1x8
                case hy1x8 => (intro w hSw; (try dsimp only at hSw); go_simp; try with_reducible rfl)
                simp only [Act.put, List.setIfInBounds_toArray, List.set_cons_zero, List.set_cons_succ]
                refine wpAnyH_take (i := 9) (oi := { dst := some 150, op := Op.pick (Operand.tmp 146) (Operand.tmp 149) (Operand.const (Value.bool false)), type := 4, pos := "laws.go:500", after := #[{ on := 5, ground := Ground.data }, { on := 8, ground := Ground.data }], guard := none }) (v := ?v1x9) rfl (by kernel_rfl) (by kernel_rfl) (by kernel_rfl) (fun _ _ _ h => h) (Or.inl ⟨by rfl, ?hy1x9⟩) hHeld ?rest1x9
                case hy1x9 => (intro w hSw; (try dsimp only at hSw); go_simp; try with_reducible rfl)
                simp only [Act.put, List.setIfInBounds_toArray, List.set_cons_zero, List.set_cons_succ]
                refine wpAnyH_take (i := 10) (oi := { dst := some 151, op := Op.move (Operand.tmp 150), type := 4, pos := "laws.go:500", after := #[{ on := 9, ground := Ground.data }, { on := 5, ground := Ground.chain }], guard := none }) (v := ?v1x10) rfl (by kernel_rfl) (by kernel_rfl) (by kernel_rfl) (fun _ _ _ h => h) (Or.inl ⟨by rfl, ?hy1x10⟩) hHeld ?rest1x10
                case hy1x10 => (intro w hSw; (try dsimp only at hSw); go_simp; try with_reducible rfl)
                simp only [Act.put, List.setIfInBounds_toArray, List.set_cons_zero, List.set_cons_succ]
                refine wpAnyH_take (i := 11) (oi := { dst := some 152, op := Op.move (Operand.tmp 7), type := 23, pos := "laws.go:500", after := #[{ on := 10, ground := Ground.guard }], guard := some (10, false) }) (v := ?v1x11) rfl (by kernel_rfl) (by kernel_rfl) (by kernel_rfl) (fun _ _ _ h => h) (Or.inl ⟨by rfl, ?hy1x11⟩) hHeld ?rest1x11
                case hy1x11 => (intro w hSw; (try dsimp only at hSw); go_simp; try with_reducible rfl)
                simp only [Act.put, List.setIfInBounds_toArray, List.set_cons_zero, List.set_cons_succ]
                refine wpAnyH_take (i := 12) (oi := { dst := some 153, op := Op.move (Operand.tmp 17), type := 3, pos := "laws.go:500", after := #[{ on := 10, ground := Ground.guard }], guard := some (10, false) }) (v := ?v1x12) rfl (by kernel_rfl) (by kernel_rfl) (by kernel_rfl) (fun _ _ _ h => h) (Or.inl ⟨by rfl, ?hy1x12⟩) hHeld ?rest1x12
                case hy1x12 => (intro w hSw; (try dsimp only at hSw); go_simp; try with_reducible rfl)
                simp only [Act.put, List.setIfInBounds_toArray, List.set_cons_zero, List.set_cons_succ]
                refine wpAnyH_take (i := 13) (oi := { dst := some 154, op := Op.indexAddr 23 (Operand.tmp 152) (Operand.tmp 153), type := 0, pos := "laws.go:500", after := #[{ on := 11, ground := Ground.data }, { on := 12, ground := Ground.data }, { on := 10, ground := Ground.guard }], guard := some (10, false) }) (v := ?v1x13) rfl (by kernel_rfl) (by kernel_rfl) (by kernel_rfl) (fun _ _ _ h => h) (Or.inl ⟨by rfl, ?hy1x13⟩) hHeld ?rest1x13
                case hy1x13 => (intro w hSw; (try dsimp only at hSw); go_simp; try with_reducible rfl)
                simp only [Act.put, List.setIfInBounds_toArray, List.set_cons_zero, List.set_cons_succ]
                refine wpAnyH_take (i := 14) (oi := { dst := some 155, op := Op.load 9 (Operand.tmp 154), type := 9, pos := "laws.go:500", after := #[{ on := 13, ground := Ground.data }, { on := 10, ground := Ground.guard }], guard := some (10, false) }) (v := ?v1x14) rfl (by kernel_rfl) (by kernel_rfl) (by kernel_rfl) (fun _ _ _ h => h) (Or.inl ⟨by rfl, ?hy1x14⟩) hHeld ?rest1x14
                case hy1x14 => (intro w hSw; (try dsimp only at hSw); go_simp; try with_reducible rfl)
                simp only [Act.put, List.setIfInBounds_toArray, List.set_cons_zero, List.set_cons_succ]
                refine wpAnyH_take (i := 15) (oi := { dst := some 156, op := Op.binOp BinOp.neq 9 (Operand.tmp 155) (Operand.const (Value.string { data := #[] })) 9, type := 4, pos := "laws.go:500", after := #[{ on := 14, ground := Ground.data }, { on := 10, ground := Ground.guard }], guard := some (10, false) }) (v := ?v1x15) rfl (by kernel_rfl) (by kernel_rfl) (by kernel_rfl) (fun _ _ _ h => h) (Or.inl ⟨by rfl, ?hy1x15⟩) hHeld ?rest1x15
                case hy1x15 => (intro w hSw; (try dsimp only at hSw); go_simp; try with_reducible rfl)
                simp only [Act.put, List.setIfInBounds_toArray, List.set_cons_zero, List.set_cons_succ]
                refine wpAnyH_take (i := 16) (oi := { dst := some 157, op := Op.move (Operand.tmp 156), type := 4, pos := "laws.go:500", after := #[{ on := 15, ground := Ground.data }, { on := 10, ground := Ground.chain }, { on := 10, ground := Ground.guard }], guard := some (10, false) }) (v := ?v1x16) rfl (by kernel_rfl) (by kernel_rfl) (by kernel_rfl) (fun _ _ _ h => h) (Or.inl ⟨by rfl, ?hy1x16⟩) hHeld ?rest1x16
                case hy1x16 => (intro w hSw; (try dsimp only at hSw); go_simp; try with_reducible rfl)
                simp only [Act.put, List.setIfInBounds_toArray, List.set_cons_zero, List.set_cons_succ]
                refine wpAnyH_take (i := 17) (oi := { dst := some 158, op := Op.fieldAddr 36 (Operand.tmp 18) 0, type := 0, pos := "laws.go:500", after := #[{ on := 16, ground := Ground.guard }], guard := some (16, true) }) (v := undef) rfl (by kernel_rfl) (by kernel_rfl) (by kernel_rfl) (fun _ _ _ h => h) (Or.inr ⟨by rfl, rfl⟩) hHeld ?_
                simp only [Act.put, List.setIfInBounds_toArray, List.set_cons_zero, List.set_cons_succ]
                refine wpAnyH_take (i := 18) (oi := { dst := some 159, op := Op.load 2 (Operand.tmp 158), type := 2, pos := "laws.go:500", after := #[{ on := 17, ground := Ground.data }, { on := 16, ground := Ground.guard }], guard := some (16, true) }) (v := undef) rfl (by kernel_rfl) (by kernel_rfl) (by kernel_rfl) (fun _ _ _ h => h) (Or.inr ⟨by rfl, rfl⟩) hHeld ?_
                simp only [Act.put, List.setIfInBounds_toArray, List.set_cons_zero, List.set_cons_succ]
                refine wpAnyH_take (i := 19) (oi := { dst := some 160, op := Op.binOp BinOp.neq 2 (Operand.tmp 159) (Operand.const (Value.int IntKind.i64 0)) 2, type := 4, pos := "laws.go:500", after := #[{ on := 18, ground := Ground.data }, { on := 16, ground := Ground.guard }], guard := some (16, true) }) (v := undef) rfl (by kernel_rfl) (by kernel_rfl) (by kernel_rfl) (fun _ _ _ h => h) (Or.inr ⟨by rfl, rfl⟩) hHeld ?_
                simp only [Act.put, List.setIfInBounds_toArray, List.set_cons_zero, List.set_cons_succ]
                refine wpAnyH_take (i := 20) (oi := { dst := some 161, op := Op.move (Operand.tmp 160), type := 4, pos := "laws.go:500", after := #[{ on := 19, ground := Ground.data }, { on := 16, ground := Ground.chain }, { on := 16, ground := Ground.guard }], guard := some (16, true) }) (v := undef) rfl (by kernel_rfl) (by kernel_rfl) (by kernel_rfl) (fun _ _ _ h => h) (Or.inr ⟨by rfl, rfl⟩) hHeld ?_
                simp only [Act.put, List.setIfInBounds_toArray, List.set_cons_zero, List.set_cons_succ]
                refine wpAnyH_take (i := 21) (oi := { dst := some 162, op := Op.fieldAddr 36 (Operand.tmp 18) 1, type := 0, pos := "laws.go:500", after := #[{ on := 20, ground := Ground.guard }], guard := some (20, false) }) (v := undef) rfl (by kernel_rfl) (by kernel_rfl) (by kernel_rfl) (fun _ _ _ h => h) (Or.inr ⟨by rfl, rfl⟩) hHeld ?_
                simp only [Act.put, List.setIfInBounds_toArray, List.set_cons_zero, List.set_cons_succ]
                refine wpAnyH_take (i := 22) (oi := { dst := some 163, op := Op.load 9 (Operand.tmp 162), type := 9, pos := "laws.go:500", after := #[{ on := 21, ground := Ground.data }, { on := 20, ground := Ground.guard }], guard := some (20, false) }) (v := undef) rfl (by kernel_rfl) (by kernel_rfl) (by kernel_rfl) (fun _ _ _ h => h) (Or.inr ⟨by rfl, rfl⟩) hHeld ?_
                simp only [Act.put, List.setIfInBounds_toArray, List.set_cons_zero, List.set_cons_succ]
                refine wpAnyH_take (i := 23) (oi := { dst := some 164, op := Op.move (Operand.tmp 7), type := 23, pos := "laws.go:500", after := #[{ on := 20, ground := Ground.guard }], guard := some (20, false) }) (v := undef) rfl (by kernel_rfl) (by kernel_rfl) (by kernel_rfl) (fun _ _ _ h => h) (Or.inr ⟨by rfl, rfl⟩) hHeld ?_
                simp only [Act.put, List.setIfInBounds_toArray, List.set_cons_zero, List.set_cons_succ]
                refine wpAnyH_take (i := 24) (oi := { dst := some 165, op := Op.move (Operand.tmp 17), type := 3, pos := "laws.go:500", after := #[{ on := 20, ground := Ground.guard }], guard := some (20, false) }) (v := undef) rfl (by kernel_rfl) (by kernel_rfl) (by kernel_rfl) (fun _ _ _ h => h) (Or.inr ⟨by rfl, rfl⟩) hHeld ?_
                simp only [Act.put, List.setIfInBounds_toArray, List.set_cons_zero, List.set_cons_succ]
                refine wpAnyH_take (i := 25) (oi := { dst := some 166, op := Op.indexAddr 23 (Operand.tmp 164) (Operand.tmp 165), type := 0, pos := "laws.go:500", after := #[{ on := 23, ground := Ground.data }, { on := 24, ground := Ground.data }, { on := 20, ground := Ground.guard }], guard := some (20, false) }) (v := undef) rfl (by kernel_rfl) (by kernel_rfl) (by kernel_rfl) (fun _ _ _ h => h) (Or.inr ⟨by rfl, rfl⟩) hHeld ?_
                simp only [Act.put, List.setIfInBounds_toArray, List.set_cons_zero, List.set_cons_succ]
                refine wpAnyH_take (i := 26) (oi := { dst := some 167, op := Op.load 9 (Operand.tmp 166), type := 9, pos := "laws.go:500", after := #[{ on := 25, ground := Ground.data }, { on := 20, ground := Ground.guard }], guard := some (20, false) }) (v := undef) rfl (by kernel_rfl) (by kernel_rfl) (by kernel_rfl) (fun _ _ _ h => h) (Or.inr ⟨by rfl, rfl⟩) hHeld ?_
                simp only [Act.put, List.setIfInBounds_toArray, List.set_cons_zero, List.set_cons_succ]
                refine wpAnyH_take (i := 27) (oi := { dst := some 168, op := Op.binOp BinOp.neq 9 (Operand.tmp 163) (Operand.tmp 167) 9, type := 4, pos := "laws.go:500", after := #[{ on := 22, ground := Ground.data }, { on := 26, ground := Ground.data }, { on := 20, ground := Ground.guard }], guard := some (20, false) }) (v := undef) rfl (by kernel_rfl) (by kernel_rfl) (by kernel_rfl) (fun _ _ _ h => h) (Or.inr ⟨by rfl, rfl⟩) hHeld ?_
                simp only [Act.put, List.setIfInBounds_toArray, List.set_cons_zero, List.set_cons_succ]
                refine wpAnyH_take (i := 28) (oi := { dst := some 169, op := Op.pick (Operand.tmp 161) (Operand.const (Value.bool true)) (Operand.tmp 168), type := 4, pos := "laws.go:500", after := #[{ on := 20, ground := Ground.data }, { on := 27, ground := Ground.data }, { on := 16, ground := Ground.guard }], guard := some (16, true) }) (v := undef) rfl (by kernel_rfl) (by kernel_rfl) (by kernel_rfl) (fun _ _ _ h => h) (Or.inr ⟨by rfl, rfl⟩) hHeld ?_
                simp only [Act.put, List.setIfInBounds_toArray, List.set_cons_zero, List.set_cons_succ]
                refine wpAnyH_take (i := 29) (oi := { dst := some 170, op := Op.pick (Operand.tmp 157) (Operand.tmp 169) (Operand.const (Value.bool false)), type := 4, pos := "laws.go:500", after := #[{ on := 16, ground := Ground.data }, { on := 28, ground := Ground.data }, { on := 10, ground := Ground.guard }], guard := some (10, false) }) (v := ?v1x29) rfl (by kernel_rfl) (by kernel_rfl) (by kernel_rfl) (fun _ _ _ h => h) (Or.inl ⟨by rfl, ?hy1x29⟩) hHeld ?rest1x29
                case hy1x29 => (intro w hSw; (try dsimp only at hSw); go_simp; try with_reducible rfl)
                simp only [Act.put, List.setIfInBounds_toArray, List.set_cons_zero, List.set_cons_succ]
                refine wpAnyH_take (i := 30) (oi := { dst := some 171, op := Op.pick (Operand.tmp 151) (Operand.const (Value.bool true)) (Operand.tmp 170), type := 4, pos := "laws.go:500", after := #[{ on := 10, ground := Ground.data }, { on := 29, ground := Ground.data }], guard := none }) (v := ?v1x30) rfl (by kernel_rfl) (by kernel_rfl) (by kernel_rfl) (fun _ _ _ h => h) (Or.inl ⟨by rfl, ?hy1x30⟩) hHeld ?rest1x30
                case hy1x30 => (intro w hSw; (try dsimp only at hSw); go_simp; try with_reducible rfl)
                simp only [Act.put, List.setIfInBounds_toArray, List.set_cons_zero, List.set_cons_succ]
                refine wpAnyH_done (by kernel_rfl) ?_ _
                have BD := hid B9.out.drew
                trace_state
                go_wp2_with fail
                go_roundw
                case rel => exact ⟨k3 + 1, by omega, by go_num, BD.out⟩
                case measure => simp [intOf]; omega
              · have e0 : xd.toList.isEmpty = false := ba_some xd s0
                clear s0 pE p0 p1
                refine wp_region_held_drew (S := fun wx => wx.cell? ⟨w.heap.size + 1 + 1, k3, none⟩ = some (.string xd) ∧ wx.cell? ⟨WR.heap.size, 0, none⟩ = some (.int .i64 0) ∧ wx.cell? ⟨WR.heap.size, 1, none⟩ = some (.string xd)) (by kernel_rfl) ?_ (fun hHeld => ?_)
                · exact ⟨F9', q0, q1⟩
                refine wpAnyH_take (i := 0) (oi := { dst := some 141, op := Op.move (Operand.tmp 7), type := 23, pos := "laws.go:500", after := #[], guard := none }) (v := ?v2x0) rfl (by kernel_rfl) (by kernel_rfl) (by kernel_rfl) (fun _ _ _ h => h) (Or.inl ⟨by rfl, ?hy2x0⟩) hHeld ?rest2x0
                case hy2x0 => (intro w hSw; (try dsimp only at hSw); go_simp; try with_reducible rfl)
                simp only [Act.put, List.setIfInBounds_toArray, List.set_cons_zero, List.set_cons_succ]
                refine wpAnyH_take (i := 1) (oi := { dst := some 142, op := Op.move (Operand.tmp 17), type := 3, pos := "laws.go:500", after := #[], guard := none }) (v := ?v2x1) rfl (by kernel_rfl) (by kernel_rfl) (by kernel_rfl) (fun _ _ _ h => h) (Or.inl ⟨by rfl, ?hy2x1⟩) hHeld ?rest2x1
                case hy2x1 => (intro w hSw; (try dsimp only at hSw); go_simp; try with_reducible rfl)
                simp only [Act.put, List.setIfInBounds_toArray, List.set_cons_zero, List.set_cons_succ]
                refine wpAnyH_take (i := 2) (oi := { dst := some 143, op := Op.indexAddr 23 (Operand.tmp 141) (Operand.tmp 142), type := 0, pos := "laws.go:500", after := #[{ on := 0, ground := Ground.data }, { on := 1, ground := Ground.data }], guard := none }) (v := ?v2x2) rfl (by kernel_rfl) (by kernel_rfl) (by kernel_rfl) (fun _ _ _ h => h) (Or.inl ⟨by rfl, ?hy2x2⟩) hHeld ?rest2x2
                case hy2x2 => (intro w hSw; (try dsimp only at hSw); go_simp; try with_reducible rfl)
                simp only [Act.put, List.setIfInBounds_toArray, List.set_cons_zero, List.set_cons_succ]
                refine wpAnyH_take (i := 3) (oi := { dst := some 144, op := Op.load 9 (Operand.tmp 143), type := 9, pos := "laws.go:500", after := #[{ on := 2, ground := Ground.data }], guard := none }) (v := ?v2x3) rfl (by kernel_rfl) (by kernel_rfl) (by kernel_rfl) (fun _ _ _ h => h) (Or.inl ⟨by rfl, ?hy2x3⟩) hHeld ?rest2x3
                case hy2x3 => (intro w hSw; (try dsimp only at hSw); go_simp; try with_reducible rfl)
                simp only [Act.put, List.setIfInBounds_toArray, List.set_cons_zero, List.set_cons_succ]
                refine wpAnyH_take (i := 4) (oi := { dst := some 145, op := Op.binOp BinOp.eql 9 (Operand.tmp 144) (Operand.const (Value.string { data := #[] })) 9, type := 4, pos := "laws.go:500", after := #[{ on := 3, ground := Ground.data }], guard := none }) (v := ?v2x4) rfl (by kernel_rfl) (by kernel_rfl) (by kernel_rfl) (fun _ _ _ h => h) (Or.inl ⟨by rfl, ?hy2x4⟩) hHeld ?rest2x4
                case hy2x4 => (intro w hSw; (try dsimp only at hSw); go_simp; try with_reducible rfl)
                simp only [Act.put, List.setIfInBounds_toArray, List.set_cons_zero, List.set_cons_succ]
                refine wpAnyH_take (i := 5) (oi := { dst := some 146, op := Op.move (Operand.tmp 145), type := 4, pos := "laws.go:500", after := #[{ on := 4, ground := Ground.data }], guard := none }) (v := ?v2x5) rfl (by kernel_rfl) (by kernel_rfl) (by kernel_rfl) (fun _ _ _ h => h) (Or.inl ⟨by rfl, ?hy2x5⟩) hHeld ?rest2x5
                case hy2x5 => (intro w hSw; (try dsimp only at hSw); go_simp; try with_reducible rfl)
                simp only [Act.put, List.setIfInBounds_toArray, List.set_cons_zero, List.set_cons_succ]
                refine wpAnyH_take (i := 6) (oi := { dst := some 147, op := Op.fieldAddr 36 (Operand.tmp 18) 0, type := 0, pos := "laws.go:500", after := #[{ on := 5, ground := Ground.guard }], guard := some (5, true) }) (v := undef) rfl (by kernel_rfl) (by kernel_rfl) (by kernel_rfl) (fun _ _ _ h => h) (Or.inr ⟨by rfl, rfl⟩) hHeld ?_
                simp only [Act.put, List.setIfInBounds_toArray, List.set_cons_zero, List.set_cons_succ]
                refine wpAnyH_take (i := 7) (oi := { dst := some 148, op := Op.load 2 (Operand.tmp 147), type := 2, pos := "laws.go:500", after := #[{ on := 6, ground := Ground.data }, { on := 5, ground := Ground.guard }], guard := some (5, true) }) (v := undef) rfl (by kernel_rfl) (by kernel_rfl) (by kernel_rfl) (fun _ _ _ h => h) (Or.inr ⟨by rfl, rfl⟩) hHeld ?_
                simp only [Act.put, List.setIfInBounds_toArray, List.set_cons_zero, List.set_cons_succ]
                refine wpAnyH_take (i := 8) (oi := { dst := some 149, op := Op.binOp BinOp.neq 2 (Operand.tmp 148) (Operand.const (Value.int IntKind.i64 5)) 2, type := 4, pos := "laws.go:500", after := #[{ on := 7, ground := Ground.data }, { on := 5, ground := Ground.guard }], guard := some (5, true) }) (v := undef) rfl (by kernel_rfl) (by kernel_rfl) (by kernel_rfl) (fun _ _ _ h => h) (Or.inr ⟨by rfl, rfl⟩) hHeld ?_
                simp only [Act.put, List.setIfInBounds_toArray, List.set_cons_zero, List.set_cons_succ]
                refine wpAnyH_take (i := 9) (oi := { dst := some 150, op := Op.pick (Operand.tmp 146) (Operand.tmp 149) (Operand.const (Value.bool false)), type := 4, pos := "laws.go:500", after := #[{ on := 5, ground := Ground.data }, { on := 8, ground := Ground.data }], guard := none }) (v := ?v2x9) rfl (by kernel_rfl) (by kernel_rfl) (by kernel_rfl) (fun _ _ _ h => h) (Or.inl ⟨by rfl, ?hy2x9⟩) hHeld ?rest2x9
                case hy2x9 => (intro w hSw; (try dsimp only at hSw); go_simp; try with_reducible rfl)
                simp only [Act.put, List.setIfInBounds_toArray, List.set_cons_zero, List.set_cons_succ]
                refine wpAnyH_take (i := 10) (oi := { dst := some 151, op := Op.move (Operand.tmp 150), type := 4, pos := "laws.go:500", after := #[{ on := 9, ground := Ground.data }, { on := 5, ground := Ground.chain }], guard := none }) (v := ?v2x10) rfl (by kernel_rfl) (by kernel_rfl) (by kernel_rfl) (fun _ _ _ h => h) (Or.inl ⟨by rfl, ?hy2x10⟩) hHeld ?rest2x10
                case hy2x10 => (intro w hSw; (try dsimp only at hSw); go_simp; try with_reducible rfl)
                simp only [Act.put, List.setIfInBounds_toArray, List.set_cons_zero, List.set_cons_succ]
                refine wpAnyH_take (i := 11) (oi := { dst := some 152, op := Op.move (Operand.tmp 7), type := 23, pos := "laws.go:500", after := #[{ on := 10, ground := Ground.guard }], guard := some (10, false) }) (v := ?v2x11) rfl (by kernel_rfl) (by kernel_rfl) (by kernel_rfl) (fun _ _ _ h => h) (Or.inl ⟨by rfl, ?hy2x11⟩) hHeld ?rest2x11
                case hy2x11 => (intro w hSw; (try dsimp only at hSw); go_simp; try with_reducible rfl)
                simp only [Act.put, List.setIfInBounds_toArray, List.set_cons_zero, List.set_cons_succ]
                refine wpAnyH_take (i := 12) (oi := { dst := some 153, op := Op.move (Operand.tmp 17), type := 3, pos := "laws.go:500", after := #[{ on := 10, ground := Ground.guard }], guard := some (10, false) }) (v := ?v2x12) rfl (by kernel_rfl) (by kernel_rfl) (by kernel_rfl) (fun _ _ _ h => h) (Or.inl ⟨by rfl, ?hy2x12⟩) hHeld ?rest2x12
                case hy2x12 => (intro w hSw; (try dsimp only at hSw); go_simp; try with_reducible rfl)
                simp only [Act.put, List.setIfInBounds_toArray, List.set_cons_zero, List.set_cons_succ]
                refine wpAnyH_take (i := 13) (oi := { dst := some 154, op := Op.indexAddr 23 (Operand.tmp 152) (Operand.tmp 153), type := 0, pos := "laws.go:500", after := #[{ on := 11, ground := Ground.data }, { on := 12, ground := Ground.data }, { on := 10, ground := Ground.guard }], guard := some (10, false) }) (v := ?v2x13) rfl (by kernel_rfl) (by kernel_rfl) (by kernel_rfl) (fun _ _ _ h => h) (Or.inl ⟨by rfl, ?hy2x13⟩) hHeld ?rest2x13
                case hy2x13 => (intro w hSw; (try dsimp only at hSw); go_simp; try with_reducible rfl)
                simp only [Act.put, List.setIfInBounds_toArray, List.set_cons_zero, List.set_cons_succ]
                refine wpAnyH_take (i := 14) (oi := { dst := some 155, op := Op.load 9 (Operand.tmp 154), type := 9, pos := "laws.go:500", after := #[{ on := 13, ground := Ground.data }, { on := 10, ground := Ground.guard }], guard := some (10, false) }) (v := ?v2x14) rfl (by kernel_rfl) (by kernel_rfl) (by kernel_rfl) (fun _ _ _ h => h) (Or.inl ⟨by rfl, ?hy2x14⟩) hHeld ?rest2x14
                case hy2x14 => (intro w hSw; (try dsimp only at hSw); go_simp; try with_reducible rfl)
                simp only [Act.put, List.setIfInBounds_toArray, List.set_cons_zero, List.set_cons_succ]
                refine wpAnyH_take (i := 15) (oi := { dst := some 156, op := Op.binOp BinOp.neq 9 (Operand.tmp 155) (Operand.const (Value.string { data := #[] })) 9, type := 4, pos := "laws.go:500", after := #[{ on := 14, ground := Ground.data }, { on := 10, ground := Ground.guard }], guard := some (10, false) }) (v := ?v2x15) rfl (by kernel_rfl) (by kernel_rfl) (by kernel_rfl) (fun _ _ _ h => h) (Or.inl ⟨by rfl, ?hy2x15⟩) hHeld ?rest2x15
                case hy2x15 => (intro w hSw; (try dsimp only at hSw); go_simp; try with_reducible rfl)
                simp only [Act.put, List.setIfInBounds_toArray, List.set_cons_zero, List.set_cons_succ]
                refine wpAnyH_take (i := 16) (oi := { dst := some 157, op := Op.move (Operand.tmp 156), type := 4, pos := "laws.go:500", after := #[{ on := 15, ground := Ground.data }, { on := 10, ground := Ground.chain }, { on := 10, ground := Ground.guard }], guard := some (10, false) }) (v := ?v2x16) rfl (by kernel_rfl) (by kernel_rfl) (by kernel_rfl) (fun _ _ _ h => h) (Or.inl ⟨by rfl, ?hy2x16⟩) hHeld ?rest2x16
                case hy2x16 => (intro w hSw; (try dsimp only at hSw); go_simp; try with_reducible rfl)
                simp only [Act.put, List.setIfInBounds_toArray, List.set_cons_zero, List.set_cons_succ]
                refine wpAnyH_take (i := 17) (oi := { dst := some 158, op := Op.fieldAddr 36 (Operand.tmp 18) 0, type := 0, pos := "laws.go:500", after := #[{ on := 16, ground := Ground.guard }], guard := some (16, true) }) (v := ?v2x17) rfl (by kernel_rfl) (by kernel_rfl) (by kernel_rfl) (fun _ _ _ h => h) (Or.inl ⟨by rfl, ?hy2x17⟩) hHeld ?rest2x17
                case hy2x17 => (intro w hSw; (try dsimp only at hSw); go_simp; try with_reducible rfl)
                simp only [Act.put, List.setIfInBounds_toArray, List.set_cons_zero, List.set_cons_succ]
                refine wpAnyH_take (i := 18) (oi := { dst := some 159, op := Op.load 2 (Operand.tmp 158), type := 2, pos := "laws.go:500", after := #[{ on := 17, ground := Ground.data }, { on := 16, ground := Ground.guard }], guard := some (16, true) }) (v := ?v2x18) rfl (by kernel_rfl) (by kernel_rfl) (by kernel_rfl) (fun _ _ _ h => h) (Or.inl ⟨by rfl, ?hy2x18⟩) hHeld ?rest2x18
                case hy2x18 => (intro w hSw; (try dsimp only at hSw); go_simp; try with_reducible rfl)
                simp only [Act.put, List.setIfInBounds_toArray, List.set_cons_zero, List.set_cons_succ]
                refine wpAnyH_take (i := 19) (oi := { dst := some 160, op := Op.binOp BinOp.neq 2 (Operand.tmp 159) (Operand.const (Value.int IntKind.i64 0)) 2, type := 4, pos := "laws.go:500", after := #[{ on := 18, ground := Ground.data }, { on := 16, ground := Ground.guard }], guard := some (16, true) }) (v := ?v2x19) rfl (by kernel_rfl) (by kernel_rfl) (by kernel_rfl) (fun _ _ _ h => h) (Or.inl ⟨by rfl, ?hy2x19⟩) hHeld ?rest2x19
                case hy2x19 => (intro w hSw; (try dsimp only at hSw); go_simp; try with_reducible rfl)
                simp only [Act.put, List.setIfInBounds_toArray, List.set_cons_zero, List.set_cons_succ]
                refine wpAnyH_take (i := 20) (oi := { dst := some 161, op := Op.move (Operand.tmp 160), type := 4, pos := "laws.go:500", after := #[{ on := 19, ground := Ground.data }, { on := 16, ground := Ground.chain }, { on := 16, ground := Ground.guard }], guard := some (16, true) }) (v := ?v2x20) rfl (by kernel_rfl) (by kernel_rfl) (by kernel_rfl) (fun _ _ _ h => h) (Or.inl ⟨by rfl, ?hy2x20⟩) hHeld ?rest2x20
                case hy2x20 => (intro w hSw; (try dsimp only at hSw); go_simp; try with_reducible rfl)
                simp only [Act.put, List.setIfInBounds_toArray, List.set_cons_zero, List.set_cons_succ]
                refine wpAnyH_take (i := 21) (oi := { dst := some 162, op := Op.fieldAddr 36 (Operand.tmp 18) 1, type := 0, pos := "laws.go:500", after := #[{ on := 20, ground := Ground.guard }], guard := some (20, false) }) (v := ?v2x21) rfl (by kernel_rfl) (by kernel_rfl) (by kernel_rfl) (fun _ _ _ h => h) (Or.inl ⟨by rfl, ?hy2x21⟩) hHeld ?rest2x21
                case hy2x21 => (intro w hSw; (try dsimp only at hSw); go_simp; try with_reducible rfl)
                simp only [Act.put, List.setIfInBounds_toArray, List.set_cons_zero, List.set_cons_succ]
                refine wpAnyH_take (i := 22) (oi := { dst := some 163, op := Op.load 9 (Operand.tmp 162), type := 9, pos := "laws.go:500", after := #[{ on := 21, ground := Ground.data }, { on := 20, ground := Ground.guard }], guard := some (20, false) }) (v := ?v2x22) rfl (by kernel_rfl) (by kernel_rfl) (by kernel_rfl) (fun _ _ _ h => h) (Or.inl ⟨by rfl, ?hy2x22⟩) hHeld ?rest2x22
                case hy2x22 => (intro w hSw; (try dsimp only at hSw); go_simp; try with_reducible rfl)
                simp only [Act.put, List.setIfInBounds_toArray, List.set_cons_zero, List.set_cons_succ]
                refine wpAnyH_take (i := 23) (oi := { dst := some 164, op := Op.move (Operand.tmp 7), type := 23, pos := "laws.go:500", after := #[{ on := 20, ground := Ground.guard }], guard := some (20, false) }) (v := ?v2x23) rfl (by kernel_rfl) (by kernel_rfl) (by kernel_rfl) (fun _ _ _ h => h) (Or.inl ⟨by rfl, ?hy2x23⟩) hHeld ?rest2x23
                case hy2x23 => (intro w hSw; (try dsimp only at hSw); go_simp; try with_reducible rfl)
                simp only [Act.put, List.setIfInBounds_toArray, List.set_cons_zero, List.set_cons_succ]
                refine wpAnyH_take (i := 24) (oi := { dst := some 165, op := Op.move (Operand.tmp 17), type := 3, pos := "laws.go:500", after := #[{ on := 20, ground := Ground.guard }], guard := some (20, false) }) (v := ?v2x24) rfl (by kernel_rfl) (by kernel_rfl) (by kernel_rfl) (fun _ _ _ h => h) (Or.inl ⟨by rfl, ?hy2x24⟩) hHeld ?rest2x24
                case hy2x24 => (intro w hSw; (try dsimp only at hSw); go_simp; try with_reducible rfl)
                simp only [Act.put, List.setIfInBounds_toArray, List.set_cons_zero, List.set_cons_succ]
                refine wpAnyH_take (i := 25) (oi := { dst := some 166, op := Op.indexAddr 23 (Operand.tmp 164) (Operand.tmp 165), type := 0, pos := "laws.go:500", after := #[{ on := 23, ground := Ground.data }, { on := 24, ground := Ground.data }, { on := 20, ground := Ground.guard }], guard := some (20, false) }) (v := ?v2x25) rfl (by kernel_rfl) (by kernel_rfl) (by kernel_rfl) (fun _ _ _ h => h) (Or.inl ⟨by rfl, ?hy2x25⟩) hHeld ?rest2x25
                case hy2x25 => (intro w hSw; (try dsimp only at hSw); go_simp; try with_reducible rfl)
                simp only [Act.put, List.setIfInBounds_toArray, List.set_cons_zero, List.set_cons_succ]
                refine wpAnyH_take (i := 26) (oi := { dst := some 167, op := Op.load 9 (Operand.tmp 166), type := 9, pos := "laws.go:500", after := #[{ on := 25, ground := Ground.data }, { on := 20, ground := Ground.guard }], guard := some (20, false) }) (v := ?v2x26) rfl (by kernel_rfl) (by kernel_rfl) (by kernel_rfl) (fun _ _ _ h => h) (Or.inl ⟨by rfl, ?hy2x26⟩) hHeld ?rest2x26
                case hy2x26 => (intro w hSw; (try dsimp only at hSw); go_simp; try with_reducible rfl)
                simp only [Act.put, List.setIfInBounds_toArray, List.set_cons_zero, List.set_cons_succ]
                refine wpAnyH_take (i := 27) (oi := { dst := some 168, op := Op.binOp BinOp.neq 9 (Operand.tmp 163) (Operand.tmp 167) 9, type := 4, pos := "laws.go:500", after := #[{ on := 22, ground := Ground.data }, { on := 26, ground := Ground.data }, { on := 20, ground := Ground.guard }], guard := some (20, false) }) (v := ?v2x27) rfl (by kernel_rfl) (by kernel_rfl) (by kernel_rfl) (fun _ _ _ h => h) (Or.inl ⟨by rfl, ?hy2x27⟩) hHeld ?rest2x27
                case hy2x27 => (intro w hSw; (try dsimp only at hSw); go_simp; try with_reducible rfl)
                simp only [Act.put, List.setIfInBounds_toArray, List.set_cons_zero, List.set_cons_succ]
                refine wpAnyH_take (i := 28) (oi := { dst := some 169, op := Op.pick (Operand.tmp 161) (Operand.const (Value.bool true)) (Operand.tmp 168), type := 4, pos := "laws.go:500", after := #[{ on := 20, ground := Ground.data }, { on := 27, ground := Ground.data }, { on := 16, ground := Ground.guard }], guard := some (16, true) }) (v := ?v2x28) rfl (by kernel_rfl) (by kernel_rfl) (by kernel_rfl) (fun _ _ _ h => h) (Or.inl ⟨by rfl, ?hy2x28⟩) hHeld ?rest2x28
                case hy2x28 => (intro w hSw; (try dsimp only at hSw); go_simp; try with_reducible rfl)
                simp only [Act.put, List.setIfInBounds_toArray, List.set_cons_zero, List.set_cons_succ]
                refine wpAnyH_take (i := 29) (oi := { dst := some 170, op := Op.pick (Operand.tmp 157) (Operand.tmp 169) (Operand.const (Value.bool false)), type := 4, pos := "laws.go:500", after := #[{ on := 16, ground := Ground.data }, { on := 28, ground := Ground.data }, { on := 10, ground := Ground.guard }], guard := some (10, false) }) (v := ?v2x29) rfl (by kernel_rfl) (by kernel_rfl) (by kernel_rfl) (fun _ _ _ h => h) (Or.inl ⟨by rfl, ?hy2x29⟩) hHeld ?rest2x29
                case hy2x29 => (intro w hSw; (try dsimp only at hSw); go_simp; try with_reducible rfl)
                simp only [Act.put, List.setIfInBounds_toArray, List.set_cons_zero, List.set_cons_succ]
                refine wpAnyH_take (i := 30) (oi := { dst := some 171, op := Op.pick (Operand.tmp 151) (Operand.const (Value.bool true)) (Operand.tmp 170), type := 4, pos := "laws.go:500", after := #[{ on := 10, ground := Ground.data }, { on := 29, ground := Ground.data }], guard := none }) (v := ?v2x30) rfl (by kernel_rfl) (by kernel_rfl) (by kernel_rfl) (fun _ _ _ h => h) (Or.inl ⟨by rfl, ?hy2x30⟩) hHeld ?rest2x30
                case hy2x30 => (intro w hSw; (try dsimp only at hSw); go_simp; try with_reducible rfl)
                simp only [Act.put, List.setIfInBounds_toArray, List.set_cons_zero, List.set_cons_succ]
                refine wpAnyH_done (by kernel_rfl) ?_ _
                have BD := hid B9.out.drew
                go_wp2_with fail
                go_roundw
                case rel => exact ⟨k3 + 1, by omega, by go_num, BD.out⟩
                case measure => simp [intOf]; omega
            · have h33' : ¬ (k3 : Int) < 3 := by omega
              have BE : Below w.heap.size w WR := J7.out.bl.trans (B8.out.mono J7.out.bl.size)
              have BH := hid BE
              clear BE
              go_wp2_with fail
              go_ret
              exact ⟨rfl, BH.out⟩
end Go.Proofs.YtngkiokibldfjaaGreatDoor
