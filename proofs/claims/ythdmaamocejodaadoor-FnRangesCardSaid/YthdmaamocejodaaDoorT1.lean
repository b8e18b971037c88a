import Derived.Test.YthdmaamocejodaaDoorRows1
import Derived.Test.YthdmaamocejodaaDoorLawMx
import Derived.Test.YthdmaamocejodaaDoorSMul2
import Derived.Test.YthdmaamocejodaaDoorCRows
import Derived.Test.YthdmaamocejodaaDoorEncI
import Derived.Deep.RegionWith
import Derived.Test.YthdmaamocejodaaDoorFRow
import Derived.Test.YthdmaamocejodaaDoorInts
import Derived.Test.YthdmaamocejodaaDoorCGlob
import Derived.Deep.RegionHeld3
import Derived.Deep.AppendLies
import Derived.Test.YthdmaamocejodaaDoorCodeF
namespace Go.Proofs.YthdmaamocejodaaDoor
open Go.RowKit
/-! Worlds in which only some blocks have turned. -/
/-- Of the blocks that were there, only some from lo up to hi have turned. -/
structure Turned (lo hi : Nat) (w w' : World) : Prop where
  os : w'.os = w.os
  tape : w'.tape = w.tape
  output : w'.output = w.output
  size : w.heap.size ≤ w'.heap.size
  block : ∀ k, k < w.heap.size → (k < lo ∨ hi ≤ k) → w'.heap[k]? = w.heap[k]?
theorem Turned.of_below {lo hi : Nat} {w w' : World} (h : Below w.heap.size w w') : Turned lo hi w w' := ⟨h.os, h.tape, h.output, h.size, fun k hk _ => h.block k hk⟩
theorem Turned.of_grown {lo hi b : Nat} {w w' : World} (h : w.grownBy w' (some b)) (h1 : lo ≤ b) (h2 : b < hi) : Turned lo hi w w' :=
  ⟨h.os, h.tape, h.output, h.size, fun k hk hne => h.block k hk (by intro e; injection e with e; omega)⟩
theorem Turned.below {lo hi n : Nat} {w0 w w' : World} (hb : Below n w0 w) (h : Turned lo hi w w') (hn : n ≤ lo) (hs : n ≤ w.heap.size) : Below n w0 w' :=
  ⟨h.os.trans hb.os, h.tape.trans hb.tape, h.output.trans hb.output, Nat.le_trans hb.size h.size, fun k hk => (h.block k (by omega) (Or.inl (by omega))).trans (hb.block k hk)⟩
theorem RowAt.turned {w w' : World} {b lo hi : Nat} {t : TypeId} {c : Array Value} (h : RowAt w b t c) (hg : Turned lo hi w w') (hn : b < lo ∨ hi ≤ b) : RowAt w' b t c := (hg.block b h.lt hn).trans h
end Go.Proofs.YthdmaamocejodaaDoor
namespace Go.Proofs.YthdmaamocejodaaDoor
open Go.RowKit
/-! Answers with a matrix: what the laws ask of them. -/
theorem Wr.turned {k : IntKind} {w w' : World} {b off lo hi : Nat} {xs : List Int} (h : Wr k w b off xs) (hg : Turned lo hi w w') (hn : b < lo ∨ hi ≤ b) : Wr k w' b off xs := by
  obtain ⟨cs, t, r, h1, h2⟩ := h; exact ⟨cs, t, r.turned hg hn, h1, h2⟩
/-- An answer's own numbers, in a block from lo up to hi. -/
def Own (w : World) (lo hi : Nat) (a : Option Addr) (len cap : Nat) (xs : List Int) : Prop :=
  xs.length = len ∧ len ≤ cap ∧ (len = 0 ∨ ∃ b off, a = some ⟨b, off, none⟩ ∧ lo ≤ b ∧ b < hi ∧ Wr .i64 w b off xs)
theorem Own.ow {w : World} {lo hi : Nat} {a : Option Addr} {len cap : Nat} {xs : List Int} (h : Own w lo hi a len cap xs) : Ow w lo a len cap xs := by
  refine ⟨h.1, h.2.1, ?_⟩
  rcases h.2.2 with h0 | ⟨b, off, rfl, h1, h2, hw⟩
  · exact Or.inl h0
  · exact Or.inr ⟨b, off, rfl, h1, hw⟩
theorem Own.ints {w : World} {lo hi : Nat} {a : Option Addr} {len cap : Nat} {xs : List Int} (h : Own w lo hi a len cap xs) : Ints .i64 w a len cap xs := h.ow.ints
theorem Own.of {w : World} {base : Nat} {a : Option Addr} {len cap : Nat} {xs : List Int} (h : Ow w base a len cap xs) : Own w base w.heap.size a len cap xs := by
  refine ⟨h.1, h.2.1, ?_⟩
  rcases h.2.2 with h0 | ⟨b, off, rfl, h1, hw⟩
  · exact Or.inl h0
  · exact Or.inr ⟨b, off, rfl, h1, hw.lt, hw⟩
theorem Own.below {w w' : World} {lo hi n : Nat} {a : Option Addr} {len cap : Nat} {xs : List Int} (h : Own w lo hi a len cap xs) (hb : Below n w w') (hn : hi ≤ n) : Own w' lo hi a len cap xs := by
  refine ⟨h.1, h.2.1, ?_⟩
  rcases h.2.2 with h0 | ⟨b, off, rfl, h1, h2, hw⟩
  · exact Or.inl h0
  · exact Or.inr ⟨b, off, rfl, h1, h2, hw.below hb (by omega)⟩
theorem Own.alloc {w : World} {lo hi : Nat} {a : Option Addr} {len cap : Nat} {xs : List Int} (h : Own w lo hi a len cap xs) (o : Obj) : Own (w.alloc o) lo hi a len cap xs := by
  refine ⟨h.1, h.2.1, ?_⟩
  rcases h.2.2 with h0 | ⟨b, off, rfl, h1, h2, hw⟩
  · exact Or.inl h0
  · exact Or.inr ⟨b, off, rfl, h1, h2, hw.alloc o⟩
theorem Own.drew {w : World} {lo hi : Nat} {a : Option Addr} {len cap : Nat} {xs : List Int} (h : Own w lo hi a len cap xs) : Own w.drew lo hi a len cap xs := h
theorem Own.setRow {w : World} {lo hi : Nat} {a : Option Addr} {len cap : Nat} {xs : List Int} (h : Own w lo hi a len cap xs) (g : Nat) (c : Array Value) (hg : g < lo ∨ hi ≤ g) : Own (w.setRow g c) lo hi a len cap xs := by
  refine ⟨h.1, h.2.1, ?_⟩
  rcases h.2.2 with h0 | ⟨b, off, rfl, h1, h2, hw⟩
  · exact Or.inl h0
  · exact Or.inr ⟨b, off, rfl, h1, h2, wr_setRow hw c (by omega)⟩
theorem Own.turned {w w' : World} {lo hi l2 h2 : Nat} {a : Option Addr} {len cap : Nat} {xs : List Int} (h : Own w lo hi a len cap xs) (hg : Turned l2 h2 w w') (hn : hi ≤ l2 ∨ h2 ≤ lo) : Own w' lo hi a len cap xs := by
  refine ⟨h.1, h.2.1, ?_⟩
  rcases h.2.2 with h0 | ⟨b, off, rfl, q1, q2, hw⟩
  · exact Or.inl h0
  · exact Or.inr ⟨b, off, rfl, q1, q2, hw.turned hg (by omega)⟩
abbrev mrv (k r c : Int) (a : Option Addr) (len cap : Nat) : Value := .agg #[.int .i64 k, .int .i64 r, .int .i64 c, .slice a len cap]
/-- an answer in new memory -/
def Ans (k r c : Int) (xs : List Int) (w : World) (e : Ending) (w' : World) : Prop := ∃ a len cap, e = .returned (mrv k r c a len cap) ∧ Ow w' w.heap.size a len cap xs ∧ Below w.heap.size w w'
theorem Ans.no {k : Int} {w w' : World} {e : Ending} (h : e = .returned (mrNone k)) (hb : Below w.heap.size w w') : Ans k 0 0 [] w e w' := ⟨none, 0, 0, h, ⟨rfl, Nat.le_refl _, Or.inl rfl⟩, hb⟩
theorem Ans.yes {k r c : Int} {g n : Nat} {xs : List Int} {w w' : World} {e : Ending} (h : e = .returned (mrv k r c (some ⟨g, 0, none⟩) n n)) (hg : w.heap.size ≤ g) (hw : Wr .i64 w' g 0 xs) (hl : xs.length = n) (hb : Below w.heap.size w w') : Ans k r c xs w e w' := by
  subst hl; exact ⟨_, _, _, h, hw.ow (Nat.le_refl _) hg, hb⟩
end Go.Proofs.YthdmaamocejodaaDoor
namespace Go.Proofs.YthdmaamocejodaaDoor
open Go.RowKit
/-- a row's factors -/
def rowL (K M G i : Nat) : List Nat := (List.range K).map (rowN K M G i)
theorem rowL_len (K M G i : Nat) : (rowL K M G i).length = K := by simp [rowL]
theorem rowL_at {K M G i d : Nat} (h : d < K) : (rowL K M G i).getD d 0 = rowN K M G i d := by
  unfold rowL; rw [List.getD_eq_getElem?_getD, List.getElem?_map, List.getElem?_range h]; rfl
/-- an answer of numbers in new memory -/
def AnsI (xs : List Int) (w : World) (e : Ending) (w' : World) : Prop := ∃ a len cap, e = .returned (.slice a len cap) ∧ Ow w' w.heap.size a len cap xs ∧ Below w.heap.size w w'
theorem AnsI.no {a : Option Addr} {w w' : World} {e : Ending} (h : e = .returned (.slice a 0 0)) (hb : Below w.heap.size w w') : AnsI [] w e w' := ⟨a, 0, 0, h, ⟨rfl, Nat.le_refl _, Or.inl rfl⟩, hb⟩
theorem take_nl_eq {xs ys : List Nat} {n : Nat} (hx : xs.length = n) (hy : ys.length = n) (h : ∀ d, d < n → xs.getD d 0 = ys.getD d 0) : xs = ys := by
  apply List.ext_getElem?
  intro d
  by_cases hd : d < n
  · have := h d hd
    rw [List.getD_eq_getElem?_getD, List.getD_eq_getElem?_getD, List.getElem?_eq_getElem (by omega), List.getElem?_eq_getElem (by omega)] at this
    rw [List.getElem?_eq_getElem (by omega), List.getElem?_eq_getElem (by omega)]
    exact congrArg some this
  · rw [List.getElem?_eq_none (by omega), List.getElem?_eq_none (by omega)]
theorem getD_setN (zs : List Nat) (i x p : Nat) (hi : i < zs.length) : (zs.set i x).getD p 0 = if p = i then x else zs.getD p 0 := by
  rw [List.getD_eq_getElem?_getD]
  by_cases e : p = i
  · subst e; rw [List.getElem?_set_self hi, if_pos rfl]; rfl
  · rw [List.getElem?_set_ne (by omega), if_neg e, List.getD_eq_getElem?_getD]
theorem rowN_lt {K M G i j : Nat} (h5 : K + M + G ≤ 64) (hi : i < K + M + G) (hj : j < K) : rowN K M G i j < 256 := by
  unfold rowN
  rw [if_pos hj]
  split
  · split <;> decide
  · split
    · exact gp_lt fld8.toFld (Nat.xor_lt_two_pow (n := 8) (by omega) (by omega)) 254
    · repeat' split
      all_goals decide
end Go.Proofs.YthdmaamocejodaaDoor
namespace Go.Proofs.YthdmaamocejodaaDoor
open Go.RowKit
/-! The specification's EncodeShards. -/
theorem idxS (t : ByteArray) (p : Nat) (hp : p < t.size) (w : World) : (Instr.index 9 (.string t) (.int .i64 p)).run Tryd.prog w = .ok (.int .u8 ((sb t p : Nat) : Int)) w := by
  have h : t[p]? = some (t.data.getD p 0) := by
    rw [getElem?_pos t p hp]
    simp [Array.getD]
    rw [dif_pos hp]; rfl
  simp [Instr.index, asIntOf, run_underlying Tryd.underlying9, h, sb]
theorem mixN_tail {fac ld : Nat → Nat → Nat} {i p K : Nat} (hK : ∀ k, K ≤ k → ld k p = 0) : ∀ n, mixN fac ld i p (K + n) = mixN fac ld i p K
  | 0 => rfl
  | n + 1 => by
    show mixN fac ld i p (K + n) ^^^ gm 8 29 (fac i (K + n)) (ld (K + n) p) = _
    rw [mixN_tail hK n, hK _ (by omega), gm_zero, Nat.xor_zero]
/-- the bytes under way: j rows added, of row j the first q -/
def wayN (fac ld : Nat → Nat → Nat) (j q p : Nat) : Nat := if p < q then mixN fac ld 0 p (j + 1) else mixN fac ld 0 p j
end Go.Proofs.YthdmaamocejodaaDoor
namespace Go.Proofs.YthdmaamocejodaaDoor
open Go.RowKit
/-! Slices of texts: what the laws do with them. -/
def Strs (w : World) (a : Option Addr) (len cap : Nat) (ts : Nat → ByteArray) : Prop :=
  len ≤ cap ∧ (len = 0 ∨ ∃ b off, a = some ⟨b, off, none⟩ ∧ b < w.heap.size ∧ ∀ i, i < len → w.cell? ⟨b, off + i, none⟩ = some (.string (ts i)))
theorem Strs.below {w w' : World} {a : Option Addr} {len cap : Nat} {ts : Nat → ByteArray} (h : Strs w a len cap ts) (hb : Below w.heap.size w w') : Strs w' a len cap ts := by
  refine ⟨h.1, ?_⟩
  rcases h.2 with h0 | ⟨b, off, rfl, h1, h2⟩
  · exact Or.inl h0
  · exact Or.inr ⟨b, off, rfl, Nat.lt_of_lt_of_le h1 hb.size, fun i hi => (hb.cell (p := ⟨b, off + i, none⟩) h1).trans (h2 i hi)⟩
theorem FRow.strs {w : World} {b n : Nat} {t : TypeId} {ts : Nat → ByteArray} (h : FRow w b t n (fun i => .string (ts i))) : Strs w (some ⟨b, 0, none⟩) n n ts :=
  ⟨Nat.le_refl _, Or.inr ⟨b, 0, rfl, h.lt, fun i hi => by rw [Nat.zero_add]; exact h.cell hi⟩⟩
theorem Tryd.infoS' : (Tryd.prog.info? 9).map (fun i => (i.zero, i.size, i.bytes)) = some (some (.string ⟨#[]⟩), 1, 16) := by kernel_rfl
theorem mkS' (w : World) (n : Nat) (hn : n ≤ 1048576) : (Instr.makeSlice 39 (.int .i64 n) (.int .i64 n)).run Tryd.prog w = .ok (.slice (some ⟨w.heap.size, 0, none⟩) n n) (w.alloc (.cells (madeCells #[.string ⟨#[]⟩] n) 9)) := by
  obtain ⟨i0, hi, hz0, hz1, hz2⟩ := info_parts Tryd.infoS'
  have := run_make (P := Tryd.prog) w 39 9 i0 _ Tryd.underlying39 hi hz0 .i64 .i64 n n (by omega) (Int.le_refl _) (by rw [hz2]; omega) (by omega)
  rw [this, hz1]
  simp only [Int.toNat_natCast, Value.cells, Nat.mul_one]
theorem bal9 {w w' : World} (h : Below w.heap.size w w') (o : Obj) : Below w.heap.size w (w'.alloc o) := h.alloc h.size o
/-- the digits of a number ahead of a text -/
def digs : Nat → Nat → ByteArray → ByteArray
  | 0, _, s => s
  | f + 1, k, s => if k = 0 then s else digs f (k / 10) (strOfNums [((48 + k % 10 : Nat) : Int)] ++ s)
theorem digs_zero (f : Nat) (s : ByteArray) : digs f 0 s = s := by cases f <;> simp [digs]
/-- a mark -/
def markB (k : Nat) : ByteArray := ⟨#[109]⟩ ++ digs 20 k ⟨#[]⟩
theorem conv1 (W : World) (d : Int) : (convert 22 9 (.slice (some ⟨W.heap.size, 0, none⟩) 1 1)).run Tryd.prog (W.alloc (.cells #[.int .u8 d] 5)) = .ok (.string (strOfNums [d])) (W.alloc (.cells #[.int .u8 d] 5)) :=
  run_convert_bytes_arg (P := Tryd.prog) _ 22 5 Tryd.underlying22 Tryd.underlying5 W.heap.size 0 1 1 [d] rfl (fun i hi => by
    have e : i = 0 := by omega
    subst e
    exact (RowAt.new W 5 #[.int .u8 d]).cell 0) 9 Tryd.underlying9
end Go.Proofs.YthdmaamocejodaaDoor
namespace Go.Proofs.YthdmaamocejodaaDoor
open Go.RowKit
/-- the one length, or -1 -/
def lenV (ts : Nat → ByteArray) (n : Nat) : Int := if Fits ts n then ((ts 0).size : Int) else -1
end Go.Proofs.YthdmaamocejodaaDoor
namespace Go.Proofs.YthdmaamocejodaaDoor
open Go.RowKit
/-! The specification's shards, all of them. -/
def OwnStrs (w : World) (base : Nat) (v : Value) (xs : List ByteArray) : Prop := w.ownsRow base 9 1 v xs.length (xs.map Value.string)
theorem OwnStrs.below {w w' : World} {base : Nat} {v : Value} {xs : List ByteArray} (h : OwnStrs w base v xs) (hb : Below w.heap.size w w') : OwnStrs w' base v xs := by
  refine ⟨h.1, ?_⟩
  rcases h.2 with h0 | ⟨g, cap, cur, he, hbg, hr, r⟩
  · exact Or.inl h0
  · exact Or.inr ⟨g, cap, cur, he, hbg, (hb.block g (show RowAt w g 9 cur from hr).lt).trans hr, r⟩
theorem OwnStrs.alloc {w : World} {base : Nat} {v : Value} {xs : List ByteArray} (h : OwnStrs w base v xs) (o : Obj) : OwnStrs (w.alloc o) base v xs := World.ownsRow.alloc h o
theorem OwnStrs.drew {w : World} {base : Nat} {v : Value} {xs : List ByteArray} (h : OwnStrs w base v xs) : OwnStrs w.drew base v xs := World.ownsRow.drew h
theorem OwnStrs.slice {w : World} {base : Nat} {v : Value} {xs : List ByteArray} (h : OwnStrs w base v xs) : ∃ a c, v = .slice a xs.length c := by
  rcases h.2 with ⟨h0, h1⟩ | ⟨g, cap, cur, he, _⟩
  · exact ⟨_, _, by rw [h0, h1]⟩
  · exact ⟨_, _, he⟩
theorem OwnStrs.ne {w : World} {base : Nat} {v : Value} {xs : List ByteArray} {c : Nat} (h : OwnStrs w base v xs) (hc : c < base) : some c ≠ v.ownBlock := by
  rcases h.2 with ⟨rfl, _⟩ | ⟨g, cap, cur, rfl, hb, _⟩
  · intro e; cases e
  · intro e
    have e2 : c = g := by simpa [Value.ownBlock] using e
    omega
theorem OwnStrs.strs {w : World} {base : Nat} {a : Option Addr} {n c : Nat} {xs : List ByteArray} {ts : Nat → ByteArray} (h : OwnStrs w base (.slice a n c) xs) (h0 : 0 < xs.length) (ht : ∀ i, i < xs.length → xs[i]? = some (ts i)) :
    ∃ g, a = some ⟨g, 0, none⟩ ∧ base ≤ g ∧ n = xs.length ∧ Strs w (some ⟨g, 0, none⟩) n c ts := by
  rcases h.2 with ⟨_, h1⟩ | ⟨g, cap, cur, he, hb, hr, hnc, hm, hsz, htk⟩
  · omega
  · cases he
    have R : RowAt w g 9 cur := hr
    refine ⟨g, rfl, hb, rfl, hnc, Or.inr ⟨g, 0, rfl, R.lt, fun i hi => ?_⟩⟩
    have := congrArg (·[i]?) htk
    simp only [List.getElem?_take] at this
    rw [if_pos (by omega), List.getElem?_map, ht i hi] at this
    rw [R.cell (0 + i), Nat.zero_add]
    simpa using this
theorem Strs.setRow {w : World} {b len cap : Nat} {ts : Nat → ByteArray} (h : Strs w (some ⟨b, 0, none⟩) len cap ts) (g : Nat) (c : Array Value) (hn : b ≠ g) : Strs (w.setRow g c) (some ⟨b, 0, none⟩) len cap ts := by
  refine ⟨h.1, ?_⟩
  rcases h.2 with h0 | ⟨b', off, he, h1, h2⟩
  · exact Or.inl h0
  · cases he
    refine Or.inr ⟨b, 0, rfl, by rw [setRow_size]; exact h1, fun i hi => ?_⟩
    rw [← h2 i hi]
    simp only [World.cell?, setRow_other w g b c hn]
theorem append_str2 {P : Program} (base : Nat) (wr : World) {ops : Array Oper} {rest : List Oper} {o : Oper} {a : Act} {Q : Exit → Act → World → Prop} (hgd : o.guard = none) (s x : Operand) (t : TypeId)
    (ho : o.op = .call { callee := .builtin .append, args := #[s, x], argTypes := #[t, t] })
    (ht : P.underlying t = some (.slice 9)) (hinfo : (P.info? 9).map (fun i => (i.zero, i.size, i.bytes)) = some (some (.string ⟨#[]⟩), 1, 16))
    (v : Value) (xs : List ByteArray) (y : ByteArray) (hs : a.eval s = v) (hown : OwnStrs wr base v xs) (hsz : base ≤ wr.heap.size)
    (hx : a.eval x = .slice (some ⟨wr.heap.size, 0, none⟩) 1 1) (hlen : xs.length ≤ 1048576)
    (h : ∀ v' w', OwnStrs w' base v' (xs ++ [y]) → wr.grownBy w' v.ownBlock → wpList P ops Q rest (a.put o.dst v') w') :
    wpList P ops Q (o :: rest) a (wr.alloc (.cells #[.string y] 9)) := by
  obtain ⟨i0, hi, hz0, hz1, hz2⟩ := info_parts hinfo
  refine wpList_append_own _ hgd s x t ho base 9 i0 (.string ⟨#[]⟩) 1 16 ht hi hz0 hz1 hz2 rfl (by decide) v _ _ hs (World.ownsRow.alloc hown _) ⟨wr.heap.size, 0, none⟩ 1 1 [.string y] hx rfl ?_ ?_ ?_ ?_ ?_ ?_
  · intro j u hj
    match j, hj with
    | 0, hj => simp at hj; subst hj; simp [Addr.add]
  · intro u hu; simp at hu; subst hu; rfl
  · unfold maxLen; omega
  · omega
  · simp; omega
  · intro v' w' h1 h2 h3
    exact h v' w' (by simpa [OwnStrs] using h1) (grown_trans (World.grownBy_alloc wr _ _) h2)
/-- Some numbers are appended to a row of numbers that the call owns; they lie in a block of their own, just made. -/
theorem mixN_eq {fac fac' ld ld' : Nat → Nat → Nat} {i i' p : Nat} : ∀ k, (∀ t, t < k → fac i t = fac' i' t ∧ ld t p = ld' t p) → mixN fac ld i p k = mixN fac' ld' i' p k
  | 0, _ => rfl
  | k + 1, h => by
    show mixN fac ld i p k ^^^ gm 8 29 (fac i k) (ld k p) = mixN fac' ld' i' p k ^^^ gm 8 29 (fac' i' k) (ld' k p)
    rw [mixN_eq k (fun t ht => h t (by omega)), (h k (by omega)).1, (h k (by omega)).2]
/-- what the specification mixes is what the program makes -/
theorem encT_is (K M G : Nat) (h2 : K ≤ 32) (ts : Nat → ByteArray) (i L : Nat) (hL : L = (ts 0).size) :
    strOfNums (nl ((List.range L).map fun p => mixN (fun _ j => (rowL K M G i).getD j 0) (fun k p => sb (ts k) p) 0 p K)) = encT K M G ts i := by
  subst hL
  unfold encT
  congr 2
  apply List.map_congr_left
  intro p _
  have e := mixN_tail (fac := rowN K M G) (ld := fun k p => if k < K then sb (ts k) p else 0) (i := i) (p := p) (K := K) (fun k hk => if_neg (by omega)) (32 - K)
  rw [show K + (32 - K) = 32 by omega] at e
  rw [e]
  exact mixN_eq K fun t ht => ⟨rowL_at ht, (if_pos ht).symm⟩
end Go.Proofs.YthdmaamocejodaaDoor
namespace Go.Proofs.YthdmaamocejodaaDoor
open Go.RowKit
/-- how many bytes there are together -/
def sumS (ts : Nat → ByteArray) : Nat → Nat
  | 0 => 0
  | n + 1 => sumS ts n + (ts n).size
theorem sumS_mono (ts : Nat → ByteArray) : ∀ {a b : Nat}, a ≤ b → sumS ts a ≤ sumS ts b
  | a, 0, h => by rw [Nat.le_zero.1 h]; exact Nat.le_refl _
  | a, b + 1, h => by
    rcases Nat.lt_or_ge a (b + 1) with h1 | h1
    · exact Nat.le_trans (sumS_mono ts (show a ≤ b by omega)) (Nat.le_add_right _ _)
    · rw [show a = b + 1 by omega]; exact Nat.le_refl _
theorem sumS_at (ts : Nat → ByteArray) {i n : Nat} (h : i < n) : (ts i).size ≤ sumS ts n := Nat.le_trans (Nat.le_add_left _ (sumS ts i)) (sumS_mono ts (show i + 1 ≤ n by omega))
def szV (len s : Nat) : Int := if len + s ≤ 1048576 then 1048576 - ((len + s : Nat) : Int) else -1
theorem below_drewN9 {n : Nat} {w w' : World} (h : Below n w w') (m : Nat) : Below n w (w'.drewN m) := ⟨h.os, h.tape, h.output, h.size, h.block⟩
abbrev srv (k : Int) (a : Option Addr) (len cap : Nat) : Value := .agg #[.int .i64 k, .slice a len cap]
end Go.Proofs.YthdmaamocejodaaDoor
namespace Go.Proofs.YthdmaamocejodaaDoor
open Go.RowKit
/-! The specification's EncodeShards. -/
theorem Tryd.infoB' : (Tryd.prog.info? 4).map (fun i => (i.zero, i.size, i.bytes)) = some (some (.bool false), 1, 1) := by kernel_rfl
end Go.Proofs.YthdmaamocejodaaDoor
namespace Go.Proofs.YthdmaamocejodaaDoor
open Go.RowKit
/-! EncodeShards: answers of texts, and the two contracts. -/
/-- an answer's own texts: in a block of lo .. hi -/
def OwnS (w : World) (lo hi : Nat) (a : Option Addr) (n : Nat) (f : Nat → ByteArray) : Prop := n = 0 ∨ ∃ tg, a = some ⟨tg, 0, none⟩ ∧ lo ≤ tg ∧ tg < hi ∧ FRow w tg 9 n (fun i => .string (f i))
theorem OwnS.below {w w' : World} {lo hi n m : Nat} {a : Option Addr} {f : Nat → ByteArray} (h : OwnS w lo hi a n f) (hb : Below m w w') (hm : hi ≤ m) : OwnS w' lo hi a n f := by
  rcases h with h | ⟨tg, h1, h2, h3, h4⟩
  · exact Or.inl h
  · exact Or.inr ⟨tg, h1, h2, h3, h4.below hb (by omega)⟩
theorem OwnS.alloc {w : World} {lo hi n : Nat} {a : Option Addr} {f : Nat → ByteArray} (h : OwnS w lo hi a n f) (o : Obj) : OwnS (w.alloc o) lo hi a n f := by
  rcases h with h | ⟨tg, h1, h2, h3, h4⟩
  · exact Or.inl h
  · exact Or.inr ⟨tg, h1, h2, h3, h4.alloc o⟩
theorem OwnS.drew {w : World} {lo hi n : Nat} {a : Option Addr} {f : Nat → ByteArray} (h : OwnS w lo hi a n f) : OwnS w.drew lo hi a n f := h
theorem FRow.turned {w w' : World} {b lo hi n : Nat} {t : TypeId} {f : Nat → Value} (h : FRow w b t n f) (hg : Turned lo hi w w') (hn : b < lo ∨ hi ≤ b) : FRow w' b t n f := by
  obtain ⟨cs, h1, h2, h3⟩ := h; exact ⟨cs, h1.turned hg hn, h2, h3⟩
theorem OwnS.turned {w w' : World} {lo hi l2 h2 n : Nat} {a : Option Addr} {f : Nat → ByteArray} (h : OwnS w lo hi a n f) (hg : Turned l2 h2 w w') (hn : hi ≤ l2 ∨ h2 ≤ lo) : OwnS w' lo hi a n f := by
  rcases h with h | ⟨tg, h1, h3, h4, h5⟩
  · exact Or.inl h
  · exact Or.inr ⟨tg, h1, h3, h4, h5.turned hg (by omega)⟩
theorem OwnS.strs {w : World} {lo hi n : Nat} {a : Option Addr} {f : Nat → ByteArray} (h : OwnS w lo hi a n f) : Strs w a n n f := by
  rcases h with h | ⟨tg, rfl, h3, h4, h5⟩
  · exact ⟨Nat.le_refl _, Or.inl h⟩
  · exact h5.strs
theorem OwnS.setRow {w : World} {lo hi n : Nat} {a : Option Addr} {f : Nat → ByteArray} (h : OwnS w lo hi a n f) (g : Nat) (c : Array Value) (hg : g < lo ∨ hi ≤ g) : OwnS (w.setRow g c) lo hi a n f := by
  rcases h with h | ⟨tg, h1, h3, h4, cs, r1, r2, r3⟩
  · exact Or.inl h
  · exact Or.inr ⟨tg, h1, h3, h4, cs, r1.otherRow g c (by omega), r2, r3⟩
/-- texts that lie below hi -/
def StrsB (w : World) (hi : Nat) (a : Option Addr) (n c : Nat) (f : Nat → ByteArray) : Prop := n ≤ c ∧ (n = 0 ∨ ∃ b, a = some ⟨b, 0, none⟩ ∧ b < hi ∧ b < w.heap.size ∧ ∀ i, i < n → w.cell? ⟨b, 0 + i, none⟩ = some (.string (f i)))
theorem StrsB.of {w : World} {b n c : Nat} {f : Nat → ByteArray} (h : Strs w (some ⟨b, 0, none⟩) n c f) : StrsB w w.heap.size (some ⟨b, 0, none⟩) n c f := by
  refine ⟨h.1, ?_⟩
  rcases h.2 with h0 | ⟨b', off, he, h1, h2⟩
  · exact Or.inl h0
  · cases he; exact Or.inr ⟨b, rfl, h1, h1, h2⟩
theorem StrsB.none (w : World) (f : Nat → ByteArray) : StrsB w w.heap.size none 0 0 f := ⟨Nat.le_refl _, Or.inl rfl⟩
theorem StrsB.strs {w : World} {hi n c : Nat} {a : Option Addr} {f : Nat → ByteArray} (h : StrsB w hi a n c f) : Strs w a n c f := by
  refine ⟨h.1, ?_⟩
  rcases h.2 with h0 | ⟨b, he, h1, h2, h3⟩
  · exact Or.inl h0
  · exact Or.inr ⟨b, 0, he, h2, h3⟩
theorem StrsB.blocks {w w' : World} {hi n c : Nat} {a : Option Addr} {f : Nat → ByteArray} (h : StrsB w hi a n c f) (hs : w.heap.size ≤ w'.heap.size) (hb : ∀ b, b < hi → b < w.heap.size → w'.heap[b]? = w.heap[b]?) : StrsB w' hi a n c f := by
  refine ⟨h.1, ?_⟩
  rcases h.2 with h0 | ⟨b, he, h1, h2, h3⟩
  · exact Or.inl h0
  · refine Or.inr ⟨b, he, h1, by omega, fun i hi => ?_⟩
    rw [← h3 i hi]
    simp only [World.cell?, hb b h1 h2]
theorem StrsB.below {w w' : World} {hi n c m : Nat} {a : Option Addr} {f : Nat → ByteArray} (h : StrsB w hi a n c f) (hb : Below m w w') (hm : hi ≤ m) : StrsB w' hi a n c f := h.blocks hb.size fun b h1 _ => hb.block b (by omega)
theorem StrsB.alloc {w : World} {hi n c : Nat} {a : Option Addr} {f : Nat → ByteArray} (h : StrsB w hi a n c f) (o : Obj) : StrsB (w.alloc o) hi a n c f := h.blocks (by rw [size_al]; omega) fun b _ h2 => ((Below.refl w.heap.size w).alloc (Nat.le_refl _) o).block b h2
theorem StrsB.drew {w : World} {hi n c : Nat} {a : Option Addr} {f : Nat → ByteArray} (h : StrsB w hi a n c f) : StrsB w.drew hi a n c f := h
theorem StrsB.turned {w w' : World} {hi l2 h2 n c : Nat} {a : Option Addr} {f : Nat → ByteArray} (h : StrsB w hi a n c f) (hg : Turned l2 h2 w w') (hn : hi ≤ l2) : StrsB w' hi a n c f := h.blocks hg.size fun b h1 h2 => hg.block b h2 (by omega)
theorem StrsB.setRow {w : World} {hi n c : Nat} {a : Option Addr} {f : Nat → ByteArray} (h : StrsB w hi a n c f) (g : Nat) (cs : Array Value) (hg : hi ≤ g) : StrsB (w.setRow g cs) hi a n c f := h.blocks (by rw [setRow_size]; exact Nat.le_refl _) fun b h1 _ => setRow_other w g b cs (by omega)
/-- the program's answer -/
def AnsP (k : Int) (n : Nat) (f : Nat → ByteArray) (w : World) (e : Ending) (w' : World) : Prop := ∃ a, e = .returned (srv k a n n) ∧ OwnS w' w.heap.size w'.heap.size a n f ∧ Below w.heap.size w w'
/-- the specification's answer -/
def AnsQ (k : Int) (n : Nat) (f : Nat → ByteArray) (w : World) (e : Ending) (w' : World) : Prop := ∃ a c, e = .returned (srv k a n c) ∧ StrsB w' w'.heap.size a n c f ∧ Below w.heap.size w w'
end Go.Proofs.YthdmaamocejodaaDoor
namespace Go.Proofs.YthdmaamocejodaaDoor
open Go.RowKit
/-! How many stripes an object has. -/
def stripeN (k m g u s : Int) : Int := if cfault k m g = 0 ∧ 1 ≤ u ∧ u ≤ 4096 ∧ 0 ≤ s ∧ s ≤ 100000 ∧ (s + k * u - 1) / (k * u) ≤ 200 then (s + k * u - 1) / (k * u) else -1
/-- what there is where there is a count -/
theorem stripe_ok {k m g u s : Int} (h : stripeN k m g u s ≠ -1) : ∃ K M G U S : Nat, k = K ∧ m = M ∧ g = G ∧ u = U ∧ s = S ∧ 1 ≤ K ∧ K ≤ 32 ∧ M ≤ 16 ∧ G ≤ K ∧ K + M + G ≤ 64 ∧ 1 ≤ U ∧ U ≤ 4096 ∧ S ≤ 100000 ∧ (S + K * U - 1) / (K * U) ≤ 200 ∧ stripeN k m g u s = (((S + K * U - 1) / (K * U) : Nat) : Int) := by
  unfold stripeN at h ⊢
  by_cases q : cfault k m g = 0 ∧ 1 ≤ u ∧ u ≤ 4096 ∧ 0 ≤ s ∧ s ≤ 100000 ∧ (s + k * u - 1) / (k * u) ≤ 200
  · obtain ⟨q0, q1, q2, q3, q4, q5⟩ := q
    obtain ⟨K, M, G, rfl, rfl, rfl, h1, h2, h3, h4, h5⟩ := cfault_ok q0
    obtain ⟨U, rfl⟩ := Int.eq_ofNat_of_zero_le (show 0 ≤ u by omega)
    obtain ⟨S, rfl⟩ := Int.eq_ofNat_of_zero_le q3
    have hp : 1 ≤ K * U := Nat.mul_pos (by omega) (by omega)
    have e : ((S : Int) + K * U - 1) / (K * U) = (((S + K * U - 1) / (K * U) : Nat) : Int) := by
      rw [Int.natCast_ediv, Int.natCast_sub (by omega), Int.natCast_add, Int.natCast_mul]; rfl
    rw [if_pos ⟨q0, q1, q2, q3, q4, q5⟩]
    exact ⟨K, M, G, U, S, rfl, rfl, rfl, rfl, rfl, h1, h2, h3, h4, h5, by omega, by omega, by omega, by omega, e⟩
  · rw [if_neg q] at h; exact absurd rfl h
theorem stripe_nat {K M G U S : Nat} (h1 : 1 ≤ K) (h2 : K ≤ 32) (h3 : M ≤ 16) (h4 : G ≤ K) (h5 : K + M + G ≤ 64) (h6 : 1 ≤ U) (h7 : U ≤ 4096) (h8 : S ≤ 100000) :
    stripeN K M G U S = if (S + K * U - 1) / (K * U) ≤ 200 then (((S + K * U - 1) / (K * U) : Nat) : Int) else -1 := by
  have hp : 1 ≤ K * U := Nat.mul_pos (by omega) (by omega)
  have e : ((S : Int) + K * U - 1) / (K * U) = (((S + K * U - 1) / (K * U) : Nat) : Int) := by
    rw [Int.natCast_ediv, Int.natCast_sub (by omega), Int.natCast_add, Int.natCast_mul]; rfl
  unfold stripeN
  rw [e, cfault_of h1 h2 h3 h4 h5]
  by_cases q : (S + K * U - 1) / (K * U) ≤ 200
  · rw [if_pos q, if_pos ⟨rfl, by omega, by omega, by omega, by omega, by omega⟩]
  · rw [if_neg q, if_neg (fun h => q (by have := h.2.2.2.2.2; omega))]
theorem stripe_lo (k m g u s : Int) : stripeN k m g u s = -1 ∨ (0 ≤ stripeN k m g u s ∧ stripeN k m g u s ≤ 200) := by
  by_cases h : stripeN k m g u s = -1
  · exact Or.inl h
  · obtain ⟨K, M, G, U, S, _, _, _, _, _, _, _, _, _, _, _, _, _, hn, e⟩ := stripe_ok h
    rw [e]; exact Or.inr ⟨Int.natCast_nonneg _, (Int.ofNat_le.2 hn : _ ≤ ((200 : Nat) : Int))⟩
set_option maxRecDepth 20000 in
set_option maxHeartbeats 2000000 in
theorem sStripe (k m g u s : Int) (w : World) :
    Calls Tryd.prog 6 #[cdv k m g, .int .i64 u, .int .i64 s] w fun e w' => e = .returned (.int .i64 (stripeN k m g u s)) ∧ w' = (w.alloc (.cells (cda k m g) 24)).alloc (.cells (cda k m g) 24) := by
  go_enter Tryd.func6, Tryd.ntmps6
  go_wp2_with fail
  refine (sCfault _ _ _ _).mono ?_
  rintro e w1 ⟨rfl, hw1⟩
  rcases cfault_01 k m g with hf | hf
  · rw [hf]
    obtain ⟨K, M, G, rfl, rfl, rfl, h1, h2, h3, h4, h5⟩ := cfault_ok hf
    have HF := hid hf
    have C1 : Hid (RowAt w1 w.heap.size 24 (cda K M G)) := by rw [hw1]; exact (RowAt.new w _ _).alloc _
    have HW := hid hw1
    clear hf hw1
    by_cases u0 : u < 1
    · have E : Hid (stripeN K M G u s = -1) := if_neg (by omega)
      have d0 : decide (u < 1) = true := by simp; omega
      go_wp2
      go_ret
      exact ⟨by rw [E.out]; rfl, HW.out⟩
    have d0 : decide (u < 1) = false := by simp; omega
    by_cases u1 : 4096 < u
    · have E : Hid (stripeN K M G u s = -1) := if_neg (by omega)
      have d1 : decide (4096 < u) = true := by simp; omega
      go_wp2
      go_ret
      exact ⟨by rw [E.out]; rfl, HW.out⟩
    have d1 : decide (4096 < u) = false := by simp; omega
    by_cases u2 : s < 0
    · have E : Hid (stripeN K M G u s = -1) := if_neg (by omega)
      have d2 : decide (s < 0) = true := by simp; omega
      go_wp2
      go_ret
      exact ⟨by rw [E.out]; rfl, HW.out⟩
    have d2 : decide (s < 0) = false := by simp; omega
    by_cases u3 : 100000 < s
    · have E : Hid (stripeN K M G u s = -1) := if_neg (by omega)
      have d3 : decide (100000 < s) = true := by simp; omega
      go_wp2
      go_ret
      exact ⟨by rw [E.out]; rfl, HW.out⟩
    have d3 : decide (100000 < s) = false := by simp; omega
    obtain ⟨U, rfl⟩ := Int.eq_ofNat_of_zero_le (show 0 ≤ u by omega)
    obtain ⟨S, rfl⟩ := Int.eq_ofNat_of_zero_le (show 0 ≤ s by omega)
    have E : Hid _ := stripe_nat h1 h2 h3 h4 h5 (show 1 ≤ U by omega) (show U ≤ 4096 by omega) (show S ≤ 100000 by omega)
    have hp1 : 1 ≤ K * U := Nat.mul_pos (by omega) (by omega)
    have hp2 : K * U ≤ 32 * 4096 := Nat.mul_le_mul h2 (by omega)
    have eP : ((K : Int) * (U : Int)) = ((K * U : Nat) : Int) := by rw [Int.natCast_mul]
    obtain ⟨Z, hZ⟩ : ∃ Z, Z = K * U := ⟨_, rfl⟩
    rw [← hZ] at E hp1 hp2 eP
    obtain ⟨N, hN⟩ : ∃ N, N = (S + Z - 1) / Z := ⟨_, rfl⟩
    rw [← hN] at E
    have eD : ((S : Int) + (Z : Int) - 1).tdiv (Z : Int) = (N : Int) := by
      rw [Int.tdiv_eq_ediv_of_nonneg (by omega), hN, Int.natCast_ediv, Int.natCast_sub (by omega), Int.natCast_add]; rfl
    have eD' : ((S : Int) + (Z : Int) - 1) / (Z : Int) = (N : Int) := by
      rw [hN, Int.natCast_ediv, Int.natCast_sub (by omega), Int.natCast_add]; rfl
    have hNS : N ≤ 100000 := by
      rw [hN]
      have h9 : (S + Z - 1) / Z < S + 1 := by
        rw [Nat.div_lt_iff_lt_mul (by omega)]
        have := Nat.mul_le_mul_left S hp1
        rw [Nat.add_mul]; omega
      omega
    have hS1 : S ≤ 100000 := by omega
    have hZ1 : Z ≤ 131072 := by omega
    have HZ := hid hZ
    have HN := hid hN
    have c0 : w1.cell? ⟨w.heap.size, 0, none⟩ = some (.int .i64 K) := C1.out.cell 0
    clear hZ hN u0 u1 u2 u3 C1
    by_cases hn : 200 < N
    · have d5 : (200 : Int) < (N : Int) := by omega
      have E2 : Hid (stripeN K M G U S = -1) := by rw [E.out]; exact if_neg (by omega)
      clear E
      go_wp2
      go_ret
      exact ⟨by rw [E2.out]; rfl, HW.out⟩
    · have d5 : ¬ (200 : Int) < (N : Int) := by omega
      have E2 : Hid (stripeN K M G U S = (N : Int)) := by rw [E.out]; exact if_pos (by omega)
      clear E
      go_wp2
      go_ret
      exact ⟨by rw [E2.out]; rfl, HW.out⟩
  · rw [hf]
    have E : Hid (stripeN k m g u s = -1) := if_neg (fun h => by rw [hf] at h; exact absurd h.1 (by decide))
    have HW := hid hw1
    clear hf hw1
    go_wp2
    go_ret
    exact ⟨by rw [E.out]; rfl, HW.out⟩
end Go.Proofs.YthdmaamocejodaaDoor
namespace Go.Proofs.YthdmaamocejodaaDoor
open Go.RowKit
/-! Stripes: an object's pieces, and slices of stripes. -/
/-- the q-th piece of u bytes, filled up with zeros -/
def pcT (d : ByteArray) (u q : Nat) : ByteArray := strOfNums (nl ((List.range u).map fun j => sb d (q * u + j)))
theorem pcT_size (d : ByteArray) (u q : Nat) : (pcT d u q).size = u := by
  unfold pcT; rw [strOfNums_size, nl_len]; simp
/-- a stripe's shards -/
def spT (d : ByteArray) (K M G u i : Nat) : Nat → ByteArray := encT K M G (fun k => pcT d u (i * K + k))
theorem pc_fits (d : ByteArray) (K u i : Nat) (h1 : 1 ≤ u) (h2 : u ≤ 4096) : Fits (fun k => pcT d u (i * K + k)) K := fun k _ => by
  simp only [pcT_size]; exact ⟨h1, h2, trivial⟩
/-- stripes that are read: they lie in blocks below hi -/
def StpB (w : World) (hi : Nat) (a : Option Addr) (n c S : Nat) (T : Nat → Nat → ByteArray) : Prop :=
  n ≤ c ∧ (n = 0 ∨ ∃ b, a = some ⟨b, 0, none⟩ ∧ b < hi ∧ b < w.heap.size ∧ ∃ gs cs : Nat → Nat, ∀ i, i < n → w.cell? ⟨b, i, none⟩ = some (.slice (some ⟨gs i, 0, none⟩) S (cs i)) ∧ gs i < hi ∧ Strs w (some ⟨gs i, 0, none⟩) S (cs i) (T i))
theorem Strs.blk {w w' : World} {g S c : Nat} {f : Nat → ByteArray} (h : Strs w (some ⟨g, 0, none⟩) S c f) (hs : w.heap.size ≤ w'.heap.size) (hb : g < w.heap.size → w'.heap[g]? = w.heap[g]?) : Strs w' (some ⟨g, 0, none⟩) S c f := by
  refine ⟨h.1, ?_⟩
  rcases h.2 with h0 | ⟨b, off, he, h1, h2⟩
  · exact Or.inl h0
  · cases he
    refine Or.inr ⟨g, 0, rfl, by omega, fun i hi => ?_⟩
    rw [← h2 i hi]
    simp only [World.cell?, hb h1]
theorem StpB.blocks {w w' : World} {hi n c S : Nat} {a : Option Addr} {T : Nat → Nat → ByteArray} (h : StpB w hi a n c S T) (hs : w.heap.size ≤ w'.heap.size) (hb : ∀ b, b < hi → b < w.heap.size → w'.heap[b]? = w.heap[b]?) : StpB w' hi a n c S T := by
  refine ⟨h.1, ?_⟩
  rcases h.2 with h0 | ⟨b, he, h1, h2, gs, cs, h3⟩
  · exact Or.inl h0
  · refine Or.inr ⟨b, he, h1, by omega, gs, cs, fun i hi => ⟨?_, (h3 i hi).2.1, (h3 i hi).2.2.blk hs (hb _ (h3 i hi).2.1)⟩⟩
    rw [← (h3 i hi).1]
    simp only [World.cell?, hb b h1 h2]
theorem StpB.below {w w' : World} {hi n c S m : Nat} {a : Option Addr} {T : Nat → Nat → ByteArray} (h : StpB w hi a n c S T) (hb : Below m w w') (hm : hi ≤ m) : StpB w' hi a n c S T := h.blocks hb.size fun b h1 _ => hb.block b (by omega)
theorem StpB.alloc {w : World} {hi n c S : Nat} {a : Option Addr} {T : Nat → Nat → ByteArray} (h : StpB w hi a n c S T) (o : Obj) : StpB (w.alloc o) hi a n c S T := h.blocks (by rw [size_al]; omega) fun b _ h2 => ((Below.refl w.heap.size w).alloc (Nat.le_refl _) o).block b h2
theorem StpB.drew {w : World} {hi n c S : Nat} {a : Option Addr} {T : Nat → Nat → ByteArray} (h : StpB w hi a n c S T) : StpB w.drew hi a n c S T := h
theorem StpB.turned {w w' : World} {hi l2 h2 n c S : Nat} {a : Option Addr} {T : Nat → Nat → ByteArray} (h : StpB w hi a n c S T) (hg : Turned l2 h2 w w') (hn : hi ≤ l2) : StpB w' hi a n c S T := h.blocks hg.size fun b h1 h2 => hg.block b h2 (by omega)
/-- stripes that are an answer's own: blocks from lo up to hi, each stripe's texts in one of its own -/
def OwnP (w : World) (lo hi : Nat) (a : Option Addr) (n c S : Nat) (T : Nat → Nat → ByteArray) : Prop :=
  n ≤ c ∧ (n = 0 ∨ ∃ b, a = some ⟨b, 0, none⟩ ∧ lo ≤ b ∧ b < hi ∧ b < w.heap.size ∧ ∃ gs : Nat → Nat, (∀ i, i < n → w.cell? ⟨b, i, none⟩ = some (.slice (some ⟨gs i, 0, none⟩) S S) ∧ lo ≤ gs i ∧ gs i < hi ∧ gs i ≠ b ∧ FRow w (gs i) 9 S (fun s => .string (T i s))) ∧ (∀ i j, i < n → j < n → gs i = gs j → i = j))
theorem FRow.blk {w w' : World} {b n : Nat} {t : TypeId} {f : Nat → Value} (h : FRow w b t n f) (hb : b < w.heap.size → w'.heap[b]? = w.heap[b]?) : FRow w' b t n f := by
  obtain ⟨cs, h1, h2, h3⟩ := h
  exact ⟨cs, (hb h1.lt).trans h1, h2, h3⟩
theorem OwnP.blocks {w w' : World} {lo hi n c S : Nat} {a : Option Addr} {T : Nat → Nat → ByteArray} (h : OwnP w lo hi a n c S T) (hs : w.heap.size ≤ w'.heap.size) (hb : ∀ b, lo ≤ b → b < hi → b < w.heap.size → w'.heap[b]? = w.heap[b]?) : OwnP w' lo hi a n c S T := by
  refine ⟨h.1, ?_⟩
  rcases h.2 with h0 | ⟨b, he, h1, h2, h3, gs, h4, h5⟩
  · exact Or.inl h0
  · refine Or.inr ⟨b, he, h1, h2, by omega, gs, fun i hi => ?_, h5⟩
    obtain ⟨q1, q2, q3, q4, q5⟩ := h4 i hi
    refine ⟨?_, q2, q3, q4, q5.blk (hb _ q2 q3)⟩
    rw [← q1]
    simp only [World.cell?, hb b h1 h2 h3]
theorem OwnP.below {w w' : World} {lo hi n c S m : Nat} {a : Option Addr} {T : Nat → Nat → ByteArray} (h : OwnP w lo hi a n c S T) (hb : Below m w w') (hm : hi ≤ m) : OwnP w' lo hi a n c S T := h.blocks hb.size fun b _ h1 _ => hb.block b (by omega)
theorem OwnP.alloc {w : World} {lo hi n c S : Nat} {a : Option Addr} {T : Nat → Nat → ByteArray} (h : OwnP w lo hi a n c S T) (o : Obj) : OwnP (w.alloc o) lo hi a n c S T := h.blocks (by rw [size_al]; omega) fun b _ _ h2 => ((Below.refl w.heap.size w).alloc (Nat.le_refl _) o).block b h2
theorem OwnP.drew {w : World} {lo hi n c S : Nat} {a : Option Addr} {T : Nat → Nat → ByteArray} (h : OwnP w lo hi a n c S T) : OwnP w.drew lo hi a n c S T := h
theorem OwnP.turned {w w' : World} {lo hi l2 h2 n c S : Nat} {a : Option Addr} {T : Nat → Nat → ByteArray} (h : OwnP w lo hi a n c S T) (hg : Turned l2 h2 w w') (hn : hi ≤ l2 ∨ h2 ≤ lo) : OwnP w' lo hi a n c S T := h.blocks hg.size fun b h1 h2 h3 => hg.block b h3 (by omega)
theorem OwnP.stp {w : World} {lo hi n c S : Nat} {a : Option Addr} {T : Nat → Nat → ByteArray} (h : OwnP w lo hi a n c S T) : StpB w hi a n c S T := by
  refine ⟨h.1, ?_⟩
  rcases h.2 with h0 | ⟨b, he, h1, h2, h3, gs, h4, h5⟩
  · exact Or.inl h0
  · exact Or.inr ⟨b, he, h2, h3, gs, fun _ => S, fun i hi => ⟨(h4 i hi).1, (h4 i hi).2.2.1, (h4 i hi).2.2.2.2.strs⟩⟩
theorem Turned.trans {lo hi : Nat} {w w1 w2 : World} (h : Turned lo hi w w1) (h' : Turned lo hi w1 w2) : Turned lo hi w w2 :=
  ⟨h'.os.trans h.os, h'.tape.trans h.tape, h'.output.trans h.output, Nat.le_trans h.size h'.size, fun k hk hn => (h'.block k (Nat.lt_of_lt_of_le hk h.size) hn).trans (h.block k hk hn)⟩
theorem Turned.alloc {lo hi : Nat} {w w' : World} (h : Turned lo hi w w') (o : Obj) : Turned lo hi w (w'.alloc o) := h.trans (Turned.of_below ((Below.refl _ _).alloc (Nat.le_refl _) o))
end Go.Proofs.YthdmaamocejodaaDoor
