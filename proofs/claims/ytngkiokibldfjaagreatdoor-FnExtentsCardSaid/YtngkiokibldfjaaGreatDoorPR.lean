import Derived.Test.YtngkiokibldfjaaGreatDoorPK
import Derived.Test.YtngkiokibldfjaaGreatDoorPL
import Derived.Test.YtngkiokibldfjaaGreatDoorPN
import Derived.Test.YtngkiokibldfjaaGreatDoorPO
import Derived.Test.YtngkiokibldfjaaGreatDoorPQ
import Derived.Test.YtngkiokibldfjaaGreatDoorPB
import Derived.Deep.CutBlock
import Derived.Deep.RegionHeld3
import Derived.Shelf.Abstract
import Derived.Shelf.RegionOpen
import Derived.OwnWalkIn
import Derived.TacticsInMore
import Derived.LoopNIn
import Derived.LoopIn
namespace Go.Proofs.YtngkiokibldfjaaGreatDoor
open Go.RowKit
set_option linter.unusedVariables false
/-! What a shelf's methods may turn; filed frames as a row. -/
/-- from X on, rows of these kinds, and maps where mp -/
structure TG (ts : List TypeId) (mp : Bool) (X : Nat) (A C : World) : Prop where
  os : C.os = A.os
  tape : C.tape = A.tape
  output : C.output = A.output
  size : A.heap.size ≤ C.heap.size
  low : ∀ k, k + 1 < X → C.heap[k]? = A.heap[k]?
  row : ∀ k t cs, RowAt A k t cs → t ∉ ts → RowAt C k t cs
  map : mp = false → ∀ (k : Nat) es c, A.heap[k]? = some (Obj.map es c) → C.heap[k]? = some (Obj.map es c)
  dfr : ∀ (k : Nat) ds, A.heap[k]? = some (Obj.deferred ds) → C.heap[k]? = some (Obj.deferred ds)
theorem TG.refl (ts : List TypeId) (mp : Bool) (X : Nat) (A : World) : TG ts mp X A A := ⟨rfl, rfl, rfl, Nat.le_refl _, fun _ _ => rfl, fun _ _ _ h _ => h, fun _ _ _ _ h => h, fun _ _ h => h⟩
theorem TG.trans {ts : List TypeId} {mp : Bool} {X : Nat} {A B C : World} (h : TG ts mp X A B) (k : TG ts mp X B C) : TG ts mp X A C :=
  ⟨k.os.trans h.os, k.tape.trans h.tape, k.output.trans h.output, Nat.le_trans h.size k.size, fun j hj => (k.low j hj).trans (h.low j hj), fun j t cs r hn => k.row j t cs (h.row j t cs r hn) hn, fun hm j es c r => k.map hm j es c (h.map hm j es c r), fun j ds r => k.dfr j ds (h.dfr j ds r)⟩
theorem TG.weak {ts ts' : List TypeId} {mp mp' : Bool} {X : Nat} {A B : World} (h : TG ts mp X A B) (hs : ∀ t, t ∈ ts → t ∈ ts') (hm : mp' = false → mp = false) : TG ts' mp' X A B :=
  ⟨h.os, h.tape, h.output, h.size, h.low, fun k t cs r hn => h.row k t cs r (fun q => hn (hs t q)), fun q => h.map (hm q), h.dfr⟩
theorem TG.lowX {ts : List TypeId} {mp : Bool} {X X' : Nat} {A B : World} (h : TG ts mp X A B) (hx : X' ≤ X) : TG ts mp X' A B :=
  ⟨h.os, h.tape, h.output, h.size, fun k hk => h.low k (by omega), h.row, h.map, h.dfr⟩
theorem TG.of_below (ts : List TypeId) (mp : Bool) {X : Nat} {A B : World} (h : Below A.heap.size A B) (hX : X ≤ A.heap.size) : TG ts mp X A B :=
  ⟨h.os, h.tape, h.output, h.size, fun k hk => h.block k (by omega), fun k t cs r _ => r.below h r.lt, fun _ k es c r => (h.block k (Array.getElem?_eq_some_iff.1 r).1).trans r, fun k ds r => (h.block k (Array.getElem?_eq_some_iff.1 r).1).trans r⟩
theorem TG.grown {ts : List TypeId} (mp : Bool) {X : Nat} {A B : World} {r : Option Nat} (h : A.grownBy B r) (hX : X ≤ A.heap.size) (hr : ∀ g, r = some g → X ≤ g ∧ ∃ t cs, RowAt A g t cs ∧ t ∈ ts) : TG ts mp X A B :=
  ⟨h.os, h.tape, h.output, h.size, fun k hk => h.block k (by omega) (fun e => by have := (hr k e.symm).1; omega), fun k t cs q hn => (h.block k q.lt (fun e => by
      obtain ⟨_, t', cs', q', ht⟩ := hr k e.symm
      have := q.symm.trans q'
      injection this with this
      injection this with _ this
      exact hn (this ▸ ht))).trans q,
    fun _ k es c q => (h.block k (Array.getElem?_eq_some_iff.1 q).1 (fun e => by
      obtain ⟨_, t', cs', q', ht⟩ := hr k e.symm
      have := q.symm.trans q'
      cases this)).trans q,
    fun k ds q => (h.block k (Array.getElem?_eq_some_iff.1 q).1 (fun e => by
      obtain ⟨_, t', cs', q', ht⟩ := hr k e.symm
      have := q.symm.trans q'
      cases this)).trans q⟩
theorem TG.mapped (ts : List TypeId) {X mb : Nat} {NK : List ByteArray} {A B : World} (h : A.grownBy B (some mb)) (hn : NumsAt A mb NK) (hX : X ≤ A.heap.size) (hm : X ≤ mb + 1) : TG ts true X A B :=
  ⟨h.os, h.tape, h.output, h.size, fun k hk => h.block k (by omega) (fun e => by have := Option.some.inj e; omega), fun k t cs q _ => (h.block k q.lt (fun e => hn.ne q (Option.some.inj e))).trans q, (fun e => by cases e), fun k ds q => (h.block k (Array.getElem?_eq_some_iff.1 q).1 (fun e => by
    obtain ⟨es, c, hb⟩ := hn.row
    obtain rfl := Option.some.inj e
    have := q.symm.trans hb
    cases this)).trans q⟩
theorem TG.step {ts : List TypeId} (mp : Bool) {X : Nat} {A B : World} {M M' : Nat → Prop} (h : Step M A M' B) (hX : X ≤ A.heap.size) (hr : ∀ g, M g → X ≤ g ∧ ∃ t cs, RowAt A g t cs ∧ t ∈ ts) : TG ts mp X A B :=
  ⟨h.os, h.tape, h.output, h.size, fun k hk => h.block k (by omega) (fun e => by have := (hr k e).1; omega), fun k t cs q hn => (h.block k q.lt (fun e => by
      obtain ⟨_, t', cs', q', ht⟩ := hr k e
      have := q.symm.trans q'
      injection this with this
      injection this with _ this
      exact hn (this ▸ ht))).trans q,
    fun _ k es c q => (h.block k (Array.getElem?_eq_some_iff.1 q).1 (fun e => by
      obtain ⟨_, t', cs', q', ht⟩ := hr k e
      have := q.symm.trans q'
      cases this)).trans q,
    fun k ds q => (h.block k (Array.getElem?_eq_some_iff.1 q).1 (fun e => by
      obtain ⟨_, t', cs', q', ht⟩ := hr k e
      have := q.symm.trans q'
      cases this)).trans q⟩
theorem TG.toBelow {ts : List TypeId} {mp : Bool} {X : Nat} {A B : World} (h : TG ts mp X A B) : Below (X - 1) A B := ⟨h.os, h.tape, h.output, h.size, fun j hj => h.low j (by omega)⟩
theorem TG.own {ts : List TypeId} {mp : Bool} {X base k n : Nat} {A B : World} {t : TypeId} {v : Value} {cs : List Value} (h : TG ts mp X A B) (ho : A.ownsRow base t k v n cs) (ht : t ∉ ts) : B.ownsRow base t k v n cs := orKeep ho fun g cur _ r => h.row g t cur r ht
theorem TG.nums {ts : List TypeId} {X mb : Nat} {NK : List ByteArray} {A B : World} (h : TG ts false X A B) (hn : NumsAt A mb NK) : NumsAt B mb NK := by
  obtain ⟨es, c, hb⟩ := hn.row
  exact hn.keep ((h.map rfl mb es c hb).trans hb.symm)
theorem TG.errs {ts : List TypeId} {mp : Bool} {X : Nat} {ea eb : Addr} {A B : World} (h : TG ts mp X A B) (he : Errs A ea eb) (hl : ErrsLo (X - 1) ea eb) (hX : X ≤ A.heap.size) : Errs B ea eb :=
  he.step (M := fun b => X ≤ b + 1) (M' := fun b => X ≤ b + 1) ⟨h.os, h.tape, h.output, h.size, fun b _ hm => h.low b (by omega), fun b hb => .inl hb⟩ hl (fun b hb => by omega)
theorem ErrsLo.up {R R' : Nat} {ea eb : Addr} (h : ErrsLo R ea eb) (hr : R ≤ R') : ErrsLo R' ea eb := ⟨by have := h.1; omega, by have := h.2.1; omega, by have := h.2.2; omega⟩
theorem Tbl.mine_row {ex : Sx} {base R : Nat} {s : ByteArray} {w : World} {hv pv : Value} {n m : Nat} (T : Tbl ex base R s w hv pv n m) {b : Nat} (h : Mine R hv pv b) : R ≤ b ∧ ∃ t cs, RowAt w b t cs ∧ t ∈ [72, 2] := by
  have lo := T.lo
  rcases h with rfl | h | h
  · exact ⟨Nat.le_refl _, _, _, T.blk, by simp⟩
  · obtain ⟨h1, _, cs, hr⟩ := orRow T.hh h
    exact ⟨by omega, _, cs, hr, by simp⟩
  · obtain ⟨h1, _, cs, hr⟩ := orRow T.hp h
    exact ⟨by omega, _, cs, hr, by simp⟩
theorem Tbl.tg {ex : Sx} {base R : Nat} {s : ByteArray} {A B : World} {hv pv : Value} {n m : Nat} {ts : List TypeId} {mp : Bool} {X : Nat} (T : Tbl ex base R s A hv pv n m) (h : TG ts mp X A B) (h1 : 72 ∉ ts) (h2 : 2 ∉ ts) : Tbl ex base R s B hv pv n m :=
  ⟨h.row _ _ _ T.blk h1, T.lo, Nat.le_trans T.bs h.size, h.own T.hh h2, h.own T.hp h2, T.sep, T.hn, T.hm⟩
theorem Tbl.step_tg {ex : Sx} {base R : Nat} {s : ByteArray} {A B : World} {hv pv : Value} {n m : Nat} {M' : Nat → Prop} (T : Tbl ex base R s A hv pv n m) (h : Step (Mine R hv pv) A M' B) (mp : Bool) : TG [72, 2] mp R A B :=
  TG.step mp h (Nat.le_of_lt T.blk.lt) fun g hg => T.mine_row hg
/-- filed frames, eight cells each -/
def flC (p : Fr × Nat) : List Value := [.int .i64 (p.1.kat : Nat), .int .i64 (p.1.ksz : Nat), .bool p.1.gone, .int .i64 (p.1.bat : Nat), .int .i64 (p.1.bsz : Nat), .int .i64 (p.1.at' : Nat), .int .i64 (p.1.next : Nat), .int .i64 (p.2 : Nat)]
def flL (P : List (Fr × Nat)) : List Value := P.flatMap flC
theorem flL_cons (p : Fr × Nat) (P : List (Fr × Nat)) : flL (p :: P) = flC p ++ flL P := rfl
theorem flL_app (P Q : List (Fr × Nat)) : flL (P ++ Q) = flL P ++ flL Q := by simp [flL]
theorem flL_len : ∀ P : List (Fr × Nat), (flL P).length = P.length * 8
  | [] => rfl
  | p :: P => by rw [flL_cons, List.length_append, flL_len P, List.length_cons]; show 8 + _ = _; omega
theorem flL_take : ∀ (P : List (Fr × Nat)) (i : Nat), (flL P).take (i * 8) = flL (P.take i)
  | P, 0 => by simp [flL]
  | [], i + 1 => by simp [flL]
  | p :: P, i + 1 => by
    rw [flL_cons, List.take_succ_cons, flL_cons, ← flL_take P i, show (i + 1) * 8 = (flC p).length + i * 8 by show _ = 8 + _; omega, List.take_length_add_append]
theorem flL_drop : ∀ (P : List (Fr × Nat)) (i : Nat), (flL P).drop (i * 8) = flL (P.drop i)
  | P, 0 => by simp
  | [], i + 1 => by simp [flL]
  | p :: P, i + 1 => by
    rw [flL_cons, List.drop_succ_cons, ← flL_drop P i, show (i + 1) * 8 = (flC p).length + i * 8 by show _ = 8 + _; omega, List.drop_length_add_append]
theorem flL_at : ∀ (P : List (Fr × Nat)) (k c : Nat) (p : Fr × Nat), P[k]? = some p → c < 8 → (flL P)[k * 8 + c]? = (flC p)[c]?
  | [], k, c, p, h, _ => by simp at h
  | q :: P, 0, c, p, h, hc => by
    simp at h
    subst h
    rw [flL_cons, List.getElem?_append_left (by show _ < 8; omega), Nat.zero_mul, Nat.zero_add]
  | q :: P, k + 1, c, p, h, hc => by
    simp at h
    rw [flL_cons, List.getElem?_append_right (by show 8 ≤ _; omega), show (k + 1) * 8 + c - (flC q).length = k * 8 + c by show _ - 8 = _; omega]
    exact flL_at P k c p h hc
theorem flL_one : ∀ P : List (Fr × Nat), ∀ v ∈ flL P, v.oneCell' = true := by
  intro P v hv
  obtain ⟨p, _, h⟩ := List.mem_flatMap.1 hv
  simp only [flC, List.mem_cons, List.not_mem_nil, or_false] at h
  rcases h with rfl | rfl | rfl | rfl | rfl | rfl | rfl | rfl <;> rfl
def OwnFl (w : World) (base : Nat) (v : Value) (P : List (Fr × Nat)) : Prop := w.ownsRow base 112 8 v P.length (flL P)
theorem OwnFl.nil (w : World) (base : Nat) : OwnFl w base (.slice none 0 0) [] := ⟨rfl, .inl ⟨rfl, rfl⟩⟩
/-- the cells of one -/
theorem OwnFl.cells {w : World} {base : Nat} {v : Value} {P : List (Fr × Nat)} (h : OwnFl w base v P) {k : Nat} {p : Fr × Nat} (hk : P[k]? = some p) : ∃ g cap, v = .slice (some ⟨g, 0, none⟩) P.length cap ∧ g < w.heap.size ∧ base ≤ g ∧
    w.cell? ⟨g, k * 8, none⟩ = some (.int .i64 (p.1.kat : Nat)) ∧ w.cell? ⟨g, k * 8 + 1, none⟩ = some (.int .i64 (p.1.ksz : Nat)) ∧ w.cell? ⟨g, k * 8 + 2, none⟩ = some (.bool p.1.gone) ∧ w.cell? ⟨g, k * 8 + 3, none⟩ = some (.int .i64 (p.1.bat : Nat)) ∧
    w.cell? ⟨g, k * 8 + 4, none⟩ = some (.int .i64 (p.1.bsz : Nat)) ∧ w.cell? ⟨g, k * 8 + 5, none⟩ = some (.int .i64 (p.1.at' : Nat)) ∧ w.cell? ⟨g, k * 8 + 6, none⟩ = some (.int .i64 (p.1.next : Nat)) ∧ w.cell? ⟨g, k * 8 + 7, none⟩ = some (.int .i64 (p.2 : Nat)) := by
  have hlt := (List.getElem?_eq_some_iff.1 hk).1
  rcases h.2 with ⟨_, h0⟩ | ⟨g, cap, cur, rfl, hb, hg, hnc, hcm, _⟩
  · omega
  · have ow : w.ownsRow base 112 8 (.slice (some ⟨g, 0, none⟩) P.length cap) P.length (flL P) := h
    have c : ∀ j (hj : j < 8), w.cell? ⟨g, k * 8 + j, none⟩ = (flC p)[j]? := fun j hj => by
      have e := flL_at P k j p hk hj
      rw [← e]
      have hl : k * 8 + j < (flL P).length := by rw [flL_len]; omega
      rw [List.getElem?_eq_getElem hl]
      exact own_cl ow _ _ (List.getElem?_eq_getElem hl)
    exact ⟨g, cap, rfl, (Array.getElem?_eq_some_iff.1 hg).1, hb, c 0 (by decide), c 1 (by decide), c 2 (by decide), c 3 (by decide), c 4 (by decide), c 5 (by decide), c 6 (by decide), c 7 (by decide)⟩
end Go.Proofs.YtngkiokibldfjaaGreatDoor
namespace Go.Proofs.YtngkiokibldfjaaGreatDoor
open Go.RowKit
set_option linter.unusedVariables false
/-! The search for a place among filed frames. -/
abbrev fr0 : Fr × Nat := (⟨0, 0, false, 0, 0, 0, 0⟩, 0)
/-- a filed frame as a value -/
def flV (p : Fr × Nat) : Value := .agg #[.int .i64 (p.1.kat : Nat), .int .i64 (p.1.ksz : Nat), .bool p.1.gone, .int .i64 (p.1.bat : Nat), .int .i64 (p.1.bsz : Nat), .int .i64 (p.1.at' : Nat), .int .i64 (p.1.next : Nat), .int .i64 (p.2 : Nat)]
/-- eight cells stand -/
def Eight (w : World) (g k : Nat) (a b : Int) (c : Bool) (d e f q r : Int) : Prop :=
  w.cell? ⟨g, k * 8, none⟩ = some (.int .i64 a) ∧ w.cell? ⟨g, k * 8 + 1, none⟩ = some (.int .i64 b) ∧ w.cell? ⟨g, k * 8 + 2, none⟩ = some (.bool c) ∧ w.cell? ⟨g, k * 8 + 3, none⟩ = some (.int .i64 d) ∧
    w.cell? ⟨g, k * 8 + 4, none⟩ = some (.int .i64 e) ∧ w.cell? ⟨g, k * 8 + 5, none⟩ = some (.int .i64 f) ∧ w.cell? ⟨g, k * 8 + 6, none⟩ = some (.int .i64 q) ∧ w.cell? ⟨g, k * 8 + 7, none⟩ = some (.int .i64 r)
theorem Eight.below {w w' : World} {g k : Nat} {a b d e f q r : Int} {c : Bool} (h : Eight w g k a b c d e f q r) (hg : g < w.heap.size) (hb : Below w.heap.size w w') : Eight w' g k a b c d e f q r := by
  obtain ⟨h0, h1, h2, h3, h4, h5, h6, h7⟩ := h
  have kp : ∀ {i : Nat} {u : Value}, w.cell? ⟨g, i, none⟩ = some u → w'.cell? ⟨g, i, none⟩ = some u := fun {i u} hu => (hb.cell (p := ⟨g, i, none⟩) hg).trans hu
  exact ⟨kp h0, kp h1, kp h2, kp h3, kp h4, kp h5, kp h6, kp h7⟩
def BsQ (P : List (Fr × Nat)) (n : Nat) (t : Int) (e : Ending) : Prop := ∃ (i : Nat) (b : Value), e = .returned (.tuple #[.int .i64 (i : Int), b]) ∧ i ≤ n ∧ (0 < i → (((P.getD (i - 1) fr0).1.at' : Nat) : Int) < t) ∧ (i < n → t ≤ (((P.getD i fr0).1.at' : Nat) : Int))
set_option maxRecDepth 20000 in
set_option maxHeartbeats 2000000 in
theorem iByPlace (a b : Int) (c : Bool) (d e f q r t : Int) (w : World) :
    Calls Tryz.prog 66 #[.agg #[.int .i64 a, .int .i64 b, .bool c, .int .i64 d, .int .i64 e, .int .i64 f, .int .i64 q, .int .i64 r], .int .i64 t] w fun e w' => e = .returned (.int .i64 (cmpI f t)) ∧ Below w.heap.size w w' := by
  have K := fun w => hid (iCompare f t w)
  have B1 : Hid (Below w.heap.size w (w.alloc (.cells #[.int .i64 a, .int .i64 b, .bool c, .int .i64 d, .int .i64 e, .int .i64 f, .int .i64 q, .int .i64 r] 112))) := (Below.refl _ w).alloc (Nat.le_refl _) _
  go_enter Tryz.func66, Tryz.ntmps66
  go_wp2_with fail
  refine (K _).out.mono ?_
  rintro e w1 ⟨rfl, hw1⟩
  obtain rfl := hw1.symm
  go_wp2
  go_ret
  exact ⟨rfl, B1.out⟩
set_option maxRecDepth 20000 in
set_option maxHeartbeats 2000000 in
theorem iBSF (base : Nat) (v : Value) (P : List (Fr × Nat)) (t : Int) (hn : P.length ≤ 1048576) (w : World) (h : OwnFl w base v P) :
    Calls Tryz.prog 65 #[v, .int .i64 t, .func (.func 66) #[] #[]] w fun e w' =>
      BsQ P P.length t e ∧ Below w.heap.size w w' := by
  have HH := hid h
  obtain ⟨a0, cap, hv⟩ := orSlice h
  have HC : Hid (∀ k, k < P.length → ∃ g, a0 = some ⟨g, 0, none⟩ ∧ g < w.heap.size ∧ Eight w g k ((P.getD k fr0).1.kat : Nat) ((P.getD k fr0).1.ksz : Nat) (P.getD k fr0).1.gone ((P.getD k fr0).1.bat : Nat) ((P.getD k fr0).1.bsz : Nat) ((P.getD k fr0).1.at' : Nat) ((P.getD k fr0).1.next : Nat) ((P.getD k fr0).2 : Nat)) := fun k hk => by
    have e : P[k]? = some (P.getD k fr0) := by rw [List.getD_eq_getElem?_getD, List.getElem?_eq_getElem hk]; rfl
    obtain ⟨g, c, e1, e2, _, e3⟩ := h.cells e
    rw [hv] at e1
    injection e1 with e1
    exact ⟨g, e1, e2, e3⟩
  subst hv
  obtain ⟨n, hn'⟩ : ∃ n, n = P.length := ⟨_, rfl⟩
  rw [← hn'] at hn HC ⊢
  clear h HH hn'
  go_enter Tryz.func65, Tryz.ntmps65
  go_wp2_with fail
  go_loopw [9, 10] (fun p q wr => ∃ I J : Nat, I ≤ J ∧ J ≤ n ∧ p = .int .i64 (I : Int) ∧ q = .int .i64 (J : Int) ∧ (0 < I → (((P.getD (I - 1) fr0).1.at' : Nat) : Int) < t) ∧ (J < n → t ≤ (((P.getD J fr0).1.at' : Nat) : Int)) ∧ Below w.heap.size w wr) (fun p q _ => (intOf q).toNat - (intOf p).toNat)
  case atStart => exact ⟨0, n, Nat.zero_le _, Nat.le_refl _, rfl, rfl, fun h => absurd h (by omega), fun h => absurd h (by omega), Below.refl _ _⟩
  case round =>
    obtain ⟨I, J, hIJ, hJn, rfl, rfl, h1, h2, hB⟩ := hrel
    have H1 := hid h1
    have H2 := hid h2
    have HB := hid hB
    clear h1 h2 hB
    by_cases hlt : I < J
    · obtain ⟨H, hH⟩ : ∃ H, H = (I + J) / 2 := ⟨_, rfl⟩
      have hHn : H < n := by omega
      have hI' : (I : Int) < (J : Int) := by omega
      obtain ⟨g, rfl, hg, h8⟩ := HC.out H hHn
      have E8 := hid (h8.below hg HB.out)
      have GL : Hid (g < wr.heap.size) := Nat.lt_of_lt_of_le hg HB.out.size
      obtain ⟨x0, e0⟩ : ∃ x : Int, x = ((P.getD H fr0).1.kat : Nat) := ⟨_, rfl⟩
      obtain ⟨x1, e1⟩ : ∃ x : Int, x = ((P.getD H fr0).1.ksz : Nat) := ⟨_, rfl⟩
      obtain ⟨x2, e2⟩ : ∃ x : Bool, x = (P.getD H fr0).1.gone := ⟨_, rfl⟩
      obtain ⟨x3, e3⟩ : ∃ x : Int, x = ((P.getD H fr0).1.bat : Nat) := ⟨_, rfl⟩
      obtain ⟨x4, e4⟩ : ∃ x : Int, x = ((P.getD H fr0).1.bsz : Nat) := ⟨_, rfl⟩
      obtain ⟨x5, e5⟩ : ∃ x : Int, x = ((P.getD H fr0).1.at' : Nat) := ⟨_, rfl⟩
      obtain ⟨x6, e6⟩ : ∃ x : Int, x = ((P.getD H fr0).1.next : Nat) := ⟨_, rfl⟩
      obtain ⟨x7, e7⟩ : ∃ x : Int, x = ((P.getD H fr0).2 : Nat) := ⟨_, rfl⟩
      rw [← e0, ← e1, ← e2, ← e3, ← e4, ← e5, ← e6, ← e7] at E8
      have HE := hid e5
      have K := fun w => hid (iByPlace x0 x1 x2 x3 x4 x5 x6 x7 t w)
      obtain ⟨V, hV⟩ : ∃ V, V = cmpI x5 t := ⟨_, rfl⟩
      have HV := hid hV
      rw [← hV] at K
      clear e0 e1 e2 e3 e4 e5 e6 e7 h8 hV HC
      have q1 : (((I : Int) + (J : Int)) / 2) = (H : Int) := by omega
      have q2 : (0 : Int) ≤ (H : Int) := by omega
      have q3 : (H : Int) < (n : Int) := by omega
      clear hH
      obtain ⟨c0, c1, c2, c3, c4, c5, c6, c7⟩ := E8.out
      go_wp2_with fail
      refine (K _).out.mono ?_
      rintro e w9 ⟨rfl, hb9⟩
      have HB9 : Hid (Below w.heap.size w w9) := HB.out.trans (hb9.mono HB.out.size)
      clear hb9 c0 c1 c2 c3 c4 c5 c6 c7 E8
      by_cases hv : V < 0
      · have dv : decide (V < 0) = true := by simp; omega
        have L : Hid (x5 < t) := by
          have := HV.out
          show x5 < t
          unfold cmpI at this
          split at this
          · assumption
          · split at this <;> omega
        go_wp2
        go_roundw
        case rel => exact ⟨H + 1, J, by omega, hJn, by go_num, rfl, fun _ => by rw [show H + 1 - 1 = H by omega, ← HE.out]; exact L.out, H2.out, HB9.out⟩
        case measure => simp [intOf]; omega
      · have dv : decide (V < 0) = false := by simp; omega
        have L : Hid (t ≤ x5) := by
          have := HV.out
          show t ≤ x5
          unfold cmpI at this
          split at this
          · omega
          · omega
        go_wp2
        go_roundw
        case rel => exact ⟨I, H, by omega, by omega, rfl, rfl, H1.out, fun _ => by rw [← HE.out]; exact L.out, HB9.out⟩
        case measure => simp [intOf]; omega
    · obtain rfl : I = J := by omega
      have dI : ¬ (I : Int) < (I : Int) := by omega
      by_cases hlt2 : I < n
      · obtain ⟨g, rfl, hg, h8⟩ := HC.out I hlt2
        have E8 := hid (h8.below hg HB.out)
        obtain ⟨x0, e0⟩ : ∃ x : Int, x = ((P.getD I fr0).1.kat : Nat) := ⟨_, rfl⟩
        obtain ⟨x1, e1⟩ : ∃ x : Int, x = ((P.getD I fr0).1.ksz : Nat) := ⟨_, rfl⟩
        obtain ⟨x2, e2⟩ : ∃ x : Bool, x = (P.getD I fr0).1.gone := ⟨_, rfl⟩
        obtain ⟨x3, e3⟩ : ∃ x : Int, x = ((P.getD I fr0).1.bat : Nat) := ⟨_, rfl⟩
        obtain ⟨x4, e4⟩ : ∃ x : Int, x = ((P.getD I fr0).1.bsz : Nat) := ⟨_, rfl⟩
        obtain ⟨x5, e5⟩ : ∃ x : Int, x = ((P.getD I fr0).1.at' : Nat) := ⟨_, rfl⟩
        obtain ⟨x6, e6⟩ : ∃ x : Int, x = ((P.getD I fr0).1.next : Nat) := ⟨_, rfl⟩
        obtain ⟨x7, e7⟩ : ∃ x : Int, x = ((P.getD I fr0).2 : Nat) := ⟨_, rfl⟩
        rw [← e0, ← e1, ← e2, ← e3, ← e4, ← e5, ← e6, ← e7] at E8
        have K := fun w => hid (iByPlace x0 x1 x2 x3 x4 x5 x6 x7 t w)
        obtain ⟨V, hV⟩ : ∃ V, V = cmpI x5 t := ⟨_, rfl⟩
        rw [← hV] at K
        clear e0 e1 e2 e3 e4 e5 e6 e7 h8 hV HC
        have q2 : (0 : Int) ≤ (I : Int) := by omega
        have q3 : (I : Int) < (n : Int) := by omega
        obtain ⟨c0, c1, c2, c3, c4, c5, c6, c7⟩ := E8.out
        go_wp2_with fail
        refine (K _).out.mono ?_
        rintro e w9 ⟨rfl, hb9⟩
        have HB9 : Hid (Below w.heap.size w w9) := HB.out.trans (hb9.mono HB.out.size)
        clear hb9 c0 c1 c2 c3 c4 c5 c6 c7 E8
        go_wp2
        go_ret2
        exact ⟨⟨I, _, rfl, hJn, H1.out, H2.out⟩, HB9.out⟩
      · obtain rfl : I = n := by omega
        clear HC
        go_wp2
        go_ret2
        exact ⟨⟨I, _, rfl, hJn, H1.out, H2.out⟩, HB.out⟩
end Go.Proofs.YtngkiokibldfjaaGreatDoor
namespace Go.Proofs.YtngkiokibldfjaaGreatDoor
open Go.RowKit Go.Shelf
set_option linter.unusedVariables false
attribute [local go_sem] Oper.semAt_some
/-! The records that reading from the beginning on meets: the program's inOrder. -/
/-- the reading of filed frames, each with its index -/
def grp : Nat → Nat → List (Fr × Nat) → List (Nat × (Fr × Nat))
  | _, _, [] => []
  | p, i, f :: L => if f.1.at' < p then grp p (i + 1) L else (i, f) :: grp f.1.next (i + 1) L
theorem grp_skip (p i : Nat) (f : Fr × Nat) (L : List (Fr × Nat)) (h : f.1.at' < p) : grp p i (f :: L) = grp p (i + 1) L := by simp [grp, h]
theorem grp_take (p i : Nat) (f : Fr × Nat) (L : List (Fr × Nat)) (h : ¬ f.1.at' < p) : grp p i (f :: L) = (i, f) :: grp f.1.next (i + 1) L := by simp [grp, h]
theorem grp_gri : ∀ (L : List (Fr × Nat)) (p i : Nat), (grp p i L).map (fun x => (x.1, x.2.1)) = gri p i (L.map Prod.fst)
  | [], _, _ => rfl
  | f :: L, p, i => by
    simp only [List.map_cons, grp, gri]
    split
    · exact grp_gri L p (i + 1)
    · rw [List.map_cons, grp_gri L _ (i + 1)]
theorem grp_idx : ∀ (L : List (Fr × Nat)) (p i : Nat) (x : Nat × (Fr × Nat)), x ∈ grp p i L → i ≤ x.1 ∧ L[x.1 - i]? = some x.2
  | [], _, _, _, h => by cases h
  | f :: L, p, i, x, h => by
    simp only [grp] at h
    split at h
    · have := grp_idx L p (i + 1) x h
      refine ⟨by omega, ?_⟩
      rw [show x.1 - i = (x.1 - (i + 1)) + 1 by omega, List.getElem?_cons_succ]
      exact this.2
    · rcases List.mem_cons.1 h with rfl | h
      · refine ⟨Nat.le_refl _, ?_⟩
        rw [Nat.sub_self]; rfl
      · have := grp_idx L f.1.next (i + 1) x h
        refine ⟨by omega, ?_⟩
        rw [show x.1 - i = (x.1 - (i + 1)) + 1 by omega, List.getElem?_cons_succ]
        exact this.2
theorem grp_len : ∀ (L : List (Fr × Nat)) (p i : Nat), (grp p i L).length ≤ L.length
  | [], _, _ => Nat.le_refl _
  | f :: L, p, i => by
    simp only [grp]
    split
    · have := grp_len L p (i + 1); simp only [List.length_cons]; omega
    · have := grp_len L f.1.next (i + 1); simp only [List.length_cons]; omega
/-- all of them -/
abbrev ordP (P : List (Fr × Nat)) : List (Nat × (Fr × Nat)) := grp 0 0 P
abbrev or0 : Nat × (Fr × Nat) := (0, fr0)
/-- what a round keeps: filed frames -/
def KpF (A B : World) : Prop := A.heap.size ≤ B.heap.size ∧ ∀ j cs, RowAt A j 112 cs → RowAt B j 112 cs
theorem KpF.trans {A B C : World} (h : KpF A B) (k : KpF B C) : KpF A C := ⟨Nat.le_trans h.1 k.1, fun j cs r => k.2 j cs (h.2 j cs r)⟩
theorem KpF.own {A B : World} {base : Nat} {v : Value} {P : List (Fr × Nat)} (h : KpF A B) (ho : OwnFl A base v P) : OwnFl B base v P := orKeep ho fun g cur _ r => h.2 g cur r
theorem OwnFl.below {A B : World} {base : Nat} {v : Value} {P : List (Fr × Nat)} (ho : OwnFl A base v P) (h : Below A.heap.size A B) : OwnFl B base v P := orKeep ho fun g cur _ r => r.below h r.lt
set_option maxRecDepth 20000 in
theorem iOrder (X : Nat) (w : World) :
    Calls Tryz.prog 75 #[.pointer (some ⟨X, 0, none⟩)] w fun e w' => e = .returned (.func (.func 93) #[] #[.pointer (some ⟨w.heap.size, 0, none⟩)]) ∧ w' = w.alloc (.cells #[.pointer (some ⟨X, 0, none⟩)] 60) := by
  have hmf : ∀ (fn : Fn) (first cap : Array Value) (w : World), (Instr.makeFunc fn first cap).run Tryz.prog w = .ok (.func fn first cap) w := fun _ _ _ _ => rfl
  go_enter Tryz.func75, Tryz.ntmps75
  go_wp2
  go_ret
  exact ⟨rfl, rfl⟩
set_option maxRecDepth 100000 in
set_option maxHeartbeats 4000000 in
theorem iOrd1 (fu X bx base : Nat) (rv : Value) (cs : Array Value) (P : List (Fr × Nat)) (hn : P.length ≤ 1048576) (w : World) (hb : RowAt w bx 60 #[.pointer (some ⟨X, 0, none⟩)]) (hX : RowAt w X 72 cs) (h4 : cs[4]? = some rv) (hP : OwnFl w base rv P) :
    SeqR Fence.wide fu Tryz.prog 93 #[.pointer (some ⟨bx, 0, none⟩)] (ordP P).length (fun k => #[.int .i64 (((ordP P).getD k or0).1 : Nat), flV ((ordP P).getD k or0).2]) (fun A B => Below A.heap.size A B) KpF w := by
  intro l J Jx W hW hJ hJx hY h0
  obtain ⟨a0, cap, hv⟩ := orSlice hP
  have P0 := hid (hP.below hW)
  have c4 : W.cell? ⟨X, 4, none⟩ = some rv := ((hX.below hW hX.lt).cell 4).trans h4
  have cb := (hb.below hW hb.lt).cell 0
  have HJ := hid hJ
  have HY := hid hY
  have HJ0 := hid h0
  rw [hv] at c4
  obtain ⟨n, hn'⟩ : ∃ n, n = P.length := ⟨_, rfl⟩
  have HN := hid hn'
  rw [← hn'] at c4 hn
  clear hJ hJx hY h0 hb hX h4 hP hW hn'
  refine callsIn_of_wp Tryz.func93 rfl trivial ?_ rfl
  simp only [Tryz.ntmps93, List.size_toArray, List.length_cons, List.length_nil, Nat.reduceAdd, Nat.reduceSub, Array.replicate_succ, Array.replicate_zero, List.push_toArray, List.append_toArray, List.nil_append, List.cons_append]
  gi_wp2_with fail
  clear c4 cb
  gi_loopw [3, 11] (fun va vi wr => ∃ (p i k : Nat), va = .int .i64 (p : Int) ∧ vi = .int .i64 (i : Int) ∧ i ≤ n ∧ k ≤ (ordP P).length ∧ J k wr ∧ (ordP P).drop k = grp p i (P.drop i) ∧ OwnFl wr base rv P) (fun _ vi _ => n - (intOf vi).toNat)
  case atStart => exact ⟨0, 0, 0, rfl, rfl, Nat.zero_le _, Nat.zero_le _, HJ0.out, rfl, P0.out⟩
  case round =>
    obtain ⟨p, i, k, rfl, rfl, hi, hk, hj, hd, hO⟩ := hrel
    have HJk := hid hj
    have HD := hid hd
    have HO := hid hO
    clear hj hd hO HJ0 P0
    by_cases hlt : i < n
    · have d0 : (i : Int) < (n : Int) := by omega
      have i0 : (0 : Int) ≤ (i : Int) := by omega
      have hPi : P[i]? = some (P.getD i fr0) := by rw [List.getD_eq_getElem?_getD, List.getElem?_eq_getElem (by have := HN.out; omega)]; rfl
      have hdr : P.drop i = P.getD i fr0 :: P.drop (i + 1) := by
        obtain ⟨h2, h3⟩ := List.getElem?_eq_some_iff.1 hPi
        rw [List.drop_eq_getElem_cons h2, h3]
      have HDR := hid hdr
      obtain ⟨g, c, e1, e2, _, x0, x1, x2, x3, x4, x5, x6, x7⟩ := HO.out.cells hPi
      rw [hv] at e1
      injection e1 with e1 e1n e1c
      subst e1
      clear e1n e1c
      obtain ⟨f, hf⟩ : ∃ f, f = P.getD i fr0 := ⟨_, rfl⟩
      rw [← hf] at x0 x1 x2 x3 x4 x5 x6 x7 hdr
      have HF := hid hf
      have GD := hid HD.out
      rw [hdr] at GD
      clear hf hdr HDR hPi HD
      obtain ⟨⟨ka, ks, gn, ba, bs, fa, fx⟩, nu⟩ := f
      dsimp only at x0 x1 x2 x3 x4 x5 x6 x7
      obtain ⟨W2, hW2⟩ : ∃ x, x = wr.alloc (.cells #[.int .i64 (ka : Nat), .int .i64 (ks : Nat), .bool gn, .int .i64 (ba : Nat), .int .i64 (bs : Nat), .int .i64 (fa : Nat), .int .i64 (fx : Nat), .int .i64 (nu : Nat)] 112) := ⟨_, rfl⟩
      have B2 : Hid (Below wr.heap.size wr W2) := by rw [hW2]; exact (Below.refl _ _).alloc (Nat.le_refl _) _
      have JJ := hid (HJ.out k wr W2 HJk.out B2.out)
      have O2 := hid (HO.out.below B2.out)
      by_cases hs : fa < p
      · have d2 : decide ((fa : Int) < (p : Int)) = true := by simp; omega
        have d3 : (fa : Int) < (p : Int) := by omega
        have w1 : IntKind.i64.wrap ((i : Int) + 1) = (i : Int) + 1 := by simp [IntKind.wrap, IntKind.bits, IntKind.signed]; omega
        have DD : Hid ((ordP P).drop k = grp p (i + 1) (P.drop (i + 1))) := by show _ = _; rw [GD.out]; exact grp_skip _ _ _ _ hs
        gi_wp2_with fail
        rw [← hW2]
        go_roundw
        case rel => exact ⟨p, i + 1, k, rfl, by go_num, by omega, hk, JJ.out, DD.out, O2.out⟩
        case measure => simp [intOf]; omega
      · have d2 : decide ((fa : Int) < (p : Int)) = false := by simp; omega
        have d3 : ¬ (fa : Int) < (p : Int) := by omega
        have w1 : IntKind.i64.wrap ((i : Int) + 1) = (i : Int) + 1 := by simp [IntKind.wrap, IntKind.bits, IntKind.signed]; omega
        have gt := grp_take p i ((⟨ka, ks, gn, ba, bs, fa, fx⟩, nu) : Fr × Nat) (P.drop (i + 1)) hs
        rw [gt] at GD
        have hkN : k < (ordP P).length := by
          rcases Nat.lt_or_ge k (ordP P).length with h | h
          · exact h
          · have := GD.out
            rw [List.drop_eq_nil_of_le h] at this
            cases this
        have e0 : (ordP P).getD k or0 = (i, (⟨ka, ks, gn, ba, bs, fa, fx⟩, nu)) := by
          have e1 : ((ordP P).drop k)[0]? = some (i, ((⟨ka, ks, gn, ba, bs, fa, fx⟩, nu) : Fr × Nat)) := by rw [GD.out]; rfl
          rw [List.getElem?_drop] at e1
          simp only [Nat.add_zero] at e1
          rw [List.getD_eq_getElem?_getD, e1]
          rfl
        have DD : Hid ((ordP P).drop (k + 1) = grp fx (i + 1) (P.drop (i + 1))) := by
          have := congrArg (List.drop 1) GD.out
          rw [List.drop_drop] at this
          exact this
        have hY2 := HY.out k W2 hkN JJ.out
        rw [e0] at hY2
        have HK := hid hkN
        unfold flV at hY2
        dsimp only at hY2
        obtain ⟨fn, tmps, assign, body, hy, hR⟩ := hY2
        clear gt hkN e0 GD
        rw [hW2] at hy
        gi_wp2_with fail
        rw [← hW2]
        have BX : Hid (RowAt W2 wr.heap.size 112 #[.int .i64 (ka : Nat), .int .i64 (ks : Nat), .bool gn, .int .i64 (ba : Nat), .int .i64 (bs : Nat), .int .i64 (fa : Nat), .int .i64 (fx : Nat), .int .i64 (nu : Nat)]) := by rw [hW2]; exact RowAt.new _ _ _
        clear hW2 hy
        refine ⟨fun h => (by cases h), hR.mono ?_⟩
        rintro e W3 (⟨rfl, hJ3, hk3⟩ | ⟨rfl, hJx3⟩)
        · have B3 := hid (hk3.2 _ _ BX.out)
          have O3 := hid (hk3.own O2.out)
          have y6 := B3.out.cell 6
          have J3 := hid hJ3
          clear hk3 hJ3 hR
          gi_wp2
          go_roundw
          case rel => exact ⟨fx, i + 1, k + 1, rfl, by go_num, by omega, by have := HK.out; omega, J3.out, DD.out, O3.out⟩
          case measure => simp [intOf]; omega
        · gi_wp2
          refine bodyPost_ret (results_none rfl _ _ _) rfl ?_
          exact ⟨⟨_, rfl⟩, .inr ⟨k + 1, by have := HK.out; omega, hJx3⟩⟩
    · have hin : i = n := by omega
      subst hin
      have d0 : ¬ (i : Int) < (i : Int) := by omega
      have KE : Hid (k = (ordP P).length) := by
        show _ = _
        have := HD.out
        rw [List.drop_eq_nil_of_le (show P.length ≤ i by have := HN.out; omega)] at this
        have := List.drop_eq_nil_iff.1 this
        omega
      gi_wp2
      go_end0
      exact ⟨⟨_, rfl⟩, .inl (by rw [← KE.out]; exact HJk.out)⟩
end Go.Proofs.YtngkiokibldfjaaGreatDoor
