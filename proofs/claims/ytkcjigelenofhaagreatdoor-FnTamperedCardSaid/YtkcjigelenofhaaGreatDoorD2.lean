import Derived.Test.YtkcjigelenofhaaGreatDoorD1
import Derived.Test.YtkcjigelenofhaaGreatDoorD1
import Derived.Deep.AppendLies
import Derived.Test.YtkcjigelenofhaaGreatDoorG8
namespace Go.Proofs.YtkcjigelenofhaaGreatDoor
open Go.RowKit
theorem made8 (n : Nat) : madeCells (Value.int .u8 0).cells (n * 1) = ints .u8 (List.replicate n 0) := by
 apply Array.ext
 · simp [madeCells, ints]
 · intro i h1 h2
   simp [madeCells, ints, Value.cells, Nat.mod_one]
theorem mk_bytes (w : World) (n : Nat) (hn : n ≤ 1048576) : (Instr.makeSlice 22 (.int .i64 n) (.int .i64 n)).run Tryz.prog w = .ok (.slice (some ⟨w.heap.size, 0, none⟩) n n) (w.alloc (.cells (ints .u8 (List.replicate n 0)) 5)) := by
 obtain ⟨i0, hi, hz0, hz1, hz2⟩ := info_parts Tryz.infoU8
 have := run_make (P := Tryz.prog) w 22 5 i0 (.int .u8 0) Tryz.underlying22 hi hz0 .i64 .i64 n n (by omega) (Int.le_refl _) (by rw [hz2]; omega) (by omega)
 rw [this, hz1]
 simp only [Int.toNat_natCast, made8]
theorem own_made (w : World) (n : Nat) (hn : n ≤ 1048576) : OwnNums (w.alloc (.cells (ints .u8 (List.replicate n 0)) 5)) w.heap.size 5 .u8 (.slice (some ⟨w.heap.size, 0, none⟩) n n) (List.replicate n 0) := by
 refine ⟨by simp, .inr ⟨w.heap.size, n, ints .u8 (List.replicate n 0), by simp, Nat.le_refl _, heap_alloc_new w _, by simp, by unfold maxLen; omega, by simp [ints], ?_⟩⟩
 simp [ints]
theorem OwnNums.monoD {w : World} {base base' : Nat} {e : TypeId} {k : IntKind} {v : Value} {xs : List Int} (h : OwnNums w base e k v xs) (hb : base' ≤ base) : OwnNums w base' e k v xs := by
 refine ⟨h.1, ?_⟩
 rcases h.2 with h0 | ⟨g, cap, cur, h1, h2, h3⟩
 · exact Or.inl h0
 · exact Or.inr ⟨g, cap, cur, h1, Nat.le_trans hb h2, h3⟩
theorem OwnHp.neRow {w : World} {B X : Nat} {v : Value} {L : List Hp} {t : TypeId} {cs : Array Value} (h : OwnHp w B v L) (hr : RowAt w X t cs) (ht : t ≠ 66) : some X ≠ v.ownBlock := fun e => by
 rcases h.2 with ⟨rfl, _⟩ | ⟨g, cap, cur, rfl, _, hg, _⟩
 · simp [Value.ownBlock] at e
 · simp [Value.ownBlock] at e
   subst e
   have := Option.some.inj (Eq.trans (Eq.symm hr) hg)
   injection this with _ h2
   exact ht h2
theorem OwnHp.setCellN {w : World} {B b k : Nat} {v u : Value} {L : List Hp} (h : OwnHp w B v L) (hne : some b ≠ v.ownBlock) : OwnHp (w.setCell ⟨b, k, none⟩ u) B v L :=
 World.ownsRow.kept h (grown_setCellF w b k u) (.inr (Ne.symm hne))
theorem OwnHp.setRowN {w : World} {B b : Nat} {v : Value} {L : List Hp} (h : OwnHp w B v L) (hne : some b ≠ v.ownBlock) (cs : Array Value) : OwnHp (w.setRow b cs) B v L :=
 World.ownsRow.kept h (row := some b) ⟨rfl, rfl, rfl, by simp [World.setRow], fun j _ hr => setRow_other w b j cs (fun e => hr (by rw [e]))⟩ (.inr (Ne.symm hne))
theorem OwnHp.keptC {w w' : World} {B c : Nat} {v : Value} {L : List Hp} (h : OwnHp w B v L) (hg : w.grownBy w' (some c)) (hc : c < B) : OwnHp w' B v L :=
 World.ownsRow.kept h hg (.inr (Ne.symm (OwnHp.apart h hc)))
theorem step_append_hpD {P : Program} (base : Nat) (w : World) {ops : Array Oper} {op : Oper} {a : Act} {K : Act → World → Prop} {Q : Exit → Act → World → Prop} {E : Prop} (hgd : op.guard = none) (s x : Operand) (t : TypeId)
 (ho : op.op = .call { callee := .builtin .append, args := #[s, x], argTypes := #[t, t] })
 (ht : P.underlying t = some (.slice 66)) (hinfo : (P.info? 66).map (fun i => (i.zero, i.size, i.bytes)) = some (some hz2, 2, 32))
 (v : Value) (L : List Hp) (n y : ByteArray) (hs : a.eval s = v) (hown : OwnHp w base v L) (hsz : base ≤ w.heap.size)
 (b : Nat) (hbox : w.heap[b]? = some (.cells #[.string n, .string y] 66 (0, 0))) (hx : a.eval x = .slice (some ⟨b, 0, none⟩) 1 1) (hlen : L.length + 1 ≤ 1048576)
 (h : ∀ g cap w', OwnHp w' base (.slice (some ⟨g, 0, none⟩) (L.length + 1) cap) (L ++ [(⟨n, y⟩ : Hp)]) → w.grownBy w' v.ownBlock → K (a.put op.dst (.slice (some ⟨g, 0, none⟩) (L.length + 1) cap)) w') :
 if Region.wanted op (yielded ops a.tmps) = true then Oper.wp P op a w K Q else E := by
 obtain ⟨i0, hi, hz0, hz1, hz2⟩ := info_parts hinfo
 have R : RowAt w b 66 #[.string n, .string y] := hbox
 refine step_append_lies _ hgd s x t ho base 66 i0 _ 2 32 ht hi hz0 hz1 hz2 rfl (by decide) v L.length (hpL L) hs hown ⟨b, 0, none⟩ 1 1 (hpL [⟨n, y⟩]) hx rfl ?_ ?_ (by decide) ?_ ?_ hsz w.heap.size rfl ?_
 · intro j u hj
   have hadd : (⟨b, 0, none⟩ : Addr).add j = ⟨b, j, none⟩ := by unfold Addr.add; split <;> simp_all
   rw [hadd, R.cell]
   match j, hj with
   | 0, hj => exact hj
   | 1, hj => exact hj
 · intro u hu
   simp [hpL] at hu
   rcases hu with rfl | rfl <;> rfl
 · unfold maxLen; omega
 · omega
 · intro g cap w' h1 h2 _ _
   exact h g cap w' (by unfold OwnHp; rw [hpL_app, List.length_append]; exact h1) h2
end Go.Proofs.YtkcjigelenofhaaGreatDoor
namespace Go.Proofs.YtkcjigelenofhaaGreatDoor
open Go.RowKit
theorem sel_t (v o : Value) : sel true v o = v := rfl
theorem sel_f (v o : Value) : sel false v o = o := rfl
end Go.Proofs.YtkcjigelenofhaaGreatDoor
namespace Go.Proofs.YtkcjigelenofhaaGreatDoor
open Go.RowKit
set_option linter.unusedVariables false
theorem methC_at (k : Nat) (hk : k < 5) : ∃ t : ByteArray, (#[.string ⟨#[71, 69, 84]⟩, .string ⟨#[80, 85, 84]⟩, .string ⟨#[80, 79, 83, 84]⟩, .string ⟨#[68, 69, 76, 69, 84, 69]⟩, .string ⟨#[72, 69, 65, 68]⟩] : Array Value)[k]? = some (.string t) ∧ t.size ≤ 6 := by
 rcases (by omega : k = 0 ∨ k = 1 ∨ k = 2 ∨ k = 3 ∨ k = 4) with rfl | rfl | rfl | rfl | rfl
 all_goals exact ⟨_, rfl, by decide⟩
theorem rowNe {w : World} {x y : Nat} {t u : TypeId} {cs ds : Array Value} (h : RowAt w x t cs) (k : RowAt w y u ds) (hn : t ≠ u) : x ≠ y := fun e => by
 subst e
 have := Option.some.inj (Eq.trans (Eq.symm h) k)
 injection this with _ h2
 exact hn h2
def rq1o0 : Oper := ⟨some 6, .buildSlice 28 5 #[(0, .const (.string { data := #[71, 69, 84] })), (1, .const (.string { data := #[80, 85, 84] })), (2, .const (.string { data := #[80, 79, 83, 84] })), (3, .const (.string { data := #[68, 69, 76, 69, 84, 69] })), (4, .const (.string { data := #[72, 69, 65, 68] }))], 28, "l10_request.go:378", #[], none⟩
def rq1o1 : Oper := ⟨some 7, .move (.tmp 0), 61, "l10_request.go:378", #[], none⟩
def rq1o2 : Oper := ⟨some 8, .call { callee := .value (.func 36), args := #[.tmp 7, .const (.int .i64 5)], argTypes := #[61, 2] }, 2, "l10_request.go:378", #[⟨1, .data⟩], none⟩
def rq1o3 : Oper := ⟨some 9, .indexAddr 28 (.tmp 6) (.tmp 8), 0, "l10_request.go:378", #[⟨0, .data⟩, ⟨2, .data⟩], none⟩
def rq1o4 : Oper := ⟨some 10, .load 9 (.tmp 9), 9, "l10_request.go:378", #[⟨3, .data⟩], none⟩
def rq1o5 : Oper := ⟨some 11, .move (.tmp 0), 61, "l10_request.go:378", #[], none⟩
def rq1o6 : Oper := ⟨some 12, .call { callee := .value (.func 68), args := #[.tmp 11], argTypes := #[61] }, 9, "l10_request.go:378", #[⟨5, .data⟩, ⟨2, .chain⟩], none⟩
def rq1o7 : Oper := ⟨some 13, .binOp .add 9 (.const (.string { data := #[47] })) (.tmp 12) 9, 9, "l10_request.go:378", #[⟨6, .data⟩], none⟩
def rq1o8 : Oper := ⟨some 14, .binOp .add 9 (.tmp 13) (.const (.string { data := #[47] })) 9, 9, "l10_request.go:378", #[⟨7, .data⟩], none⟩
def rq1o9 : Oper := ⟨some 15, .move (.tmp 0), 61, "l10_request.go:378", #[], none⟩
def rq1o10 : Oper := ⟨some 16, .move (.tmp 0), 61, "l10_request.go:378", #[], none⟩
def rq1o11 : Oper := ⟨some 17, .call { callee := .value (.func 36), args := #[.tmp 16, .const (.int .i64 6)], argTypes := #[61, 2] }, 2, "l10_request.go:378", #[⟨10, .data⟩, ⟨6, .chain⟩], none⟩
def rq1o12 : Oper := ⟨some 18, .call { callee := .value (.func 69), args := #[.tmp 15, .tmp 17], argTypes := #[61, 2] }, 9, "l10_request.go:378", #[⟨9, .data⟩, ⟨11, .data⟩, ⟨11, .chain⟩], none⟩
def rq1o13 : Oper := ⟨some 19, .binOp .add 9 (.tmp 14) (.tmp 18) 9, 9, "l10_request.go:378", #[⟨8, .data⟩, ⟨12, .data⟩], none⟩
def rq1o14 : Oper := ⟨some 20, .build 25 #[(0, .tmp 10), (1, .tmp 19)], 25, "l10_request.go:378", #[⟨4, .data⟩, ⟨13, .data⟩], none⟩
def rq1o15 : Oper := ⟨some 3, .alloc 25, 0, "l10_request.go:378", #[], none⟩
def rq1o16 : Oper := ⟨none, .store 25 (.tmp 3) (.tmp 20), 0, "l10_request.go:378", #[⟨15, .data⟩, ⟨14, .data⟩, ⟨12, .chain⟩, ⟨0, .phase⟩, ⟨1, .phase⟩, ⟨2, .phase⟩, ⟨3, .phase⟩, ⟨4, .phase⟩, ⟨5, .phase⟩, ⟨6, .phase⟩, ⟨7, .phase⟩, ⟨8, .phase⟩, ⟨9, .phase⟩, ⟨10, .phase⟩, ⟨11, .phase⟩, ⟨12, .phase⟩, ⟨13, .phase⟩, ⟨14, .phase⟩, ⟨15, .phase⟩], none⟩
def rq1O : Array Oper := #[rq1o0, rq1o1, rq1o2, rq1o3, rq1o4, rq1o5, rq1o6, rq1o7, rq1o8, rq1o9, rq1o10, rq1o11, rq1o12, rq1o13, rq1o14, rq1o15, rq1o16]
structure rq1P where
 (W0 W1 : World)
 (c : Nat)
 (a : Option Addr)
 (len cap p : Nat)
 (XR : Nat)
def rq1T (P : rq1P) (XT : Nat) (XB : Nat) (R2 : Nat) (mt : ByteArray) (wd : ByteArray) (R4 : Nat) (bt : ByteArray) (pp : Nat) (b0 b1 b2 b3 b4 b5 b6 b7 b8 b9 b10 b11 b12 b13 b14 b15 b16 : Bool) : Array Value := #[.pointer (some ⟨P.c, 0, none⟩), undef, .pointer (some ⟨P.XR, 0, none⟩), sel b15 (.pointer (some ⟨XB, 0, none⟩)) (undef), undef, undef, sel b0 (.slice (some ⟨XT, 0, none⟩) 5 5) (undef), sel b1 (.pointer (some ⟨P.c, 0, none⟩)) (undef), sel b2 (.int .i64 (R2 : Int)) (undef), sel b3 (.pointer (some ⟨XT, R2, none⟩)) (undef), sel b4 (.string mt) (undef), sel b5 (.pointer (some ⟨P.c, 0, none⟩)) (undef), sel b6 (.string wd) (undef), sel b7 (.string ((⟨#[47]⟩ : ByteArray) ++ wd)) (undef), sel b8 (.string ((⟨#[47]⟩ : ByteArray) ++ wd ++ (⟨#[47]⟩ : ByteArray))) (undef), sel b9 (.pointer (some ⟨P.c, 0, none⟩)) (undef), sel b10 (.pointer (some ⟨P.c, 0, none⟩)) (undef), sel b11 (.int .i64 (R4 : Int)) (undef), sel b12 (.string bt) (undef), sel b13 (.string ((⟨#[47]⟩ : ByteArray) ++ wd ++ (⟨#[47]⟩ : ByteArray) ++ bt)) (undef), sel b14 (.agg #[.string mt, .string ((⟨#[47]⟩ : ByteArray) ++ wd ++ (⟨#[47]⟩ : ByteArray) ++ bt), .slice none 0 0, .slice none 0 0, .string ⟨#[]⟩]) (undef), undef, undef, undef, undef, undef, undef, undef, undef, undef, undef, undef, undef, undef, undef, undef, undef, undef, undef, undef, undef, undef, undef, undef, undef, undef, undef, undef, undef, undef, undef, undef, undef, undef, undef, undef, undef, undef, undef, undef, undef, undef, undef, undef, undef, undef, undef, undef, undef, undef, undef, undef, undef]
def rq1F (P : rq1P) (XT : Nat) (XB : Nat) (R2 : Nat) (mt : ByteArray) (wd : ByteArray) (R4 : Nat) (bt : ByteArray) (pp : Nat) (b0 b1 b2 b3 b4 b5 b6 b7 b8 b9 b10 b11 b12 b13 b14 b15 b16 : Bool) (w : World) : Prop := (Src P.W0 w P.c P.a P.len P.cap pp) ∧ (pp ≤ P.p + 40 * (b2.toNat + b6.toNat + b11.toNat + b12.toNat)) ∧ (P.W1.grownBy w (some P.c)) ∧ (P.c < P.W1.heap.size) ∧ (b0 = true → RowAt w XT 9 #[.string ⟨#[71, 69, 84]⟩, .string ⟨#[80, 85, 84]⟩, .string ⟨#[80, 79, 83, 84]⟩, .string ⟨#[68, 69, 76, 69, 84, 69]⟩, .string ⟨#[72, 69, 65, 68]⟩] ∧ P.W1.heap.size ≤ XT) ∧ (b2 = true → R2 < 5) ∧ (b4 = true → mt.size ≤ 6) ∧ (b6 = true → wd.size ≤ 6) ∧ (b11 = true → R4 < 6) ∧ (b12 = true → bt.size ≤ 6) ∧ (b15 = true → P.W1.heap.size ≤ XB ∧ RowAt w XB 25 (cond b16 #[.string mt, .string ((⟨#[47]⟩ : ByteArray) ++ wd ++ (⟨#[47]⟩ : ByteArray) ++ bt), .slice none 0 0, .slice none 0 0, .string ⟨#[]⟩] #[.string ⟨#[]⟩, .string ⟨#[]⟩, .slice none 0 0, .slice none 0 0, .string ⟨#[]⟩])) ∧ (P.p ≤ 900000)
def rq1I (P : rq1P) (l : Array Bool) (f : Act) (w : World) : Prop :=
 ∃ (b0 b1 b2 b3 b4 b5 b6 b7 b8 b9 b10 b11 b12 b13 b14 b15 b16 : Bool) (XT : Nat) (XB : Nat) (R2 : Nat) (mt : ByteArray) (wd : ByteArray) (R4 : Nat) (bt : ByteArray) (pp : Nat), l = #[b0, b1, b2, b3, b4, b5, b6, b7, b8, b9, b10, b11, b12, b13, b14, b15, b16] ∧ f = { tmps := rq1T P XT XB R2 mt wd R4 bt pp b0 b1 b2 b3 b4 b5 b6 b7 b8 b9 b10 b11 b12 b13 b14 b15 b16, defers := [] } ∧ rq1F P XT XB R2 mt wd R4 bt pp b0 b1 b2 b3 b4 b5 b6 b7 b8 b9 b10 b11 b12 b13 b14 b15 b16 w
theorem rq1M {P : rq1P} {b0 b1 b2 b3 b4 b5 b6 b7 b8 b9 b10 b11 b12 b13 b14 b15 b16 : Bool} (XT : Nat) (XB : Nat) (R2 : Nat) (mt : ByteArray) (wd : ByteArray) (R4 : Nat) (bt : ByteArray) (pp : Nat) {l : Array Bool} {f : Act} {w : World} (hl : l = #[b0, b1, b2, b3, b4, b5, b6, b7, b8, b9, b10, b11, b12, b13, b14, b15, b16]) (hf : f = { tmps := rq1T P XT XB R2 mt wd R4 bt pp b0 b1 b2 b3 b4 b5 b6 b7 b8 b9 b10 b11 b12 b13 b14 b15 b16, defers := [] }) (h : rq1F P XT XB R2 mt wd R4 bt pp b0 b1 b2 b3 b4 b5 b6 b7 b8 b9 b10 b11 b12 b13 b14 b15 b16 w) : rq1I P l f w := ⟨b0, b1, b2, b3, b4, b5, b6, b7, b8, b9, b10, b11, b12, b13, b14, b15, b16, XT, XB, R2, mt, wd, R4, bt, pp, hl, hf, h⟩
set_option maxRecDepth 20000 in
set_option maxHeartbeats 20000000 in
theorem rq1_step {Q : Exit → Act → World → Prop} (P : rq1P) (l : Array Bool) (f : Act) (w : World) (hC : Closed rq1O l) (hI : rq1I P l f w) (i : Nat) (h0 : l.getD i true = false) (o : Oper) (ho : rq1O[i]? = some o) (h1 : ∀ e ∈ o.after, Region.binds .any e = true → l.getD e.on false = true) : wpOp Tryz.prog rq1O Q i (rq1I P (l.setIfInBounds i true)) f w := by
 obtain ⟨b0, b1, b2, b3, b4, b5, b6, b7, b8, b9, b10, b11, b12, b13, b14, b15, b16, XT, XB, R2, mt, wd, R4, bt, pp, rfl, rfl, hF⟩ := hI
 have hi : i < 17 := by
  rcases Nat.lt_or_ge i 17 with h | h
  · exact h
  · rw [show rq1O[i]? = none from Array.getElem?_eq_none h] at ho; cases ho
 rcases (by omega : i = 0 ∨ i = 1 ∨ i = 2 ∨ i = 3 ∨ i = 4 ∨ i = 5 ∨ i = 6 ∨ i = 7 ∨ i = 8 ∨ i = 9 ∨ i = 10 ∨ i = 11 ∨ i = 12 ∨ i = 13 ∨ i = 14 ∨ i = 15 ∨ i = 16) with rfl | rfl | rfl | rfl | rfl | rfl | rfl | rfl | rfl | rfl | rfl | rfl | rfl | rfl | rfl | rfl | rfl
 · obtain rfl : rq1o0 = o := Option.some.inj ho
   obtain rfl : b0 = false := h0
   have hn := wayN_all hC (i := 0) rfl [(3, 0), (4, 3), (14, 4), (16, 0)] [] nk rfl; repeat (obtain ⟨rfl, hn⟩ := hn)
   obtain ⟨hS, hp, hg, hc, ht, hr2, hm, hwd, hr4, hbt, hb, hk⟩ := hF
   refine wpOp_step (o := rq1o0) rfl (fun K hK => ?_)
   replace hK := hid hK
   simp only [rq1o0, rq1T, sel_f]
   go_simp
   exact hK.out _ _ (rq1M w.heap.size XB R2 mt wd R4 bt pp rfl rfl ⟨hS.alloc _, hp, grown_al hg _, hc, fun _ => ⟨RowAt.new w _ _, hg.size⟩, hr2, hm, hwd, hr4, hbt, fun h => ⟨(hb h).1, (hb h).2.alloc _⟩, hk⟩)
 · obtain rfl : rq1o1 = o := Option.some.inj ho
   obtain rfl : b1 = false := h0
   have hn := wayN_all hC (i := 1) rfl [(2, 1), (3, 2), (4, 3), (6, 2), (7, 6), (8, 7), (11, 6), (12, 11), (13, 8), (14, 4), (16, 1)] [] nk rfl; repeat (obtain ⟨rfl, hn⟩ := hn)
   obtain ⟨hS, hp, hg, hc, ht, hr2, hm, hwd, hr4, hbt, hb, hk⟩ := hF
   simp only [Bool.toNat_false] at hp
   refine wpOp_step (o := rq1o1) rfl (fun K hK => ?_)
   replace hK := hid hK
   simp only [rq1o1, rq1T, sel_f]
   go_simp
   exact hK.out _ _ (rq1M XT XB R2 mt wd R4 bt pp rfl rfl ⟨hS, hp, hg, hc, ht, hr2, hm, hwd, hr4, hbt, hb, hk⟩)
 · obtain rfl : rq1o2 = o := Option.some.inj ho
   obtain rfl : b2 = false := h0
   have hn := wayP_all (o := rq1o2) hC h1 [(1, none)] [] nk rfl; repeat (obtain ⟨rfl, hn⟩ := hn)
   have hn := wayN_all hC (i := 2) rfl [(3, 2), (4, 3), (6, 2), (7, 6), (8, 7), (11, 6), (12, 11), (13, 8), (14, 4), (16, 2)] [] nk rfl; repeat (obtain ⟨rfl, hn⟩ := hn)
   obtain ⟨hS, hp, hg, hc, ht, hr2, hm, hwd, hr4, hbt, hb, hk⟩ := hF
   simp only [Bool.toNat_false] at hp
   refine wpOp_step (o := rq1o2) rfl (fun K hK => ?_)
   replace hK := hid hK
   simp only [rq1o2, rq1T, sel_t, sel_f]
   go_simp
   refine (n_all P.W0 _ P.c P.a P.len P.cap pp 5 hS (by omega) (by omega) (by omega)).mono ?_
   rintro e w2 ⟨⟨r, rfl, h20, h21⟩, hs2, hg2⟩
   obtain ⟨R, rfl⟩ := Int.eq_ofNat_of_zero_le h20
   dsimp only
   exact hK.out _ _ (rq1M XT XB R mt wd R4 bt (pp + 1) rfl rfl ⟨hs2, by show pp + 1 ≤ P.p + 40 * (1 + 0 + 0 + 0); omega, grown_trans hg hg2, hc, fun h => ⟨rowF (ht h).1 hg2 (by have := (ht h).2; omega), (ht h).2⟩, fun _ => by omega, hm, hwd, hr4, hbt, fun h => ⟨(hb h).1, rowF (hb h).2 hg2 (by have := (hb h).1; omega)⟩, hk⟩)
 · obtain rfl : rq1o3 = o := Option.some.inj ho
   obtain rfl : b3 = false := h0
   have hn := wayP_all (o := rq1o3) hC h1 [(2, none), (0, none), (1, some 2)] [] nk rfl; repeat (obtain ⟨rfl, hn⟩ := hn)
   have hn := wayN_all hC (i := 3) rfl [(4, 3), (14, 4), (16, 3)] [] nk rfl; repeat (obtain ⟨rfl, hn⟩ := hn)
   obtain ⟨hS, hp, hg, hc, ht, hr2, hm, hwd, hr4, hbt, hb, hk⟩ := hF
   simp only [Bool.toNat_true] at hp
   have r := hr2 rfl
   have r0 : (R2 : Int) < 5 := by omega
   refine wpOp_step (o := rq1o3) rfl (fun K hK => ?_)
   replace hK := hid hK
   simp only [rq1o3, rq1T, sel_t, sel_f]
   go_simp
   exact hK.out _ _ (rq1M XT XB R2 mt wd R4 bt pp rfl rfl ⟨hS, hp, hg, hc, ht, hr2, hm, hwd, hr4, hbt, hb, hk⟩)
 · obtain rfl : rq1o4 = o := Option.some.inj ho
   obtain rfl : b4 = false := h0
   have hn := wayP_all (o := rq1o4) hC h1 [(3, none), (0, some 3), (2, some 3), (1, some 2)] [] nk rfl; repeat (obtain ⟨rfl, hn⟩ := hn)
   have hn := wayN_all hC (i := 4) rfl [(14, 4), (16, 4)] [] nk rfl; repeat (obtain ⟨rfl, hn⟩ := hn)
   obtain ⟨hS, hp, hg, hc, ht, hr2, hm, hwd, hr4, hbt, hb, hk⟩ := hF
   simp only [Bool.toNat_true] at hp
   obtain ⟨mt2, hk2, hmt⟩ := methC_at R2 (hr2 rfl)
   have c2 := ((ht rfl).1.cell R2).trans hk2
   refine wpOp_step (o := rq1o4) rfl (fun K hK => ?_)
   replace hK := hid hK
   simp only [rq1o4, rq1T, sel_t, sel_f]
   go_simp
   exact hK.out _ _ (rq1M XT XB R2 mt2 wd R4 bt pp rfl rfl ⟨hS, hp, hg, hc, ht, hr2, fun _ => hmt, hwd, hr4, hbt, hb, hk⟩)
 · obtain rfl : rq1o5 = o := Option.some.inj ho
   obtain rfl : b5 = false := h0
   have hn := wayN_all hC (i := 5) rfl [(6, 5), (7, 6), (8, 7), (11, 6), (12, 11), (13, 8), (14, 13), (16, 5)] [] nk rfl; repeat (obtain ⟨rfl, hn⟩ := hn)
   obtain ⟨hS, hp, hg, hc, ht, hr2, hm, hwd, hr4, hbt, hb, hk⟩ := hF
   simp only [Bool.toNat_false] at hp
   refine wpOp_step (o := rq1o5) rfl (fun K hK => ?_)
   replace hK := hid hK
   simp only [rq1o5, rq1T, sel_f]
   go_simp
   exact hK.out _ _ (rq1M XT XB R2 mt wd R4 bt pp rfl rfl ⟨hS, hp, hg, hc, ht, hr2, hm, hwd, hr4, hbt, hb, hk⟩)
 · obtain rfl : rq1o6 = o := Option.some.inj ho
   obtain rfl : b6 = false := h0
   have hn := wayP_all (o := rq1o6) hC h1 [(5, none), (2, none), (1, some 2)] [] nk rfl; repeat (obtain ⟨rfl, hn⟩ := hn)
   have hn := wayN_all hC (i := 6) rfl [(7, 6), (8, 7), (11, 6), (12, 11), (13, 8), (14, 13), (16, 6)] [] nk rfl; repeat (obtain ⟨rfl, hn⟩ := hn)
   obtain ⟨hS, hp, hg, hc, ht, hr2, hm, hwd, hr4, hbt, hb, hk⟩ := hF
   simp only [Bool.toNat_true, Bool.toNat_false] at hp
   refine wpOp_step (o := rq1o6) rfl (fun K hK => ?_)
   replace hK := hid hK
   simp only [rq1o6, rq1T, sel_t, sel_f]
   go_simp
   refine (word_all P.W0 _ P.c P.a P.len P.cap pp hS (by omega)).mono ?_
   rintro e w2 ⟨⟨wd2, rfl, hwd2⟩, ⟨p3, hs2, hp3⟩, hg2⟩
   dsimp only
   exact hK.out _ _ (rq1M XT XB R2 mt wd2 R4 bt p3 rfl rfl ⟨hs2, by show p3 ≤ P.p + 40 * (1 + 1 + 0 + 0); omega, grown_trans hg hg2, hc, fun h => ⟨rowF (ht h).1 hg2 (by have := (ht h).2; omega), (ht h).2⟩, hr2, hm, fun _ => hwd2, hr4, hbt, fun h => ⟨(hb h).1, rowF (hb h).2 hg2 (by have := (hb h).1; omega)⟩, hk⟩)
 · obtain rfl : rq1o7 = o := Option.some.inj ho
   obtain rfl : b7 = false := h0
   have hn := wayP_all (o := rq1o7) hC h1 [(6, none), (2, some 6), (5, some 6), (1, some 2)] [] nk rfl; repeat (obtain ⟨rfl, hn⟩ := hn)
   have hn := wayN_all hC (i := 7) rfl [(8, 7), (13, 8), (14, 13), (16, 7)] [] nk rfl; repeat (obtain ⟨rfl, hn⟩ := hn)
   obtain ⟨hS, hp, hg, hc, ht, hr2, hm, hwd, hr4, hbt, hb, hk⟩ := hF
   simp only [Bool.toNat_true] at hp
   have z := hwd rfl
   have z1 : ¬ 9223372036854775807 < 1 + wd.size := by omega
   refine wpOp_step (o := rq1o7) rfl (fun K hK => ?_)
   replace hK := hid hK
   simp only [rq1o7, rq1T, sel_t, sel_f]
   go_simp
   exact hK.out _ _ (rq1M XT XB R2 mt wd R4 bt pp rfl rfl ⟨hS, hp, hg, hc, ht, hr2, hm, hwd, hr4, hbt, hb, hk⟩)
 · obtain rfl : rq1o8 = o := Option.some.inj ho
   obtain rfl : b8 = false := h0
   have hn := wayP_all (o := rq1o8) hC h1 [(7, none), (6, some 7), (2, some 6), (5, some 6), (1, some 2)] [] nk rfl; repeat (obtain ⟨rfl, hn⟩ := hn)
   have hn := wayN_all hC (i := 8) rfl [(13, 8), (14, 13), (16, 8)] [] nk rfl; repeat (obtain ⟨rfl, hn⟩ := hn)
   obtain ⟨hS, hp, hg, hc, ht, hr2, hm, hwd, hr4, hbt, hb, hk⟩ := hF
   simp only [Bool.toNat_true] at hp
   have z := hwd rfl
   have z1 : ¬ 9223372036854775807 < ((⟨#[47]⟩ : ByteArray) ++ wd).size + 1 := by rw [ByteArray.size_append]; show ¬ 9223372036854775807 < 1 + wd.size + 1; omega
   have z2 : ¬ 9223372036854775807 < 1 + wd.size + 1 := by omega
   refine wpOp_step (o := rq1o8) rfl (fun K hK => ?_)
   replace hK := hid hK
   simp only [rq1o8, rq1T, sel_t, sel_f]
   go_simp
   exact hK.out _ _ (rq1M XT XB R2 mt wd R4 bt pp rfl rfl ⟨hS, hp, hg, hc, ht, hr2, hm, hwd, hr4, hbt, hb, hk⟩)
 · obtain rfl : rq1o9 = o := Option.some.inj ho
   obtain rfl : b9 = false := h0
   have hn := wayN_all hC (i := 9) rfl [(12, 9), (13, 12), (14, 13), (16, 9)] [] nk rfl; repeat (obtain ⟨rfl, hn⟩ := hn)
   obtain ⟨hS, hp, hg, hc, ht, hr2, hm, hwd, hr4, hbt, hb, hk⟩ := hF
   simp only [Bool.toNat_false] at hp
   refine wpOp_step (o := rq1o9) rfl (fun K hK => ?_)
   replace hK := hid hK
   simp only [rq1o9, rq1T, sel_f]
   go_simp
   exact hK.out _ _ (rq1M XT XB R2 mt wd R4 bt pp rfl rfl ⟨hS, hp, hg, hc, ht, hr2, hm, hwd, hr4, hbt, hb, hk⟩)
 · obtain rfl : rq1o10 = o := Option.some.inj ho
   obtain rfl : b10 = false := h0
   have hn := wayN_all hC (i := 10) rfl [(11, 10), (12, 11), (13, 12), (14, 13), (16, 10)] [] nk rfl; repeat (obtain ⟨rfl, hn⟩ := hn)
   obtain ⟨hS, hp, hg, hc, ht, hr2, hm, hwd, hr4, hbt, hb, hk⟩ := hF
   simp only [Bool.toNat_false] at hp
   refine wpOp_step (o := rq1o10) rfl (fun K hK => ?_)
   replace hK := hid hK
   simp only [rq1o10, rq1T, sel_f]
   go_simp
   exact hK.out _ _ (rq1M XT XB R2 mt wd R4 bt pp rfl rfl ⟨hS, hp, hg, hc, ht, hr2, hm, hwd, hr4, hbt, hb, hk⟩)
 · obtain rfl : rq1o11 = o := Option.some.inj ho
   obtain rfl : b11 = false := h0
   have hn := wayP_all (o := rq1o11) hC h1 [(10, none), (6, none), (2, some 6), (5, some 6), (1, some 2)] [] nk rfl; repeat (obtain ⟨rfl, hn⟩ := hn)
   have hn := wayN_all hC (i := 11) rfl [(12, 11), (13, 12), (14, 13), (16, 11)] [] nk rfl; repeat (obtain ⟨rfl, hn⟩ := hn)
   obtain ⟨hS, hp, hg, hc, ht, hr2, hm, hwd, hr4, hbt, hb, hk⟩ := hF
   simp only [Bool.toNat_true, Bool.toNat_false] at hp
   refine wpOp_step (o := rq1o11) rfl (fun K hK => ?_)
   replace hK := hid hK
   simp only [rq1o11, rq1T, sel_t, sel_f]
   go_simp
   refine (n_all P.W0 _ P.c P.a P.len P.cap pp 6 hS (by omega) (by omega) (by omega)).mono ?_
   rintro e w2 ⟨⟨r, rfl, h20, h21⟩, hs2, hg2⟩
   obtain ⟨R, rfl⟩ := Int.eq_ofNat_of_zero_le h20
   dsimp only
   exact hK.out _ _ (rq1M XT XB R2 mt wd R bt (pp + 1) rfl rfl ⟨hs2, by show pp + 1 ≤ P.p + 40 * (1 + 1 + 1 + 0); omega, grown_trans hg hg2, hc, fun h => ⟨rowF (ht h).1 hg2 (by have := (ht h).2; omega), (ht h).2⟩, hr2, hm, hwd, fun _ => by omega, hbt, fun h => ⟨(hb h).1, rowF (hb h).2 hg2 (by have := (hb h).1; omega)⟩, hk⟩)
 · obtain rfl : rq1o12 = o := Option.some.inj ho
   obtain rfl : b12 = false := h0
   have hn := wayP_all (o := rq1o12) hC h1 [(11, none), (9, none), (6, some 11), (10, some 11), (2, some 6), (5, some 6), (1, some 2)] [] nk rfl; repeat (obtain ⟨rfl, hn⟩ := hn)
   have hn := wayN_all hC (i := 12) rfl [(13, 12), (14, 13), (16, 12)] [] nk rfl; repeat (obtain ⟨rfl, hn⟩ := hn)
   obtain ⟨hS, hp, hg, hc, ht, hr2, hm, hwd, hr4, hbt, hb, hk⟩ := hF
   simp only [Bool.toNat_true, Bool.toNat_false] at hp
   have r4 := hr4 rfl
   refine wpOp_step (o := rq1o12) rfl (fun K hK => ?_)
   replace hK := hid hK
   simp only [rq1o12, rq1T, sel_t, sel_f]
   go_simp
   refine (bytes_all P.W0 _ P.c P.a P.len P.cap pp R4 hS (by omega) (by omega)).mono ?_
   rintro e w2 ⟨⟨bt2, rfl, hbt2⟩, ⟨p3, hs2, hp3⟩, hg2⟩
   dsimp only
   exact hK.out _ _ (rq1M XT XB R2 mt wd R4 bt2 p3 rfl rfl ⟨hs2, by show p3 ≤ P.p + 40 * (1 + 1 + 1 + 1); omega, grown_trans hg hg2, hc, fun h => ⟨rowF (ht h).1 hg2 (by have := (ht h).2; omega), (ht h).2⟩, hr2, hm, hwd, hr4, fun _ => by omega, fun h => ⟨(hb h).1, rowF (hb h).2 hg2 (by have := (hb h).1; omega)⟩, hk⟩)
 · obtain rfl : rq1o13 = o := Option.some.inj ho
   obtain rfl : b13 = false := h0
   have hn := wayP_all (o := rq1o13) hC h1 [(12, none), (8, none), (9, some 12), (11, some 12), (6, some 11), (10, some 11), (7, some 8), (2, some 6), (5, some 6), (1, some 2)] [] nk rfl; repeat (obtain ⟨rfl, hn⟩ := hn)
   have hn := wayN_all hC (i := 13) rfl [(14, 13), (16, 13)] [] nk rfl; repeat (obtain ⟨rfl, hn⟩ := hn)
   obtain ⟨hS, hp, hg, hc, ht, hr2, hm, hwd, hr4, hbt, hb, hk⟩ := hF
   simp only [Bool.toNat_true] at hp
   have z := hwd rfl
   have zb := hbt rfl
   have z1 : ¬ 9223372036854775807 < ((⟨#[47]⟩ : ByteArray) ++ wd ++ (⟨#[47]⟩ : ByteArray)).size + bt.size := by rw [ByteArray.size_append, ByteArray.size_append]; show ¬ 9223372036854775807 < 1 + wd.size + 1 + bt.size; omega
   have z2 : ¬ 9223372036854775807 < 1 + wd.size + 1 + bt.size := by omega
   refine wpOp_step (o := rq1o13) rfl (fun K hK => ?_)
   replace hK := hid hK
   simp only [rq1o13, rq1T, sel_t, sel_f]
   go_simp
   exact hK.out _ _ (rq1M XT XB R2 mt wd R4 bt pp rfl rfl ⟨hS, hp, hg, hc, ht, hr2, hm, hwd, hr4, hbt, hb, hk⟩)
 · obtain rfl : rq1o14 = o := Option.some.inj ho
   obtain rfl : b14 = false := h0
   have hn := wayP_all (o := rq1o14) hC h1 [(13, none), (4, none), (8, some 13), (12, some 13), (9, some 12), (11, some 12), (6, some 11), (10, some 11), (7, some 8), (2, some 6), (5, some 6), (3, some 4), (0, some 3), (1, some 2)] [] nk rfl; repeat (obtain ⟨rfl, hn⟩ := hn)
   have hn := wayN_all hC (i := 14) rfl [(16, 14)] [] nk rfl; repeat (obtain ⟨rfl, hn⟩ := hn)
   obtain ⟨hS, hp, hg, hc, ht, hr2, hm, hwd, hr4, hbt, hb, hk⟩ := hF
   simp only [Bool.toNat_true] at hp
   refine wpOp_step (o := rq1o14) rfl (fun K hK => ?_)
   replace hK := hid hK
   simp only [rq1o14, rq1T, sel_t, sel_f]
   go_simp
   exact hK.out _ _ (rq1M XT XB R2 mt wd R4 bt pp rfl rfl ⟨hS, hp, hg, hc, ht, hr2, hm, hwd, hr4, hbt, hb, hk⟩)
 · obtain rfl : rq1o15 = o := Option.some.inj ho
   obtain rfl : b15 = false := h0
   have hn := wayN_all hC (i := 15) rfl [(16, 15)] [] nk rfl; repeat (obtain ⟨rfl, hn⟩ := hn)
   obtain ⟨hS, hp, hg, hc, ht, hr2, hm, hwd, hr4, hbt, hb, hk⟩ := hF
   refine wpOp_step (o := rq1o15) rfl (fun K hK => ?_)
   replace hK := hid hK
   simp only [rq1o15, rq1T, sel_f]
   go_simp
   exact hK.out _ _ (rq1M XT w.heap.size R2 mt wd R4 bt pp rfl rfl ⟨hS.alloc _, hp, grown_al hg _, hc, fun h => ⟨(ht h).1.alloc _, (ht h).2⟩, hr2, hm, hwd, hr4, hbt, fun _ => ⟨hg.size, RowAt.new w _ _⟩, hk⟩)
 · obtain rfl : rq1o16 = o := Option.some.inj ho
   obtain rfl : b16 = false := h0
   have hn := wayP_all (o := rq1o16) hC h1 [(15, none), (14, none), (13, none), (12, none), (11, none), (10, none), (9, none), (8, none), (7, none), (6, none), (5, none), (4, none), (3, none), (2, none), (1, none), (0, none)] [] nk rfl; repeat (obtain ⟨rfl, hn⟩ := hn)
   obtain ⟨hS, hp, hg, hc, ht, hr2, hm, hwd, hr4, hbt, hb, hk⟩ := hF
   simp only [Bool.toNat_true] at hp
   have RB : RowAt w XB 25 #[.string ⟨#[]⟩, .string ⟨#[]⟩, .slice none 0 0, .slice none 0 0, .string ⟨#[]⟩] := (hb rfl).2
   have XL := (hb rfl).1
   have hcx : P.c < XB := by omega
   have hne := rowNe (ht rfl).1 RB (by decide)
   have q0 := RB.cell 0
   have q1 := RB.cell 1
   have q2 := RB.cell 2
   have q3 := RB.cell 3
   have q4 := RB.cell 4
   have f0 := RB.free 0
   have f1 := RB.free 1
   have f2 := RB.free 2
   have f3 := RB.free 3
   have f4 := RB.free 4
   refine wpOp_step (o := rq1o16) rfl (fun K hK => ?_)
   replace hK := hid hK
   simp only [rq1o16, rq1T, sel_t]
   go_simp
   exact hK.out _ _ (rq1M XT XB R2 mt wd R4 bt pp rfl rfl ⟨(((((hS.set hcx 0 _).set hcx 1 _).set hcx 2 _).set hcx 3 _).set hcx 4 _), hp, (grown_far (grown_far (grown_far (grown_far (grown_far hg XL 0 _) XL 1 _) XL 2 _) XL 3 _) XL 4 _), hc, fun _ => ⟨((((((ht rfl).1.other ⟨XB, 0, none⟩ _ hne).other ⟨XB, 1, none⟩ _ hne).other ⟨XB, 2, none⟩ _ hne).other ⟨XB, 3, none⟩ _ hne).other ⟨XB, 4, none⟩ _ hne), (ht rfl).2⟩, hr2, hm, hwd, hr4, hbt, fun _ => ⟨XL, (((((RB.set 0 _).set 1 _).set 2 _).set 3 _).set 4 _)⟩, hk⟩)
set_option maxRecDepth 20000 in
set_option maxHeartbeats 4000000 in
theorem rq1_wp {Q : Exit → Act → World → Prop} {rid : Nat} (W0 W1 : World) (c : Nat) (a : Option Addr) (len cap p : Nat) (XR : Nat) (w : World) (hS : Src W0 w c a len cap p) (hg : W1.grownBy w (some c)) (hc : c < W1.heap.size) (hk : p ≤ 900000)
 (fin : ∀ (XT : Nat) (XB : Nat) (R2 : Nat) (mt : ByteArray) (wd : ByteArray) (R4 : Nat) (bt : ByteArray) (pp : Nat) (w' : World), (Src W0 w' c a len cap pp) → (pp ≤ p + 40 * (1 + 1 + 1 + 1)) → (W1.grownBy w' (some c)) → (c < W1.heap.size) → (RowAt w' XT 9 #[.string ⟨#[71, 69, 84]⟩, .string ⟨#[80, 85, 84]⟩, .string ⟨#[80, 79, 83, 84]⟩, .string ⟨#[68, 69, 76, 69, 84, 69]⟩, .string ⟨#[72, 69, 65, 68]⟩] ∧ W1.heap.size ≤ XT) → (R2 < 5) → (mt.size ≤ 6) → (wd.size ≤ 6) → (R4 < 6) → (bt.size ≤ 6) → (W1.heap.size ≤ XB ∧ RowAt w' XB 25 (cond true #[.string mt, .string ((⟨#[47]⟩ : ByteArray) ++ wd ++ (⟨#[47]⟩ : ByteArray) ++ bt), .slice none 0 0, .slice none 0 0, .string ⟨#[]⟩] #[.string ⟨#[]⟩, .string ⟨#[]⟩, .slice none 0 0, .slice none 0 0, .string ⟨#[]⟩])) → (p ≤ 900000) → Q .normal { tmps := #[.pointer (some ⟨c, 0, none⟩), undef, .pointer (some ⟨XR, 0, none⟩), .pointer (some ⟨XB, 0, none⟩), undef, undef, .slice (some ⟨XT, 0, none⟩) 5 5, .pointer (some ⟨c, 0, none⟩), .int .i64 (R2 : Int), .pointer (some ⟨XT, R2, none⟩), .string mt, .pointer (some ⟨c, 0, none⟩), .string wd, .string ((⟨#[47]⟩ : ByteArray) ++ wd), .string ((⟨#[47]⟩ : ByteArray) ++ wd ++ (⟨#[47]⟩ : ByteArray)), .pointer (some ⟨c, 0, none⟩), .pointer (some ⟨c, 0, none⟩), .int .i64 (R4 : Int), .string bt, .string ((⟨#[47]⟩ : ByteArray) ++ wd ++ (⟨#[47]⟩ : ByteArray) ++ bt), .agg #[.string mt, .string ((⟨#[47]⟩ : ByteArray) ++ wd ++ (⟨#[47]⟩ : ByteArray) ++ bt), .slice none 0 0, .slice none 0 0, .string ⟨#[]⟩], undef, undef, undef, undef, undef, undef, undef, undef, undef, undef, undef, undef, undef, undef, undef, undef, undef, undef, undef, undef, undef, undef, undef, undef, undef, undef, undef, undef, undef, undef, undef, undef, undef, undef, undef, undef, undef, undef, undef, undef, undef, undef, undef, undef, undef, undef, undef, undef, undef, undef, undef, undef], defers := [] } w') :
 (Code.region rid rq1O true).wp Tryz.prog Q { tmps := #[.pointer (some ⟨c, 0, none⟩), undef, .pointer (some ⟨XR, 0, none⟩), undef, undef, undef, undef, undef, undef, undef, undef, undef, undef, undef, undef, undef, undef, undef, undef, undef, undef, undef, undef, undef, undef, undef, undef, undef, undef, undef, undef, undef, undef, undef, undef, undef, undef, undef, undef, undef, undef, undef, undef, undef, undef, undef, undef, undef, undef, undef, undef, undef, undef, undef, undef, undef, undef, undef, undef, undef, undef, undef, undef, undef, undef, undef, undef, undef, undef, undef, undef, undef, undef], defers := [] } w := by
 refine wp_region_inv (ops := rq1O) (rq1I ⟨W0, W1, c, a, len, cap, p, XR⟩) (by kernel_rfl) (by kernel_rfl) (fun l f v hI => ?_) (fun l f v hC hI i h0 o ho h1 => rq1_step ⟨W0, W1, c, a, len, cap, p, XR⟩ l f v hC hI i h0 o ho h1) (fun l f v hI hall => ?_) ?_
 · obtain ⟨_, _, _, _, _, _, _, _, _, _, _, _, _, _, _, _, _, _, _, _, _, _, _, _, _, rfl, _⟩ := hI; rfl
 · obtain ⟨b0, b1, b2, b3, b4, b5, b6, b7, b8, b9, b10, b11, b12, b13, b14, b15, b16, XT, XB, R2, mt, wd, R4, bt, pp, rfl, rfl, hS, hp, hg, hc, ht, hr2, hm, hwd, hr4, hbt, hb, hk⟩ := hI
   have hn := allT hall [0, 1, 2, 3, 4, 5, 6, 7, 8, 9, 10, 11, 12, 13, 14, 15, 16] rfl; repeat (obtain ⟨rfl, hn⟩ := hn)
   exact fin XT XB R2 mt wd R4 bt pp v hS hp hg hc (ht rfl) (hr2 rfl) (hm rfl) (hwd rfl) (hr4 rfl) (hbt rfl) (hb rfl) hk
 · exact ⟨false, false, false, false, false, false, false, false, false, false, false, false, false, false, false, false, false, 0, 0, 0, ⟨#[]⟩, ⟨#[]⟩, 0, ⟨#[]⟩, p, rfl, rfl, hS.drew, Nat.le_add_right _ _, grown_trans hg (grown_drewS _ _), hc, fun h => Bool.noConfusion h, fun h => Bool.noConfusion h, fun h => Bool.noConfusion h, fun h => Bool.noConfusion h, fun h => Bool.noConfusion h, fun h => Bool.noConfusion h, fun h => Bool.noConfusion h, hk⟩
end Go.Proofs.YtkcjigelenofhaaGreatDoor
namespace Go.Proofs.YtkcjigelenofhaaGreatDoor
open Go.RowKit
set_option linter.unusedVariables false
def rq5o0 : Oper := ⟨some 27, .fieldAddr 25 (.tmp 3) 2, 0, "l10_request.go:380", #[], none⟩
def rq5o1 : Oper := ⟨some 28, .load 23 (.tmp 27), 23, "l10_request.go:380", #[⟨0, .data⟩], none⟩
def rq5o2 : Oper := ⟨some 29, .move (.tmp 0), 61, "l10_request.go:380", #[], none⟩
def rq5o3 : Oper := ⟨some 30, .call { callee := .value (.func 68), args := #[.tmp 29], argTypes := #[61] }, 9, "l10_request.go:380", #[⟨2, .data⟩], none⟩
def rq5o4 : Oper := ⟨some 31, .move (.tmp 4), 2, "l10_request.go:380", #[], none⟩
def rq5o5 : Oper := ⟨some 32, .call { callee := .value (.func 50), args := #[.tmp 31], argTypes := #[2] }, 9, "l10_request.go:380", #[⟨4, .data⟩, ⟨3, .chain⟩], none⟩
def rq5o6 : Oper := ⟨some 33, .binOp .add 9 (.tmp 30) (.tmp 32) 9, 9, "l10_request.go:380", #[⟨3, .data⟩, ⟨5, .data⟩], none⟩
def rq5o7 : Oper := ⟨some 34, .move (.tmp 0), 61, "l10_request.go:380", #[], none⟩
def rq5o8 : Oper := ⟨some 35, .move (.tmp 0), 61, "l10_request.go:380", #[], none⟩
def rq5o9 : Oper := ⟨some 36, .call { callee := .value (.func 36), args := #[.tmp 35, .const (.int .i64 6)], argTypes := #[61, 2] }, 2, "l10_request.go:380", #[⟨8, .data⟩, ⟨5, .chain⟩], none⟩
def rq5o10 : Oper := ⟨some 37, .call { callee := .value (.func 69), args := #[.tmp 34, .tmp 36], argTypes := #[61, 2] }, 9, "l10_request.go:380", #[⟨7, .data⟩, ⟨9, .data⟩, ⟨9, .chain⟩], none⟩
def rq5o11 : Oper := ⟨some 38, .build 66 #[(0, .tmp 33), (1, .tmp 37)], 66, "l10_request.go:380", #[⟨6, .data⟩, ⟨10, .data⟩], none⟩
def rq5o12 : Oper := ⟨some 39, .buildSlice 23 1 #[(0, .tmp 38)], 23, "l10_request.go:380", #[⟨11, .data⟩], none⟩
def rq5o13 : Oper := ⟨some 40, .call { callee := .builtin Builtin.append, args := #[.tmp 28, .tmp 39], argTypes := #[23, 23] }, 23, "l10_request.go:380", #[⟨1, .data⟩, ⟨12, .data⟩, ⟨10, .chain⟩], none⟩
def rq5o14 : Oper := ⟨some 41, .fieldAddr 25 (.tmp 3) 2, 0, "l10_request.go:380", #[⟨0, .phase⟩, ⟨1, .phase⟩, ⟨2, .phase⟩, ⟨3, .phase⟩, ⟨4, .phase⟩, ⟨5, .phase⟩, ⟨6, .phase⟩, ⟨7, .phase⟩, ⟨8, .phase⟩, ⟨9, .phase⟩, ⟨10, .phase⟩, ⟨11, .phase⟩, ⟨12, .phase⟩, ⟨13, .phase⟩], none⟩
def rq5o15 : Oper := ⟨none, .store 23 (.tmp 41) (.tmp 40), 0, "l10_request.go:380", #[⟨14, .data⟩, ⟨13, .data⟩, ⟨13, .chain⟩, ⟨0, .phase⟩, ⟨1, .phase⟩, ⟨2, .phase⟩, ⟨3, .phase⟩, ⟨4, .phase⟩, ⟨5, .phase⟩, ⟨6, .phase⟩, ⟨7, .phase⟩, ⟨8, .phase⟩, ⟨9, .phase⟩, ⟨10, .phase⟩, ⟨11, .phase⟩, ⟨12, .phase⟩, ⟨13, .phase⟩], none⟩
def rq5O : Array Oper := #[rq5o0, rq5o1, rq5o2, rq5o3, rq5o4, rq5o5, rq5o6, rq5o7, rq5o8, rq5o9, rq5o10, rq5o11, rq5o12, rq5o13, rq5o14, rq5o15]
structure rq5P where
 (W0 w0 : World)
 (c : Nat)
 (a : Option Addr)
 (len cap p XR XB B : Nat)
 (zr : Array Value)
 (y0 y1 y3 y4 : Value)
 (aL : Option Addr)
 (cL : Nat)
 (L : List Hp)
 (kk : Nat)
 (s1 s5 s6 s7 s8 s9 s10 s11 s12 s13 s14 s15 s16 s17 s18 s19 s20 s21 s22 s23 s24 s25 s26 s27 s28 s29 s30 s31 s32 s33 s34 s35 s36 s37 s38 s39 s40 s41 s42 s43 s44 s45 s46 s47 s48 s49 s50 s51 s52 s53 s54 s55 s56 s57 s58 s59 s60 s61 s62 s63 s64 s65 s66 s67 s68 s69 s70 s71 s72 : Value)
def rq5T (P : rq5P) (x3 : ByteArray) (x5 : ByteArray) (R9 : Nat) (x10 : ByteArray) (X12 : Nat) (G : Nat) (CP : Nat) (pp : Nat) (b0 b1 b2 b3 b4 b5 b6 b7 b8 b9 b10 b11 b12 b13 b14 b15 : Bool) : Array Value := #[.pointer (some ⟨P.c, 0, none⟩), P.s1, .pointer (some ⟨P.XR, 0, none⟩), .pointer (some ⟨P.XB, 0, none⟩), .int .i64 (P.kk : Int), P.s5, P.s6, P.s7, P.s8, P.s9, P.s10, P.s11, P.s12, P.s13, P.s14, P.s15, P.s16, P.s17, P.s18, P.s19, P.s20, P.s21, P.s22, P.s23, P.s24, P.s25, P.s26, sel b0 (.pointer (some ⟨P.XB, 2, none⟩)) (P.s27), sel b1 (.slice P.aL P.L.length P.cL) (P.s28), sel b2 (.pointer (some ⟨P.c, 0, none⟩)) (P.s29), sel b3 (.string x3) (P.s30), sel b4 (.int .i64 (P.kk : Int)) (P.s31), sel b5 (.string x5) (P.s32), sel b6 (.string (x3 ++ x5)) (P.s33), sel b7 (.pointer (some ⟨P.c, 0, none⟩)) (P.s34), sel b8 (.pointer (some ⟨P.c, 0, none⟩)) (P.s35), sel b9 (.int .i64 (R9 : Int)) (P.s36), sel b10 (.string x10) (P.s37), sel b11 (.agg #[.string (x3 ++ x5), .string x10]) (P.s38), sel b12 (.slice (some ⟨X12, 0, none⟩) 1 1) (P.s39), sel b13 (.slice (some ⟨G, 0, none⟩) (P.L.length + 1) CP) (P.s40), sel b14 (.pointer (some ⟨P.XB, 2, none⟩)) (P.s41), P.s42, P.s43, P.s44, P.s45, P.s46, P.s47, P.s48, P.s49, P.s50, P.s51, P.s52, P.s53, P.s54, P.s55, P.s56, P.s57, P.s58, P.s59, P.s60, P.s61, P.s62, P.s63, P.s64, P.s65, P.s66, P.s67, P.s68, P.s69, P.s70, P.s71, P.s72]
def rq5F (P : rq5P) (x3 : ByteArray) (x5 : ByteArray) (R9 : Nat) (x10 : ByteArray) (X12 : Nat) (G : Nat) (CP : Nat) (pp : Nat) (b0 b1 b2 b3 b4 b5 b6 b7 b8 b9 b10 b11 b12 b13 b14 b15 : Bool) (w : World) : Prop := (Src P.W0 w P.c P.a P.len P.cap pp) ∧ (pp ≤ P.p + 40 * (b3.toNat + b9.toNat + b10.toNat)) ∧ (P.w0.grownBy w (some P.c)) ∧ (RowAt w P.XB 25 (cond b15 #[P.y0, P.y1, .slice (some ⟨G, 0, none⟩) (P.L.length + 1) CP, P.y3, P.y4] #[P.y0, P.y1, .slice P.aL P.L.length P.cL, P.y3, P.y4])) ∧ (RowAt w P.XR 25 P.zr) ∧ (P.B ≤ w.heap.size) ∧ (P.c < P.XB ∧ P.c < P.B ∧ P.w0.heap.size ≤ P.B ∧ P.XR ≠ P.XB ∧ P.w0.heap.size ≤ P.XB ∧ P.W0.heap.size ≤ P.c ∧ P.p ≤ 900000 ∧ P.c ≠ P.XR) ∧ (b13 = false → OwnHp w P.B (.slice P.aL P.L.length P.cL) P.L) ∧ (b13 = true → OwnHp w P.B (.slice (some ⟨G, 0, none⟩) (P.L.length + 1) CP) (P.L ++ [(⟨(x3 ++ x5), x10⟩ : Hp)])) ∧ (P.L.length ≤ 1000) ∧ (P.kk < 50) ∧ (b3 = true → x3.size ≤ 6) ∧ (b5 = true → x5.size ≤ 2) ∧ (b9 = true → R9 < 6) ∧ (b10 = true → x10.size ≤ 6) ∧ (b12 = true → b13 = false → RowAt w X12 66 #[.string (x3 ++ x5), .string x10] ∧ P.B ≤ X12)
def rq5I (P : rq5P) (l : Array Bool) (f : Act) (w : World) : Prop :=
 ∃ (b0 b1 b2 b3 b4 b5 b6 b7 b8 b9 b10 b11 b12 b13 b14 b15 : Bool) (x3 : ByteArray) (x5 : ByteArray) (R9 : Nat) (x10 : ByteArray) (X12 : Nat) (G : Nat) (CP : Nat) (pp : Nat), l = #[b0, b1, b2, b3, b4, b5, b6, b7, b8, b9, b10, b11, b12, b13, b14, b15] ∧ f = { tmps := rq5T P x3 x5 R9 x10 X12 G CP pp b0 b1 b2 b3 b4 b5 b6 b7 b8 b9 b10 b11 b12 b13 b14 b15, defers := [] } ∧ rq5F P x3 x5 R9 x10 X12 G CP pp b0 b1 b2 b3 b4 b5 b6 b7 b8 b9 b10 b11 b12 b13 b14 b15 w
theorem rq5M {P : rq5P} {b0 b1 b2 b3 b4 b5 b6 b7 b8 b9 b10 b11 b12 b13 b14 b15 : Bool} (x3 : ByteArray) (x5 : ByteArray) (R9 : Nat) (x10 : ByteArray) (X12 : Nat) (G : Nat) (CP : Nat) (pp : Nat) {l : Array Bool} {f : Act} {w : World} (hl : l = #[b0, b1, b2, b3, b4, b5, b6, b7, b8, b9, b10, b11, b12, b13, b14, b15]) (hf : f = { tmps := rq5T P x3 x5 R9 x10 X12 G CP pp b0 b1 b2 b3 b4 b5 b6 b7 b8 b9 b10 b11 b12 b13 b14 b15, defers := [] }) (h : rq5F P x3 x5 R9 x10 X12 G CP pp b0 b1 b2 b3 b4 b5 b6 b7 b8 b9 b10 b11 b12 b13 b14 b15 w) : rq5I P l f w := ⟨b0, b1, b2, b3, b4, b5, b6, b7, b8, b9, b10, b11, b12, b13, b14, b15, x3, x5, R9, x10, X12, G, CP, pp, hl, hf, h⟩
set_option maxRecDepth 20000 in
set_option maxHeartbeats 20000000 in
theorem rq5_step {Q : Exit → Act → World → Prop} (P : rq5P) (l : Array Bool) (f : Act) (w : World) (hC : Closed rq5O l) (hI : rq5I P l f w) (i : Nat) (h0 : l.getD i true = false) (o : Oper) (ho : rq5O[i]? = some o) (h1 : ∀ e ∈ o.after, Region.binds .any e = true → l.getD e.on false = true) : wpOp Tryz.prog rq5O Q i (rq5I P (l.setIfInBounds i true)) f w := by
 obtain ⟨b0, b1, b2, b3, b4, b5, b6, b7, b8, b9, b10, b11, b12, b13, b14, b15, x3, x5, R9, x10, X12, G, CP, pp, rfl, rfl, hF⟩ := hI
 have hi : i < 16 := by
  rcases Nat.lt_or_ge i 16 with h | h
  · exact h
  · rw [show rq5O[i]? = none from Array.getElem?_eq_none h] at ho; cases ho
 rcases (by omega : i = 0 ∨ i = 1 ∨ i = 2 ∨ i = 3 ∨ i = 4 ∨ i = 5 ∨ i = 6 ∨ i = 7 ∨ i = 8 ∨ i = 9 ∨ i = 10 ∨ i = 11 ∨ i = 12 ∨ i = 13 ∨ i = 14 ∨ i = 15) with rfl | rfl | rfl | rfl | rfl | rfl | rfl | rfl | rfl | rfl | rfl | rfl | rfl | rfl | rfl | rfl
 · obtain rfl : rq5o0 = o := Option.some.inj ho
   obtain rfl : b0 = false := h0
   have hn := wayN_all hC (i := 0) rfl [(1, 0), (13, 1), (14, 0), (15, 0)] [] nk rfl; repeat (obtain ⟨rfl, hn⟩ := hn)
   obtain ⟨hS, hp, hg, hbox, hR, hBz, hst, ho1, ho2, hLn, hex, hx3, hx5, hR9, hx10, hX12⟩ := hF
   refine wpOp_step (o := rq5o0) rfl (fun K hK => ?_)
   replace hK := hid hK
   simp only [rq5o0, rq5T, sel_f]
   go_simp
   exact hK.out _ _ (rq5M x3 x5 R9 x10 X12 G CP pp rfl rfl ⟨hS, hp, hg, hbox, hR, hBz, hst, ho1, ho2, hLn, hex, hx3, hx5, hR9, hx10, hX12⟩)
 · obtain rfl : rq5o1 = o := Option.some.inj ho
   obtain rfl : b1 = false := h0
   have hn := wayP_all (o := rq5o1) hC h1 [(0, none)] [] nk rfl; repeat (obtain ⟨rfl, hn⟩ := hn)
   have hn := wayN_all hC (i := 1) rfl [(13, 1), (14, 1), (15, 1)] [] nk rfl; repeat (obtain ⟨rfl, hn⟩ := hn)
   obtain ⟨hS, hp, hg, hbox, hR, hBz, hst, ho1, ho2, hLn, hex, hx3, hx5, hR9, hx10, hX12⟩ := hF
   have q := hbox.cell 2
   refine wpOp_step (o := rq5o1) rfl (fun K hK => ?_)
   replace hK := hid hK
   simp only [rq5o1, rq5T, sel_t, sel_f]
   go_simp
   exact hK.out _ _ (rq5M x3 x5 R9 x10 X12 G CP pp rfl rfl ⟨hS, hp, hg, hbox, hR, hBz, hst, ho1, ho2, hLn, hex, hx3, hx5, hR9, hx10, hX12⟩)
 · obtain rfl : rq5o2 = o := Option.some.inj ho
   obtain rfl : b2 = false := h0
   have hn := wayN_all hC (i := 2) rfl [(3, 2), (5, 3), (6, 3), (9, 5), (10, 9), (11, 6), (12, 11), (13, 10), (14, 2), (15, 2)] [] nk rfl; repeat (obtain ⟨rfl, hn⟩ := hn)
   obtain ⟨hS, hp, hg, hbox, hR, hBz, hst, ho1, ho2, hLn, hex, hx3, hx5, hR9, hx10, hX12⟩ := hF
   simp only [Bool.toNat_false] at hp
   refine wpOp_step (o := rq5o2) rfl (fun K hK => ?_)
   replace hK := hid hK
   simp only [rq5o2, rq5T, sel_f]
   go_simp
   exact hK.out _ _ (rq5M x3 x5 R9 x10 X12 G CP pp rfl rfl ⟨hS, hp, hg, hbox, hR, hBz, hst, ho1, ho2, hLn, hex, hx3, hx5, hR9, hx10, hX12⟩)
 · obtain rfl : rq5o3 = o := Option.some.inj ho
   obtain rfl : b3 = false := h0
   have hn := wayP_all (o := rq5o3) hC h1 [(2, none)] [] nk rfl; repeat (obtain ⟨rfl, hn⟩ := hn)
   have hn := wayN_all hC (i := 3) rfl [(5, 3), (6, 3), (9, 5), (10, 9), (11, 6), (12, 11), (13, 10), (14, 3), (15, 3)] [] nk rfl; repeat (obtain ⟨rfl, hn⟩ := hn)
   obtain ⟨hS, hp, hg, hbox, hR, hBz, hst, ho1, ho2, hLn, hex, hx3, hx5, hR9, hx10, hX12⟩ := hF
   simp only [Bool.toNat_false] at hp
   have hcB : P.c < P.B := by omega
   refine wpOp_step (o := rq5o3) rfl (fun K hK => ?_)
   replace hK := hid hK
   simp only [rq5o3, rq5T, sel_t, sel_f]
   go_simp
   refine (word_all P.W0 _ P.c P.a P.len P.cap pp hS (by omega)).mono ?_
   rintro e w2 ⟨⟨t2, rfl, ht2⟩, ⟨p3, hs2, hp3⟩, hg2⟩
   dsimp only
   exact hK.out _ _ (rq5M t2 x5 R9 x10 X12 G CP p3 rfl rfl ⟨hs2, by show p3 ≤ P.p + 40 * (1 + 0 + 0); omega, grown_trans hg hg2, rowF hbox hg2 hst.1, rowF2 hR hg2 hst.2.2.2.2.2.2.2, Nat.le_trans hBz hg2.size, hst, fun h => OwnHp.keptC (ho1 h) hg2 (by omega), fun h => Bool.noConfusion h, hLn, hex, fun _ => ht2, hx5, hR9, hx10, fun h => Bool.noConfusion h⟩)
 · obtain rfl : rq5o4 = o := Option.some.inj ho
   obtain rfl : b4 = false := h0
   have hn := wayN_all hC (i := 4) rfl [(5, 4), (6, 5), (9, 5), (10, 9), (11, 6), (12, 11), (13, 10), (14, 4), (15, 4)] [] nk rfl; repeat (obtain ⟨rfl, hn⟩ := hn)
   obtain ⟨hS, hp, hg, hbox, hR, hBz, hst, ho1, ho2, hLn, hex, hx3, hx5, hR9, hx10, hX12⟩ := hF
   simp only [Bool.toNat_false] at hp
   refine wpOp_step (o := rq5o4) rfl (fun K hK => ?_)
   replace hK := hid hK
   simp only [rq5o4, rq5T, sel_f]
   go_simp
   exact hK.out _ _ (rq5M x3 x5 R9 x10 X12 G CP pp rfl rfl ⟨hS, hp, hg, hbox, hR, hBz, hst, ho1, ho2, hLn, hex, hx3, hx5, hR9, hx10, hX12⟩)
 · obtain rfl : rq5o5 = o := Option.some.inj ho
   obtain rfl : b5 = false := h0
   have hn := wayP_all (o := rq5o5) hC h1 [(4, none), (3, none), (2, some 3)] [] nk rfl; repeat (obtain ⟨rfl, hn⟩ := hn)
   have hn := wayN_all hC (i := 5) rfl [(6, 5), (9, 5), (10, 9), (11, 6), (12, 11), (13, 10), (14, 5), (15, 5)] [] nk rfl; repeat (obtain ⟨rfl, hn⟩ := hn)
   obtain ⟨hS, hp, hg, hbox, hR, hBz, hst, ho1, ho2, hLn, hex, hx3, hx5, hR9, hx10, hX12⟩ := hF
   simp only [Bool.toNat_true, Bool.toNat_false] at hp
   refine wpOp_step (o := rq5o5) rfl (fun K hK => ?_)
   replace hK := hid hK
   simp only [rq5o5, rq5T, sel_t, sel_f]
   go_simp
   refine (dec_all P.kk (by omega) _).mono ?_
   rintro e w2 ⟨⟨t2, rfl, ht2⟩, hb2⟩
   dsimp only
   exact hK.out _ _ (rq5M x3 t2 R9 x10 X12 G CP pp rfl rfl ⟨Src.belowD hS hb2, hp, grown_trans hg (below_grown hb2 _), RowAt.nxD hb2 hbox, RowAt.nxD hb2 hR, Nat.le_trans hBz hb2.size, hst, fun h => OwnHp.next hb2 (ho1 h), fun h => Bool.noConfusion h, hLn, hex, hx3, fun _ => ht2, hR9, hx10, fun h => Bool.noConfusion h⟩)
 · obtain rfl : rq5o6 = o := Option.some.inj ho
   obtain rfl : b6 = false := h0
   have hn := wayP_all (o := rq5o6) hC h1 [(5, none), (3, none), (4, some 5), (2, some 3)] [] nk rfl; repeat (obtain ⟨rfl, hn⟩ := hn)
   have hn := wayN_all hC (i := 6) rfl [(11, 6), (12, 11), (13, 12), (14, 6), (15, 6)] [] nk rfl; repeat (obtain ⟨rfl, hn⟩ := hn)
   obtain ⟨hS, hp, hg, hbox, hR, hBz, hst, ho1, ho2, hLn, hex, hx3, hx5, hR9, hx10, hX12⟩ := hF
   simp only [Bool.toNat_true] at hp
   have za := hx3 rfl
   have zb := hx5 rfl
   have z1 : ¬ 9223372036854775807 < x3.size + x5.size := by omega
   refine wpOp_step (o := rq5o6) rfl (fun K hK => ?_)
   replace hK := hid hK
   simp only [rq5o6, rq5T, sel_t, sel_f]
   go_simp
   exact hK.out _ _ (rq5M x3 x5 R9 x10 X12 G CP pp rfl rfl ⟨hS, hp, hg, hbox, hR, hBz, hst, ho1, ho2, hLn, hex, hx3, hx5, hR9, hx10, hX12⟩)
 · obtain rfl : rq5o7 = o := Option.some.inj ho
   obtain rfl : b7 = false := h0
   have hn := wayN_all hC (i := 7) rfl [(10, 7), (11, 10), (12, 11), (13, 10), (14, 7), (15, 7)] [] nk rfl; repeat (obtain ⟨rfl, hn⟩ := hn)
   obtain ⟨hS, hp, hg, hbox, hR, hBz, hst, ho1, ho2, hLn, hex, hx3, hx5, hR9, hx10, hX12⟩ := hF
   simp only [Bool.toNat_false] at hp
   refine wpOp_step (o := rq5o7) rfl (fun K hK => ?_)
   replace hK := hid hK
   simp only [rq5o7, rq5T, sel_f]
   go_simp
   exact hK.out _ _ (rq5M x3 x5 R9 x10 X12 G CP pp rfl rfl ⟨hS, hp, hg, hbox, hR, hBz, hst, ho1, ho2, hLn, hex, hx3, hx5, hR9, hx10, hX12⟩)
 · obtain rfl : rq5o8 = o := Option.some.inj ho
   obtain rfl : b8 = false := h0
   have hn := wayN_all hC (i := 8) rfl [(9, 8), (10, 9), (11, 10), (12, 11), (13, 10), (14, 8), (15, 8)] [] nk rfl; repeat (obtain ⟨rfl, hn⟩ := hn)
   obtain ⟨hS, hp, hg, hbox, hR, hBz, hst, ho1, ho2, hLn, hex, hx3, hx5, hR9, hx10, hX12⟩ := hF
   simp only [Bool.toNat_false] at hp
   refine wpOp_step (o := rq5o8) rfl (fun K hK => ?_)
   replace hK := hid hK
   simp only [rq5o8, rq5T, sel_f]
   go_simp
   exact hK.out _ _ (rq5M x3 x5 R9 x10 X12 G CP pp rfl rfl ⟨hS, hp, hg, hbox, hR, hBz, hst, ho1, ho2, hLn, hex, hx3, hx5, hR9, hx10, hX12⟩)
 · obtain rfl : rq5o9 = o := Option.some.inj ho
   obtain rfl : b9 = false := h0
   have hn := wayP_all (o := rq5o9) hC h1 [(8, none), (5, none), (3, some 5), (4, some 5), (2, some 3)] [] nk rfl; repeat (obtain ⟨rfl, hn⟩ := hn)
   have hn := wayN_all hC (i := 9) rfl [(10, 9), (11, 10), (12, 11), (13, 10), (14, 9), (15, 9)] [] nk rfl; repeat (obtain ⟨rfl, hn⟩ := hn)
   obtain ⟨hS, hp, hg, hbox, hR, hBz, hst, ho1, ho2, hLn, hex, hx3, hx5, hR9, hx10, hX12⟩ := hF
   simp only [Bool.toNat_true, Bool.toNat_false] at hp
   have hcB : P.c < P.B := by omega
   refine wpOp_step (o := rq5o9) rfl (fun K hK => ?_)
   replace hK := hid hK
   simp only [rq5o9, rq5T, sel_t, sel_f]
   go_simp
   refine (n_all P.W0 _ P.c P.a P.len P.cap pp 6 hS (by omega) (by omega) (by omega)).mono ?_
   rintro e w2 ⟨⟨r, rfl, h20, h21⟩, hs2, hg2⟩
   obtain ⟨R, rfl⟩ := Int.eq_ofNat_of_zero_le h20
   dsimp only
   exact hK.out _ _ (rq5M x3 x5 R x10 X12 G CP (pp + 1) rfl rfl ⟨hs2, by show pp + 1 ≤ P.p + 40 * (1 + 1 + 0); omega, grown_trans hg hg2, rowF hbox hg2 hst.1, rowF2 hR hg2 hst.2.2.2.2.2.2.2, Nat.le_trans hBz hg2.size, hst, fun h => OwnHp.keptC (ho1 h) hg2 (by omega), fun h => Bool.noConfusion h, hLn, hex, hx3, hx5, fun _ => by omega, hx10, fun h => Bool.noConfusion h⟩)
 · obtain rfl : rq5o10 = o := Option.some.inj ho
   obtain rfl : b10 = false := h0
   have hn := wayP_all (o := rq5o10) hC h1 [(9, none), (7, none), (5, some 9), (8, some 9), (3, some 5), (4, some 5), (2, some 3)] [] nk rfl; repeat (obtain ⟨rfl, hn⟩ := hn)
   have hn := wayN_all hC (i := 10) rfl [(11, 10), (12, 11), (13, 10), (14, 10), (15, 10)] [] nk rfl; repeat (obtain ⟨rfl, hn⟩ := hn)
   obtain ⟨hS, hp, hg, hbox, hR, hBz, hst, ho1, ho2, hLn, hex, hx3, hx5, hR9, hx10, hX12⟩ := hF
   simp only [Bool.toNat_true, Bool.toNat_false] at hp
   have hcB : P.c < P.B := by omega
   have r4 := hR9 rfl
   refine wpOp_step (o := rq5o10) rfl (fun K hK => ?_)
   replace hK := hid hK
   simp only [rq5o10, rq5T, sel_t, sel_f]
   go_simp
   refine (bytes_all P.W0 _ P.c P.a P.len P.cap pp R9 hS (by omega) (by omega)).mono ?_
   rintro e w2 ⟨⟨t2, rfl, ht2⟩, ⟨p3, hs2, hp3⟩, hg2⟩
   dsimp only
   exact hK.out _ _ (rq5M x3 x5 R9 t2 X12 G CP p3 rfl rfl ⟨hs2, by show p3 ≤ P.p + 40 * (1 + 1 + 1); omega, grown_trans hg hg2, rowF hbox hg2 hst.1, rowF2 hR hg2 hst.2.2.2.2.2.2.2, Nat.le_trans hBz hg2.size, hst, fun h => OwnHp.keptC (ho1 h) hg2 (by omega), fun h => Bool.noConfusion h, hLn, hex, hx3, hx5, hR9, fun _ => by omega, fun h => Bool.noConfusion h⟩)
 · obtain rfl : rq5o11 = o := Option.some.inj ho
   obtain rfl : b11 = false := h0
   have hn := wayP_all (o := rq5o11) hC h1 [(10, none), (6, none), (7, some 10), (9, some 10), (5, some 9), (8, some 9), (3, some 6), (4, some 5), (2, some 3)] [] nk rfl; repeat (obtain ⟨rfl, hn⟩ := hn)
   have hn := wayN_all hC (i := 11) rfl [(12, 11), (13, 12), (14, 11), (15, 11)] [] nk rfl; repeat (obtain ⟨rfl, hn⟩ := hn)
   obtain ⟨hS, hp, hg, hbox, hR, hBz, hst, ho1, ho2, hLn, hex, hx3, hx5, hR9, hx10, hX12⟩ := hF
   simp only [Bool.toNat_true] at hp
   refine wpOp_step (o := rq5o11) rfl (fun K hK => ?_)
   replace hK := hid hK
   simp only [rq5o11, rq5T, sel_t, sel_f]
   go_simp
   exact hK.out _ _ (rq5M x3 x5 R9 x10 X12 G CP pp rfl rfl ⟨hS, hp, hg, hbox, hR, hBz, hst, ho1, ho2, hLn, hex, hx3, hx5, hR9, hx10, hX12⟩)
 · obtain rfl : rq5o12 = o := Option.some.inj ho
   obtain rfl : b12 = false := h0
   have hn := wayP_all (o := rq5o12) hC h1 [(11, none), (6, some 11), (10, some 11), (7, some 10), (9, some 10), (5, some 9), (8, some 9), (3, some 6), (4, some 5), (2, some 3)] [] nk rfl; repeat (obtain ⟨rfl, hn⟩ := hn)
   have hn := wayN_all hC (i := 12) rfl [(13, 12), (14, 12), (15, 12)] [] nk rfl; repeat (obtain ⟨rfl, hn⟩ := hn)
   obtain ⟨hS, hp, hg, hbox, hR, hBz, hst, ho1, ho2, hLn, hex, hx3, hx5, hR9, hx10, hX12⟩ := hF
   simp only [Bool.toNat_true] at hp
   refine wpOp_step (o := rq5o12) rfl (fun K hK => ?_)
   replace hK := hid hK
   simp only [rq5o12, rq5T, sel_t, sel_f]
   go_simp
   exact hK.out _ _ (rq5M x3 x5 R9 x10 w.heap.size G CP pp rfl rfl ⟨hS.alloc _, hp, grown_al hg _, hbox.alloc _, hR.alloc _, by simp only [World.size_alloc]; omega, hst, fun h => World.ownsRow.alloc (ho1 h) _, fun h => Bool.noConfusion h, hLn, hex, hx3, hx5, hR9, hx10, fun _ _ => ⟨RowAt.new w _ _, hBz⟩⟩)
 · obtain rfl : rq5o13 = o := Option.some.inj ho
   obtain rfl : b13 = false := h0
   have hn := wayP_all (o := rq5o13) hC h1 [(12, none), (10, none), (1, none), (11, some 12), (6, some 11), (7, some 10), (9, some 10), (5, some 9), (8, some 9), (3, some 6), (4, some 5), (2, some 3), (0, some 1)] [] nk rfl; repeat (obtain ⟨rfl, hn⟩ := hn)
   have hn := wayN_all hC (i := 13) rfl [(14, 13), (15, 13)] [] nk rfl; repeat (obtain ⟨rfl, hn⟩ := hn)
   obtain ⟨hS, hp, hg, hbox, hR, hBz, hst, ho1, ho2, hLn, hex, hx3, hx5, hR9, hx10, hX12⟩ := hF
   simp only [Bool.toNat_true] at hp
   refine wpOp_step (o := rq5o13) rfl (fun K hK => ?_)
   replace hK := hid hK
   have hO := ho1 rfl
   refine step_append_hpD P.B _ (by rfl) _ _ 23 (by rfl) Tryz.underlying23 Tryz.infoHpF _ P.L (x3 ++ x5) x10 (by rfl) hO hBz X12 (hX12 rfl rfl).1 (by rfl) (by omega) ?_
   intro g3 c3 w3 hO3 hg3
   exact hK.out _ _ (rq5M x3 x5 R9 x10 X12 g3 c3 pp rfl rfl ⟨hS.far hg3 (OwnHp.apart hO (by omega)) (fun g hg => by have := (World.ownsRow.lt hO _ hg).1; omega), hp, grown_own hg hg3 (fun g hg => (World.ownsRow.lt hO _ hg).1) (by omega), row_grown hbox hg3 (OwnHp.neRow hO hbox (by decide)), row_grown hR hg3 (OwnHp.neRow hO hR (by decide)), Nat.le_trans hBz hg3.size, hst, fun h => Bool.noConfusion h, fun _ => hO3, hLn, hex, hx3, hx5, hR9, hx10, fun h e => Bool.noConfusion e⟩)
 · obtain rfl : rq5o14 = o := Option.some.inj ho
   obtain rfl : b14 = false := h0
   have hn := wayP_all (o := rq5o14) hC h1 [(13, none), (12, none), (11, none), (10, none), (9, none), (8, none), (7, none), (6, none), (5, none), (4, none), (3, none), (2, none), (1, none), (0, none)] [] nk rfl; repeat (obtain ⟨rfl, hn⟩ := hn)
   have hn := wayN_all hC (i := 14) rfl [(15, 14)] [] nk rfl; repeat (obtain ⟨rfl, hn⟩ := hn)
   obtain ⟨hS, hp, hg, hbox, hR, hBz, hst, ho1, ho2, hLn, hex, hx3, hx5, hR9, hx10, hX12⟩ := hF
   simp only [Bool.toNat_true] at hp
   refine wpOp_step (o := rq5o14) rfl (fun K hK => ?_)
   replace hK := hid hK
   simp only [rq5o14, rq5T, sel_t, sel_f]
   go_simp
   exact hK.out _ _ (rq5M x3 x5 R9 x10 X12 G CP pp rfl rfl ⟨hS, hp, hg, hbox, hR, hBz, hst, ho1, ho2, hLn, hex, hx3, hx5, hR9, hx10, hX12⟩)
 · obtain rfl : rq5o15 = o := Option.some.inj ho
   obtain rfl : b15 = false := h0
   have hn := wayP_all (o := rq5o15) hC h1 [(14, none), (13, none), (12, none), (11, none), (10, none), (9, none), (8, none), (7, none), (6, none), (5, none), (4, none), (3, none), (2, none), (1, none), (0, none)] [] nk rfl; repeat (obtain ⟨rfl, hn⟩ := hn)
   obtain ⟨hS, hp, hg, hbox, hR, hBz, hst, ho1, ho2, hLn, hex, hx3, hx5, hR9, hx10, hX12⟩ := hF
   simp only [Bool.toNat_true] at hp
   have hbx : RowAt w P.XB 25 #[P.y0, P.y1, .slice P.aL P.L.length P.cL, P.y3, P.y4] := hbox
   have q := hbx.cell 2
   have f := hbx.free 2
   refine wpOp_step (o := rq5o15) rfl (fun K hK => ?_)
   replace hK := hid hK
   simp only [rq5o15, rq5T, sel_t]
   go_simp
   exact hK.out _ _ (rq5M x3 x5 R9 x10 X12 G CP pp rfl rfl ⟨hS.set hst.1 2 _, hp, grown_far hg hst.2.2.2.2.1 2 _, hbx.set 2 _, hR.other ⟨P.XB, 2, none⟩ _ hst.2.2.2.1, by simp; omega, hst, fun h => Bool.noConfusion h, fun h => OwnHp.setCellN (ho2 h) (OwnHp.neRow (ho2 h) hbx (by decide)), hLn, hex, hx3, hx5, hR9, hx10, fun h e => Bool.noConfusion e⟩)
set_option maxRecDepth 20000 in
set_option maxHeartbeats 4000000 in
theorem rq5_wp {Q : Exit → Act → World → Prop} {rid : Nat} (W0 w0 : World) (c : Nat) (a : Option Addr) (len cap p XR XB B : Nat) (zr : Array Value) (y0 y1 y3 y4 : Value) (aL : Option Addr) (cL : Nat) (L : List Hp) (kk : Nat) {s1 s5 s6 s7 s8 s9 s10 s11 s12 s13 s14 s15 s16 s17 s18 s19 s20 s21 s22 s23 s24 s25 s26 s27 s28 s29 s30 s31 s32 s33 s34 s35 s36 s37 s38 s39 s40 s41 s42 s43 s44 s45 s46 s47 s48 s49 s50 s51 s52 s53 s54 s55 s56 s57 s58 s59 s60 s61 s62 s63 s64 s65 s66 s67 s68 s69 s70 s71 s72 : Value} (w : World) (hS : Src W0 w c a len cap p) (hg : w0.grownBy w (some c)) (hbox : RowAt w XB 25 #[y0, y1, .slice aL L.length cL, y3, y4]) (hR : RowAt w XR 25 zr) (hBz : B ≤ w.heap.size) (hst : c < XB ∧ c < B ∧ w0.heap.size ≤ B ∧ XR ≠ XB ∧ w0.heap.size ≤ XB ∧ W0.heap.size ≤ c ∧ p ≤ 900000 ∧ c ≠ XR) (ho1 : OwnHp w B (.slice aL L.length cL) L) (hLn : L.length ≤ 1000) (hex : kk < 50)
 (fin : ∀ (x3 : ByteArray) (x5 : ByteArray) (R9 : Nat) (x10 : ByteArray) (X12 : Nat) (G : Nat) (CP : Nat) (pp : Nat) (w' : World), (Src W0 w' c a len cap pp) → (pp ≤ p + 40 * (1 + 1 + 1)) → (w0.grownBy w' (some c)) → (RowAt w' XB 25 #[y0, y1, .slice (some ⟨G, 0, none⟩) (L.length + 1) CP, y3, y4]) → (RowAt w' XR 25 zr) → (B ≤ w'.heap.size) → (c < XB ∧ c < B ∧ w0.heap.size ≤ B ∧ XR ≠ XB ∧ w0.heap.size ≤ XB ∧ W0.heap.size ≤ c ∧ p ≤ 900000 ∧ c ≠ XR) → (OwnHp w' B (.slice (some ⟨G, 0, none⟩) (L.length + 1) CP) (L ++ [(⟨(x3 ++ x5), x10⟩ : Hp)])) → (L.length ≤ 1000) → (kk < 50) → (x3.size ≤ 6) → (x5.size ≤ 2) → (R9 < 6) → (x10.size ≤ 6) → Q .normal { tmps := #[.pointer (some ⟨c, 0, none⟩), s1, .pointer (some ⟨XR, 0, none⟩), .pointer (some ⟨XB, 0, none⟩), .int .i64 (kk : Int), s5, s6, s7, s8, s9, s10, s11, s12, s13, s14, s15, s16, s17, s18, s19, s20, s21, s22, s23, s24, s25, s26, .pointer (some ⟨XB, 2, none⟩), .slice aL L.length cL, .pointer (some ⟨c, 0, none⟩), .string x3, .int .i64 (kk : Int), .string x5, .string (x3 ++ x5), .pointer (some ⟨c, 0, none⟩), .pointer (some ⟨c, 0, none⟩), .int .i64 (R9 : Int), .string x10, .agg #[.string (x3 ++ x5), .string x10], .slice (some ⟨X12, 0, none⟩) 1 1, .slice (some ⟨G, 0, none⟩) (L.length + 1) CP, .pointer (some ⟨XB, 2, none⟩), s42, s43, s44, s45, s46, s47, s48, s49, s50, s51, s52, s53, s54, s55, s56, s57, s58, s59, s60, s61, s62, s63, s64, s65, s66, s67, s68, s69, s70, s71, s72], defers := [] } w') :
 (Code.region rid rq5O true).wp Tryz.prog Q { tmps := #[.pointer (some ⟨c, 0, none⟩), s1, .pointer (some ⟨XR, 0, none⟩), .pointer (some ⟨XB, 0, none⟩), .int .i64 (kk : Int), s5, s6, s7, s8, s9, s10, s11, s12, s13, s14, s15, s16, s17, s18, s19, s20, s21, s22, s23, s24, s25, s26, s27, s28, s29, s30, s31, s32, s33, s34, s35, s36, s37, s38, s39, s40, s41, s42, s43, s44, s45, s46, s47, s48, s49, s50, s51, s52, s53, s54, s55, s56, s57, s58, s59, s60, s61, s62, s63, s64, s65, s66, s67, s68, s69, s70, s71, s72], defers := [] } w := by
 refine wp_region_inv (ops := rq5O) (rq5I ⟨W0, w0, c, a, len, cap, p, XR, XB, B, zr, y0, y1, y3, y4, aL, cL, L, kk, s1, s5, s6, s7, s8, s9, s10, s11, s12, s13, s14, s15, s16, s17, s18, s19, s20, s21, s22, s23, s24, s25, s26, s27, s28, s29, s30, s31, s32, s33, s34, s35, s36, s37, s38, s39, s40, s41, s42, s43, s44, s45, s46, s47, s48, s49, s50, s51, s52, s53, s54, s55, s56, s57, s58, s59, s60, s61, s62, s63, s64, s65, s66, s67, s68, s69, s70, s71, s72⟩) (by kernel_rfl) (by kernel_rfl) (fun l f v hI => ?_) (fun l f v hC hI i h0 o ho h1 => rq5_step ⟨W0, w0, c, a, len, cap, p, XR, XB, B, zr, y0, y1, y3, y4, aL, cL, L, kk, s1, s5, s6, s7, s8, s9, s10, s11, s12, s13, s14, s15, s16, s17, s18, s19, s20, s21, s22, s23, s24, s25, s26, s27, s28, s29, s30, s31, s32, s33, s34, s35, s36, s37, s38, s39, s40, s41, s42, s43, s44, s45, s46, s47, s48, s49, s50, s51, s52, s53, s54, s55, s56, s57, s58, s59, s60, s61, s62, s63, s64, s65, s66, s67, s68, s69, s70, s71, s72⟩ l f v hC hI i h0 o ho h1) (fun l f v hI hall => ?_) ?_
 · obtain ⟨_, _, _, _, _, _, _, _, _, _, _, _, _, _, _, _, _, _, _, _, _, _, _, _, rfl, _⟩ := hI; rfl
 · obtain ⟨b0, b1, b2, b3, b4, b5, b6, b7, b8, b9, b10, b11, b12, b13, b14, b15, x3, x5, R9, x10, X12, G, CP, pp, rfl, rfl, hS, hp, hg, hbox, hR, hBz, hst, ho1, ho2, hLn, hex, hx3, hx5, hR9, hx10, hX12⟩ := hI
   have hn := allT hall [0, 1, 2, 3, 4, 5, 6, 7, 8, 9, 10, 11, 12, 13, 14, 15] rfl; repeat (obtain ⟨rfl, hn⟩ := hn)
   exact fin x3 x5 R9 x10 X12 G CP pp v hS hp hg hbox hR hBz hst (ho2 rfl) hLn hex (hx3 rfl) (hx5 rfl) (hR9 rfl) (hx10 rfl)
 · exact ⟨false, false, false, false, false, false, false, false, false, false, false, false, false, false, false, false, ⟨#[]⟩, ⟨#[]⟩, 0, ⟨#[]⟩, 0, 0, 0, p, rfl, rfl, hS.drew, Nat.le_add_right _ _, grown_trans hg (grown_drewS _ _), hbox.drew, hR.drew, hBz, hst, fun _ => World.ownsRow.drew ho1, fun h => Bool.noConfusion h, hLn, hex, fun h => Bool.noConfusion h, fun h => Bool.noConfusion h, fun h => Bool.noConfusion h, fun h => Bool.noConfusion h, fun h => Bool.noConfusion h⟩
end Go.Proofs.YtkcjigelenofhaaGreatDoor
