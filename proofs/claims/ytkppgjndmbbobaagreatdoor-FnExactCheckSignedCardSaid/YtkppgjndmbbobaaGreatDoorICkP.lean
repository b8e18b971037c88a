import Derived.Test.YtkppgjndmbbobaaGreatDoorG15
import Derived.Test.YtkppgjndmbbobaaGreatDoorG8
namespace Go.Proofs.YtkppgjndmbbobaaGreatDoor
open Go.RowKit
set_option linter.unusedVariables false
/-! partSigned's last region (by genckp.py). -/
def pao0 : Oper := { dst := some 63, op := Op.load 25 (Operand.tmp 1), type := 25, pos := "l10_request.go:479", after := #[], guard := none }
def pao1 : Oper := { dst := some 64, op := Op.load 72 (Operand.tmp 3), type := 72, pos := "l10_request.go:479", after := #[{ on := 16, ground := Ground.gcOnly Departure.lateStores }], guard := none }
def pao2 : Oper := { dst := some 65, op := Op.move (Operand.tmp 4), type := 2, pos := "l10_request.go:479", after := #[{ on := 17, ground := Ground.gcOnly Departure.lateStores }], guard := none }
def pao3 : Oper := { dst := some 66, op := Op.load 72 (Operand.tmp 3), type := 72, pos := "l10_request.go:479", after := #[], guard := none }
def pao4 : Oper := { dst := some 67, op := Op.move (Operand.tmp 6), type := 23, pos := "l10_request.go:479", after := #[], guard := none }
def pao5 : Oper := { dst := some 68, op := Op.fieldAddr 25 (Operand.tmp 1) 3, type := 0, pos := "l10_request.go:479", after := #[], guard := none }
def pao6 : Oper := { dst := some 69, op := Op.load 23 (Operand.tmp 68), type := 23, pos := "l10_request.go:479", after := #[{ on := 5, ground := Ground.data }], guard := none }
def pao7 : Oper := { dst := some 70, op := Op.call { callee := Callee.value (Operand.func 39), args := #[Operand.tmp 66, Operand.tmp 67, Operand.tmp 69], argTypes := #[72, 23, 23] }, type := 4, pos := "l10_request.go:479", after := #[{ on := 3, ground := Ground.data }, { on := 4, ground := Ground.data }, { on := 6, ground := Ground.data }], guard := none }
def pao8 : Oper := { dst := some 71, op := Op.move (Operand.tmp 70), type := 4, pos := "l10_request.go:479", after := #[{ on := 7, ground := Ground.data }, { on := 7, ground := Ground.chain }], guard := none }
def pao9 : Oper := { dst := some 72, op := Op.move (Operand.tmp 4), type := 2, pos := "l10_request.go:479", after := #[{ on := 8, ground := Ground.guard }], guard := some (8, true) }
def pao10 : Oper := { dst := some 73, op := Op.binOp BinOp.geq 2 (Operand.tmp 72) (Operand.const (Value.int IntKind.i64 0)) 2, type := 4, pos := "l10_request.go:479", after := #[{ on := 9, ground := Ground.data }, { on := 8, ground := Ground.guard }], guard := some (8, true) }
def pao11 : Oper := { dst := some 74, op := Op.pick (Operand.tmp 71) (Operand.tmp 73) (Operand.const (Value.bool false)), type := 4, pos := "l10_request.go:479", after := #[{ on := 8, ground := Ground.data }, { on := 10, ground := Ground.data }], guard := none }
def pao12 : Oper := { dst := some 75, op := Op.move (Operand.tmp 74), type := 4, pos := "l10_request.go:479", after := #[{ on := 11, ground := Ground.data }, { on := 8, ground := Ground.chain }], guard := none }
def pao13 : Oper := { dst := some 76, op := Op.move (Operand.tmp 4), type := 2, pos := "l10_request.go:479", after := #[{ on := 12, ground := Ground.guard }], guard := some (12, true) }
def pao14 : Oper := { dst := some 77, op := Op.binOp BinOp.lss 2 (Operand.tmp 76) (Operand.const (Value.int IntKind.i64 2147483647)) 2, type := 4, pos := "l10_request.go:479", after := #[{ on := 13, ground := Ground.data }, { on := 12, ground := Ground.guard }, { on := 18, ground := Ground.gcOnly Departure.lateStores }], guard := some (12, true) }
def pao15 : Oper := { dst := some 78, op := Op.pick (Operand.tmp 75) (Operand.tmp 77) (Operand.const (Value.bool false)), type := 4, pos := "l10_request.go:479", after := #[{ on := 12, ground := Ground.data }, { on := 14, ground := Ground.data }, { on := 18, ground := Ground.gcOnly Departure.lateStores }], guard := none }
def pao16 : Oper := { dst := none, op := Op.store 25 (Operand.tmp 2) (Operand.tmp 63), type := 0, pos := "l10_request.go:479", after := #[{ on := 0, ground := Ground.data }, { on := 12, ground := Ground.chain }, { on := 0, ground := Ground.phase }, { on := 1, ground := Ground.textOnly Departure.lateStores }, { on := 2, ground := Ground.textOnly Departure.lateStores }, { on := 3, ground := Ground.phase }, { on := 4, ground := Ground.textOnly Departure.lateStores }, { on := 5, ground := Ground.textOnly Departure.lateStores }, { on := 6, ground := Ground.textOnly Departure.lateStores }, { on := 7, ground := Ground.textOnly Departure.lateStoresUnsure }, { on := 8, ground := Ground.textOnly Departure.lateStores }, { on := 9, ground := Ground.phase }, { on := 10, ground := Ground.textOnly Departure.lateStores }, { on := 11, ground := Ground.textOnly Departure.lateStores }, { on := 12, ground := Ground.textOnly Departure.lateStores }, { on := 13, ground := Ground.phase }, { on := 14, ground := Ground.textOnly Departure.lateStores }, { on := 15, ground := Ground.textOnly Departure.lateStores }], guard := none }
def pao17 : Oper := { dst := none, op := Op.store 72 (Operand.tmp 3) (Operand.tmp 64), type := 0, pos := "l10_request.go:479", after := #[{ on := 1, ground := Ground.data }, { on := 16, ground := Ground.chain }, { on := 0, ground := Ground.phase }, { on := 1, ground := Ground.phase }, { on := 2, ground := Ground.textOnly Departure.lateStores }, { on := 3, ground := Ground.phase }, { on := 4, ground := Ground.textOnly Departure.lateStores }, { on := 5, ground := Ground.textOnly Departure.lateStores }, { on := 6, ground := Ground.textOnly Departure.lateStores }, { on := 7, ground := Ground.textOnly Departure.lateStoresUnsure }, { on := 8, ground := Ground.textOnly Departure.lateStores }, { on := 9, ground := Ground.phase }, { on := 10, ground := Ground.textOnly Departure.lateStores }, { on := 11, ground := Ground.textOnly Departure.lateStores }, { on := 12, ground := Ground.textOnly Departure.lateStores }, { on := 13, ground := Ground.phase }, { on := 14, ground := Ground.textOnly Departure.lateStores }, { on := 15, ground := Ground.textOnly Departure.lateStores }, { on := 16, ground := Ground.phase }], guard := none }
def pao18 : Oper := { dst := some 4, op := Op.assign (Operand.tmp 65), type := 2, pos := "l10_request.go:479", after := #[{ on := 2, ground := Ground.data }, { on := 17, ground := Ground.chain }, { on := 0, ground := Ground.phase }, { on := 1, ground := Ground.phase }, { on := 2, ground := Ground.phase }, { on := 3, ground := Ground.phase }, { on := 4, ground := Ground.textOnly Departure.lateStores }, { on := 5, ground := Ground.textOnly Departure.lateStores }, { on := 6, ground := Ground.textOnly Departure.lateStores }, { on := 7, ground := Ground.textOnly Departure.lateStoresUnsure }, { on := 8, ground := Ground.textOnly Departure.lateStores }, { on := 9, ground := Ground.phase }, { on := 10, ground := Ground.textOnly Departure.lateStores }, { on := 11, ground := Ground.textOnly Departure.lateStores }, { on := 12, ground := Ground.textOnly Departure.lateStores }, { on := 13, ground := Ground.phase }, { on := 14, ground := Ground.textOnly Departure.lateStores }, { on := 15, ground := Ground.textOnly Departure.lateStores }, { on := 16, ground := Ground.phase }, { on := 17, ground := Ground.phase }], guard := none }
def pao19 : Oper := { dst := some 5, op := Op.assign (Operand.tmp 78), type := 4, pos := "l10_request.go:479", after := #[{ on := 15, ground := Ground.data }, { on := 18, ground := Ground.chain }, { on := 0, ground := Ground.phase }, { on := 1, ground := Ground.phase }, { on := 2, ground := Ground.phase }, { on := 3, ground := Ground.phase }, { on := 4, ground := Ground.phase }, { on := 5, ground := Ground.phase }, { on := 6, ground := Ground.phase }, { on := 7, ground := Ground.phase }, { on := 8, ground := Ground.phase }, { on := 9, ground := Ground.phase }, { on := 10, ground := Ground.phase }, { on := 11, ground := Ground.phase }, { on := 12, ground := Ground.phase }, { on := 13, ground := Ground.phase }, { on := 14, ground := Ground.phase }, { on := 15, ground := Ground.phase }, { on := 16, ground := Ground.phase }, { on := 17, ground := Ground.phase }, { on := 18, ground := Ground.phase }], guard := none }
def paO : Array Oper := #[pao0, pao1, pao2, pao3, pao4, pao5, pao6, pao7, pao8, pao9, pao10, pao11, pao12, pao13, pao14, pao15, pao16, pao17, pao18, pao19]
def paT (w0 : World) (X1 X2 X3 nn : Nat) (mt pt bd V0 : ByteArray) (aq : Option Addr) (nq cq : Nat) (a2 : Option Addr) (n2 c2 : Nat) (z1 z2 z4 : Int) (sA : Option Addr) (mc : Nat) (L : List ByteArray) (sa sf si sj sk sm sn so sp sq sr ss su sv sw sx sy sz ta tb tc td te tf tg th ti tj tk tl tm tn tp tr ts tt tu tv tw tx ty tz ua ub uc ud ue uf ug uh ui uj uk ul um un uo up uq ur us ut uu uv uw ux uy uz ya yb yc yd ye yf : Value) (dm : Nat) (b0 b1 b2 b3 b4 b5 b6 b7 b8 b9 b10 b11 b12 b13 b14 b15 b16 b17 b18 b19 : Bool) : Array Value := #[sa, .pointer (some ⟨X1, 0, none⟩), .pointer (some ⟨X2, 0, none⟩), .pointer (some ⟨X3, 0, none⟩), selS b18 (.int .i64 z4) (.int .i64 z4), selS b19 (.bool false) (sf), .slice aq nn cq, si, sj, sk, sm, sn, so, sp, sq, sr, ss, su, sv, sw, sx, sy, sz, ta, tb, tc, td, te, tf, tg, th, ti, tj, tk, tl, tm, tn, tp, tr, ts, tt, tu, tv, tw, tx, ty, tz, ua, ub, uc, ud, ue, uf, ug, uh, ui, uj, uk, ul, um, un, uo, up, selS b0 (.agg #[.string mt, .string pt, .slice aq nq cq, .slice a2 n2 c2, .string bd]) (uq), selS b1 (.agg #[.string V0, .int .i64 z1, .int .i64 z2, .slice sA L.length mc]) (ur), selS b2 (.int .i64 z4) (us), selS b3 (.agg #[.string V0, .int .i64 z1, .int .i64 z2, .slice sA L.length mc]) (ut), selS b4 (.slice aq nn cq) (uu), selS b5 (.pointer (some ⟨X1, 3, none⟩)) (uv), selS b6 (.slice a2 n2 c2) (uw), selS b7 (.bool false) (ux), selS b8 (.bool false) (uy), selS b9 (undef) (uz), selS b10 (undef) (ya), selS b11 (.bool false) (yb), selS b12 (.bool false) (yc), selS b13 (undef) (yd), selS b14 (undef) (ye), selS b15 (.bool false) (yf)]
def paI (w0 : World) (X1 X2 X3 nn : Nat) (mt pt bd V0 : ByteArray) (aq : Option Addr) (nq cq : Nat) (a2 : Option Addr) (n2 c2 : Nat) (z1 z2 z4 : Int) (sA : Option Addr) (mc : Nat) (L : List ByteArray) (sa sf si sj sk sm sn so sp sq sr ss su sv sw sx sy sz ta tb tc td te tf tg th ti tj tk tl tm tn tp tr ts tt tu tv tw tx ty tz ua ub uc ud ue uf ug uh ui uj uk ul um un uo up uq ur us ut uu uv uw ux uy uz ya yb yc yd ye yf : Value) (l : Array Bool) (f : Act) (w : World) : Prop :=
  ∃ (b0 b1 b2 b3 b4 b5 b6 b7 b8 b9 b10 b11 b12 b13 b14 b15 b16 b17 b18 b19 : Bool) (dm : Nat), l = #[b0, b1, b2, b3, b4, b5, b6, b7, b8, b9, b10, b11, b12, b13, b14, b15, b16, b17, b18, b19] ∧ f = { tmps := paT w0 X1 X2 X3 nn mt pt bd V0 aq nq cq a2 n2 c2 z1 z2 z4 sA mc L sa sf si sj sk sm sn so sp sq sr ss su sv sw sx sy sz ta tb tc td te tf tg th ti tj tk tl tm tn tp tr ts tt tu tv tw tx ty tz ua ub uc ud ue uf ug uh ui uj uk ul um un uo up uq ur us ut uu uv uw ux uy uz ya yb yc yd ye yf dm b0 b1 b2 b3 b4 b5 b6 b7 b8 b9 b10 b11 b12 b13 b14 b15 b16 b17 b18 b19, defers := [] } ∧ (Below w0.heap.size w0 w) ∧ (RowAt w X1 25 #[.string mt, .string pt, .slice aq nq cq, .slice a2 n2 c2, .string bd]) ∧ (RowAt w X2 25 (cond b16 #[.string mt, .string pt, .slice aq nq cq, .slice a2 n2 c2, .string bd] #[.string ⟨#[]⟩, .string ⟨#[]⟩, .slice none 0 0, .slice none 0 0, .string ⟨#[]⟩])) ∧ (RowAt w X3 72 #[.string V0, .int .i64 z1, .int .i64 z2, .slice sA L.length mc]) ∧ (SgAt w sA mc L)
section
variable {Q : Exit → Act → World → Prop} (w0 : World) (X1 X2 X3 nn : Nat) (mt pt bd V0 : ByteArray) (aq : Option Addr) (nq cq : Nat) (a2 : Option Addr) (n2 c2 : Nat) (z1 z2 z4 : Int) (sA : Option Addr) (mc : Nat) (L : List ByteArray) (sa sf si sj sk sm sn so sp sq sr ss su sv sw sx sy sz ta tb tc td te tf tg th ti tj tk tl tm tn tp tr ts tt tu tv tw tx ty tz ua ub uc ud ue uf ug uh ui uj uk ul um un uo up uq ur us ut uu uv uw ux uy uz ya yb yc yd ye yf : Value)
set_option maxRecDepth 20000 in
set_option maxHeartbeats 1000000 in
theorem pa_s0 (b1 b2 b3 b4 b5 b6 b7 b8 b9 b10 b11 b12 b13 b14 b15 : Bool) (dm : Nat) (w : World) (hst : w0.heap.size ≤ X1 ∧ w0.heap.size ≤ X2 ∧ w0.heap.size ≤ X3 ∧ X1 ≠ X2 ∧ X1 ≠ X3 ∧ X2 ≠ X3) (hB : Below w0.heap.size w0 w) (hx1 : RowAt w X1 25 #[.string mt, .string pt, .slice aq nq cq, .slice a2 n2 c2, .string bd]) (hx2 : RowAt w X2 25 (cond false #[.string mt, .string pt, .slice aq nq cq, .slice a2 n2 c2, .string bd] #[.string ⟨#[]⟩, .string ⟨#[]⟩, .slice none 0 0, .slice none 0 0, .string ⟨#[]⟩])) (hx3 : RowAt w X3 72 #[.string V0, .int .i64 z1, .int .i64 z2, .slice sA L.length mc]) (hsg : SgAt w sA mc L) :
    wpOp Tryz.prog paO Q 0 (paI w0 X1 X2 X3 nn mt pt bd V0 aq nq cq a2 n2 c2 z1 z2 z4 sA mc L sa sf si sj sk sm sn so sp sq sr ss su sv sw sx sy sz ta tb tc td te tf tg th ti tj tk tl tm tn tp tr ts tt tu tv tw tx ty tz ua ub uc ud ue uf ug uh ui uj uk ul um un uo up uq ur us ut uu uv uw ux uy uz ya yb yc yd ye yf #[true, b1, b2, b3, b4, b5, b6, b7, b8, b9, b10, b11, b12, b13, b14, b15, false, false, false, false]) { tmps := paT w0 X1 X2 X3 nn mt pt bd V0 aq nq cq a2 n2 c2 z1 z2 z4 sA mc L sa sf si sj sk sm sn so sp sq sr ss su sv sw sx sy sz ta tb tc td te tf tg th ti tj tk tl tm tn tp tr ts tt tu tv tw tx ty tz ua ub uc ud ue uf ug uh ui uj uk ul um un uo up uq ur us ut uu uv uw ux uy uz ya yb yc yd ye yf dm false b1 b2 b3 b4 b5 b6 b7 b8 b9 b10 b11 b12 b13 b14 b15 false false false false, defers := [] } w := by
  have q0 := hx1.cell 0
  have q1 := hx1.cell 1
  have q2 := hx1.cell 2
  have q3 := hx1.cell 3
  have q4 := hx1.cell 4
  refine wpOp_step (o := pao0) rfl (fun K hK => ?_)
  replace hK := hid hK
  simp only [pao0, paT, selS_f]
  go_simp
  exact hK.out _ _ ⟨true, b1, b2, b3, b4, b5, b6, b7, b8, b9, b10, b11, b12, b13, b14, b15, false, false, false, false, dm, rfl, rfl, hB, hx1, hx2, hx3, hsg⟩
set_option maxRecDepth 20000 in
set_option maxHeartbeats 1000000 in
theorem pa_s1 (b0 b2 b3 b4 b5 b6 b7 b8 b9 b10 b11 b12 b13 b14 b15 b16 : Bool) (dm : Nat) (w : World) (hst : w0.heap.size ≤ X1 ∧ w0.heap.size ≤ X2 ∧ w0.heap.size ≤ X3 ∧ X1 ≠ X2 ∧ X1 ≠ X3 ∧ X2 ≠ X3) (hB : Below w0.heap.size w0 w) (hx1 : RowAt w X1 25 #[.string mt, .string pt, .slice aq nq cq, .slice a2 n2 c2, .string bd]) (hx2 : RowAt w X2 25 (cond b16 #[.string mt, .string pt, .slice aq nq cq, .slice a2 n2 c2, .string bd] #[.string ⟨#[]⟩, .string ⟨#[]⟩, .slice none 0 0, .slice none 0 0, .string ⟨#[]⟩])) (hx3 : RowAt w X3 72 #[.string V0, .int .i64 z1, .int .i64 z2, .slice sA L.length mc]) (hsg : SgAt w sA mc L) :
    wpOp Tryz.prog paO Q 1 (paI w0 X1 X2 X3 nn mt pt bd V0 aq nq cq a2 n2 c2 z1 z2 z4 sA mc L sa sf si sj sk sm sn so sp sq sr ss su sv sw sx sy sz ta tb tc td te tf tg th ti tj tk tl tm tn tp tr ts tt tu tv tw tx ty tz ua ub uc ud ue uf ug uh ui uj uk ul um un uo up uq ur us ut uu uv uw ux uy uz ya yb yc yd ye yf #[b0, true, b2, b3, b4, b5, b6, b7, b8, b9, b10, b11, b12, b13, b14, b15, b16, false, false, false]) { tmps := paT w0 X1 X2 X3 nn mt pt bd V0 aq nq cq a2 n2 c2 z1 z2 z4 sA mc L sa sf si sj sk sm sn so sp sq sr ss su sv sw sx sy sz ta tb tc td te tf tg th ti tj tk tl tm tn tp tr ts tt tu tv tw tx ty tz ua ub uc ud ue uf ug uh ui uj uk ul um un uo up uq ur us ut uu uv uw ux uy uz ya yb yc yd ye yf dm b0 false b2 b3 b4 b5 b6 b7 b8 b9 b10 b11 b12 b13 b14 b15 b16 false false false, defers := [] } w := by
  have q0 := hx3.cell 0
  have q1 := hx3.cell 1
  have q2 := hx3.cell 2
  have q3 := hx3.cell 3
  refine wpOp_step (o := pao1) rfl (fun K hK => ?_)
  replace hK := hid hK
  simp only [pao1, paT, selS_f]
  go_simp
  exact hK.out _ _ ⟨b0, true, b2, b3, b4, b5, b6, b7, b8, b9, b10, b11, b12, b13, b14, b15, b16, false, false, false, dm, rfl, rfl, hB, hx1, hx2, hx3, hsg⟩
set_option maxRecDepth 20000 in
set_option maxHeartbeats 1000000 in
theorem pa_s2 (b0 b1 b3 b4 b5 b6 b7 b8 b9 b10 b11 b12 b13 b14 b15 b16 b17 : Bool) (dm : Nat) (w : World) (hst : w0.heap.size ≤ X1 ∧ w0.heap.size ≤ X2 ∧ w0.heap.size ≤ X3 ∧ X1 ≠ X2 ∧ X1 ≠ X3 ∧ X2 ≠ X3) (hB : Below w0.heap.size w0 w) (hx1 : RowAt w X1 25 #[.string mt, .string pt, .slice aq nq cq, .slice a2 n2 c2, .string bd]) (hx2 : RowAt w X2 25 (cond b16 #[.string mt, .string pt, .slice aq nq cq, .slice a2 n2 c2, .string bd] #[.string ⟨#[]⟩, .string ⟨#[]⟩, .slice none 0 0, .slice none 0 0, .string ⟨#[]⟩])) (hx3 : RowAt w X3 72 #[.string V0, .int .i64 z1, .int .i64 z2, .slice sA L.length mc]) (hsg : SgAt w sA mc L) :
    wpOp Tryz.prog paO Q 2 (paI w0 X1 X2 X3 nn mt pt bd V0 aq nq cq a2 n2 c2 z1 z2 z4 sA mc L sa sf si sj sk sm sn so sp sq sr ss su sv sw sx sy sz ta tb tc td te tf tg th ti tj tk tl tm tn tp tr ts tt tu tv tw tx ty tz ua ub uc ud ue uf ug uh ui uj uk ul um un uo up uq ur us ut uu uv uw ux uy uz ya yb yc yd ye yf #[b0, b1, true, b3, b4, b5, b6, b7, b8, b9, b10, b11, b12, b13, b14, b15, b16, b17, false, false]) { tmps := paT w0 X1 X2 X3 nn mt pt bd V0 aq nq cq a2 n2 c2 z1 z2 z4 sA mc L sa sf si sj sk sm sn so sp sq sr ss su sv sw sx sy sz ta tb tc td te tf tg th ti tj tk tl tm tn tp tr ts tt tu tv tw tx ty tz ua ub uc ud ue uf ug uh ui uj uk ul um un uo up uq ur us ut uu uv uw ux uy uz ya yb yc yd ye yf dm b0 b1 false b3 b4 b5 b6 b7 b8 b9 b10 b11 b12 b13 b14 b15 b16 b17 false false, defers := [] } w := by
  refine wpOp_step (o := pao2) rfl (fun K hK => ?_)
  replace hK := hid hK
  simp only [pao2, paT, selS_f]
  go_simp
  exact hK.out _ _ ⟨b0, b1, true, b3, b4, b5, b6, b7, b8, b9, b10, b11, b12, b13, b14, b15, b16, b17, false, false, dm, rfl, rfl, hB, hx1, hx2, hx3, hsg⟩
set_option maxRecDepth 20000 in
set_option maxHeartbeats 1000000 in
theorem pa_s3 (b0 b1 b2 b4 b5 b6 : Bool) (dm : Nat) (w : World) (hst : w0.heap.size ≤ X1 ∧ w0.heap.size ≤ X2 ∧ w0.heap.size ≤ X3 ∧ X1 ≠ X2 ∧ X1 ≠ X3 ∧ X2 ≠ X3) (hB : Below w0.heap.size w0 w) (hx1 : RowAt w X1 25 #[.string mt, .string pt, .slice aq nq cq, .slice a2 n2 c2, .string bd]) (hx2 : RowAt w X2 25 (cond false #[.string mt, .string pt, .slice aq nq cq, .slice a2 n2 c2, .string bd] #[.string ⟨#[]⟩, .string ⟨#[]⟩, .slice none 0 0, .slice none 0 0, .string ⟨#[]⟩])) (hx3 : RowAt w X3 72 #[.string V0, .int .i64 z1, .int .i64 z2, .slice sA L.length mc]) (hsg : SgAt w sA mc L) :
    wpOp Tryz.prog paO Q 3 (paI w0 X1 X2 X3 nn mt pt bd V0 aq nq cq a2 n2 c2 z1 z2 z4 sA mc L sa sf si sj sk sm sn so sp sq sr ss su sv sw sx sy sz ta tb tc td te tf tg th ti tj tk tl tm tn tp tr ts tt tu tv tw tx ty tz ua ub uc ud ue uf ug uh ui uj uk ul um un uo up uq ur us ut uu uv uw ux uy uz ya yb yc yd ye yf #[b0, b1, b2, true, b4, b5, b6, false, false, false, false, false, false, false, false, false, false, false, false, false]) { tmps := paT w0 X1 X2 X3 nn mt pt bd V0 aq nq cq a2 n2 c2 z1 z2 z4 sA mc L sa sf si sj sk sm sn so sp sq sr ss su sv sw sx sy sz ta tb tc td te tf tg th ti tj tk tl tm tn tp tr ts tt tu tv tw tx ty tz ua ub uc ud ue uf ug uh ui uj uk ul um un uo up uq ur us ut uu uv uw ux uy uz ya yb yc yd ye yf dm b0 b1 b2 false b4 b5 b6 false false false false false false false false false false false false false, defers := [] } w := by
  have q0 := hx3.cell 0
  have q1 := hx3.cell 1
  have q2 := hx3.cell 2
  have q3 := hx3.cell 3
  refine wpOp_step (o := pao3) rfl (fun K hK => ?_)
  replace hK := hid hK
  simp only [pao3, paT, selS_f]
  go_simp
  exact hK.out _ _ ⟨b0, b1, b2, true, b4, b5, b6, false, false, false, false, false, false, false, false, false, false, false, false, false, dm, rfl, rfl, hB, hx1, hx2, hx3, hsg⟩
set_option maxRecDepth 20000 in
set_option maxHeartbeats 1000000 in
theorem pa_s4 (b0 b1 b2 b3 b5 b6 : Bool) (dm : Nat) (w : World) (hst : w0.heap.size ≤ X1 ∧ w0.heap.size ≤ X2 ∧ w0.heap.size ≤ X3 ∧ X1 ≠ X2 ∧ X1 ≠ X3 ∧ X2 ≠ X3) (hB : Below w0.heap.size w0 w) (hx1 : RowAt w X1 25 #[.string mt, .string pt, .slice aq nq cq, .slice a2 n2 c2, .string bd]) (hx2 : RowAt w X2 25 (cond false #[.string mt, .string pt, .slice aq nq cq, .slice a2 n2 c2, .string bd] #[.string ⟨#[]⟩, .string ⟨#[]⟩, .slice none 0 0, .slice none 0 0, .string ⟨#[]⟩])) (hx3 : RowAt w X3 72 #[.string V0, .int .i64 z1, .int .i64 z2, .slice sA L.length mc]) (hsg : SgAt w sA mc L) :
    wpOp Tryz.prog paO Q 4 (paI w0 X1 X2 X3 nn mt pt bd V0 aq nq cq a2 n2 c2 z1 z2 z4 sA mc L sa sf si sj sk sm sn so sp sq sr ss su sv sw sx sy sz ta tb tc td te tf tg th ti tj tk tl tm tn tp tr ts tt tu tv tw tx ty tz ua ub uc ud ue uf ug uh ui uj uk ul um un uo up uq ur us ut uu uv uw ux uy uz ya yb yc yd ye yf #[b0, b1, b2, b3, true, b5, b6, false, false, false, false, false, false, false, false, false, false, false, false, false]) { tmps := paT w0 X1 X2 X3 nn mt pt bd V0 aq nq cq a2 n2 c2 z1 z2 z4 sA mc L sa sf si sj sk sm sn so sp sq sr ss su sv sw sx sy sz ta tb tc td te tf tg th ti tj tk tl tm tn tp tr ts tt tu tv tw tx ty tz ua ub uc ud ue uf ug uh ui uj uk ul um un uo up uq ur us ut uu uv uw ux uy uz ya yb yc yd ye yf dm b0 b1 b2 b3 false b5 b6 false false false false false false false false false false false false false, defers := [] } w := by
  refine wpOp_step (o := pao4) rfl (fun K hK => ?_)
  replace hK := hid hK
  simp only [pao4, paT, selS_f]
  go_simp
  exact hK.out _ _ ⟨b0, b1, b2, b3, true, b5, b6, false, false, false, false, false, false, false, false, false, false, false, false, false, dm, rfl, rfl, hB, hx1, hx2, hx3, hsg⟩
set_option maxRecDepth 20000 in
set_option maxHeartbeats 1000000 in
theorem pa_s5 (b0 b1 b2 b3 b4 : Bool) (dm : Nat) (w : World) (hst : w0.heap.size ≤ X1 ∧ w0.heap.size ≤ X2 ∧ w0.heap.size ≤ X3 ∧ X1 ≠ X2 ∧ X1 ≠ X3 ∧ X2 ≠ X3) (hB : Below w0.heap.size w0 w) (hx1 : RowAt w X1 25 #[.string mt, .string pt, .slice aq nq cq, .slice a2 n2 c2, .string bd]) (hx2 : RowAt w X2 25 (cond false #[.string mt, .string pt, .slice aq nq cq, .slice a2 n2 c2, .string bd] #[.string ⟨#[]⟩, .string ⟨#[]⟩, .slice none 0 0, .slice none 0 0, .string ⟨#[]⟩])) (hx3 : RowAt w X3 72 #[.string V0, .int .i64 z1, .int .i64 z2, .slice sA L.length mc]) (hsg : SgAt w sA mc L) :
    wpOp Tryz.prog paO Q 5 (paI w0 X1 X2 X3 nn mt pt bd V0 aq nq cq a2 n2 c2 z1 z2 z4 sA mc L sa sf si sj sk sm sn so sp sq sr ss su sv sw sx sy sz ta tb tc td te tf tg th ti tj tk tl tm tn tp tr ts tt tu tv tw tx ty tz ua ub uc ud ue uf ug uh ui uj uk ul um un uo up uq ur us ut uu uv uw ux uy uz ya yb yc yd ye yf #[b0, b1, b2, b3, b4, true, false, false, false, false, false, false, false, false, false, false, false, false, false, false]) { tmps := paT w0 X1 X2 X3 nn mt pt bd V0 aq nq cq a2 n2 c2 z1 z2 z4 sA mc L sa sf si sj sk sm sn so sp sq sr ss su sv sw sx sy sz ta tb tc td te tf tg th ti tj tk tl tm tn tp tr ts tt tu tv tw tx ty tz ua ub uc ud ue uf ug uh ui uj uk ul um un uo up uq ur us ut uu uv uw ux uy uz ya yb yc yd ye yf dm b0 b1 b2 b3 b4 false false false false false false false false false false false false false false false, defers := [] } w := by
  refine wpOp_step (o := pao5) rfl (fun K hK => ?_)
  replace hK := hid hK
  simp only [pao5, paT, selS_f]
  go_simp
  exact hK.out _ _ ⟨b0, b1, b2, b3, b4, true, false, false, false, false, false, false, false, false, false, false, false, false, false, false, dm, rfl, rfl, hB, hx1, hx2, hx3, hsg⟩
set_option maxRecDepth 20000 in
set_option maxHeartbeats 1000000 in
theorem pa_s6 (b0 b1 b2 b3 b4 : Bool) (dm : Nat) (w : World) (hst : w0.heap.size ≤ X1 ∧ w0.heap.size ≤ X2 ∧ w0.heap.size ≤ X3 ∧ X1 ≠ X2 ∧ X1 ≠ X3 ∧ X2 ≠ X3) (hB : Below w0.heap.size w0 w) (hx1 : RowAt w X1 25 #[.string mt, .string pt, .slice aq nq cq, .slice a2 n2 c2, .string bd]) (hx2 : RowAt w X2 25 (cond false #[.string mt, .string pt, .slice aq nq cq, .slice a2 n2 c2, .string bd] #[.string ⟨#[]⟩, .string ⟨#[]⟩, .slice none 0 0, .slice none 0 0, .string ⟨#[]⟩])) (hx3 : RowAt w X3 72 #[.string V0, .int .i64 z1, .int .i64 z2, .slice sA L.length mc]) (hsg : SgAt w sA mc L) :
    wpOp Tryz.prog paO Q 6 (paI w0 X1 X2 X3 nn mt pt bd V0 aq nq cq a2 n2 c2 z1 z2 z4 sA mc L sa sf si sj sk sm sn so sp sq sr ss su sv sw sx sy sz ta tb tc td te tf tg th ti tj tk tl tm tn tp tr ts tt tu tv tw tx ty tz ua ub uc ud ue uf ug uh ui uj uk ul um un uo up uq ur us ut uu uv uw ux uy uz ya yb yc yd ye yf #[b0, b1, b2, b3, b4, true, true, false, false, false, false, false, false, false, false, false, false, false, false, false]) { tmps := paT w0 X1 X2 X3 nn mt pt bd V0 aq nq cq a2 n2 c2 z1 z2 z4 sA mc L sa sf si sj sk sm sn so sp sq sr ss su sv sw sx sy sz ta tb tc td te tf tg th ti tj tk tl tm tn tp tr ts tt tu tv tw tx ty tz ua ub uc ud ue uf ug uh ui uj uk ul um un uo up uq ur us ut uu uv uw ux uy uz ya yb yc yd ye yf dm b0 b1 b2 b3 b4 true false false false false false false false false false false false false false false, defers := [] } w := by
  have q3 := hx1.cell 3
  refine wpOp_step (o := pao6) rfl (fun K hK => ?_)
  replace hK := hid hK
  simp only [pao6, paT, selS_t, selS_f]
  go_simp
  exact hK.out _ _ ⟨b0, b1, b2, b3, b4, true, true, false, false, false, false, false, false, false, false, false, false, false, false, false, dm, rfl, rfl, hB, hx1, hx2, hx3, hsg⟩
set_option maxRecDepth 20000 in
set_option maxHeartbeats 1000000 in
theorem pa_s7 (b0 b1 b2 : Bool) (dm : Nat) (w : World) (hkf : ∀ wx, Below w0.heap.size w0 wx → SgAt wx sA mc L → Calls Tryz.prog 39 #[.agg #[.string V0, .int .i64 z1, .int .i64 z2, .slice sA L.length mc], .slice aq nn cq, .slice a2 n2 c2] wx fun e w' => e = .returned (.bool false) ∧ Below wx.heap.size wx w') (hst : w0.heap.size ≤ X1 ∧ w0.heap.size ≤ X2 ∧ w0.heap.size ≤ X3 ∧ X1 ≠ X2 ∧ X1 ≠ X3 ∧ X2 ≠ X3) (hB : Below w0.heap.size w0 w) (hx1 : RowAt w X1 25 #[.string mt, .string pt, .slice aq nq cq, .slice a2 n2 c2, .string bd]) (hx2 : RowAt w X2 25 (cond false #[.string mt, .string pt, .slice aq nq cq, .slice a2 n2 c2, .string bd] #[.string ⟨#[]⟩, .string ⟨#[]⟩, .slice none 0 0, .slice none 0 0, .string ⟨#[]⟩])) (hx3 : RowAt w X3 72 #[.string V0, .int .i64 z1, .int .i64 z2, .slice sA L.length mc]) (hsg : SgAt w sA mc L) :
    wpOp Tryz.prog paO Q 7 (paI w0 X1 X2 X3 nn mt pt bd V0 aq nq cq a2 n2 c2 z1 z2 z4 sA mc L sa sf si sj sk sm sn so sp sq sr ss su sv sw sx sy sz ta tb tc td te tf tg th ti tj tk tl tm tn tp tr ts tt tu tv tw tx ty tz ua ub uc ud ue uf ug uh ui uj uk ul um un uo up uq ur us ut uu uv uw ux uy uz ya yb yc yd ye yf #[b0, b1, b2, true, true, true, true, true, false, false, false, false, false, false, false, false, false, false, false, false]) { tmps := paT w0 X1 X2 X3 nn mt pt bd V0 aq nq cq a2 n2 c2 z1 z2 z4 sA mc L sa sf si sj sk sm sn so sp sq sr ss su sv sw sx sy sz ta tb tc td te tf tg th ti tj tk tl tm tn tp tr ts tt tu tv tw tx ty tz ua ub uc ud ue uf ug uh ui uj uk ul um un uo up uq ur us ut uu uv uw ux uy uz ya yb yc yd ye yf dm b0 b1 b2 true true true true false false false false false false false false false false false false false, defers := [] } w := by
  refine wpOp_step (o := pao7) rfl (fun K hK => ?_)
  replace hK := hid hK
  simp only [pao7, paT, selS_t, selS_f]
  go_simp
  refine (hkf _ hB hsg).mono ?_
  rintro e w2 ⟨rfl, hb2⟩
  dsimp only
  exact hK.out _ _ ⟨b0, b1, b2, true, true, true, true, true, false, false, false, false, false, false, false, false, false, false, false, false, dm, rfl, rfl, hB.trans (hb2.mono hB.size), RowAt.nxS hb2 hx1, RowAt.nxS hb2 hx2, RowAt.nxS hb2 hx3, hsg.below hb2⟩
set_option maxRecDepth 20000 in
set_option maxHeartbeats 1000000 in
theorem pa_s8 (b0 b1 b2 : Bool) (dm : Nat) (w : World) (hst : w0.heap.size ≤ X1 ∧ w0.heap.size ≤ X2 ∧ w0.heap.size ≤ X3 ∧ X1 ≠ X2 ∧ X1 ≠ X3 ∧ X2 ≠ X3) (hB : Below w0.heap.size w0 w) (hx1 : RowAt w X1 25 #[.string mt, .string pt, .slice aq nq cq, .slice a2 n2 c2, .string bd]) (hx2 : RowAt w X2 25 (cond false #[.string mt, .string pt, .slice aq nq cq, .slice a2 n2 c2, .string bd] #[.string ⟨#[]⟩, .string ⟨#[]⟩, .slice none 0 0, .slice none 0 0, .string ⟨#[]⟩])) (hx3 : RowAt w X3 72 #[.string V0, .int .i64 z1, .int .i64 z2, .slice sA L.length mc]) (hsg : SgAt w sA mc L) :
    wpOp Tryz.prog paO Q 8 (paI w0 X1 X2 X3 nn mt pt bd V0 aq nq cq a2 n2 c2 z1 z2 z4 sA mc L sa sf si sj sk sm sn so sp sq sr ss su sv sw sx sy sz ta tb tc td te tf tg th ti tj tk tl tm tn tp tr ts tt tu tv tw tx ty tz ua ub uc ud ue uf ug uh ui uj uk ul um un uo up uq ur us ut uu uv uw ux uy uz ya yb yc yd ye yf #[b0, b1, b2, true, true, true, true, true, true, false, false, false, false, false, false, false, false, false, false, false]) { tmps := paT w0 X1 X2 X3 nn mt pt bd V0 aq nq cq a2 n2 c2 z1 z2 z4 sA mc L sa sf si sj sk sm sn so sp sq sr ss su sv sw sx sy sz ta tb tc td te tf tg th ti tj tk tl tm tn tp tr ts tt tu tv tw tx ty tz ua ub uc ud ue uf ug uh ui uj uk ul um un uo up uq ur us ut uu uv uw ux uy uz ya yb yc yd ye yf dm b0 b1 b2 true true true true true false false false false false false false false false false false false, defers := [] } w := by
  refine wpOp_step (o := pao8) rfl (fun K hK => ?_)
  replace hK := hid hK
  simp only [pao8, paT, selS_t, selS_f]
  go_simp
  exact hK.out _ _ ⟨b0, b1, b2, true, true, true, true, true, true, false, false, false, false, false, false, false, false, false, false, false, dm, rfl, rfl, hB, hx1, hx2, hx3, hsg⟩
set_option maxRecDepth 20000 in
set_option maxHeartbeats 1000000 in
theorem pa_s9 (b0 b1 b2 : Bool) (dm : Nat) (w : World) (hst : w0.heap.size ≤ X1 ∧ w0.heap.size ≤ X2 ∧ w0.heap.size ≤ X3 ∧ X1 ≠ X2 ∧ X1 ≠ X3 ∧ X2 ≠ X3) (hB : Below w0.heap.size w0 w) (hx1 : RowAt w X1 25 #[.string mt, .string pt, .slice aq nq cq, .slice a2 n2 c2, .string bd]) (hx2 : RowAt w X2 25 (cond false #[.string mt, .string pt, .slice aq nq cq, .slice a2 n2 c2, .string bd] #[.string ⟨#[]⟩, .string ⟨#[]⟩, .slice none 0 0, .slice none 0 0, .string ⟨#[]⟩])) (hx3 : RowAt w X3 72 #[.string V0, .int .i64 z1, .int .i64 z2, .slice sA L.length mc]) (hsg : SgAt w sA mc L) :
    wpOp Tryz.prog paO Q 9 (paI w0 X1 X2 X3 nn mt pt bd V0 aq nq cq a2 n2 c2 z1 z2 z4 sA mc L sa sf si sj sk sm sn so sp sq sr ss su sv sw sx sy sz ta tb tc td te tf tg th ti tj tk tl tm tn tp tr ts tt tu tv tw tx ty tz ua ub uc ud ue uf ug uh ui uj uk ul um un uo up uq ur us ut uu uv uw ux uy uz ya yb yc yd ye yf #[b0, b1, b2, true, true, true, true, true, true, true, false, false, false, false, false, false, false, false, false, false]) { tmps := paT w0 X1 X2 X3 nn mt pt bd V0 aq nq cq a2 n2 c2 z1 z2 z4 sA mc L sa sf si sj sk sm sn so sp sq sr ss su sv sw sx sy sz ta tb tc td te tf tg th ti tj tk tl tm tn tp tr ts tt tu tv tw tx ty tz ua ub uc ud ue uf ug uh ui uj uk ul um un uo up uq ur us ut uu uv uw ux uy uz ya yb yc yd ye yf dm b0 b1 b2 true true true true true true false false false false false false false false false false false, defers := [] } w := by
  refine wpOp_step (o := pao9) rfl (fun K hK => ?_)
  replace hK := hid hK
  simp only [pao9, paT, selS_t, selS_f]
  go_simp
  exact hK.out _ _ ⟨b0, b1, b2, true, true, true, true, true, true, true, false, false, false, false, false, false, false, false, false, false, dm, rfl, rfl, hB, hx1, hx2, hx3, hsg⟩
set_option maxRecDepth 20000 in
set_option maxHeartbeats 1000000 in
theorem pa_s10 (b0 b1 b2 : Bool) (dm : Nat) (w : World) (hst : w0.heap.size ≤ X1 ∧ w0.heap.size ≤ X2 ∧ w0.heap.size ≤ X3 ∧ X1 ≠ X2 ∧ X1 ≠ X3 ∧ X2 ≠ X3) (hB : Below w0.heap.size w0 w) (hx1 : RowAt w X1 25 #[.string mt, .string pt, .slice aq nq cq, .slice a2 n2 c2, .string bd]) (hx2 : RowAt w X2 25 (cond false #[.string mt, .string pt, .slice aq nq cq, .slice a2 n2 c2, .string bd] #[.string ⟨#[]⟩, .string ⟨#[]⟩, .slice none 0 0, .slice none 0 0, .string ⟨#[]⟩])) (hx3 : RowAt w X3 72 #[.string V0, .int .i64 z1, .int .i64 z2, .slice sA L.length mc]) (hsg : SgAt w sA mc L) :
    wpOp Tryz.prog paO Q 10 (paI w0 X1 X2 X3 nn mt pt bd V0 aq nq cq a2 n2 c2 z1 z2 z4 sA mc L sa sf si sj sk sm sn so sp sq sr ss su sv sw sx sy sz ta tb tc td te tf tg th ti tj tk tl tm tn tp tr ts tt tu tv tw tx ty tz ua ub uc ud ue uf ug uh ui uj uk ul um un uo up uq ur us ut uu uv uw ux uy uz ya yb yc yd ye yf #[b0, b1, b2, true, true, true, true, true, true, true, true, false, false, false, false, false, false, false, false, false]) { tmps := paT w0 X1 X2 X3 nn mt pt bd V0 aq nq cq a2 n2 c2 z1 z2 z4 sA mc L sa sf si sj sk sm sn so sp sq sr ss su sv sw sx sy sz ta tb tc td te tf tg th ti tj tk tl tm tn tp tr ts tt tu tv tw tx ty tz ua ub uc ud ue uf ug uh ui uj uk ul um un uo up uq ur us ut uu uv uw ux uy uz ya yb yc yd ye yf dm b0 b1 b2 true true true true true true true false false false false false false false false false false, defers := [] } w := by
  refine wpOp_step (o := pao10) rfl (fun K hK => ?_)
  replace hK := hid hK
  simp only [pao10, paT, selS_t, selS_f]
  go_simp
  exact hK.out _ _ ⟨b0, b1, b2, true, true, true, true, true, true, true, true, false, false, false, false, false, false, false, false, false, dm, rfl, rfl, hB, hx1, hx2, hx3, hsg⟩
set_option maxRecDepth 20000 in
set_option maxHeartbeats 1000000 in
theorem pa_s11 (b0 b1 b2 : Bool) (dm : Nat) (w : World) (hst : w0.heap.size ≤ X1 ∧ w0.heap.size ≤ X2 ∧ w0.heap.size ≤ X3 ∧ X1 ≠ X2 ∧ X1 ≠ X3 ∧ X2 ≠ X3) (hB : Below w0.heap.size w0 w) (hx1 : RowAt w X1 25 #[.string mt, .string pt, .slice aq nq cq, .slice a2 n2 c2, .string bd]) (hx2 : RowAt w X2 25 (cond false #[.string mt, .string pt, .slice aq nq cq, .slice a2 n2 c2, .string bd] #[.string ⟨#[]⟩, .string ⟨#[]⟩, .slice none 0 0, .slice none 0 0, .string ⟨#[]⟩])) (hx3 : RowAt w X3 72 #[.string V0, .int .i64 z1, .int .i64 z2, .slice sA L.length mc]) (hsg : SgAt w sA mc L) :
    wpOp Tryz.prog paO Q 11 (paI w0 X1 X2 X3 nn mt pt bd V0 aq nq cq a2 n2 c2 z1 z2 z4 sA mc L sa sf si sj sk sm sn so sp sq sr ss su sv sw sx sy sz ta tb tc td te tf tg th ti tj tk tl tm tn tp tr ts tt tu tv tw tx ty tz ua ub uc ud ue uf ug uh ui uj uk ul um un uo up uq ur us ut uu uv uw ux uy uz ya yb yc yd ye yf #[b0, b1, b2, true, true, true, true, true, true, true, true, true, false, false, false, false, false, false, false, false]) { tmps := paT w0 X1 X2 X3 nn mt pt bd V0 aq nq cq a2 n2 c2 z1 z2 z4 sA mc L sa sf si sj sk sm sn so sp sq sr ss su sv sw sx sy sz ta tb tc td te tf tg th ti tj tk tl tm tn tp tr ts tt tu tv tw tx ty tz ua ub uc ud ue uf ug uh ui uj uk ul um un uo up uq ur us ut uu uv uw ux uy uz ya yb yc yd ye yf dm b0 b1 b2 true true true true true true true true false false false false false false false false false, defers := [] } w := by
  refine wpOp_step (o := pao11) rfl (fun K hK => ?_)
  replace hK := hid hK
  simp only [pao11, paT, selS_t, selS_f]
  go_simp
  exact hK.out _ _ ⟨b0, b1, b2, true, true, true, true, true, true, true, true, true, false, false, false, false, false, false, false, false, dm, rfl, rfl, hB, hx1, hx2, hx3, hsg⟩
set_option maxRecDepth 20000 in
set_option maxHeartbeats 1000000 in
theorem pa_s12 (b0 b1 b2 : Bool) (dm : Nat) (w : World) (hst : w0.heap.size ≤ X1 ∧ w0.heap.size ≤ X2 ∧ w0.heap.size ≤ X3 ∧ X1 ≠ X2 ∧ X1 ≠ X3 ∧ X2 ≠ X3) (hB : Below w0.heap.size w0 w) (hx1 : RowAt w X1 25 #[.string mt, .string pt, .slice aq nq cq, .slice a2 n2 c2, .string bd]) (hx2 : RowAt w X2 25 (cond false #[.string mt, .string pt, .slice aq nq cq, .slice a2 n2 c2, .string bd] #[.string ⟨#[]⟩, .string ⟨#[]⟩, .slice none 0 0, .slice none 0 0, .string ⟨#[]⟩])) (hx3 : RowAt w X3 72 #[.string V0, .int .i64 z1, .int .i64 z2, .slice sA L.length mc]) (hsg : SgAt w sA mc L) :
    wpOp Tryz.prog paO Q 12 (paI w0 X1 X2 X3 nn mt pt bd V0 aq nq cq a2 n2 c2 z1 z2 z4 sA mc L sa sf si sj sk sm sn so sp sq sr ss su sv sw sx sy sz ta tb tc td te tf tg th ti tj tk tl tm tn tp tr ts tt tu tv tw tx ty tz ua ub uc ud ue uf ug uh ui uj uk ul um un uo up uq ur us ut uu uv uw ux uy uz ya yb yc yd ye yf #[b0, b1, b2, true, true, true, true, true, true, true, true, true, true, false, false, false, false, false, false, false]) { tmps := paT w0 X1 X2 X3 nn mt pt bd V0 aq nq cq a2 n2 c2 z1 z2 z4 sA mc L sa sf si sj sk sm sn so sp sq sr ss su sv sw sx sy sz ta tb tc td te tf tg th ti tj tk tl tm tn tp tr ts tt tu tv tw tx ty tz ua ub uc ud ue uf ug uh ui uj uk ul um un uo up uq ur us ut uu uv uw ux uy uz ya yb yc yd ye yf dm b0 b1 b2 true true true true true true true true true false false false false false false false false, defers := [] } w := by
  refine wpOp_step (o := pao12) rfl (fun K hK => ?_)
  replace hK := hid hK
  simp only [pao12, paT, selS_t, selS_f]
  go_simp
  exact hK.out _ _ ⟨b0, b1, b2, true, true, true, true, true, true, true, true, true, true, false, false, false, false, false, false, false, dm, rfl, rfl, hB, hx1, hx2, hx3, hsg⟩
set_option maxRecDepth 20000 in
set_option maxHeartbeats 1000000 in
theorem pa_s13 (b0 b1 b2 : Bool) (dm : Nat) (w : World) (hst : w0.heap.size ≤ X1 ∧ w0.heap.size ≤ X2 ∧ w0.heap.size ≤ X3 ∧ X1 ≠ X2 ∧ X1 ≠ X3 ∧ X2 ≠ X3) (hB : Below w0.heap.size w0 w) (hx1 : RowAt w X1 25 #[.string mt, .string pt, .slice aq nq cq, .slice a2 n2 c2, .string bd]) (hx2 : RowAt w X2 25 (cond false #[.string mt, .string pt, .slice aq nq cq, .slice a2 n2 c2, .string bd] #[.string ⟨#[]⟩, .string ⟨#[]⟩, .slice none 0 0, .slice none 0 0, .string ⟨#[]⟩])) (hx3 : RowAt w X3 72 #[.string V0, .int .i64 z1, .int .i64 z2, .slice sA L.length mc]) (hsg : SgAt w sA mc L) :
    wpOp Tryz.prog paO Q 13 (paI w0 X1 X2 X3 nn mt pt bd V0 aq nq cq a2 n2 c2 z1 z2 z4 sA mc L sa sf si sj sk sm sn so sp sq sr ss su sv sw sx sy sz ta tb tc td te tf tg th ti tj tk tl tm tn tp tr ts tt tu tv tw tx ty tz ua ub uc ud ue uf ug uh ui uj uk ul um un uo up uq ur us ut uu uv uw ux uy uz ya yb yc yd ye yf #[b0, b1, b2, true, true, true, true, true, true, true, true, true, true, true, false, false, false, false, false, false]) { tmps := paT w0 X1 X2 X3 nn mt pt bd V0 aq nq cq a2 n2 c2 z1 z2 z4 sA mc L sa sf si sj sk sm sn so sp sq sr ss su sv sw sx sy sz ta tb tc td te tf tg th ti tj tk tl tm tn tp tr ts tt tu tv tw tx ty tz ua ub uc ud ue uf ug uh ui uj uk ul um un uo up uq ur us ut uu uv uw ux uy uz ya yb yc yd ye yf dm b0 b1 b2 true true true true true true true true true true false false false false false false false, defers := [] } w := by
  refine wpOp_step (o := pao13) rfl (fun K hK => ?_)
  replace hK := hid hK
  simp only [pao13, paT, selS_t, selS_f]
  go_simp
  exact hK.out _ _ ⟨b0, b1, b2, true, true, true, true, true, true, true, true, true, true, true, false, false, false, false, false, false, dm, rfl, rfl, hB, hx1, hx2, hx3, hsg⟩
set_option maxRecDepth 20000 in
set_option maxHeartbeats 1000000 in
theorem pa_s14 (b0 b1 b2 b16 b17 b18 : Bool) (dm : Nat) (w : World) (hst : w0.heap.size ≤ X1 ∧ w0.heap.size ≤ X2 ∧ w0.heap.size ≤ X3 ∧ X1 ≠ X2 ∧ X1 ≠ X3 ∧ X2 ≠ X3) (hB : Below w0.heap.size w0 w) (hx1 : RowAt w X1 25 #[.string mt, .string pt, .slice aq nq cq, .slice a2 n2 c2, .string bd]) (hx2 : RowAt w X2 25 (cond b16 #[.string mt, .string pt, .slice aq nq cq, .slice a2 n2 c2, .string bd] #[.string ⟨#[]⟩, .string ⟨#[]⟩, .slice none 0 0, .slice none 0 0, .string ⟨#[]⟩])) (hx3 : RowAt w X3 72 #[.string V0, .int .i64 z1, .int .i64 z2, .slice sA L.length mc]) (hsg : SgAt w sA mc L) :
    wpOp Tryz.prog paO Q 14 (paI w0 X1 X2 X3 nn mt pt bd V0 aq nq cq a2 n2 c2 z1 z2 z4 sA mc L sa sf si sj sk sm sn so sp sq sr ss su sv sw sx sy sz ta tb tc td te tf tg th ti tj tk tl tm tn tp tr ts tt tu tv tw tx ty tz ua ub uc ud ue uf ug uh ui uj uk ul um un uo up uq ur us ut uu uv uw ux uy uz ya yb yc yd ye yf #[b0, b1, b2, true, true, true, true, true, true, true, true, true, true, true, true, false, b16, b17, b18, false]) { tmps := paT w0 X1 X2 X3 nn mt pt bd V0 aq nq cq a2 n2 c2 z1 z2 z4 sA mc L sa sf si sj sk sm sn so sp sq sr ss su sv sw sx sy sz ta tb tc td te tf tg th ti tj tk tl tm tn tp tr ts tt tu tv tw tx ty tz ua ub uc ud ue uf ug uh ui uj uk ul um un uo up uq ur us ut uu uv uw ux uy uz ya yb yc yd ye yf dm b0 b1 b2 true true true true true true true true true true true false false b16 b17 b18 false, defers := [] } w := by
  refine wpOp_step (o := pao14) rfl (fun K hK => ?_)
  replace hK := hid hK
  simp only [pao14, paT, selS_t, selS_f]
  go_simp
  exact hK.out _ _ ⟨b0, b1, b2, true, true, true, true, true, true, true, true, true, true, true, true, false, b16, b17, b18, false, dm, rfl, rfl, hB, hx1, hx2, hx3, hsg⟩
set_option maxRecDepth 20000 in
set_option maxHeartbeats 1000000 in
theorem pa_s15 (b0 b1 b2 b16 b17 b18 : Bool) (dm : Nat) (w : World) (hst : w0.heap.size ≤ X1 ∧ w0.heap.size ≤ X2 ∧ w0.heap.size ≤ X3 ∧ X1 ≠ X2 ∧ X1 ≠ X3 ∧ X2 ≠ X3) (hB : Below w0.heap.size w0 w) (hx1 : RowAt w X1 25 #[.string mt, .string pt, .slice aq nq cq, .slice a2 n2 c2, .string bd]) (hx2 : RowAt w X2 25 (cond b16 #[.string mt, .string pt, .slice aq nq cq, .slice a2 n2 c2, .string bd] #[.string ⟨#[]⟩, .string ⟨#[]⟩, .slice none 0 0, .slice none 0 0, .string ⟨#[]⟩])) (hx3 : RowAt w X3 72 #[.string V0, .int .i64 z1, .int .i64 z2, .slice sA L.length mc]) (hsg : SgAt w sA mc L) :
    wpOp Tryz.prog paO Q 15 (paI w0 X1 X2 X3 nn mt pt bd V0 aq nq cq a2 n2 c2 z1 z2 z4 sA mc L sa sf si sj sk sm sn so sp sq sr ss su sv sw sx sy sz ta tb tc td te tf tg th ti tj tk tl tm tn tp tr ts tt tu tv tw tx ty tz ua ub uc ud ue uf ug uh ui uj uk ul um un uo up uq ur us ut uu uv uw ux uy uz ya yb yc yd ye yf #[b0, b1, b2, true, true, true, true, true, true, true, true, true, true, true, true, true, b16, b17, b18, false]) { tmps := paT w0 X1 X2 X3 nn mt pt bd V0 aq nq cq a2 n2 c2 z1 z2 z4 sA mc L sa sf si sj sk sm sn so sp sq sr ss su sv sw sx sy sz ta tb tc td te tf tg th ti tj tk tl tm tn tp tr ts tt tu tv tw tx ty tz ua ub uc ud ue uf ug uh ui uj uk ul um un uo up uq ur us ut uu uv uw ux uy uz ya yb yc yd ye yf dm b0 b1 b2 true true true true true true true true true true true true false b16 b17 b18 false, defers := [] } w := by
  refine wpOp_step (o := pao15) rfl (fun K hK => ?_)
  replace hK := hid hK
  simp only [pao15, paT, selS_t, selS_f]
  go_simp
  exact hK.out _ _ ⟨b0, b1, b2, true, true, true, true, true, true, true, true, true, true, true, true, true, b16, b17, b18, false, dm, rfl, rfl, hB, hx1, hx2, hx3, hsg⟩
set_option maxRecDepth 20000 in
set_option maxHeartbeats 1000000 in
theorem pa_s16 (b1 b2 b14 b15 : Bool) (dm : Nat) (w : World) (hst : w0.heap.size ≤ X1 ∧ w0.heap.size ≤ X2 ∧ w0.heap.size ≤ X3 ∧ X1 ≠ X2 ∧ X1 ≠ X3 ∧ X2 ≠ X3) (hB : Below w0.heap.size w0 w) (hx1 : RowAt w X1 25 #[.string mt, .string pt, .slice aq nq cq, .slice a2 n2 c2, .string bd]) (hx2 : RowAt w X2 25 (cond false #[.string mt, .string pt, .slice aq nq cq, .slice a2 n2 c2, .string bd] #[.string ⟨#[]⟩, .string ⟨#[]⟩, .slice none 0 0, .slice none 0 0, .string ⟨#[]⟩])) (hx3 : RowAt w X3 72 #[.string V0, .int .i64 z1, .int .i64 z2, .slice sA L.length mc]) (hsg : SgAt w sA mc L) :
    wpOp Tryz.prog paO Q 16 (paI w0 X1 X2 X3 nn mt pt bd V0 aq nq cq a2 n2 c2 z1 z2 z4 sA mc L sa sf si sj sk sm sn so sp sq sr ss su sv sw sx sy sz ta tb tc td te tf tg th ti tj tk tl tm tn tp tr ts tt tu tv tw tx ty tz ua ub uc ud ue uf ug uh ui uj uk ul um un uo up uq ur us ut uu uv uw ux uy uz ya yb yc yd ye yf #[true, b1, b2, true, true, true, true, true, true, true, true, true, true, true, b14, b15, true, false, false, false]) { tmps := paT w0 X1 X2 X3 nn mt pt bd V0 aq nq cq a2 n2 c2 z1 z2 z4 sA mc L sa sf si sj sk sm sn so sp sq sr ss su sv sw sx sy sz ta tb tc td te tf tg th ti tj tk tl tm tn tp tr ts tt tu tv tw tx ty tz ua ub uc ud ue uf ug uh ui uj uk ul um un uo up uq ur us ut uu uv uw ux uy uz ya yb yc yd ye yf dm true b1 b2 true true true true true true true true true true true b14 b15 false false false false, defers := [] } w := by
  have hz : RowAt w X2 25 #[.string ⟨#[]⟩, .string ⟨#[]⟩, .slice none 0 0, .slice none 0 0, .string ⟨#[]⟩] := hx2
  have q0 := hz.cell 0
  have q1 := hz.cell 1
  have q2 := hz.cell 2
  have q3 := hz.cell 3
  have q4 := hz.cell 4
  have f0 := hz.free 0
  have f1 := hz.free 1
  have f2 := hz.free 2
  have f3 := hz.free 3
  have f4 := hz.free 4
  refine wpOp_step (o := pao16) rfl (fun K hK => ?_)
  replace hK := hid hK
  simp only [pao16, paT, selS_t, selS_f]
  go_simp
  exact hK.out _ _ ⟨true, b1, b2, true, true, true, true, true, true, true, true, true, true, true, b14, b15, true, false, false, false, dm, rfl, rfl, (((((hB.setCell (by simp; omega) _).setCell (by simp; omega) _).setCell (by simp; omega) _).setCell (by simp; omega) _).setCell (by simp; omega) _), (((((hx1.other ⟨X2, 0, none⟩ _ (by simp; omega)).other ⟨X2, 1, none⟩ _ (by simp; omega)).other ⟨X2, 2, none⟩ _ (by simp; omega)).other ⟨X2, 3, none⟩ _ (by simp; omega)).other ⟨X2, 4, none⟩ _ (by simp; omega)), (((((hz.set 0 _).set 1 _).set 2 _).set 3 _).set 4 _), (((((hx3.other ⟨X2, 0, none⟩ _ (by simp; omega)).other ⟨X2, 1, none⟩ _ (by simp; omega)).other ⟨X2, 2, none⟩ _ (by simp; omega)).other ⟨X2, 3, none⟩ _ (by simp; omega)).other ⟨X2, 4, none⟩ _ (by simp; omega)), (SgAt.set (SgAt.set (SgAt.set (SgAt.set (SgAt.set hsg hz (by decide) 0 _) (hz.set 0 _) (by decide) 1 _) ((hz.set 0 _).set 1 _) (by decide) 2 _) (((hz.set 0 _).set 1 _).set 2 _) (by decide) 3 _) ((((hz.set 0 _).set 1 _).set 2 _).set 3 _) (by decide) 4 _)⟩
set_option maxRecDepth 20000 in
set_option maxHeartbeats 1000000 in
theorem pa_s17 (b2 b14 b15 : Bool) (dm : Nat) (w : World) (hst : w0.heap.size ≤ X1 ∧ w0.heap.size ≤ X2 ∧ w0.heap.size ≤ X3 ∧ X1 ≠ X2 ∧ X1 ≠ X3 ∧ X2 ≠ X3) (hB : Below w0.heap.size w0 w) (hx1 : RowAt w X1 25 #[.string mt, .string pt, .slice aq nq cq, .slice a2 n2 c2, .string bd]) (hx2 : RowAt w X2 25 #[.string mt, .string pt, .slice aq nq cq, .slice a2 n2 c2, .string bd]) (hx3 : RowAt w X3 72 #[.string V0, .int .i64 z1, .int .i64 z2, .slice sA L.length mc]) (hsg : SgAt w sA mc L) :
    wpOp Tryz.prog paO Q 17 (paI w0 X1 X2 X3 nn mt pt bd V0 aq nq cq a2 n2 c2 z1 z2 z4 sA mc L sa sf si sj sk sm sn so sp sq sr ss su sv sw sx sy sz ta tb tc td te tf tg th ti tj tk tl tm tn tp tr ts tt tu tv tw tx ty tz ua ub uc ud ue uf ug uh ui uj uk ul um un uo up uq ur us ut uu uv uw ux uy uz ya yb yc yd ye yf #[true, true, b2, true, true, true, true, true, true, true, true, true, true, true, b14, b15, true, true, false, false]) { tmps := paT w0 X1 X2 X3 nn mt pt bd V0 aq nq cq a2 n2 c2 z1 z2 z4 sA mc L sa sf si sj sk sm sn so sp sq sr ss su sv sw sx sy sz ta tb tc td te tf tg th ti tj tk tl tm tn tp tr ts tt tu tv tw tx ty tz ua ub uc ud ue uf ug uh ui uj uk ul um un uo up uq ur us ut uu uv uw ux uy uz ya yb yc yd ye yf dm true true b2 true true true true true true true true true true true b14 b15 true false false false, defers := [] } w := by
  have hz : RowAt w X3 72 #[.string V0, .int .i64 z1, .int .i64 z2, .slice sA L.length mc] := hx3
  have q0 := hz.cell 0
  have q1 := hz.cell 1
  have q2 := hz.cell 2
  have q3 := hz.cell 3
  have f0 := hz.free 0
  have f1 := hz.free 1
  have f2 := hz.free 2
  have f3 := hz.free 3
  refine wpOp_step (o := pao17) rfl (fun K hK => ?_)
  replace hK := hid hK
  simp only [pao17, paT, selS_t, selS_f]
  go_simp
  exact hK.out _ _ ⟨true, true, b2, true, true, true, true, true, true, true, true, true, true, true, b14, b15, true, true, false, false, dm, rfl, rfl, ((((hB.setCell (by simp; omega) _).setCell (by simp; omega) _).setCell (by simp; omega) _).setCell (by simp; omega) _), ((((hx1.other ⟨X3, 0, none⟩ _ (by simp; omega)).other ⟨X3, 1, none⟩ _ (by simp; omega)).other ⟨X3, 2, none⟩ _ (by simp; omega)).other ⟨X3, 3, none⟩ _ (by simp; omega)), ((((hx2.other ⟨X3, 0, none⟩ _ (by simp; omega)).other ⟨X3, 1, none⟩ _ (by simp; omega)).other ⟨X3, 2, none⟩ _ (by simp; omega)).other ⟨X3, 3, none⟩ _ (by simp; omega)), ((((hz.set 0 _).set 1 _).set 2 _).set 3 _), (SgAt.set (SgAt.set (SgAt.set (SgAt.set hsg hz (by decide) 0 _) (hz.set 0 _) (by decide) 1 _) ((hz.set 0 _).set 1 _) (by decide) 2 _) (((hz.set 0 _).set 1 _).set 2 _) (by decide) 3 _)⟩
set_option maxRecDepth 20000 in
set_option maxHeartbeats 1000000 in
theorem pa_s18 (b14 b15 : Bool) (dm : Nat) (w : World) (hst : w0.heap.size ≤ X1 ∧ w0.heap.size ≤ X2 ∧ w0.heap.size ≤ X3 ∧ X1 ≠ X2 ∧ X1 ≠ X3 ∧ X2 ≠ X3) (hB : Below w0.heap.size w0 w) (hx1 : RowAt w X1 25 #[.string mt, .string pt, .slice aq nq cq, .slice a2 n2 c2, .string bd]) (hx2 : RowAt w X2 25 #[.string mt, .string pt, .slice aq nq cq, .slice a2 n2 c2, .string bd]) (hx3 : RowAt w X3 72 #[.string V0, .int .i64 z1, .int .i64 z2, .slice sA L.length mc]) (hsg : SgAt w sA mc L) :
    wpOp Tryz.prog paO Q 18 (paI w0 X1 X2 X3 nn mt pt bd V0 aq nq cq a2 n2 c2 z1 z2 z4 sA mc L sa sf si sj sk sm sn so sp sq sr ss su sv sw sx sy sz ta tb tc td te tf tg th ti tj tk tl tm tn tp tr ts tt tu tv tw tx ty tz ua ub uc ud ue uf ug uh ui uj uk ul um un uo up uq ur us ut uu uv uw ux uy uz ya yb yc yd ye yf #[true, true, true, true, true, true, true, true, true, true, true, true, true, true, b14, b15, true, true, true, false]) { tmps := paT w0 X1 X2 X3 nn mt pt bd V0 aq nq cq a2 n2 c2 z1 z2 z4 sA mc L sa sf si sj sk sm sn so sp sq sr ss su sv sw sx sy sz ta tb tc td te tf tg th ti tj tk tl tm tn tp tr ts tt tu tv tw tx ty tz ua ub uc ud ue uf ug uh ui uj uk ul um un uo up uq ur us ut uu uv uw ux uy uz ya yb yc yd ye yf dm true true true true true true true true true true true true true true b14 b15 true true false false, defers := [] } w := by
  refine wpOp_step (o := pao18) rfl (fun K hK => ?_)
  replace hK := hid hK
  simp only [pao18, paT, selS_t, selS_f]
  go_simp
  exact hK.out _ _ ⟨true, true, true, true, true, true, true, true, true, true, true, true, true, true, b14, b15, true, true, true, false, dm, rfl, rfl, hB, hx1, hx2, hx3, hsg⟩
set_option maxRecDepth 20000 in
set_option maxHeartbeats 1000000 in
theorem pa_s19 (dm : Nat) (w : World) (hst : w0.heap.size ≤ X1 ∧ w0.heap.size ≤ X2 ∧ w0.heap.size ≤ X3 ∧ X1 ≠ X2 ∧ X1 ≠ X3 ∧ X2 ≠ X3) (hB : Below w0.heap.size w0 w) (hx1 : RowAt w X1 25 #[.string mt, .string pt, .slice aq nq cq, .slice a2 n2 c2, .string bd]) (hx2 : RowAt w X2 25 #[.string mt, .string pt, .slice aq nq cq, .slice a2 n2 c2, .string bd]) (hx3 : RowAt w X3 72 #[.string V0, .int .i64 z1, .int .i64 z2, .slice sA L.length mc]) (hsg : SgAt w sA mc L) :
    wpOp Tryz.prog paO Q 19 (paI w0 X1 X2 X3 nn mt pt bd V0 aq nq cq a2 n2 c2 z1 z2 z4 sA mc L sa sf si sj sk sm sn so sp sq sr ss su sv sw sx sy sz ta tb tc td te tf tg th ti tj tk tl tm tn tp tr ts tt tu tv tw tx ty tz ua ub uc ud ue uf ug uh ui uj uk ul um un uo up uq ur us ut uu uv uw ux uy uz ya yb yc yd ye yf #[true, true, true, true, true, true, true, true, true, true, true, true, true, true, true, true, true, true, true, true]) { tmps := paT w0 X1 X2 X3 nn mt pt bd V0 aq nq cq a2 n2 c2 z1 z2 z4 sA mc L sa sf si sj sk sm sn so sp sq sr ss su sv sw sx sy sz ta tb tc td te tf tg th ti tj tk tl tm tn tp tr ts tt tu tv tw tx ty tz ua ub uc ud ue uf ug uh ui uj uk ul um un uo up uq ur us ut uu uv uw ux uy uz ya yb yc yd ye yf dm true true true true true true true true true true true true true true true true true true true false, defers := [] } w := by
  refine wpOp_step (o := pao19) rfl (fun K hK => ?_)
  replace hK := hid hK
  simp only [pao19, paT, selS_t, selS_f]
  go_simp
  exact hK.out _ _ ⟨true, true, true, true, true, true, true, true, true, true, true, true, true, true, true, true, true, true, true, true, dm, rfl, rfl, hB, hx1, hx2, hx3, hsg⟩
set_option maxRecDepth 20000 in
set_option maxHeartbeats 2000000 in
theorem pa_step (hkf : ∀ wx, Below w0.heap.size w0 wx → SgAt wx sA mc L → Calls Tryz.prog 39 #[.agg #[.string V0, .int .i64 z1, .int .i64 z2, .slice sA L.length mc], .slice aq nn cq, .slice a2 n2 c2] wx fun e w' => e = .returned (.bool false) ∧ Below wx.heap.size wx w') (hst : w0.heap.size ≤ X1 ∧ w0.heap.size ≤ X2 ∧ w0.heap.size ≤ X3 ∧ X1 ≠ X2 ∧ X1 ≠ X3 ∧ X2 ≠ X3) (l : Array Bool) (f : Act) (w : World) (hC : Closed paO l) (hI : paI w0 X1 X2 X3 nn mt pt bd V0 aq nq cq a2 n2 c2 z1 z2 z4 sA mc L sa sf si sj sk sm sn so sp sq sr ss su sv sw sx sy sz ta tb tc td te tf tg th ti tj tk tl tm tn tp tr ts tt tu tv tw tx ty tz ua ub uc ud ue uf ug uh ui uj uk ul um un uo up uq ur us ut uu uv uw ux uy uz ya yb yc yd ye yf l f w) (i : Nat) (h0 : l.getD i true = false) (o : Oper) (ho : paO[i]? = some o) (h1 : ∀ e ∈ o.after, Region.binds .any e = true → l.getD e.on false = true) : wpOp Tryz.prog paO Q i (paI w0 X1 X2 X3 nn mt pt bd V0 aq nq cq a2 n2 c2 z1 z2 z4 sA mc L sa sf si sj sk sm sn so sp sq sr ss su sv sw sx sy sz ta tb tc td te tf tg th ti tj tk tl tm tn tp tr ts tt tu tv tw tx ty tz ua ub uc ud ue uf ug uh ui uj uk ul um un uo up uq ur us ut uu uv uw ux uy uz ya yb yc yd ye yf (l.setIfInBounds i true)) f w := by
  obtain ⟨b0, b1, b2, b3, b4, b5, b6, b7, b8, b9, b10, b11, b12, b13, b14, b15, b16, b17, b18, b19, dm, rfl, rfl, hB, hx1, hx2, hx3, hsg⟩ := hI
  have hi : i < 20 := by
    rcases Nat.lt_or_ge i 20 with h | h
    · exact h
    · rw [show paO[i]? = none from Array.getElem?_eq_none h] at ho; cases ho
  rcases (by omega : i = 0 ∨ i = 1 ∨ i = 2 ∨ i = 3 ∨ i = 4 ∨ i = 5 ∨ i = 6 ∨ i = 7 ∨ i = 8 ∨ i = 9 ∨ i = 10 ∨ i = 11 ∨ i = 12 ∨ i = 13 ∨ i = 14 ∨ i = 15 ∨ i = 16 ∨ i = 17 ∨ i = 18 ∨ i = 19) with rfl | rfl | rfl | rfl | rfl | rfl | rfl | rfl | rfl | rfl | rfl | rfl | rfl | rfl | rfl | rfl | rfl | rfl | rfl | rfl
  · obtain rfl : pao0 = o := Option.some.inj ho
    obtain rfl : b0 = false := h0
    obtain rfl : b16 = false := by
      cases b16 with
      | false => rfl
      | true => exact Bool.noConfusion (show false = true from hC 16 pao16 rfl rfl ⟨0, .data⟩ (by simp [pao16]) rfl)
    obtain rfl : b17 = false := by
      cases b17 with
      | false => rfl
      | true => exact Bool.noConfusion (show false = true from hC 17 pao17 rfl rfl ⟨0, .phase⟩ (by simp [pao17]) rfl)
    obtain rfl : b18 = false := by
      cases b18 with
      | false => rfl
      | true => exact Bool.noConfusion (show false = true from hC 18 pao18 rfl rfl ⟨0, .phase⟩ (by simp [pao18]) rfl)
    obtain rfl : b19 = false := by
      cases b19 with
      | false => rfl
      | true => exact Bool.noConfusion (show false = true from hC 19 pao19 rfl rfl ⟨0, .phase⟩ (by simp [pao19]) rfl)
    exact pa_s0 w0 X1 X2 X3 nn mt pt bd V0 aq nq cq a2 n2 c2 z1 z2 z4 sA mc L sa sf si sj sk sm sn so sp sq sr ss su sv sw sx sy sz ta tb tc td te tf tg th ti tj tk tl tm tn tp tr ts tt tu tv tw tx ty tz ua ub uc ud ue uf ug uh ui uj uk ul um un uo up uq ur us ut uu uv uw ux uy uz ya yb yc yd ye yf b1 b2 b3 b4 b5 b6 b7 b8 b9 b10 b11 b12 b13 b14 b15 dm w hst hB hx1 hx2 hx3 hsg
  · obtain rfl : pao1 = o := Option.some.inj ho
    obtain rfl : b1 = false := h0
    obtain rfl : b17 = false := by
      cases b17 with
      | false => rfl
      | true => exact Bool.noConfusion (show false = true from hC 17 pao17 rfl rfl ⟨1, .data⟩ (by simp [pao17]) rfl)
    obtain rfl : b18 = false := by
      cases b18 with
      | false => rfl
      | true => exact Bool.noConfusion (show false = true from hC 18 pao18 rfl rfl ⟨1, .phase⟩ (by simp [pao18]) rfl)
    obtain rfl : b19 = false := by
      cases b19 with
      | false => rfl
      | true => exact Bool.noConfusion (show false = true from hC 19 pao19 rfl rfl ⟨1, .phase⟩ (by simp [pao19]) rfl)
    exact pa_s1 w0 X1 X2 X3 nn mt pt bd V0 aq nq cq a2 n2 c2 z1 z2 z4 sA mc L sa sf si sj sk sm sn so sp sq sr ss su sv sw sx sy sz ta tb tc td te tf tg th ti tj tk tl tm tn tp tr ts tt tu tv tw tx ty tz ua ub uc ud ue uf ug uh ui uj uk ul um un uo up uq ur us ut uu uv uw ux uy uz ya yb yc yd ye yf b0 b2 b3 b4 b5 b6 b7 b8 b9 b10 b11 b12 b13 b14 b15 b16 dm w hst hB hx1 hx2 hx3 hsg
  · obtain rfl : pao2 = o := Option.some.inj ho
    obtain rfl : b2 = false := h0
    obtain rfl : b18 = false := by
      cases b18 with
      | false => rfl
      | true => exact Bool.noConfusion (show false = true from hC 18 pao18 rfl rfl ⟨2, .data⟩ (by simp [pao18]) rfl)
    obtain rfl : b19 = false := by
      cases b19 with
      | false => rfl
      | true => exact Bool.noConfusion (show false = true from hC 19 pao19 rfl rfl ⟨2, .phase⟩ (by simp [pao19]) rfl)
    exact pa_s2 w0 X1 X2 X3 nn mt pt bd V0 aq nq cq a2 n2 c2 z1 z2 z4 sA mc L sa sf si sj sk sm sn so sp sq sr ss su sv sw sx sy sz ta tb tc td te tf tg th ti tj tk tl tm tn tp tr ts tt tu tv tw tx ty tz ua ub uc ud ue uf ug uh ui uj uk ul um un uo up uq ur us ut uu uv uw ux uy uz ya yb yc yd ye yf b0 b1 b3 b4 b5 b6 b7 b8 b9 b10 b11 b12 b13 b14 b15 b16 b17 dm w hst hB hx1 hx2 hx3 hsg
  · obtain rfl : pao3 = o := Option.some.inj ho
    obtain rfl : b3 = false := h0
    obtain rfl : b7 = false := by
      cases b7 with
      | false => rfl
      | true => exact Bool.noConfusion (show false = true from hC 7 pao7 rfl rfl ⟨3, .data⟩ (by simp [pao7]) rfl)
    obtain rfl : b8 = false := by
      cases b8 with
      | false => rfl
      | true => exact Bool.noConfusion (show false = true from hC 8 pao8 rfl rfl ⟨7, .chain⟩ (by simp [pao8]) rfl)
    obtain rfl : b9 = false := by
      cases b9 with
      | false => rfl
      | true => exact Bool.noConfusion (show false = true from hC 9 pao9 rfl rfl ⟨8, .guard⟩ (by simp [pao9]) rfl)
    obtain rfl : b10 = false := by
      cases b10 with
      | false => rfl
      | true => exact Bool.noConfusion (show false = true from hC 10 pao10 rfl rfl ⟨8, .guard⟩ (by simp [pao10]) rfl)
    obtain rfl : b11 = false := by
      cases b11 with
      | false => rfl
      | true => exact Bool.noConfusion (show false = true from hC 11 pao11 rfl rfl ⟨8, .data⟩ (by simp [pao11]) rfl)
    obtain rfl : b12 = false := by
      cases b12 with
      | false => rfl
      | true => exact Bool.noConfusion (show false = true from hC 12 pao12 rfl rfl ⟨8, .chain⟩ (by simp [pao12]) rfl)
    obtain rfl : b13 = false := by
      cases b13 with
      | false => rfl
      | true => exact Bool.noConfusion (show false = true from hC 13 pao13 rfl rfl ⟨12, .guard⟩ (by simp [pao13]) rfl)
    obtain rfl : b14 = false := by
      cases b14 with
      | false => rfl
      | true => exact Bool.noConfusion (show false = true from hC 14 pao14 rfl rfl ⟨12, .guard⟩ (by simp [pao14]) rfl)
    obtain rfl : b15 = false := by
      cases b15 with
      | false => rfl
      | true => exact Bool.noConfusion (show false = true from hC 15 pao15 rfl rfl ⟨12, .data⟩ (by simp [pao15]) rfl)
    obtain rfl : b16 = false := by
      cases b16 with
      | false => rfl
      | true => exact Bool.noConfusion (show false = true from hC 16 pao16 rfl rfl ⟨3, .phase⟩ (by simp [pao16]) rfl)
    obtain rfl : b17 = false := by
      cases b17 with
      | false => rfl
      | true => exact Bool.noConfusion (show false = true from hC 17 pao17 rfl rfl ⟨3, .phase⟩ (by simp [pao17]) rfl)
    obtain rfl : b18 = false := by
      cases b18 with
      | false => rfl
      | true => exact Bool.noConfusion (show false = true from hC 18 pao18 rfl rfl ⟨3, .phase⟩ (by simp [pao18]) rfl)
    obtain rfl : b19 = false := by
      cases b19 with
      | false => rfl
      | true => exact Bool.noConfusion (show false = true from hC 19 pao19 rfl rfl ⟨3, .phase⟩ (by simp [pao19]) rfl)
    exact pa_s3 w0 X1 X2 X3 nn mt pt bd V0 aq nq cq a2 n2 c2 z1 z2 z4 sA mc L sa sf si sj sk sm sn so sp sq sr ss su sv sw sx sy sz ta tb tc td te tf tg th ti tj tk tl tm tn tp tr ts tt tu tv tw tx ty tz ua ub uc ud ue uf ug uh ui uj uk ul um un uo up uq ur us ut uu uv uw ux uy uz ya yb yc yd ye yf b0 b1 b2 b4 b5 b6 dm w hst hB hx1 hx2 hx3 hsg
  · obtain rfl : pao4 = o := Option.some.inj ho
    obtain rfl : b4 = false := h0
    obtain rfl : b7 = false := by
      cases b7 with
      | false => rfl
      | true => exact Bool.noConfusion (show false = true from hC 7 pao7 rfl rfl ⟨4, .data⟩ (by simp [pao7]) rfl)
    obtain rfl : b8 = false := by
      cases b8 with
      | false => rfl
      | true => exact Bool.noConfusion (show false = true from hC 8 pao8 rfl rfl ⟨7, .chain⟩ (by simp [pao8]) rfl)
    obtain rfl : b9 = false := by
      cases b9 with
      | false => rfl
      | true => exact Bool.noConfusion (show false = true from hC 9 pao9 rfl rfl ⟨8, .guard⟩ (by simp [pao9]) rfl)
    obtain rfl : b10 = false := by
      cases b10 with
      | false => rfl
      | true => exact Bool.noConfusion (show false = true from hC 10 pao10 rfl rfl ⟨8, .guard⟩ (by simp [pao10]) rfl)
    obtain rfl : b11 = false := by
      cases b11 with
      | false => rfl
      | true => exact Bool.noConfusion (show false = true from hC 11 pao11 rfl rfl ⟨8, .data⟩ (by simp [pao11]) rfl)
    obtain rfl : b12 = false := by
      cases b12 with
      | false => rfl
      | true => exact Bool.noConfusion (show false = true from hC 12 pao12 rfl rfl ⟨8, .chain⟩ (by simp [pao12]) rfl)
    obtain rfl : b13 = false := by
      cases b13 with
      | false => rfl
      | true => exact Bool.noConfusion (show false = true from hC 13 pao13 rfl rfl ⟨12, .guard⟩ (by simp [pao13]) rfl)
    obtain rfl : b14 = false := by
      cases b14 with
      | false => rfl
      | true => exact Bool.noConfusion (show false = true from hC 14 pao14 rfl rfl ⟨12, .guard⟩ (by simp [pao14]) rfl)
    obtain rfl : b15 = false := by
      cases b15 with
      | false => rfl
      | true => exact Bool.noConfusion (show false = true from hC 15 pao15 rfl rfl ⟨12, .data⟩ (by simp [pao15]) rfl)
    obtain rfl : b16 = false := by
      cases b16 with
      | false => rfl
      | true => exact Bool.noConfusion (show false = true from hC 16 pao16 rfl rfl ⟨9, .phase⟩ (by simp [pao16]) rfl)
    obtain rfl : b17 = false := by
      cases b17 with
      | false => rfl
      | true => exact Bool.noConfusion (show false = true from hC 17 pao17 rfl rfl ⟨9, .phase⟩ (by simp [pao17]) rfl)
    obtain rfl : b18 = false := by
      cases b18 with
      | false => rfl
      | true => exact Bool.noConfusion (show false = true from hC 18 pao18 rfl rfl ⟨9, .phase⟩ (by simp [pao18]) rfl)
    obtain rfl : b19 = false := by
      cases b19 with
      | false => rfl
      | true => exact Bool.noConfusion (show false = true from hC 19 pao19 rfl rfl ⟨4, .phase⟩ (by simp [pao19]) rfl)
    exact pa_s4 w0 X1 X2 X3 nn mt pt bd V0 aq nq cq a2 n2 c2 z1 z2 z4 sA mc L sa sf si sj sk sm sn so sp sq sr ss su sv sw sx sy sz ta tb tc td te tf tg th ti tj tk tl tm tn tp tr ts tt tu tv tw tx ty tz ua ub uc ud ue uf ug uh ui uj uk ul um un uo up uq ur us ut uu uv uw ux uy uz ya yb yc yd ye yf b0 b1 b2 b3 b5 b6 dm w hst hB hx1 hx2 hx3 hsg
  · obtain rfl : pao5 = o := Option.some.inj ho
    obtain rfl : b5 = false := h0
    obtain rfl : b6 = false := by
      cases b6 with
      | false => rfl
      | true => exact Bool.noConfusion (show false = true from hC 6 pao6 rfl rfl ⟨5, .data⟩ (by simp [pao6]) rfl)
    obtain rfl : b7 = false := by
      cases b7 with
      | false => rfl
      | true => exact Bool.noConfusion (show false = true from hC 7 pao7 rfl rfl ⟨6, .data⟩ (by simp [pao7]) rfl)
    obtain rfl : b8 = false := by
      cases b8 with
      | false => rfl
      | true => exact Bool.noConfusion (show false = true from hC 8 pao8 rfl rfl ⟨7, .chain⟩ (by simp [pao8]) rfl)
    obtain rfl : b9 = false := by
      cases b9 with
      | false => rfl
      | true => exact Bool.noConfusion (show false = true from hC 9 pao9 rfl rfl ⟨8, .guard⟩ (by simp [pao9]) rfl)
    obtain rfl : b10 = false := by
      cases b10 with
      | false => rfl
      | true => exact Bool.noConfusion (show false = true from hC 10 pao10 rfl rfl ⟨8, .guard⟩ (by simp [pao10]) rfl)
    obtain rfl : b11 = false := by
      cases b11 with
      | false => rfl
      | true => exact Bool.noConfusion (show false = true from hC 11 pao11 rfl rfl ⟨8, .data⟩ (by simp [pao11]) rfl)
    obtain rfl : b12 = false := by
      cases b12 with
      | false => rfl
      | true => exact Bool.noConfusion (show false = true from hC 12 pao12 rfl rfl ⟨8, .chain⟩ (by simp [pao12]) rfl)
    obtain rfl : b13 = false := by
      cases b13 with
      | false => rfl
      | true => exact Bool.noConfusion (show false = true from hC 13 pao13 rfl rfl ⟨12, .guard⟩ (by simp [pao13]) rfl)
    obtain rfl : b14 = false := by
      cases b14 with
      | false => rfl
      | true => exact Bool.noConfusion (show false = true from hC 14 pao14 rfl rfl ⟨12, .guard⟩ (by simp [pao14]) rfl)
    obtain rfl : b15 = false := by
      cases b15 with
      | false => rfl
      | true => exact Bool.noConfusion (show false = true from hC 15 pao15 rfl rfl ⟨12, .data⟩ (by simp [pao15]) rfl)
    obtain rfl : b16 = false := by
      cases b16 with
      | false => rfl
      | true => exact Bool.noConfusion (show false = true from hC 16 pao16 rfl rfl ⟨9, .phase⟩ (by simp [pao16]) rfl)
    obtain rfl : b17 = false := by
      cases b17 with
      | false => rfl
      | true => exact Bool.noConfusion (show false = true from hC 17 pao17 rfl rfl ⟨9, .phase⟩ (by simp [pao17]) rfl)
    obtain rfl : b18 = false := by
      cases b18 with
      | false => rfl
      | true => exact Bool.noConfusion (show false = true from hC 18 pao18 rfl rfl ⟨9, .phase⟩ (by simp [pao18]) rfl)
    obtain rfl : b19 = false := by
      cases b19 with
      | false => rfl
      | true => exact Bool.noConfusion (show false = true from hC 19 pao19 rfl rfl ⟨5, .phase⟩ (by simp [pao19]) rfl)
    exact pa_s5 w0 X1 X2 X3 nn mt pt bd V0 aq nq cq a2 n2 c2 z1 z2 z4 sA mc L sa sf si sj sk sm sn so sp sq sr ss su sv sw sx sy sz ta tb tc td te tf tg th ti tj tk tl tm tn tp tr ts tt tu tv tw tx ty tz ua ub uc ud ue uf ug uh ui uj uk ul um un uo up uq ur us ut uu uv uw ux uy uz ya yb yc yd ye yf b0 b1 b2 b3 b4 dm w hst hB hx1 hx2 hx3 hsg
  · obtain rfl : pao6 = o := Option.some.inj ho
    obtain rfl : b6 = false := h0
    obtain rfl : b5 = true := h1 ⟨5, .data⟩ (by simp [pao6]) rfl
    obtain rfl : b7 = false := by
      cases b7 with
      | false => rfl
      | true => exact Bool.noConfusion (show false = true from hC 7 pao7 rfl rfl ⟨6, .data⟩ (by simp [pao7]) rfl)
    obtain rfl : b8 = false := by
      cases b8 with
      | false => rfl
      | true => exact Bool.noConfusion (show false = true from hC 8 pao8 rfl rfl ⟨7, .chain⟩ (by simp [pao8]) rfl)
    obtain rfl : b9 = false := by
      cases b9 with
      | false => rfl
      | true => exact Bool.noConfusion (show false = true from hC 9 pao9 rfl rfl ⟨8, .guard⟩ (by simp [pao9]) rfl)
    obtain rfl : b10 = false := by
      cases b10 with
      | false => rfl
      | true => exact Bool.noConfusion (show false = true from hC 10 pao10 rfl rfl ⟨8, .guard⟩ (by simp [pao10]) rfl)
    obtain rfl : b11 = false := by
      cases b11 with
      | false => rfl
      | true => exact Bool.noConfusion (show false = true from hC 11 pao11 rfl rfl ⟨8, .data⟩ (by simp [pao11]) rfl)
    obtain rfl : b12 = false := by
      cases b12 with
      | false => rfl
      | true => exact Bool.noConfusion (show false = true from hC 12 pao12 rfl rfl ⟨8, .chain⟩ (by simp [pao12]) rfl)
    obtain rfl : b13 = false := by
      cases b13 with
      | false => rfl
      | true => exact Bool.noConfusion (show false = true from hC 13 pao13 rfl rfl ⟨12, .guard⟩ (by simp [pao13]) rfl)
    obtain rfl : b14 = false := by
      cases b14 with
      | false => rfl
      | true => exact Bool.noConfusion (show false = true from hC 14 pao14 rfl rfl ⟨12, .guard⟩ (by simp [pao14]) rfl)
    obtain rfl : b15 = false := by
      cases b15 with
      | false => rfl
      | true => exact Bool.noConfusion (show false = true from hC 15 pao15 rfl rfl ⟨12, .data⟩ (by simp [pao15]) rfl)
    obtain rfl : b16 = false := by
      cases b16 with
      | false => rfl
      | true => exact Bool.noConfusion (show false = true from hC 16 pao16 rfl rfl ⟨9, .phase⟩ (by simp [pao16]) rfl)
    obtain rfl : b17 = false := by
      cases b17 with
      | false => rfl
      | true => exact Bool.noConfusion (show false = true from hC 17 pao17 rfl rfl ⟨9, .phase⟩ (by simp [pao17]) rfl)
    obtain rfl : b18 = false := by
      cases b18 with
      | false => rfl
      | true => exact Bool.noConfusion (show false = true from hC 18 pao18 rfl rfl ⟨9, .phase⟩ (by simp [pao18]) rfl)
    obtain rfl : b19 = false := by
      cases b19 with
      | false => rfl
      | true => exact Bool.noConfusion (show false = true from hC 19 pao19 rfl rfl ⟨6, .phase⟩ (by simp [pao19]) rfl)
    exact pa_s6 w0 X1 X2 X3 nn mt pt bd V0 aq nq cq a2 n2 c2 z1 z2 z4 sA mc L sa sf si sj sk sm sn so sp sq sr ss su sv sw sx sy sz ta tb tc td te tf tg th ti tj tk tl tm tn tp tr ts tt tu tv tw tx ty tz ua ub uc ud ue uf ug uh ui uj uk ul um un uo up uq ur us ut uu uv uw ux uy uz ya yb yc yd ye yf b0 b1 b2 b3 b4 dm w hst hB hx1 hx2 hx3 hsg
  · obtain rfl : pao7 = o := Option.some.inj ho
    obtain rfl : b7 = false := h0
    obtain rfl : b6 = true := h1 ⟨6, .data⟩ (by simp [pao7]) rfl
    obtain rfl : b4 = true := h1 ⟨4, .data⟩ (by simp [pao7]) rfl
    obtain rfl : b3 = true := h1 ⟨3, .data⟩ (by simp [pao7]) rfl
    obtain rfl : b5 = true := hC 6 pao6 rfl rfl ⟨5, .data⟩ (by simp [pao6]) rfl
    obtain rfl : b8 = false := by
      cases b8 with
      | false => rfl
      | true => exact Bool.noConfusion (show false = true from hC 8 pao8 rfl rfl ⟨7, .chain⟩ (by simp [pao8]) rfl)
    obtain rfl : b9 = false := by
      cases b9 with
      | false => rfl
      | true => exact Bool.noConfusion (show false = true from hC 9 pao9 rfl rfl ⟨8, .guard⟩ (by simp [pao9]) rfl)
    obtain rfl : b10 = false := by
      cases b10 with
      | false => rfl
      | true => exact Bool.noConfusion (show false = true from hC 10 pao10 rfl rfl ⟨8, .guard⟩ (by simp [pao10]) rfl)
    obtain rfl : b11 = false := by
      cases b11 with
      | false => rfl
      | true => exact Bool.noConfusion (show false = true from hC 11 pao11 rfl rfl ⟨8, .data⟩ (by simp [pao11]) rfl)
    obtain rfl : b12 = false := by
      cases b12 with
      | false => rfl
      | true => exact Bool.noConfusion (show false = true from hC 12 pao12 rfl rfl ⟨8, .chain⟩ (by simp [pao12]) rfl)
    obtain rfl : b13 = false := by
      cases b13 with
      | false => rfl
      | true => exact Bool.noConfusion (show false = true from hC 13 pao13 rfl rfl ⟨12, .guard⟩ (by simp [pao13]) rfl)
    obtain rfl : b14 = false := by
      cases b14 with
      | false => rfl
      | true => exact Bool.noConfusion (show false = true from hC 14 pao14 rfl rfl ⟨12, .guard⟩ (by simp [pao14]) rfl)
    obtain rfl : b15 = false := by
      cases b15 with
      | false => rfl
      | true => exact Bool.noConfusion (show false = true from hC 15 pao15 rfl rfl ⟨12, .data⟩ (by simp [pao15]) rfl)
    obtain rfl : b16 = false := by
      cases b16 with
      | false => rfl
      | true => exact Bool.noConfusion (show false = true from hC 16 pao16 rfl rfl ⟨9, .phase⟩ (by simp [pao16]) rfl)
    obtain rfl : b17 = false := by
      cases b17 with
      | false => rfl
      | true => exact Bool.noConfusion (show false = true from hC 17 pao17 rfl rfl ⟨9, .phase⟩ (by simp [pao17]) rfl)
    obtain rfl : b18 = false := by
      cases b18 with
      | false => rfl
      | true => exact Bool.noConfusion (show false = true from hC 18 pao18 rfl rfl ⟨9, .phase⟩ (by simp [pao18]) rfl)
    obtain rfl : b19 = false := by
      cases b19 with
      | false => rfl
      | true => exact Bool.noConfusion (show false = true from hC 19 pao19 rfl rfl ⟨7, .phase⟩ (by simp [pao19]) rfl)
    exact pa_s7 w0 X1 X2 X3 nn mt pt bd V0 aq nq cq a2 n2 c2 z1 z2 z4 sA mc L sa sf si sj sk sm sn so sp sq sr ss su sv sw sx sy sz ta tb tc td te tf tg th ti tj tk tl tm tn tp tr ts tt tu tv tw tx ty tz ua ub uc ud ue uf ug uh ui uj uk ul um un uo up uq ur us ut uu uv uw ux uy uz ya yb yc yd ye yf b0 b1 b2 dm w hkf hst hB hx1 hx2 hx3 hsg
  · obtain rfl : pao8 = o := Option.some.inj ho
    obtain rfl : b8 = false := h0
    obtain rfl : b7 = true := h1 ⟨7, .chain⟩ (by simp [pao8]) rfl
    obtain rfl : b3 = true := hC 7 pao7 rfl rfl ⟨3, .data⟩ (by simp [pao7]) rfl
    obtain rfl : b4 = true := hC 7 pao7 rfl rfl ⟨4, .data⟩ (by simp [pao7]) rfl
    obtain rfl : b6 = true := hC 7 pao7 rfl rfl ⟨6, .data⟩ (by simp [pao7]) rfl
    obtain rfl : b5 = true := hC 6 pao6 rfl rfl ⟨5, .data⟩ (by simp [pao6]) rfl
    obtain rfl : b9 = false := by
      cases b9 with
      | false => rfl
      | true => exact Bool.noConfusion (show false = true from hC 9 pao9 rfl rfl ⟨8, .guard⟩ (by simp [pao9]) rfl)
    obtain rfl : b10 = false := by
      cases b10 with
      | false => rfl
      | true => exact Bool.noConfusion (show false = true from hC 10 pao10 rfl rfl ⟨8, .guard⟩ (by simp [pao10]) rfl)
    obtain rfl : b11 = false := by
      cases b11 with
      | false => rfl
      | true => exact Bool.noConfusion (show false = true from hC 11 pao11 rfl rfl ⟨8, .data⟩ (by simp [pao11]) rfl)
    obtain rfl : b12 = false := by
      cases b12 with
      | false => rfl
      | true => exact Bool.noConfusion (show false = true from hC 12 pao12 rfl rfl ⟨8, .chain⟩ (by simp [pao12]) rfl)
    obtain rfl : b13 = false := by
      cases b13 with
      | false => rfl
      | true => exact Bool.noConfusion (show false = true from hC 13 pao13 rfl rfl ⟨12, .guard⟩ (by simp [pao13]) rfl)
    obtain rfl : b14 = false := by
      cases b14 with
      | false => rfl
      | true => exact Bool.noConfusion (show false = true from hC 14 pao14 rfl rfl ⟨12, .guard⟩ (by simp [pao14]) rfl)
    obtain rfl : b15 = false := by
      cases b15 with
      | false => rfl
      | true => exact Bool.noConfusion (show false = true from hC 15 pao15 rfl rfl ⟨12, .data⟩ (by simp [pao15]) rfl)
    obtain rfl : b16 = false := by
      cases b16 with
      | false => rfl
      | true => exact Bool.noConfusion (show false = true from hC 16 pao16 rfl rfl ⟨9, .phase⟩ (by simp [pao16]) rfl)
    obtain rfl : b17 = false := by
      cases b17 with
      | false => rfl
      | true => exact Bool.noConfusion (show false = true from hC 17 pao17 rfl rfl ⟨9, .phase⟩ (by simp [pao17]) rfl)
    obtain rfl : b18 = false := by
      cases b18 with
      | false => rfl
      | true => exact Bool.noConfusion (show false = true from hC 18 pao18 rfl rfl ⟨9, .phase⟩ (by simp [pao18]) rfl)
    obtain rfl : b19 = false := by
      cases b19 with
      | false => rfl
      | true => exact Bool.noConfusion (show false = true from hC 19 pao19 rfl rfl ⟨8, .phase⟩ (by simp [pao19]) rfl)
    exact pa_s8 w0 X1 X2 X3 nn mt pt bd V0 aq nq cq a2 n2 c2 z1 z2 z4 sA mc L sa sf si sj sk sm sn so sp sq sr ss su sv sw sx sy sz ta tb tc td te tf tg th ti tj tk tl tm tn tp tr ts tt tu tv tw tx ty tz ua ub uc ud ue uf ug uh ui uj uk ul um un uo up uq ur us ut uu uv uw ux uy uz ya yb yc yd ye yf b0 b1 b2 dm w hst hB hx1 hx2 hx3 hsg
  · obtain rfl : pao9 = o := Option.some.inj ho
    obtain rfl : b9 = false := h0
    obtain rfl : b8 = true := h1 ⟨8, .guard⟩ (by simp [pao9]) rfl
    obtain rfl : b7 = true := hC 8 pao8 rfl rfl ⟨7, .chain⟩ (by simp [pao8]) rfl
    obtain rfl : b3 = true := hC 7 pao7 rfl rfl ⟨3, .data⟩ (by simp [pao7]) rfl
    obtain rfl : b4 = true := hC 7 pao7 rfl rfl ⟨4, .data⟩ (by simp [pao7]) rfl
    obtain rfl : b6 = true := hC 7 pao7 rfl rfl ⟨6, .data⟩ (by simp [pao7]) rfl
    obtain rfl : b5 = true := hC 6 pao6 rfl rfl ⟨5, .data⟩ (by simp [pao6]) rfl
    obtain rfl : b10 = false := by
      cases b10 with
      | false => rfl
      | true => exact Bool.noConfusion (show false = true from hC 10 pao10 rfl rfl ⟨9, .data⟩ (by simp [pao10]) rfl)
    obtain rfl : b11 = false := by
      cases b11 with
      | false => rfl
      | true => exact Bool.noConfusion (show false = true from hC 11 pao11 rfl rfl ⟨10, .data⟩ (by simp [pao11]) rfl)
    obtain rfl : b12 = false := by
      cases b12 with
      | false => rfl
      | true => exact Bool.noConfusion (show false = true from hC 12 pao12 rfl rfl ⟨11, .data⟩ (by simp [pao12]) rfl)
    obtain rfl : b13 = false := by
      cases b13 with
      | false => rfl
      | true => exact Bool.noConfusion (show false = true from hC 13 pao13 rfl rfl ⟨12, .guard⟩ (by simp [pao13]) rfl)
    obtain rfl : b14 = false := by
      cases b14 with
      | false => rfl
      | true => exact Bool.noConfusion (show false = true from hC 14 pao14 rfl rfl ⟨12, .guard⟩ (by simp [pao14]) rfl)
    obtain rfl : b15 = false := by
      cases b15 with
      | false => rfl
      | true => exact Bool.noConfusion (show false = true from hC 15 pao15 rfl rfl ⟨12, .data⟩ (by simp [pao15]) rfl)
    obtain rfl : b16 = false := by
      cases b16 with
      | false => rfl
      | true => exact Bool.noConfusion (show false = true from hC 16 pao16 rfl rfl ⟨9, .phase⟩ (by simp [pao16]) rfl)
    obtain rfl : b17 = false := by
      cases b17 with
      | false => rfl
      | true => exact Bool.noConfusion (show false = true from hC 17 pao17 rfl rfl ⟨9, .phase⟩ (by simp [pao17]) rfl)
    obtain rfl : b18 = false := by
      cases b18 with
      | false => rfl
      | true => exact Bool.noConfusion (show false = true from hC 18 pao18 rfl rfl ⟨9, .phase⟩ (by simp [pao18]) rfl)
    obtain rfl : b19 = false := by
      cases b19 with
      | false => rfl
      | true => exact Bool.noConfusion (show false = true from hC 19 pao19 rfl rfl ⟨9, .phase⟩ (by simp [pao19]) rfl)
    exact pa_s9 w0 X1 X2 X3 nn mt pt bd V0 aq nq cq a2 n2 c2 z1 z2 z4 sA mc L sa sf si sj sk sm sn so sp sq sr ss su sv sw sx sy sz ta tb tc td te tf tg th ti tj tk tl tm tn tp tr ts tt tu tv tw tx ty tz ua ub uc ud ue uf ug uh ui uj uk ul um un uo up uq ur us ut uu uv uw ux uy uz ya yb yc yd ye yf b0 b1 b2 dm w hst hB hx1 hx2 hx3 hsg
  · obtain rfl : pao10 = o := Option.some.inj ho
    obtain rfl : b10 = false := h0
    obtain rfl : b9 = true := h1 ⟨9, .data⟩ (by simp [pao10]) rfl
    obtain rfl : b8 = true := h1 ⟨8, .guard⟩ (by simp [pao10]) rfl
    obtain rfl : b7 = true := hC 8 pao8 rfl rfl ⟨7, .chain⟩ (by simp [pao8]) rfl
    obtain rfl : b3 = true := hC 7 pao7 rfl rfl ⟨3, .data⟩ (by simp [pao7]) rfl
    obtain rfl : b4 = true := hC 7 pao7 rfl rfl ⟨4, .data⟩ (by simp [pao7]) rfl
    obtain rfl : b6 = true := hC 7 pao7 rfl rfl ⟨6, .data⟩ (by simp [pao7]) rfl
    obtain rfl : b5 = true := hC 6 pao6 rfl rfl ⟨5, .data⟩ (by simp [pao6]) rfl
    obtain rfl : b11 = false := by
      cases b11 with
      | false => rfl
      | true => exact Bool.noConfusion (show false = true from hC 11 pao11 rfl rfl ⟨10, .data⟩ (by simp [pao11]) rfl)
    obtain rfl : b12 = false := by
      cases b12 with
      | false => rfl
      | true => exact Bool.noConfusion (show false = true from hC 12 pao12 rfl rfl ⟨11, .data⟩ (by simp [pao12]) rfl)
    obtain rfl : b13 = false := by
      cases b13 with
      | false => rfl
      | true => exact Bool.noConfusion (show false = true from hC 13 pao13 rfl rfl ⟨12, .guard⟩ (by simp [pao13]) rfl)
    obtain rfl : b14 = false := by
      cases b14 with
      | false => rfl
      | true => exact Bool.noConfusion (show false = true from hC 14 pao14 rfl rfl ⟨12, .guard⟩ (by simp [pao14]) rfl)
    obtain rfl : b15 = false := by
      cases b15 with
      | false => rfl
      | true => exact Bool.noConfusion (show false = true from hC 15 pao15 rfl rfl ⟨12, .data⟩ (by simp [pao15]) rfl)
    obtain rfl : b16 = false := by
      cases b16 with
      | false => rfl
      | true => exact Bool.noConfusion (show false = true from hC 16 pao16 rfl rfl ⟨12, .chain⟩ (by simp [pao16]) rfl)
    obtain rfl : b17 = false := by
      cases b17 with
      | false => rfl
      | true => exact Bool.noConfusion (show false = true from hC 17 pao17 rfl rfl ⟨13, .phase⟩ (by simp [pao17]) rfl)
    obtain rfl : b18 = false := by
      cases b18 with
      | false => rfl
      | true => exact Bool.noConfusion (show false = true from hC 18 pao18 rfl rfl ⟨13, .phase⟩ (by simp [pao18]) rfl)
    obtain rfl : b19 = false := by
      cases b19 with
      | false => rfl
      | true => exact Bool.noConfusion (show false = true from hC 19 pao19 rfl rfl ⟨10, .phase⟩ (by simp [pao19]) rfl)
    exact pa_s10 w0 X1 X2 X3 nn mt pt bd V0 aq nq cq a2 n2 c2 z1 z2 z4 sA mc L sa sf si sj sk sm sn so sp sq sr ss su sv sw sx sy sz ta tb tc td te tf tg th ti tj tk tl tm tn tp tr ts tt tu tv tw tx ty tz ua ub uc ud ue uf ug uh ui uj uk ul um un uo up uq ur us ut uu uv uw ux uy uz ya yb yc yd ye yf b0 b1 b2 dm w hst hB hx1 hx2 hx3 hsg
  · obtain rfl : pao11 = o := Option.some.inj ho
    obtain rfl : b11 = false := h0
    obtain rfl : b10 = true := h1 ⟨10, .data⟩ (by simp [pao11]) rfl
    obtain rfl : b8 = true := h1 ⟨8, .data⟩ (by simp [pao11]) rfl
    obtain rfl : b9 = true := hC 10 pao10 rfl rfl ⟨9, .data⟩ (by simp [pao10]) rfl
    obtain rfl : b7 = true := hC 8 pao8 rfl rfl ⟨7, .chain⟩ (by simp [pao8]) rfl
    obtain rfl : b3 = true := hC 7 pao7 rfl rfl ⟨3, .data⟩ (by simp [pao7]) rfl
    obtain rfl : b4 = true := hC 7 pao7 rfl rfl ⟨4, .data⟩ (by simp [pao7]) rfl
    obtain rfl : b6 = true := hC 7 pao7 rfl rfl ⟨6, .data⟩ (by simp [pao7]) rfl
    obtain rfl : b5 = true := hC 6 pao6 rfl rfl ⟨5, .data⟩ (by simp [pao6]) rfl
    obtain rfl : b12 = false := by
      cases b12 with
      | false => rfl
      | true => exact Bool.noConfusion (show false = true from hC 12 pao12 rfl rfl ⟨11, .data⟩ (by simp [pao12]) rfl)
    obtain rfl : b13 = false := by
      cases b13 with
      | false => rfl
      | true => exact Bool.noConfusion (show false = true from hC 13 pao13 rfl rfl ⟨12, .guard⟩ (by simp [pao13]) rfl)
    obtain rfl : b14 = false := by
      cases b14 with
      | false => rfl
      | true => exact Bool.noConfusion (show false = true from hC 14 pao14 rfl rfl ⟨12, .guard⟩ (by simp [pao14]) rfl)
    obtain rfl : b15 = false := by
      cases b15 with
      | false => rfl
      | true => exact Bool.noConfusion (show false = true from hC 15 pao15 rfl rfl ⟨12, .data⟩ (by simp [pao15]) rfl)
    obtain rfl : b16 = false := by
      cases b16 with
      | false => rfl
      | true => exact Bool.noConfusion (show false = true from hC 16 pao16 rfl rfl ⟨12, .chain⟩ (by simp [pao16]) rfl)
    obtain rfl : b17 = false := by
      cases b17 with
      | false => rfl
      | true => exact Bool.noConfusion (show false = true from hC 17 pao17 rfl rfl ⟨13, .phase⟩ (by simp [pao17]) rfl)
    obtain rfl : b18 = false := by
      cases b18 with
      | false => rfl
      | true => exact Bool.noConfusion (show false = true from hC 18 pao18 rfl rfl ⟨13, .phase⟩ (by simp [pao18]) rfl)
    obtain rfl : b19 = false := by
      cases b19 with
      | false => rfl
      | true => exact Bool.noConfusion (show false = true from hC 19 pao19 rfl rfl ⟨11, .phase⟩ (by simp [pao19]) rfl)
    exact pa_s11 w0 X1 X2 X3 nn mt pt bd V0 aq nq cq a2 n2 c2 z1 z2 z4 sA mc L sa sf si sj sk sm sn so sp sq sr ss su sv sw sx sy sz ta tb tc td te tf tg th ti tj tk tl tm tn tp tr ts tt tu tv tw tx ty tz ua ub uc ud ue uf ug uh ui uj uk ul um un uo up uq ur us ut uu uv uw ux uy uz ya yb yc yd ye yf b0 b1 b2 dm w hst hB hx1 hx2 hx3 hsg
  · obtain rfl : pao12 = o := Option.some.inj ho
    obtain rfl : b12 = false := h0
    obtain rfl : b11 = true := h1 ⟨11, .data⟩ (by simp [pao12]) rfl
    obtain rfl : b8 = true := h1 ⟨8, .chain⟩ (by simp [pao12]) rfl
    obtain rfl : b10 = true := hC 11 pao11 rfl rfl ⟨10, .data⟩ (by simp [pao11]) rfl
    obtain rfl : b9 = true := hC 10 pao10 rfl rfl ⟨9, .data⟩ (by simp [pao10]) rfl
    obtain rfl : b7 = true := hC 8 pao8 rfl rfl ⟨7, .chain⟩ (by simp [pao8]) rfl
    obtain rfl : b3 = true := hC 7 pao7 rfl rfl ⟨3, .data⟩ (by simp [pao7]) rfl
    obtain rfl : b4 = true := hC 7 pao7 rfl rfl ⟨4, .data⟩ (by simp [pao7]) rfl
    obtain rfl : b6 = true := hC 7 pao7 rfl rfl ⟨6, .data⟩ (by simp [pao7]) rfl
    obtain rfl : b5 = true := hC 6 pao6 rfl rfl ⟨5, .data⟩ (by simp [pao6]) rfl
    obtain rfl : b13 = false := by
      cases b13 with
      | false => rfl
      | true => exact Bool.noConfusion (show false = true from hC 13 pao13 rfl rfl ⟨12, .guard⟩ (by simp [pao13]) rfl)
    obtain rfl : b14 = false := by
      cases b14 with
      | false => rfl
      | true => exact Bool.noConfusion (show false = true from hC 14 pao14 rfl rfl ⟨12, .guard⟩ (by simp [pao14]) rfl)
    obtain rfl : b15 = false := by
      cases b15 with
      | false => rfl
      | true => exact Bool.noConfusion (show false = true from hC 15 pao15 rfl rfl ⟨12, .data⟩ (by simp [pao15]) rfl)
    obtain rfl : b16 = false := by
      cases b16 with
      | false => rfl
      | true => exact Bool.noConfusion (show false = true from hC 16 pao16 rfl rfl ⟨12, .chain⟩ (by simp [pao16]) rfl)
    obtain rfl : b17 = false := by
      cases b17 with
      | false => rfl
      | true => exact Bool.noConfusion (show false = true from hC 17 pao17 rfl rfl ⟨13, .phase⟩ (by simp [pao17]) rfl)
    obtain rfl : b18 = false := by
      cases b18 with
      | false => rfl
      | true => exact Bool.noConfusion (show false = true from hC 18 pao18 rfl rfl ⟨13, .phase⟩ (by simp [pao18]) rfl)
    obtain rfl : b19 = false := by
      cases b19 with
      | false => rfl
      | true => exact Bool.noConfusion (show false = true from hC 19 pao19 rfl rfl ⟨12, .phase⟩ (by simp [pao19]) rfl)
    exact pa_s12 w0 X1 X2 X3 nn mt pt bd V0 aq nq cq a2 n2 c2 z1 z2 z4 sA mc L sa sf si sj sk sm sn so sp sq sr ss su sv sw sx sy sz ta tb tc td te tf tg th ti tj tk tl tm tn tp tr ts tt tu tv tw tx ty tz ua ub uc ud ue uf ug uh ui uj uk ul um un uo up uq ur us ut uu uv uw ux uy uz ya yb yc yd ye yf b0 b1 b2 dm w hst hB hx1 hx2 hx3 hsg
  · obtain rfl : pao13 = o := Option.some.inj ho
    obtain rfl : b13 = false := h0
    obtain rfl : b12 = true := h1 ⟨12, .guard⟩ (by simp [pao13]) rfl
    obtain rfl : b8 = true := hC 12 pao12 rfl rfl ⟨8, .chain⟩ (by simp [pao12]) rfl
    obtain rfl : b11 = true := hC 12 pao12 rfl rfl ⟨11, .data⟩ (by simp [pao12]) rfl
    obtain rfl : b10 = true := hC 11 pao11 rfl rfl ⟨10, .data⟩ (by simp [pao11]) rfl
    obtain rfl : b9 = true := hC 10 pao10 rfl rfl ⟨9, .data⟩ (by simp [pao10]) rfl
    obtain rfl : b7 = true := hC 8 pao8 rfl rfl ⟨7, .chain⟩ (by simp [pao8]) rfl
    obtain rfl : b3 = true := hC 7 pao7 rfl rfl ⟨3, .data⟩ (by simp [pao7]) rfl
    obtain rfl : b4 = true := hC 7 pao7 rfl rfl ⟨4, .data⟩ (by simp [pao7]) rfl
    obtain rfl : b6 = true := hC 7 pao7 rfl rfl ⟨6, .data⟩ (by simp [pao7]) rfl
    obtain rfl : b5 = true := hC 6 pao6 rfl rfl ⟨5, .data⟩ (by simp [pao6]) rfl
    obtain rfl : b14 = false := by
      cases b14 with
      | false => rfl
      | true => exact Bool.noConfusion (show false = true from hC 14 pao14 rfl rfl ⟨13, .data⟩ (by simp [pao14]) rfl)
    obtain rfl : b15 = false := by
      cases b15 with
      | false => rfl
      | true => exact Bool.noConfusion (show false = true from hC 15 pao15 rfl rfl ⟨14, .data⟩ (by simp [pao15]) rfl)
    obtain rfl : b16 = false := by
      cases b16 with
      | false => rfl
      | true => exact Bool.noConfusion (show false = true from hC 16 pao16 rfl rfl ⟨13, .phase⟩ (by simp [pao16]) rfl)
    obtain rfl : b17 = false := by
      cases b17 with
      | false => rfl
      | true => exact Bool.noConfusion (show false = true from hC 17 pao17 rfl rfl ⟨13, .phase⟩ (by simp [pao17]) rfl)
    obtain rfl : b18 = false := by
      cases b18 with
      | false => rfl
      | true => exact Bool.noConfusion (show false = true from hC 18 pao18 rfl rfl ⟨13, .phase⟩ (by simp [pao18]) rfl)
    obtain rfl : b19 = false := by
      cases b19 with
      | false => rfl
      | true => exact Bool.noConfusion (show false = true from hC 19 pao19 rfl rfl ⟨13, .phase⟩ (by simp [pao19]) rfl)
    exact pa_s13 w0 X1 X2 X3 nn mt pt bd V0 aq nq cq a2 n2 c2 z1 z2 z4 sA mc L sa sf si sj sk sm sn so sp sq sr ss su sv sw sx sy sz ta tb tc td te tf tg th ti tj tk tl tm tn tp tr ts tt tu tv tw tx ty tz ua ub uc ud ue uf ug uh ui uj uk ul um un uo up uq ur us ut uu uv uw ux uy uz ya yb yc yd ye yf b0 b1 b2 dm w hst hB hx1 hx2 hx3 hsg
  · obtain rfl : pao14 = o := Option.some.inj ho
    obtain rfl : b14 = false := h0
    obtain rfl : b13 = true := h1 ⟨13, .data⟩ (by simp [pao14]) rfl
    obtain rfl : b12 = true := h1 ⟨12, .guard⟩ (by simp [pao14]) rfl
    obtain rfl : b8 = true := hC 12 pao12 rfl rfl ⟨8, .chain⟩ (by simp [pao12]) rfl
    obtain rfl : b11 = true := hC 12 pao12 rfl rfl ⟨11, .data⟩ (by simp [pao12]) rfl
    obtain rfl : b10 = true := hC 11 pao11 rfl rfl ⟨10, .data⟩ (by simp [pao11]) rfl
    obtain rfl : b9 = true := hC 10 pao10 rfl rfl ⟨9, .data⟩ (by simp [pao10]) rfl
    obtain rfl : b7 = true := hC 8 pao8 rfl rfl ⟨7, .chain⟩ (by simp [pao8]) rfl
    obtain rfl : b3 = true := hC 7 pao7 rfl rfl ⟨3, .data⟩ (by simp [pao7]) rfl
    obtain rfl : b4 = true := hC 7 pao7 rfl rfl ⟨4, .data⟩ (by simp [pao7]) rfl
    obtain rfl : b6 = true := hC 7 pao7 rfl rfl ⟨6, .data⟩ (by simp [pao7]) rfl
    obtain rfl : b5 = true := hC 6 pao6 rfl rfl ⟨5, .data⟩ (by simp [pao6]) rfl
    obtain rfl : b15 = false := by
      cases b15 with
      | false => rfl
      | true => exact Bool.noConfusion (show false = true from hC 15 pao15 rfl rfl ⟨14, .data⟩ (by simp [pao15]) rfl)
    obtain rfl : b19 = false := by
      cases b19 with
      | false => rfl
      | true => exact Bool.noConfusion (show false = true from hC 19 pao19 rfl rfl ⟨14, .phase⟩ (by simp [pao19]) rfl)
    exact pa_s14 w0 X1 X2 X3 nn mt pt bd V0 aq nq cq a2 n2 c2 z1 z2 z4 sA mc L sa sf si sj sk sm sn so sp sq sr ss su sv sw sx sy sz ta tb tc td te tf tg th ti tj tk tl tm tn tp tr ts tt tu tv tw tx ty tz ua ub uc ud ue uf ug uh ui uj uk ul um un uo up uq ur us ut uu uv uw ux uy uz ya yb yc yd ye yf b0 b1 b2 b16 b17 b18 dm w hst hB hx1 hx2 hx3 hsg
  · obtain rfl : pao15 = o := Option.some.inj ho
    obtain rfl : b15 = false := h0
    obtain rfl : b14 = true := h1 ⟨14, .data⟩ (by simp [pao15]) rfl
    obtain rfl : b12 = true := h1 ⟨12, .data⟩ (by simp [pao15]) rfl
    obtain rfl : b13 = true := hC 14 pao14 rfl rfl ⟨13, .data⟩ (by simp [pao14]) rfl
    obtain rfl : b8 = true := hC 12 pao12 rfl rfl ⟨8, .chain⟩ (by simp [pao12]) rfl
    obtain rfl : b11 = true := hC 12 pao12 rfl rfl ⟨11, .data⟩ (by simp [pao12]) rfl
    obtain rfl : b10 = true := hC 11 pao11 rfl rfl ⟨10, .data⟩ (by simp [pao11]) rfl
    obtain rfl : b9 = true := hC 10 pao10 rfl rfl ⟨9, .data⟩ (by simp [pao10]) rfl
    obtain rfl : b7 = true := hC 8 pao8 rfl rfl ⟨7, .chain⟩ (by simp [pao8]) rfl
    obtain rfl : b3 = true := hC 7 pao7 rfl rfl ⟨3, .data⟩ (by simp [pao7]) rfl
    obtain rfl : b4 = true := hC 7 pao7 rfl rfl ⟨4, .data⟩ (by simp [pao7]) rfl
    obtain rfl : b6 = true := hC 7 pao7 rfl rfl ⟨6, .data⟩ (by simp [pao7]) rfl
    obtain rfl : b5 = true := hC 6 pao6 rfl rfl ⟨5, .data⟩ (by simp [pao6]) rfl
    obtain rfl : b19 = false := by
      cases b19 with
      | false => rfl
      | true => exact Bool.noConfusion (show false = true from hC 19 pao19 rfl rfl ⟨15, .data⟩ (by simp [pao19]) rfl)
    exact pa_s15 w0 X1 X2 X3 nn mt pt bd V0 aq nq cq a2 n2 c2 z1 z2 z4 sA mc L sa sf si sj sk sm sn so sp sq sr ss su sv sw sx sy sz ta tb tc td te tf tg th ti tj tk tl tm tn tp tr ts tt tu tv tw tx ty tz ua ub uc ud ue uf ug uh ui uj uk ul um un uo up uq ur us ut uu uv uw ux uy uz ya yb yc yd ye yf b0 b1 b2 b16 b17 b18 dm w hst hB hx1 hx2 hx3 hsg
  · obtain rfl : pao16 = o := Option.some.inj ho
    obtain rfl : b16 = false := h0
    obtain rfl : b13 = true := h1 ⟨13, .phase⟩ (by simp [pao16]) rfl
    obtain rfl : b12 = true := h1 ⟨12, .chain⟩ (by simp [pao16]) rfl
    obtain rfl : b9 = true := h1 ⟨9, .phase⟩ (by simp [pao16]) rfl
    obtain rfl : b3 = true := h1 ⟨3, .phase⟩ (by simp [pao16]) rfl
    obtain rfl : b0 = true := h1 ⟨0, .data⟩ (by simp [pao16]) rfl
    obtain rfl : b8 = true := hC 12 pao12 rfl rfl ⟨8, .chain⟩ (by simp [pao12]) rfl
    obtain rfl : b11 = true := hC 12 pao12 rfl rfl ⟨11, .data⟩ (by simp [pao12]) rfl
    obtain rfl : b10 = true := hC 11 pao11 rfl rfl ⟨10, .data⟩ (by simp [pao11]) rfl
    obtain rfl : b7 = true := hC 8 pao8 rfl rfl ⟨7, .chain⟩ (by simp [pao8]) rfl
    obtain rfl : b4 = true := hC 7 pao7 rfl rfl ⟨4, .data⟩ (by simp [pao7]) rfl
    obtain rfl : b6 = true := hC 7 pao7 rfl rfl ⟨6, .data⟩ (by simp [pao7]) rfl
    obtain rfl : b5 = true := hC 6 pao6 rfl rfl ⟨5, .data⟩ (by simp [pao6]) rfl
    obtain rfl : b17 = false := by
      cases b17 with
      | false => rfl
      | true => exact Bool.noConfusion (show false = true from hC 17 pao17 rfl rfl ⟨16, .chain⟩ (by simp [pao17]) rfl)
    obtain rfl : b18 = false := by
      cases b18 with
      | false => rfl
      | true => exact Bool.noConfusion (show false = true from hC 18 pao18 rfl rfl ⟨16, .phase⟩ (by simp [pao18]) rfl)
    obtain rfl : b19 = false := by
      cases b19 with
      | false => rfl
      | true => exact Bool.noConfusion (show false = true from hC 19 pao19 rfl rfl ⟨16, .phase⟩ (by simp [pao19]) rfl)
    exact pa_s16 w0 X1 X2 X3 nn mt pt bd V0 aq nq cq a2 n2 c2 z1 z2 z4 sA mc L sa sf si sj sk sm sn so sp sq sr ss su sv sw sx sy sz ta tb tc td te tf tg th ti tj tk tl tm tn tp tr ts tt tu tv tw tx ty tz ua ub uc ud ue uf ug uh ui uj uk ul um un uo up uq ur us ut uu uv uw ux uy uz ya yb yc yd ye yf b1 b2 b14 b15 dm w hst hB hx1 hx2 hx3 hsg
  · obtain rfl : pao17 = o := Option.some.inj ho
    obtain rfl : b17 = false := h0
    obtain rfl : b16 = true := h1 ⟨16, .chain⟩ (by simp [pao17]) rfl
    obtain rfl : b13 = true := h1 ⟨13, .phase⟩ (by simp [pao17]) rfl
    obtain rfl : b9 = true := h1 ⟨9, .phase⟩ (by simp [pao17]) rfl
    obtain rfl : b3 = true := h1 ⟨3, .phase⟩ (by simp [pao17]) rfl
    obtain rfl : b1 = true := h1 ⟨1, .data⟩ (by simp [pao17]) rfl
    obtain rfl : b0 = true := h1 ⟨0, .phase⟩ (by simp [pao17]) rfl
    obtain rfl : b12 = true := hC 16 pao16 rfl rfl ⟨12, .chain⟩ (by simp [pao16]) rfl
    obtain rfl : b8 = true := hC 12 pao12 rfl rfl ⟨8, .chain⟩ (by simp [pao12]) rfl
    obtain rfl : b11 = true := hC 12 pao12 rfl rfl ⟨11, .data⟩ (by simp [pao12]) rfl
    obtain rfl : b10 = true := hC 11 pao11 rfl rfl ⟨10, .data⟩ (by simp [pao11]) rfl
    obtain rfl : b7 = true := hC 8 pao8 rfl rfl ⟨7, .chain⟩ (by simp [pao8]) rfl
    obtain rfl : b4 = true := hC 7 pao7 rfl rfl ⟨4, .data⟩ (by simp [pao7]) rfl
    obtain rfl : b6 = true := hC 7 pao7 rfl rfl ⟨6, .data⟩ (by simp [pao7]) rfl
    obtain rfl : b5 = true := hC 6 pao6 rfl rfl ⟨5, .data⟩ (by simp [pao6]) rfl
    obtain rfl : b18 = false := by
      cases b18 with
      | false => rfl
      | true => exact Bool.noConfusion (show false = true from hC 18 pao18 rfl rfl ⟨17, .chain⟩ (by simp [pao18]) rfl)
    obtain rfl : b19 = false := by
      cases b19 with
      | false => rfl
      | true => exact Bool.noConfusion (show false = true from hC 19 pao19 rfl rfl ⟨17, .phase⟩ (by simp [pao19]) rfl)
    exact pa_s17 w0 X1 X2 X3 nn mt pt bd V0 aq nq cq a2 n2 c2 z1 z2 z4 sA mc L sa sf si sj sk sm sn so sp sq sr ss su sv sw sx sy sz ta tb tc td te tf tg th ti tj tk tl tm tn tp tr ts tt tu tv tw tx ty tz ua ub uc ud ue uf ug uh ui uj uk ul um un uo up uq ur us ut uu uv uw ux uy uz ya yb yc yd ye yf b2 b14 b15 dm w hst hB hx1 hx2 hx3 hsg
  · obtain rfl : pao18 = o := Option.some.inj ho
    obtain rfl : b18 = false := h0
    obtain rfl : b17 = true := h1 ⟨17, .chain⟩ (by simp [pao18]) rfl
    obtain rfl : b16 = true := h1 ⟨16, .phase⟩ (by simp [pao18]) rfl
    obtain rfl : b13 = true := h1 ⟨13, .phase⟩ (by simp [pao18]) rfl
    obtain rfl : b9 = true := h1 ⟨9, .phase⟩ (by simp [pao18]) rfl
    obtain rfl : b3 = true := h1 ⟨3, .phase⟩ (by simp [pao18]) rfl
    obtain rfl : b2 = true := h1 ⟨2, .data⟩ (by simp [pao18]) rfl
    obtain rfl : b1 = true := h1 ⟨1, .phase⟩ (by simp [pao18]) rfl
    obtain rfl : b0 = true := h1 ⟨0, .phase⟩ (by simp [pao18]) rfl
    obtain rfl : b12 = true := hC 16 pao16 rfl rfl ⟨12, .chain⟩ (by simp [pao16]) rfl
    obtain rfl : b8 = true := hC 12 pao12 rfl rfl ⟨8, .chain⟩ (by simp [pao12]) rfl
    obtain rfl : b11 = true := hC 12 pao12 rfl rfl ⟨11, .data⟩ (by simp [pao12]) rfl
    obtain rfl : b10 = true := hC 11 pao11 rfl rfl ⟨10, .data⟩ (by simp [pao11]) rfl
    obtain rfl : b7 = true := hC 8 pao8 rfl rfl ⟨7, .chain⟩ (by simp [pao8]) rfl
    obtain rfl : b4 = true := hC 7 pao7 rfl rfl ⟨4, .data⟩ (by simp [pao7]) rfl
    obtain rfl : b6 = true := hC 7 pao7 rfl rfl ⟨6, .data⟩ (by simp [pao7]) rfl
    obtain rfl : b5 = true := hC 6 pao6 rfl rfl ⟨5, .data⟩ (by simp [pao6]) rfl
    obtain rfl : b19 = false := by
      cases b19 with
      | false => rfl
      | true => exact Bool.noConfusion (show false = true from hC 19 pao19 rfl rfl ⟨18, .chain⟩ (by simp [pao19]) rfl)
    exact pa_s18 w0 X1 X2 X3 nn mt pt bd V0 aq nq cq a2 n2 c2 z1 z2 z4 sA mc L sa sf si sj sk sm sn so sp sq sr ss su sv sw sx sy sz ta tb tc td te tf tg th ti tj tk tl tm tn tp tr ts tt tu tv tw tx ty tz ua ub uc ud ue uf ug uh ui uj uk ul um un uo up uq ur us ut uu uv uw ux uy uz ya yb yc yd ye yf b14 b15 dm w hst hB hx1 hx2 hx3 hsg
  · obtain rfl : pao19 = o := Option.some.inj ho
    obtain rfl : b19 = false := h0
    obtain rfl : b18 = true := h1 ⟨18, .chain⟩ (by simp [pao19]) rfl
    obtain rfl : b17 = true := h1 ⟨17, .phase⟩ (by simp [pao19]) rfl
    obtain rfl : b16 = true := h1 ⟨16, .phase⟩ (by simp [pao19]) rfl
    obtain rfl : b15 = true := h1 ⟨15, .data⟩ (by simp [pao19]) rfl
    obtain rfl : b14 = true := h1 ⟨14, .phase⟩ (by simp [pao19]) rfl
    obtain rfl : b13 = true := h1 ⟨13, .phase⟩ (by simp [pao19]) rfl
    obtain rfl : b12 = true := h1 ⟨12, .phase⟩ (by simp [pao19]) rfl
    obtain rfl : b11 = true := h1 ⟨11, .phase⟩ (by simp [pao19]) rfl
    obtain rfl : b10 = true := h1 ⟨10, .phase⟩ (by simp [pao19]) rfl
    obtain rfl : b9 = true := h1 ⟨9, .phase⟩ (by simp [pao19]) rfl
    obtain rfl : b8 = true := h1 ⟨8, .phase⟩ (by simp [pao19]) rfl
    obtain rfl : b7 = true := h1 ⟨7, .phase⟩ (by simp [pao19]) rfl
    obtain rfl : b6 = true := h1 ⟨6, .phase⟩ (by simp [pao19]) rfl
    obtain rfl : b5 = true := h1 ⟨5, .phase⟩ (by simp [pao19]) rfl
    obtain rfl : b4 = true := h1 ⟨4, .phase⟩ (by simp [pao19]) rfl
    obtain rfl : b3 = true := h1 ⟨3, .phase⟩ (by simp [pao19]) rfl
    obtain rfl : b2 = true := h1 ⟨2, .phase⟩ (by simp [pao19]) rfl
    obtain rfl : b1 = true := h1 ⟨1, .phase⟩ (by simp [pao19]) rfl
    obtain rfl : b0 = true := h1 ⟨0, .phase⟩ (by simp [pao19]) rfl
    exact pa_s19 w0 X1 X2 X3 nn mt pt bd V0 aq nq cq a2 n2 c2 z1 z2 z4 sA mc L sa sf si sj sk sm sn so sp sq sr ss su sv sw sx sy sz ta tb tc td te tf tg th ti tj tk tl tm tn tp tr ts tt tu tv tw tx ty tz ua ub uc ud ue uf ug uh ui uj uk ul um un uo up uq ur us ut uu uv uw ux uy uz ya yb yc yd ye yf  dm w hst hB hx1 hx2 hx3 hsg
end
set_option maxRecDepth 20000 in
set_option maxHeartbeats 4000000 in
theorem pa_wp {Q : Exit → Act → World → Prop} {rid : Nat} (w0 : World) (X1 X2 X3 nn : Nat) (mt pt bd V0 : ByteArray) (aq : Option Addr) (nq cq : Nat) (a2 : Option Addr) (n2 c2 : Nat) (z1 z2 z4 : Int) (sA : Option Addr) (mc : Nat) (L : List ByteArray) {sa sf si sj sk sm sn so sp sq sr ss su sv sw sx sy sz ta tb tc td te tf tg th ti tj tk tl tm tn tp tr ts tt tu tv tw tx ty tz ua ub uc ud ue uf ug uh ui uj uk ul um un uo up uq ur us ut uu uv uw ux uy uz ya yb yc yd ye yf : Value} (w : World) (hB : Below w0.heap.size w0 w) (hx1 : RowAt w X1 25 #[.string mt, .string pt, .slice aq nq cq, .slice a2 n2 c2, .string bd]) (hx2 : RowAt w X2 25 #[.string ⟨#[]⟩, .string ⟨#[]⟩, .slice none 0 0, .slice none 0 0, .string ⟨#[]⟩]) (hx3 : RowAt w X3 72 #[.string V0, .int .i64 z1, .int .i64 z2, .slice sA L.length mc]) (hsg : SgAt w sA mc L) (hkf : ∀ wx, Below w0.heap.size w0 wx → SgAt wx sA mc L → Calls Tryz.prog 39 #[.agg #[.string V0, .int .i64 z1, .int .i64 z2, .slice sA L.length mc], .slice aq nn cq, .slice a2 n2 c2] wx fun e w' => e = .returned (.bool false) ∧ Below wx.heap.size wx w') (hst : w0.heap.size ≤ X1 ∧ w0.heap.size ≤ X2 ∧ w0.heap.size ≤ X3 ∧ X1 ≠ X2 ∧ X1 ≠ X3 ∧ X2 ≠ X3)
    (fin : ∀ (dm : Nat) (w' : World), (Below w0.heap.size w0 w') → (RowAt w' X1 25 #[.string mt, .string pt, .slice aq nq cq, .slice a2 n2 c2, .string bd]) → (RowAt w' X2 25 #[.string mt, .string pt, .slice aq nq cq, .slice a2 n2 c2, .string bd]) → (RowAt w' X3 72 #[.string V0, .int .i64 z1, .int .i64 z2, .slice sA L.length mc]) → (SgAt w' sA mc L) → (∀ wx, Below w0.heap.size w0 wx → SgAt wx sA mc L → Calls Tryz.prog 39 #[.agg #[.string V0, .int .i64 z1, .int .i64 z2, .slice sA L.length mc], .slice aq nn cq, .slice a2 n2 c2] wx fun e w' => e = .returned (.bool false) ∧ Below wx.heap.size wx w') → (w0.heap.size ≤ X1 ∧ w0.heap.size ≤ X2 ∧ w0.heap.size ≤ X3 ∧ X1 ≠ X2 ∧ X1 ≠ X3 ∧ X2 ≠ X3) → Q .normal { tmps := #[sa, .pointer (some ⟨X1, 0, none⟩), .pointer (some ⟨X2, 0, none⟩), .pointer (some ⟨X3, 0, none⟩), .int .i64 z4, .bool false, .slice aq nn cq, si, sj, sk, sm, sn, so, sp, sq, sr, ss, su, sv, sw, sx, sy, sz, ta, tb, tc, td, te, tf, tg, th, ti, tj, tk, tl, tm, tn, tp, tr, ts, tt, tu, tv, tw, tx, ty, tz, ua, ub, uc, ud, ue, uf, ug, uh, ui, uj, uk, ul, um, un, uo, up, .agg #[.string mt, .string pt, .slice aq nq cq, .slice a2 n2 c2, .string bd], .agg #[.string V0, .int .i64 z1, .int .i64 z2, .slice sA L.length mc], .int .i64 z4, .agg #[.string V0, .int .i64 z1, .int .i64 z2, .slice sA L.length mc], .slice aq nn cq, .pointer (some ⟨X1, 3, none⟩), .slice a2 n2 c2, .bool false, .bool false, undef, undef, .bool false, .bool false, undef, undef, .bool false], defers := [] } w') :
    (Code.region rid paO true).wp Tryz.prog Q { tmps := #[sa, .pointer (some ⟨X1, 0, none⟩), .pointer (some ⟨X2, 0, none⟩), .pointer (some ⟨X3, 0, none⟩), .int .i64 z4, sf, .slice aq nn cq, si, sj, sk, sm, sn, so, sp, sq, sr, ss, su, sv, sw, sx, sy, sz, ta, tb, tc, td, te, tf, tg, th, ti, tj, tk, tl, tm, tn, tp, tr, ts, tt, tu, tv, tw, tx, ty, tz, ua, ub, uc, ud, ue, uf, ug, uh, ui, uj, uk, ul, um, un, uo, up, uq, ur, us, ut, uu, uv, uw, ux, uy, uz, ya, yb, yc, yd, ye, yf], defers := [] } w := by
  refine wp_region_invG (ops := paO) (paI w0 X1 X2 X3 nn mt pt bd V0 aq nq cq a2 n2 c2 z1 z2 z4 sA mc L sa sf si sj sk sm sn so sp sq sr ss su sv sw sx sy sz ta tb tc td te tf tg th ti tj tk tl tm tn tp tr ts tt tu tv tw tx ty tz ua ub uc ud ue uf ug uh ui uj uk ul um un uo up uq ur us ut uu uv uw ux uy uz ya yb yc yd ye yf) (by kernel_rfl) (by kernel_rfl) (fun l f v hI => ?_) (fun l f v hC hI i h0 o ho h1 => pa_step w0 X1 X2 X3 nn mt pt bd V0 aq nq cq a2 n2 c2 z1 z2 z4 sA mc L sa sf si sj sk sm sn so sp sq sr ss su sv sw sx sy sz ta tb tc td te tf tg th ti tj tk tl tm tn tp tr ts tt tu tv tw tx ty tz ua ub uc ud ue uf ug uh ui uj uk ul um un uo up uq ur us ut uu uv uw ux uy uz ya yb yc yd ye yf hkf hst l f v hC hI i h0 o ho h1) (fun l f v hI hall => ?_) ?_
  · obtain ⟨_, _, _, _, _, _, _, _, _, _, _, _, _, _, _, _, _, _, _, _, _, rfl, _⟩ := hI; rfl
  · obtain ⟨b0, b1, b2, b3, b4, b5, b6, b7, b8, b9, b10, b11, b12, b13, b14, b15, b16, b17, b18, b19, dm, rfl, rfl, hB, hx1, hx2, hx3, hsg⟩ := hI
    obtain rfl : b0 = true := hall 0 (by simp)
    obtain rfl : b1 = true := hall 1 (by simp)
    obtain rfl : b2 = true := hall 2 (by simp)
    obtain rfl : b3 = true := hall 3 (by simp)
    obtain rfl : b4 = true := hall 4 (by simp)
    obtain rfl : b5 = true := hall 5 (by simp)
    obtain rfl : b6 = true := hall 6 (by simp)
    obtain rfl : b7 = true := hall 7 (by simp)
    obtain rfl : b8 = true := hall 8 (by simp)
    obtain rfl : b9 = true := hall 9 (by simp)
    obtain rfl : b10 = true := hall 10 (by simp)
    obtain rfl : b11 = true := hall 11 (by simp)
    obtain rfl : b12 = true := hall 12 (by simp)
    obtain rfl : b13 = true := hall 13 (by simp)
    obtain rfl : b14 = true := hall 14 (by simp)
    obtain rfl : b15 = true := hall 15 (by simp)
    obtain rfl : b16 = true := hall 16 (by simp)
    obtain rfl : b17 = true := hall 17 (by simp)
    obtain rfl : b18 = true := hall 18 (by simp)
    obtain rfl : b19 = true := hall 19 (by simp)
    exact fin dm v hB hx1 hx2 hx3 hsg hkf hst
  · exact ⟨false, false, false, false, false, false, false, false, false, false, false, false, false, false, false, false, false, false, false, false, 0, rfl, rfl, hB.drew, hx1.drew, hx2.drew, hx3.drew, hsg.below ((Below.refl _ _).drew)⟩
end Go.Proofs.YtkppgjndmbbobaaGreatDoor
