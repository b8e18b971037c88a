import Derived.Test.YtgoplcjjoiiagaaGreatDoorD1
import Derived.Test.YtgoplcjjoiiagaaGreatDoorRdO
import Derived.Deep.AppendLies
namespace Go.Proofs.YtgoplcjjoiiagaaGreatDoor
open Go.RowKit
set_option linter.unusedVariables false
theorem methC_at (k : Nat) (hk : k < 5) : ∃ t : ByteArray, (#[.string ⟨#[71, 69, 84]⟩, .string ⟨#[80, 85, 84]⟩, .string ⟨#[80, 79, 83, 84]⟩, .string ⟨#[68, 69, 76, 69, 84, 69]⟩, .string ⟨#[72, 69, 65, 68]⟩] : Array Value)[k]? = some (.string t) ∧ t.size ≤ 6 := by
  rcases (by omega : k = 0 ∨ k = 1 ∨ k = 2 ∨ k = 3 ∨ k = 4) with rfl | rfl | rfl | rfl | rfl
  all_goals exact ⟨_, rfl, by decide⟩
theorem rowNe {w : World} {x y : Nat} {t u : TypeId} {cs ds : Array Value} (h : RowAt w x t cs) (k : RowAt w y u ds) (hn : t ≠ u) : x ≠ y := fun e => by
  subst e
  have := Option.some.inj (Eq.trans (Eq.symm h) k)
  injection this with _ h2
  exact hn h2
def rq1o0 : Oper := { dst := some 6, op := Op.buildSlice 86 5 #[(0, Operand.const (Value.string { data := #[71, 69, 84] })), (1, Operand.const (Value.string { data := #[80, 85, 84] })), (2, Operand.const (Value.string { data := #[80, 79, 83, 84] })), (3, Operand.const (Value.string { data := #[68, 69, 76, 69, 84, 69] })), (4, Operand.const (Value.string { data := #[72, 69, 65, 68] }))], type := 86, pos := "l10_request.go:378", after := #[], guard := none }
def rq1o1 : Oper := { dst := some 7, op := Op.move (Operand.tmp 0), type := 43, pos := "l10_request.go:378", after := #[], guard := none }
def rq1o2 : Oper := { dst := some 8, op := Op.call { callee := Callee.value (Operand.func 52), args := #[Operand.tmp 7, Operand.const (Value.int IntKind.i64 5)], argTypes := #[43, 2] }, type := 2, pos := "l10_request.go:378", after := #[{ on := 1, ground := Ground.data }], guard := none }
def rq1o3 : Oper := { dst := some 9, op := Op.indexAddr 86 (Operand.tmp 6) (Operand.tmp 8), type := 0, pos := "l10_request.go:378", after := #[{ on := 0, ground := Ground.data }, { on := 2, ground := Ground.data }], guard := none }
def rq1o4 : Oper := { dst := some 10, op := Op.load 9 (Operand.tmp 9), type := 9, pos := "l10_request.go:378", after := #[{ on := 3, ground := Ground.data }], guard := none }
def rq1o5 : Oper := { dst := some 11, op := Op.move (Operand.tmp 0), type := 43, pos := "l10_request.go:378", after := #[], guard := none }
def rq1o6 : Oper := { dst := some 12, op := Op.call { callee := Callee.value (Operand.func 81), args := #[Operand.tmp 11], argTypes := #[43] }, type := 9, pos := "l10_request.go:378", after := #[{ on := 5, ground := Ground.data }, { on := 2, ground := Ground.chain }], guard := none }
def rq1o7 : Oper := { dst := some 13, op := Op.binOp BinOp.add 9 (Operand.const (Value.string { data := #[47] })) (Operand.tmp 12) 9, type := 9, pos := "l10_request.go:378", after := #[{ on := 6, ground := Ground.data }], guard := none }
def rq1o8 : Oper := { dst := some 14, op := Op.binOp BinOp.add 9 (Operand.tmp 13) (Operand.const (Value.string { data := #[47] })) 9, type := 9, pos := "l10_request.go:378", after := #[{ on := 7, ground := Ground.data }], guard := none }
def rq1o9 : Oper := { dst := some 15, op := Op.move (Operand.tmp 0), type := 43, pos := "l10_request.go:378", after := #[], guard := none }
def rq1o10 : Oper := { dst := some 16, op := Op.move (Operand.tmp 0), type := 43, pos := "l10_request.go:378", after := #[], guard := none }
def rq1o11 : Oper := { dst := some 17, op := Op.call { callee := Callee.value (Operand.func 52), args := #[Operand.tmp 16, Operand.const (Value.int IntKind.i64 6)], argTypes := #[43, 2] }, type := 2, pos := "l10_request.go:378", after := #[{ on := 10, ground := Ground.data }, { on := 6, ground := Ground.chain }], guard := none }
def rq1o12 : Oper := { dst := some 18, op := Op.call { callee := Callee.value (Operand.func 63), args := #[Operand.tmp 15, Operand.tmp 17], argTypes := #[43, 2] }, type := 9, pos := "l10_request.go:378", after := #[{ on := 9, ground := Ground.data }, { on := 11, ground := Ground.data }, { on := 11, ground := Ground.chain }], guard := none }
def rq1o13 : Oper := { dst := some 19, op := Op.binOp BinOp.add 9 (Operand.tmp 14) (Operand.tmp 18) 9, type := 9, pos := "l10_request.go:378", after := #[{ on := 8, ground := Ground.data }, { on := 12, ground := Ground.data }], guard := none }
def rq1o14 : Oper := { dst := some 20, op := Op.build 25 #[(0, Operand.tmp 10), (1, Operand.tmp 19)], type := 25, pos := "l10_request.go:378", after := #[{ on := 4, ground := Ground.data }, { on := 13, ground := Ground.data }], guard := none }
def rq1o15 : Oper := { dst := some 3, op := Op.alloc 25, type := 0, pos := "l10_request.go:378", after := #[], guard := none }
def rq1o16 : Oper := { dst := none, op := Op.store 25 (Operand.tmp 3) (Operand.tmp 20), type := 0, pos := "l10_request.go:378", after := #[{ on := 15, ground := Ground.data }, { on := 14, ground := Ground.data }, { on := 12, ground := Ground.chain }, { on := 0, ground := Ground.phase }, { on := 1, ground := Ground.phase }, { on := 2, ground := Ground.phase }, { on := 3, ground := Ground.phase }, { on := 4, ground := Ground.phase }, { on := 5, ground := Ground.phase }, { on := 6, ground := Ground.phase }, { on := 7, ground := Ground.phase }, { on := 8, ground := Ground.phase }, { on := 9, ground := Ground.phase }, { on := 10, ground := Ground.phase }, { on := 11, ground := Ground.phase }, { on := 12, ground := Ground.phase }, { on := 13, ground := Ground.phase }, { on := 14, ground := Ground.phase }, { on := 15, ground := Ground.phase }], guard := none }
def rq1O : Array Oper := #[rq1o0, rq1o1, rq1o2, rq1o3, rq1o4, rq1o5, rq1o6, rq1o7, rq1o8, rq1o9, rq1o10, rq1o11, rq1o12, rq1o13, rq1o14, rq1o15, rq1o16]
def rq1I (W0 W1 : World) (c : Nat) (a : Option Addr) (len cap p : Nat) (XR : Nat) (l : Array Bool) (f : Act) (w : World) : Prop :=
  ∃ (b0 b1 b2 b3 b4 b5 b6 b7 b8 b9 b10 b11 b12 b13 b14 b15 b16 : Bool) (XT : Nat) (XB : Nat) (R2 : Nat) (mt : ByteArray) (wd : ByteArray) (R4 : Nat) (bt : ByteArray) (pp : Nat), l = #[b0, b1, b2, b3, b4, b5, b6, b7, b8, b9, b10, b11, b12, b13, b14, b15, b16] ∧ f = { tmps := #[.pointer (some ⟨c, 0, none⟩), undef, .pointer (some ⟨XR, 0, none⟩), sel b15 (.pointer (some ⟨XB, 0, none⟩)) (undef), undef, undef, sel b0 (.slice (some ⟨XT, 0, none⟩) 5 5) (undef), sel b1 (.pointer (some ⟨c, 0, none⟩)) (undef), sel b2 (.int .i64 (R2 : Int)) (undef), sel b3 (.pointer (some ⟨XT, R2, none⟩)) (undef), sel b4 (.string mt) (undef), sel b5 (.pointer (some ⟨c, 0, none⟩)) (undef), sel b6 (.string wd) (undef), sel b7 (.string ((⟨#[47]⟩ : ByteArray) ++ wd)) (undef), sel b8 (.string ((⟨#[47]⟩ : ByteArray) ++ wd ++ (⟨#[47]⟩ : ByteArray))) (undef), sel b9 (.pointer (some ⟨c, 0, none⟩)) (undef), sel b10 (.pointer (some ⟨c, 0, none⟩)) (undef), sel b11 (.int .i64 (R4 : Int)) (undef), sel b12 (.string bt) (undef), sel b13 (.string ((⟨#[47]⟩ : ByteArray) ++ wd ++ (⟨#[47]⟩ : ByteArray) ++ bt)) (undef), sel b14 (.agg #[.string mt, .string ((⟨#[47]⟩ : ByteArray) ++ wd ++ (⟨#[47]⟩ : ByteArray) ++ bt), .slice none 0 0, .slice none 0 0, .string ⟨#[]⟩]) (undef), undef, undef, undef, undef, undef, undef, undef, undef, undef, undef, undef, undef, undef, undef, undef, undef, undef, undef, undef, undef, undef, undef, undef, undef, undef, undef, undef, undef, undef, undef, undef, undef, undef, undef, undef, undef, undef, undef, undef, undef, undef, undef, undef, undef, undef, undef, undef, undef, undef, undef, undef, undef], defers := [] } ∧ (Src W0 w c a len cap pp) ∧ (pp ≤ p + 40 * (b2.toNat + b6.toNat + b11.toNat + b12.toNat)) ∧ (W1.grownBy w (some c)) ∧ (c < W1.heap.size) ∧ (b0 = true → RowAt w XT 9 #[.string ⟨#[71, 69, 84]⟩, .string ⟨#[80, 85, 84]⟩, .string ⟨#[80, 79, 83, 84]⟩, .string ⟨#[68, 69, 76, 69, 84, 69]⟩, .string ⟨#[72, 69, 65, 68]⟩] ∧ W1.heap.size ≤ XT) ∧ (b2 = true → R2 < 5) ∧ (b4 = true → mt.size ≤ 6) ∧ (b6 = true → wd.size ≤ 6) ∧ (b11 = true → R4 < 6) ∧ (b12 = true → bt.size ≤ 6) ∧ (b15 = true → W1.heap.size ≤ XB ∧ RowAt w XB 25 (cond b16 #[.string mt, .string ((⟨#[47]⟩ : ByteArray) ++ wd ++ (⟨#[47]⟩ : ByteArray) ++ bt), .slice none 0 0, .slice none 0 0, .string ⟨#[]⟩] #[.string ⟨#[]⟩, .string ⟨#[]⟩, .slice none 0 0, .slice none 0 0, .string ⟨#[]⟩])) ∧ (p ≤ 900000)
set_option maxRecDepth 20000 in
set_option maxHeartbeats 1000000 in
theorem rq1_s0 {Q : Exit → Act → World → Prop} (W0 W1 : World) (c : Nat) (a : Option Addr) (len cap p : Nat) (XR : Nat) (b1 b2 b5 b6 b7 b8 b9 b10 b11 b12 b13 b15 : Bool) (XT : Nat) (XB : Nat) (R2 : Nat) (mt : ByteArray) (wd : ByteArray) (R4 : Nat) (bt : ByteArray) (pp : Nat) (w : World) (hS : Src W0 w c a len cap pp) (hp : pp ≤ p + 40 * (b2.toNat + b6.toNat + b11.toNat + b12.toNat)) (hg : W1.grownBy w (some c)) (hc : c < W1.heap.size) (ht : false = true → RowAt w XT 9 #[.string ⟨#[71, 69, 84]⟩, .string ⟨#[80, 85, 84]⟩, .string ⟨#[80, 79, 83, 84]⟩, .string ⟨#[68, 69, 76, 69, 84, 69]⟩, .string ⟨#[72, 69, 65, 68]⟩] ∧ W1.heap.size ≤ XT) (hr2 : b2 = true → R2 < 5) (hm : false = true → mt.size ≤ 6) (hwd : b6 = true → wd.size ≤ 6) (hr4 : b11 = true → R4 < 6) (hbt : b12 = true → bt.size ≤ 6) (hb : b15 = true → W1.heap.size ≤ XB ∧ RowAt w XB 25 (cond false #[.string mt, .string ((⟨#[47]⟩ : ByteArray) ++ wd ++ (⟨#[47]⟩ : ByteArray) ++ bt), .slice none 0 0, .slice none 0 0, .string ⟨#[]⟩] #[.string ⟨#[]⟩, .string ⟨#[]⟩, .slice none 0 0, .slice none 0 0, .string ⟨#[]⟩])) (hk : p ≤ 900000) :
    wpOp Tryz.prog rq1O Q 0 (rq1I W0 W1 c a len cap p XR #[true, b1, b2, false, false, b5, b6, b7, b8, b9, b10, b11, b12, b13, false, b15, false]) { tmps := #[.pointer (some ⟨c, 0, none⟩), undef, .pointer (some ⟨XR, 0, none⟩), sel b15 (.pointer (some ⟨XB, 0, none⟩)) (undef), undef, undef, undef, sel b1 (.pointer (some ⟨c, 0, none⟩)) (undef), sel b2 (.int .i64 (R2 : Int)) (undef), undef, undef, sel b5 (.pointer (some ⟨c, 0, none⟩)) (undef), sel b6 (.string wd) (undef), sel b7 (.string ((⟨#[47]⟩ : ByteArray) ++ wd)) (undef), sel b8 (.string ((⟨#[47]⟩ : ByteArray) ++ wd ++ (⟨#[47]⟩ : ByteArray))) (undef), sel b9 (.pointer (some ⟨c, 0, none⟩)) (undef), sel b10 (.pointer (some ⟨c, 0, none⟩)) (undef), sel b11 (.int .i64 (R4 : Int)) (undef), sel b12 (.string bt) (undef), sel b13 (.string ((⟨#[47]⟩ : ByteArray) ++ wd ++ (⟨#[47]⟩ : ByteArray) ++ bt)) (undef), undef, undef, undef, undef, undef, undef, undef, undef, undef, undef, undef, undef, undef, undef, undef, undef, undef, undef, undef, undef, undef, undef, undef, undef, undef, undef, undef, undef, undef, undef, undef, undef, undef, undef, undef, undef, undef, undef, undef, undef, undef, undef, undef, undef, undef, undef, undef, undef, undef, undef, undef, undef, undef], defers := [] } w := by
  refine wpOp_step (o := { dst := some 6, op := Op.buildSlice 86 5 #[(0, Operand.const (Value.string { data := #[71, 69, 84] })), (1, Operand.const (Value.string { data := #[80, 85, 84] })), (2, Operand.const (Value.string { data := #[80, 79, 83, 84] })), (3, Operand.const (Value.string { data := #[68, 69, 76, 69, 84, 69] })), (4, Operand.const (Value.string { data := #[72, 69, 65, 68] }))], type := 86, pos := "l10_request.go:378", after := #[], guard := none }) rfl (fun K hK => ?_)
  replace hK := hid hK
  go_simp
  exact hK.out _ _ ⟨true, b1, b2, false, false, b5, b6, b7, b8, b9, b10, b11, b12, b13, false, b15, false, w.heap.size, XB, R2, mt, wd, R4, bt, pp, rfl, rfl, hS.alloc _, hp, grown_al hg _, hc, fun _ => ⟨RowAt.new w _ _, hg.size⟩, hr2, hm, hwd, hr4, hbt, fun h => ⟨(hb h).1, (hb h).2.alloc _⟩, hk⟩
set_option maxRecDepth 20000 in
set_option maxHeartbeats 1000000 in
theorem rq1_s1 {Q : Exit → Act → World → Prop} (W0 W1 : World) (c : Nat) (a : Option Addr) (len cap p : Nat) (XR : Nat) (b0 b5 b9 b10 b15 : Bool) (XT : Nat) (XB : Nat) (R2 : Nat) (mt : ByteArray) (wd : ByteArray) (R4 : Nat) (bt : ByteArray) (pp : Nat) (w : World) (hS : Src W0 w c a len cap pp) (hp : pp ≤ p + 40 * (0 + 0 + 0 + 0)) (hg : W1.grownBy w (some c)) (hc : c < W1.heap.size) (ht : b0 = true → RowAt w XT 9 #[.string ⟨#[71, 69, 84]⟩, .string ⟨#[80, 85, 84]⟩, .string ⟨#[80, 79, 83, 84]⟩, .string ⟨#[68, 69, 76, 69, 84, 69]⟩, .string ⟨#[72, 69, 65, 68]⟩] ∧ W1.heap.size ≤ XT) (hr2 : false = true → R2 < 5) (hm : false = true → mt.size ≤ 6) (hwd : false = true → wd.size ≤ 6) (hr4 : false = true → R4 < 6) (hbt : false = true → bt.size ≤ 6) (hb : b15 = true → W1.heap.size ≤ XB ∧ RowAt w XB 25 (cond false #[.string mt, .string ((⟨#[47]⟩ : ByteArray) ++ wd ++ (⟨#[47]⟩ : ByteArray) ++ bt), .slice none 0 0, .slice none 0 0, .string ⟨#[]⟩] #[.string ⟨#[]⟩, .string ⟨#[]⟩, .slice none 0 0, .slice none 0 0, .string ⟨#[]⟩])) (hk : p ≤ 900000) :
    wpOp Tryz.prog rq1O Q 1 (rq1I W0 W1 c a len cap p XR #[b0, true, false, false, false, b5, false, false, false, b9, b10, false, false, false, false, b15, false]) { tmps := #[.pointer (some ⟨c, 0, none⟩), undef, .pointer (some ⟨XR, 0, none⟩), sel b15 (.pointer (some ⟨XB, 0, none⟩)) (undef), undef, undef, sel b0 (.slice (some ⟨XT, 0, none⟩) 5 5) (undef), undef, undef, undef, undef, sel b5 (.pointer (some ⟨c, 0, none⟩)) (undef), undef, undef, undef, sel b9 (.pointer (some ⟨c, 0, none⟩)) (undef), sel b10 (.pointer (some ⟨c, 0, none⟩)) (undef), undef, undef, undef, undef, undef, undef, undef, undef, undef, undef, undef, undef, undef, undef, undef, undef, undef, undef, undef, undef, undef, undef, undef, undef, undef, undef, undef, undef, undef, undef, undef, undef, undef, undef, undef, undef, undef, undef, undef, undef, undef, undef, undef, undef, undef, undef, undef, undef, undef, undef, undef, undef, undef, undef, undef, undef], defers := [] } w := by
  refine wpOp_step (o := { dst := some 7, op := Op.move (Operand.tmp 0), type := 43, pos := "l10_request.go:378", after := #[], guard := none }) rfl (fun K hK => ?_)
  replace hK := hid hK
  go_simp
  exact hK.out _ _ ⟨b0, true, false, false, false, b5, false, false, false, b9, b10, false, false, false, false, b15, false, XT, XB, R2, mt, wd, R4, bt, pp, rfl, rfl, hS, hp, hg, hc, ht, hr2, hm, hwd, hr4, hbt, hb, hk⟩
set_option maxRecDepth 20000 in
set_option maxHeartbeats 1000000 in
theorem rq1_s2 {Q : Exit → Act → World → Prop} (W0 W1 : World) (c : Nat) (a : Option Addr) (len cap p : Nat) (XR : Nat) (b0 b5 b9 b10 b15 : Bool) (XT : Nat) (XB : Nat) (R2 : Nat) (mt : ByteArray) (wd : ByteArray) (R4 : Nat) (bt : ByteArray) (pp : Nat) (w : World) (hS : Src W0 w c a len cap pp) (hp : pp ≤ p + 40 * (0 + 0 + 0 + 0)) (hg : W1.grownBy w (some c)) (hc : c < W1.heap.size) (ht : b0 = true → RowAt w XT 9 #[.string ⟨#[71, 69, 84]⟩, .string ⟨#[80, 85, 84]⟩, .string ⟨#[80, 79, 83, 84]⟩, .string ⟨#[68, 69, 76, 69, 84, 69]⟩, .string ⟨#[72, 69, 65, 68]⟩] ∧ W1.heap.size ≤ XT) (hr2 : false = true → R2 < 5) (hm : false = true → mt.size ≤ 6) (hwd : false = true → wd.size ≤ 6) (hr4 : false = true → R4 < 6) (hbt : false = true → bt.size ≤ 6) (hb : b15 = true → W1.heap.size ≤ XB ∧ RowAt w XB 25 (cond false #[.string mt, .string ((⟨#[47]⟩ : ByteArray) ++ wd ++ (⟨#[47]⟩ : ByteArray) ++ bt), .slice none 0 0, .slice none 0 0, .string ⟨#[]⟩] #[.string ⟨#[]⟩, .string ⟨#[]⟩, .slice none 0 0, .slice none 0 0, .string ⟨#[]⟩])) (hk : p ≤ 900000) :
    wpOp Tryz.prog rq1O Q 2 (rq1I W0 W1 c a len cap p XR #[b0, true, true, false, false, b5, false, false, false, b9, b10, false, false, false, false, b15, false]) { tmps := #[.pointer (some ⟨c, 0, none⟩), undef, .pointer (some ⟨XR, 0, none⟩), sel b15 (.pointer (some ⟨XB, 0, none⟩)) (undef), undef, undef, sel b0 (.slice (some ⟨XT, 0, none⟩) 5 5) (undef), .pointer (some ⟨c, 0, none⟩), undef, undef, undef, sel b5 (.pointer (some ⟨c, 0, none⟩)) (undef), undef, undef, undef, sel b9 (.pointer (some ⟨c, 0, none⟩)) (undef), sel b10 (.pointer (some ⟨c, 0, none⟩)) (undef), undef, undef, undef, undef, undef, undef, undef, undef, undef, undef, undef, undef, undef, undef, undef, undef, undef, undef, undef, undef, undef, undef, undef, undef, undef, undef, undef, undef, undef, undef, undef, undef, undef, undef, undef, undef, undef, undef, undef, undef, undef, undef, undef, undef, undef, undef, undef, undef, undef, undef, undef, undef, undef, undef, undef, undef], defers := [] } w := by
  refine wpOp_step (o := { dst := some 8, op := Op.call { callee := Callee.value (Operand.func 52), args := #[Operand.tmp 7, Operand.const (Value.int IntKind.i64 5)], argTypes := #[43, 2] }, type := 2, pos := "l10_request.go:378", after := #[{ on := 1, ground := Ground.data }], guard := none }) rfl (fun K hK => ?_)
  replace hK := hid hK
  go_simp
  refine (n_all W0 _ c a len cap pp 5 hS (by omega) (by omega) (by omega)).mono ?_
  rintro e w2 ⟨⟨r, rfl, h20, h21⟩, hs2, hg2⟩
  obtain ⟨R, rfl⟩ := Int.eq_ofNat_of_zero_le h20
  dsimp only
  exact hK.out _ _ ⟨b0, true, true, false, false, b5, false, false, false, b9, b10, false, false, false, false, b15, false, XT, XB, R, mt, wd, R4, bt, pp + 1, rfl, rfl, hs2, by show pp + 1 ≤ p + 40 * (1 + 0 + 0 + 0); omega, grown_trans hg hg2, hc, fun h => ⟨rowF (ht h).1 hg2 (by have := (ht h).2; omega), (ht h).2⟩, fun _ => by omega, hm, hwd, hr4, hbt, fun h => ⟨(hb h).1, rowF (hb h).2 hg2 (by have := (hb h).1; omega)⟩, hk⟩
set_option maxRecDepth 20000 in
set_option maxHeartbeats 1000000 in
theorem rq1_s3 {Q : Exit → Act → World → Prop} (W0 W1 : World) (c : Nat) (a : Option Addr) (len cap p : Nat) (XR : Nat) (b5 b6 b7 b8 b9 b10 b11 b12 b13 b15 : Bool) (XT : Nat) (XB : Nat) (R2 : Nat) (mt : ByteArray) (wd : ByteArray) (R4 : Nat) (bt : ByteArray) (pp : Nat) (w : World) (hS : Src W0 w c a len cap pp) (hp : pp ≤ p + 40 * (1 + b6.toNat + b11.toNat + b12.toNat)) (hg : W1.grownBy w (some c)) (hc : c < W1.heap.size) (ht : true = true → RowAt w XT 9 #[.string ⟨#[71, 69, 84]⟩, .string ⟨#[80, 85, 84]⟩, .string ⟨#[80, 79, 83, 84]⟩, .string ⟨#[68, 69, 76, 69, 84, 69]⟩, .string ⟨#[72, 69, 65, 68]⟩] ∧ W1.heap.size ≤ XT) (hr2 : true = true → R2 < 5) (hm : false = true → mt.size ≤ 6) (hwd : b6 = true → wd.size ≤ 6) (hr4 : b11 = true → R4 < 6) (hbt : b12 = true → bt.size ≤ 6) (hb : b15 = true → W1.heap.size ≤ XB ∧ RowAt w XB 25 (cond false #[.string mt, .string ((⟨#[47]⟩ : ByteArray) ++ wd ++ (⟨#[47]⟩ : ByteArray) ++ bt), .slice none 0 0, .slice none 0 0, .string ⟨#[]⟩] #[.string ⟨#[]⟩, .string ⟨#[]⟩, .slice none 0 0, .slice none 0 0, .string ⟨#[]⟩])) (hk : p ≤ 900000) :
    wpOp Tryz.prog rq1O Q 3 (rq1I W0 W1 c a len cap p XR #[true, true, true, true, false, b5, b6, b7, b8, b9, b10, b11, b12, b13, false, b15, false]) { tmps := #[.pointer (some ⟨c, 0, none⟩), undef, .pointer (some ⟨XR, 0, none⟩), sel b15 (.pointer (some ⟨XB, 0, none⟩)) (undef), undef, undef, .slice (some ⟨XT, 0, none⟩) 5 5, .pointer (some ⟨c, 0, none⟩), .int .i64 (R2 : Int), undef, undef, sel b5 (.pointer (some ⟨c, 0, none⟩)) (undef), sel b6 (.string wd) (undef), sel b7 (.string ((⟨#[47]⟩ : ByteArray) ++ wd)) (undef), sel b8 (.string ((⟨#[47]⟩ : ByteArray) ++ wd ++ (⟨#[47]⟩ : ByteArray))) (undef), sel b9 (.pointer (some ⟨c, 0, none⟩)) (undef), sel b10 (.pointer (some ⟨c, 0, none⟩)) (undef), sel b11 (.int .i64 (R4 : Int)) (undef), sel b12 (.string bt) (undef), sel b13 (.string ((⟨#[47]⟩ : ByteArray) ++ wd ++ (⟨#[47]⟩ : ByteArray) ++ bt)) (undef), undef, undef, undef, undef, undef, undef, undef, undef, undef, undef, undef, undef, undef, undef, undef, undef, undef, undef, undef, undef, undef, undef, undef, undef, undef, undef, undef, undef, undef, undef, undef, undef, undef, undef, undef, undef, undef, undef, undef, undef, undef, undef, undef, undef, undef, undef, undef, undef, undef, undef, undef, undef, undef], defers := [] } w := by
  have r := hr2 rfl
  have r0 : (R2 : Int) < 5 := by omega
  refine wpOp_step (o := { dst := some 9, op := Op.indexAddr 86 (Operand.tmp 6) (Operand.tmp 8), type := 0, pos := "l10_request.go:378", after := #[{ on := 0, ground := Ground.data }, { on := 2, ground := Ground.data }], guard := none }) rfl (fun K hK => ?_)
  replace hK := hid hK
  go_simp
  exact hK.out _ _ ⟨true, true, true, true, false, b5, b6, b7, b8, b9, b10, b11, b12, b13, false, b15, false, XT, XB, R2, mt, wd, R4, bt, pp, rfl, rfl, hS, hp, hg, hc, ht, hr2, hm, hwd, hr4, hbt, hb, hk⟩
set_option maxRecDepth 20000 in
set_option maxHeartbeats 1000000 in
theorem rq1_s4 {Q : Exit → Act → World → Prop} (W0 W1 : World) (c : Nat) (a : Option Addr) (len cap p : Nat) (XR : Nat) (b5 b6 b7 b8 b9 b10 b11 b12 b13 b15 : Bool) (XT : Nat) (XB : Nat) (R2 : Nat) (mt : ByteArray) (wd : ByteArray) (R4 : Nat) (bt : ByteArray) (pp : Nat) (w : World) (hS : Src W0 w c a len cap pp) (hp : pp ≤ p + 40 * (1 + b6.toNat + b11.toNat + b12.toNat)) (hg : W1.grownBy w (some c)) (hc : c < W1.heap.size) (ht : true = true → RowAt w XT 9 #[.string ⟨#[71, 69, 84]⟩, .string ⟨#[80, 85, 84]⟩, .string ⟨#[80, 79, 83, 84]⟩, .string ⟨#[68, 69, 76, 69, 84, 69]⟩, .string ⟨#[72, 69, 65, 68]⟩] ∧ W1.heap.size ≤ XT) (hr2 : true = true → R2 < 5) (hm : false = true → mt.size ≤ 6) (hwd : b6 = true → wd.size ≤ 6) (hr4 : b11 = true → R4 < 6) (hbt : b12 = true → bt.size ≤ 6) (hb : b15 = true → W1.heap.size ≤ XB ∧ RowAt w XB 25 (cond false #[.string mt, .string ((⟨#[47]⟩ : ByteArray) ++ wd ++ (⟨#[47]⟩ : ByteArray) ++ bt), .slice none 0 0, .slice none 0 0, .string ⟨#[]⟩] #[.string ⟨#[]⟩, .string ⟨#[]⟩, .slice none 0 0, .slice none 0 0, .string ⟨#[]⟩])) (hk : p ≤ 900000) :
    wpOp Tryz.prog rq1O Q 4 (rq1I W0 W1 c a len cap p XR #[true, true, true, true, true, b5, b6, b7, b8, b9, b10, b11, b12, b13, false, b15, false]) { tmps := #[.pointer (some ⟨c, 0, none⟩), undef, .pointer (some ⟨XR, 0, none⟩), sel b15 (.pointer (some ⟨XB, 0, none⟩)) (undef), undef, undef, .slice (some ⟨XT, 0, none⟩) 5 5, .pointer (some ⟨c, 0, none⟩), .int .i64 (R2 : Int), .pointer (some ⟨XT, R2, none⟩), undef, sel b5 (.pointer (some ⟨c, 0, none⟩)) (undef), sel b6 (.string wd) (undef), sel b7 (.string ((⟨#[47]⟩ : ByteArray) ++ wd)) (undef), sel b8 (.string ((⟨#[47]⟩ : ByteArray) ++ wd ++ (⟨#[47]⟩ : ByteArray))) (undef), sel b9 (.pointer (some ⟨c, 0, none⟩)) (undef), sel b10 (.pointer (some ⟨c, 0, none⟩)) (undef), sel b11 (.int .i64 (R4 : Int)) (undef), sel b12 (.string bt) (undef), sel b13 (.string ((⟨#[47]⟩ : ByteArray) ++ wd ++ (⟨#[47]⟩ : ByteArray) ++ bt)) (undef), undef, undef, undef, undef, undef, undef, undef, undef, undef, undef, undef, undef, undef, undef, undef, undef, undef, undef, undef, undef, undef, undef, undef, undef, undef, undef, undef, undef, undef, undef, undef, undef, undef, undef, undef, undef, undef, undef, undef, undef, undef, undef, undef, undef, undef, undef, undef, undef, undef, undef, undef, undef, undef], defers := [] } w := by
  obtain ⟨mt2, hk2, hmt⟩ := methC_at R2 (hr2 rfl)
  have c2 := ((ht rfl).1.cell R2).trans hk2
  refine wpOp_step (o := { dst := some 10, op := Op.load 9 (Operand.tmp 9), type := 9, pos := "l10_request.go:378", after := #[{ on := 3, ground := Ground.data }], guard := none }) rfl (fun K hK => ?_)
  replace hK := hid hK
  go_simp
  exact hK.out _ _ ⟨true, true, true, true, true, b5, b6, b7, b8, b9, b10, b11, b12, b13, false, b15, false, XT, XB, R2, mt2, wd, R4, bt, pp, rfl, rfl, hS, hp, hg, hc, ht, hr2, fun _ => hmt, hwd, hr4, hbt, hb, hk⟩
set_option maxRecDepth 20000 in
set_option maxHeartbeats 1000000 in
theorem rq1_s5 {Q : Exit → Act → World → Prop} (W0 W1 : World) (c : Nat) (a : Option Addr) (len cap p : Nat) (XR : Nat) (b0 b1 b2 b3 b4 b9 b10 b15 : Bool) (XT : Nat) (XB : Nat) (R2 : Nat) (mt : ByteArray) (wd : ByteArray) (R4 : Nat) (bt : ByteArray) (pp : Nat) (w : World) (hS : Src W0 w c a len cap pp) (hp : pp ≤ p + 40 * (b2.toNat + 0 + 0 + 0)) (hg : W1.grownBy w (some c)) (hc : c < W1.heap.size) (ht : b0 = true → RowAt w XT 9 #[.string ⟨#[71, 69, 84]⟩, .string ⟨#[80, 85, 84]⟩, .string ⟨#[80, 79, 83, 84]⟩, .string ⟨#[68, 69, 76, 69, 84, 69]⟩, .string ⟨#[72, 69, 65, 68]⟩] ∧ W1.heap.size ≤ XT) (hr2 : b2 = true → R2 < 5) (hm : b4 = true → mt.size ≤ 6) (hwd : false = true → wd.size ≤ 6) (hr4 : false = true → R4 < 6) (hbt : false = true → bt.size ≤ 6) (hb : b15 = true → W1.heap.size ≤ XB ∧ RowAt w XB 25 (cond false #[.string mt, .string ((⟨#[47]⟩ : ByteArray) ++ wd ++ (⟨#[47]⟩ : ByteArray) ++ bt), .slice none 0 0, .slice none 0 0, .string ⟨#[]⟩] #[.string ⟨#[]⟩, .string ⟨#[]⟩, .slice none 0 0, .slice none 0 0, .string ⟨#[]⟩])) (hk : p ≤ 900000) :
    wpOp Tryz.prog rq1O Q 5 (rq1I W0 W1 c a len cap p XR #[b0, b1, b2, b3, b4, true, false, false, false, b9, b10, false, false, false, false, b15, false]) { tmps := #[.pointer (some ⟨c, 0, none⟩), undef, .pointer (some ⟨XR, 0, none⟩), sel b15 (.pointer (some ⟨XB, 0, none⟩)) (undef), undef, undef, sel b0 (.slice (some ⟨XT, 0, none⟩) 5 5) (undef), sel b1 (.pointer (some ⟨c, 0, none⟩)) (undef), sel b2 (.int .i64 (R2 : Int)) (undef), sel b3 (.pointer (some ⟨XT, R2, none⟩)) (undef), sel b4 (.string mt) (undef), undef, undef, undef, undef, sel b9 (.pointer (some ⟨c, 0, none⟩)) (undef), sel b10 (.pointer (some ⟨c, 0, none⟩)) (undef), undef, undef, undef, undef, undef, undef, undef, undef, undef, undef, undef, undef, undef, undef, undef, undef, undef, undef, undef, undef, undef, undef, undef, undef, undef, undef, undef, undef, undef, undef, undef, undef, undef, undef, undef, undef, undef, undef, undef, undef, undef, undef, undef, undef, undef, undef, undef, undef, undef, undef, undef, undef, undef, undef, undef, undef], defers := [] } w := by
  refine wpOp_step (o := { dst := some 11, op := Op.move (Operand.tmp 0), type := 43, pos := "l10_request.go:378", after := #[], guard := none }) rfl (fun K hK => ?_)
  replace hK := hid hK
  go_simp
  exact hK.out _ _ ⟨b0, b1, b2, b3, b4, true, false, false, false, b9, b10, false, false, false, false, b15, false, XT, XB, R2, mt, wd, R4, bt, pp, rfl, rfl, hS, hp, hg, hc, ht, hr2, hm, hwd, hr4, hbt, hb, hk⟩
set_option maxRecDepth 20000 in
set_option maxHeartbeats 1000000 in
theorem rq1_s6 {Q : Exit → Act → World → Prop} (W0 W1 : World) (c : Nat) (a : Option Addr) (len cap p : Nat) (XR : Nat) (b0 b3 b4 b9 b10 b15 : Bool) (XT : Nat) (XB : Nat) (R2 : Nat) (mt : ByteArray) (wd : ByteArray) (R4 : Nat) (bt : ByteArray) (pp : Nat) (w : World) (hS : Src W0 w c a len cap pp) (hp : pp ≤ p + 40 * (1 + 0 + 0 + 0)) (hg : W1.grownBy w (some c)) (hc : c < W1.heap.size) (ht : b0 = true → RowAt w XT 9 #[.string ⟨#[71, 69, 84]⟩, .string ⟨#[80, 85, 84]⟩, .string ⟨#[80, 79, 83, 84]⟩, .string ⟨#[68, 69, 76, 69, 84, 69]⟩, .string ⟨#[72, 69, 65, 68]⟩] ∧ W1.heap.size ≤ XT) (hr2 : true = true → R2 < 5) (hm : b4 = true → mt.size ≤ 6) (hwd : false = true → wd.size ≤ 6) (hr4 : false = true → R4 < 6) (hbt : false = true → bt.size ≤ 6) (hb : b15 = true → W1.heap.size ≤ XB ∧ RowAt w XB 25 (cond false #[.string mt, .string ((⟨#[47]⟩ : ByteArray) ++ wd ++ (⟨#[47]⟩ : ByteArray) ++ bt), .slice none 0 0, .slice none 0 0, .string ⟨#[]⟩] #[.string ⟨#[]⟩, .string ⟨#[]⟩, .slice none 0 0, .slice none 0 0, .string ⟨#[]⟩])) (hk : p ≤ 900000) :
    wpOp Tryz.prog rq1O Q 6 (rq1I W0 W1 c a len cap p XR #[b0, true, true, b3, b4, true, true, false, false, b9, b10, false, false, false, false, b15, false]) { tmps := #[.pointer (some ⟨c, 0, none⟩), undef, .pointer (some ⟨XR, 0, none⟩), sel b15 (.pointer (some ⟨XB, 0, none⟩)) (undef), undef, undef, sel b0 (.slice (some ⟨XT, 0, none⟩) 5 5) (undef), .pointer (some ⟨c, 0, none⟩), .int .i64 (R2 : Int), sel b3 (.pointer (some ⟨XT, R2, none⟩)) (undef), sel b4 (.string mt) (undef), .pointer (some ⟨c, 0, none⟩), undef, undef, undef, sel b9 (.pointer (some ⟨c, 0, none⟩)) (undef), sel b10 (.pointer (some ⟨c, 0, none⟩)) (undef), undef, undef, undef, undef, undef, undef, undef, undef, undef, undef, undef, undef, undef, undef, undef, undef, undef, undef, undef, undef, undef, undef, undef, undef, undef, undef, undef, undef, undef, undef, undef, undef, undef, undef, undef, undef, undef, undef, undef, undef, undef, undef, undef, undef, undef, undef, undef, undef, undef, undef, undef, undef, undef, undef, undef, undef], defers := [] } w := by
  refine wpOp_step (o := { dst := some 12, op := Op.call { callee := Callee.value (Operand.func 81), args := #[Operand.tmp 11], argTypes := #[43] }, type := 9, pos := "l10_request.go:378", after := #[{ on := 5, ground := Ground.data }, { on := 2, ground := Ground.chain }], guard := none }) rfl (fun K hK => ?_)
  replace hK := hid hK
  go_simp
  refine (word_all W0 _ c a len cap pp hS (by omega)).mono ?_
  rintro e w2 ⟨⟨wd2, rfl, hwd2⟩, ⟨p3, hs2, hp3⟩, hg2⟩
  dsimp only
  exact hK.out _ _ ⟨b0, true, true, b3, b4, true, true, false, false, b9, b10, false, false, false, false, b15, false, XT, XB, R2, mt, wd2, R4, bt, p3, rfl, rfl, hs2, by show p3 ≤ p + 40 * (1 + 1 + 0 + 0); omega, grown_trans hg hg2, hc, fun h => ⟨rowF (ht h).1 hg2 (by have := (ht h).2; omega), (ht h).2⟩, hr2, hm, fun _ => hwd2, hr4, hbt, fun h => ⟨(hb h).1, rowF (hb h).2 hg2 (by have := (hb h).1; omega)⟩, hk⟩
set_option maxRecDepth 20000 in
set_option maxHeartbeats 1000000 in
theorem rq1_s7 {Q : Exit → Act → World → Prop} (W0 W1 : World) (c : Nat) (a : Option Addr) (len cap p : Nat) (XR : Nat) (b0 b3 b4 b9 b10 b11 b12 b15 : Bool) (XT : Nat) (XB : Nat) (R2 : Nat) (mt : ByteArray) (wd : ByteArray) (R4 : Nat) (bt : ByteArray) (pp : Nat) (w : World) (hS : Src W0 w c a len cap pp) (hp : pp ≤ p + 40 * (1 + 1 + b11.toNat + b12.toNat)) (hg : W1.grownBy w (some c)) (hc : c < W1.heap.size) (ht : b0 = true → RowAt w XT 9 #[.string ⟨#[71, 69, 84]⟩, .string ⟨#[80, 85, 84]⟩, .string ⟨#[80, 79, 83, 84]⟩, .string ⟨#[68, 69, 76, 69, 84, 69]⟩, .string ⟨#[72, 69, 65, 68]⟩] ∧ W1.heap.size ≤ XT) (hr2 : true = true → R2 < 5) (hm : b4 = true → mt.size ≤ 6) (hwd : true = true → wd.size ≤ 6) (hr4 : b11 = true → R4 < 6) (hbt : b12 = true → bt.size ≤ 6) (hb : b15 = true → W1.heap.size ≤ XB ∧ RowAt w XB 25 (cond false #[.string mt, .string ((⟨#[47]⟩ : ByteArray) ++ wd ++ (⟨#[47]⟩ : ByteArray) ++ bt), .slice none 0 0, .slice none 0 0, .string ⟨#[]⟩] #[.string ⟨#[]⟩, .string ⟨#[]⟩, .slice none 0 0, .slice none 0 0, .string ⟨#[]⟩])) (hk : p ≤ 900000) :
    wpOp Tryz.prog rq1O Q 7 (rq1I W0 W1 c a len cap p XR #[b0, true, true, b3, b4, true, true, true, false, b9, b10, b11, b12, false, false, b15, false]) { tmps := #[.pointer (some ⟨c, 0, none⟩), undef, .pointer (some ⟨XR, 0, none⟩), sel b15 (.pointer (some ⟨XB, 0, none⟩)) (undef), undef, undef, sel b0 (.slice (some ⟨XT, 0, none⟩) 5 5) (undef), .pointer (some ⟨c, 0, none⟩), .int .i64 (R2 : Int), sel b3 (.pointer (some ⟨XT, R2, none⟩)) (undef), sel b4 (.string mt) (undef), .pointer (some ⟨c, 0, none⟩), .string wd, undef, undef, sel b9 (.pointer (some ⟨c, 0, none⟩)) (undef), sel b10 (.pointer (some ⟨c, 0, none⟩)) (undef), sel b11 (.int .i64 (R4 : Int)) (undef), sel b12 (.string bt) (undef), undef, undef, undef, undef, undef, undef, undef, undef, undef, undef, undef, undef, undef, undef, undef, undef, undef, undef, undef, undef, undef, undef, undef, undef, undef, undef, undef, undef, undef, undef, undef, undef, undef, undef, undef, undef, undef, undef, undef, undef, undef, undef, undef, undef, undef, undef, undef, undef, undef, undef, undef, undef, undef, undef], defers := [] } w := by
  have z := hwd rfl
  have z1 : ¬ 9223372036854775807 < 1 + wd.size := by omega
  refine wpOp_step (o := { dst := some 13, op := Op.binOp BinOp.add 9 (Operand.const (Value.string { data := #[47] })) (Operand.tmp 12) 9, type := 9, pos := "l10_request.go:378", after := #[{ on := 6, ground := Ground.data }], guard := none }) rfl (fun K hK => ?_)
  replace hK := hid hK
  go_simp
  exact hK.out _ _ ⟨b0, true, true, b3, b4, true, true, true, false, b9, b10, b11, b12, false, false, b15, false, XT, XB, R2, mt, wd, R4, bt, pp, rfl, rfl, hS, hp, hg, hc, ht, hr2, hm, hwd, hr4, hbt, hb, hk⟩
set_option maxRecDepth 20000 in
set_option maxHeartbeats 1000000 in
theorem rq1_s8 {Q : Exit → Act → World → Prop} (W0 W1 : World) (c : Nat) (a : Option Addr) (len cap p : Nat) (XR : Nat) (b0 b3 b4 b9 b10 b11 b12 b15 : Bool) (XT : Nat) (XB : Nat) (R2 : Nat) (mt : ByteArray) (wd : ByteArray) (R4 : Nat) (bt : ByteArray) (pp : Nat) (w : World) (hS : Src W0 w c a len cap pp) (hp : pp ≤ p + 40 * (1 + 1 + b11.toNat + b12.toNat)) (hg : W1.grownBy w (some c)) (hc : c < W1.heap.size) (ht : b0 = true → RowAt w XT 9 #[.string ⟨#[71, 69, 84]⟩, .string ⟨#[80, 85, 84]⟩, .string ⟨#[80, 79, 83, 84]⟩, .string ⟨#[68, 69, 76, 69, 84, 69]⟩, .string ⟨#[72, 69, 65, 68]⟩] ∧ W1.heap.size ≤ XT) (hr2 : true = true → R2 < 5) (hm : b4 = true → mt.size ≤ 6) (hwd : true = true → wd.size ≤ 6) (hr4 : b11 = true → R4 < 6) (hbt : b12 = true → bt.size ≤ 6) (hb : b15 = true → W1.heap.size ≤ XB ∧ RowAt w XB 25 (cond false #[.string mt, .string ((⟨#[47]⟩ : ByteArray) ++ wd ++ (⟨#[47]⟩ : ByteArray) ++ bt), .slice none 0 0, .slice none 0 0, .string ⟨#[]⟩] #[.string ⟨#[]⟩, .string ⟨#[]⟩, .slice none 0 0, .slice none 0 0, .string ⟨#[]⟩])) (hk : p ≤ 900000) :
    wpOp Tryz.prog rq1O Q 8 (rq1I W0 W1 c a len cap p XR #[b0, true, true, b3, b4, true, true, true, true, b9, b10, b11, b12, false, false, b15, false]) { tmps := #[.pointer (some ⟨c, 0, none⟩), undef, .pointer (some ⟨XR, 0, none⟩), sel b15 (.pointer (some ⟨XB, 0, none⟩)) (undef), undef, undef, sel b0 (.slice (some ⟨XT, 0, none⟩) 5 5) (undef), .pointer (some ⟨c, 0, none⟩), .int .i64 (R2 : Int), sel b3 (.pointer (some ⟨XT, R2, none⟩)) (undef), sel b4 (.string mt) (undef), .pointer (some ⟨c, 0, none⟩), .string wd, .string ((⟨#[47]⟩ : ByteArray) ++ wd), undef, sel b9 (.pointer (some ⟨c, 0, none⟩)) (undef), sel b10 (.pointer (some ⟨c, 0, none⟩)) (undef), sel b11 (.int .i64 (R4 : Int)) (undef), sel b12 (.string bt) (undef), undef, undef, undef, undef, undef, undef, undef, undef, undef, undef, undef, undef, undef, undef, undef, undef, undef, undef, undef, undef, undef, undef, undef, undef, undef, undef, undef, undef, undef, undef, undef, undef, undef, undef, undef, undef, undef, undef, undef, undef, undef, undef, undef, undef, undef, undef, undef, undef, undef, undef, undef, undef, undef, undef], defers := [] } w := by
  have z := hwd rfl
  have z1 : ¬ 9223372036854775807 < ((⟨#[47]⟩ : ByteArray) ++ wd).size + 1 := by rw [ByteArray.size_append]; show ¬ 9223372036854775807 < 1 + wd.size + 1; omega
  have z2 : ¬ 9223372036854775807 < 1 + wd.size + 1 := by omega
  refine wpOp_step (o := { dst := some 14, op := Op.binOp BinOp.add 9 (Operand.tmp 13) (Operand.const (Value.string { data := #[47] })) 9, type := 9, pos := "l10_request.go:378", after := #[{ on := 7, ground := Ground.data }], guard := none }) rfl (fun K hK => ?_)
  replace hK := hid hK
  go_simp
  exact hK.out _ _ ⟨b0, true, true, b3, b4, true, true, true, true, b9, b10, b11, b12, false, false, b15, false, XT, XB, R2, mt, wd, R4, bt, pp, rfl, rfl, hS, hp, hg, hc, ht, hr2, hm, hwd, hr4, hbt, hb, hk⟩
set_option maxRecDepth 20000 in
set_option maxHeartbeats 1000000 in
theorem rq1_s9 {Q : Exit → Act → World → Prop} (W0 W1 : World) (c : Nat) (a : Option Addr) (len cap p : Nat) (XR : Nat) (b0 b1 b2 b3 b4 b5 b6 b7 b8 b10 b11 b15 : Bool) (XT : Nat) (XB : Nat) (R2 : Nat) (mt : ByteArray) (wd : ByteArray) (R4 : Nat) (bt : ByteArray) (pp : Nat) (w : World) (hS : Src W0 w c a len cap pp) (hp : pp ≤ p + 40 * (b2.toNat + b6.toNat + b11.toNat + 0)) (hg : W1.grownBy w (some c)) (hc : c < W1.heap.size) (ht : b0 = true → RowAt w XT 9 #[.string ⟨#[71, 69, 84]⟩, .string ⟨#[80, 85, 84]⟩, .string ⟨#[80, 79, 83, 84]⟩, .string ⟨#[68, 69, 76, 69, 84, 69]⟩, .string ⟨#[72, 69, 65, 68]⟩] ∧ W1.heap.size ≤ XT) (hr2 : b2 = true → R2 < 5) (hm : b4 = true → mt.size ≤ 6) (hwd : b6 = true → wd.size ≤ 6) (hr4 : b11 = true → R4 < 6) (hbt : false = true → bt.size ≤ 6) (hb : b15 = true → W1.heap.size ≤ XB ∧ RowAt w XB 25 (cond false #[.string mt, .string ((⟨#[47]⟩ : ByteArray) ++ wd ++ (⟨#[47]⟩ : ByteArray) ++ bt), .slice none 0 0, .slice none 0 0, .string ⟨#[]⟩] #[.string ⟨#[]⟩, .string ⟨#[]⟩, .slice none 0 0, .slice none 0 0, .string ⟨#[]⟩])) (hk : p ≤ 900000) :
    wpOp Tryz.prog rq1O Q 9 (rq1I W0 W1 c a len cap p XR #[b0, b1, b2, b3, b4, b5, b6, b7, b8, true, b10, b11, false, false, false, b15, false]) { tmps := #[.pointer (some ⟨c, 0, none⟩), undef, .pointer (some ⟨XR, 0, none⟩), sel b15 (.pointer (some ⟨XB, 0, none⟩)) (undef), undef, undef, sel b0 (.slice (some ⟨XT, 0, none⟩) 5 5) (undef), sel b1 (.pointer (some ⟨c, 0, none⟩)) (undef), sel b2 (.int .i64 (R2 : Int)) (undef), sel b3 (.pointer (some ⟨XT, R2, none⟩)) (undef), sel b4 (.string mt) (undef), sel b5 (.pointer (some ⟨c, 0, none⟩)) (undef), sel b6 (.string wd) (undef), sel b7 (.string ((⟨#[47]⟩ : ByteArray) ++ wd)) (undef), sel b8 (.string ((⟨#[47]⟩ : ByteArray) ++ wd ++ (⟨#[47]⟩ : ByteArray))) (undef), undef, sel b10 (.pointer (some ⟨c, 0, none⟩)) (undef), sel b11 (.int .i64 (R4 : Int)) (undef), undef, undef, undef, undef, undef, undef, undef, undef, undef, undef, undef, undef, undef, undef, undef, undef, undef, undef, undef, undef, undef, undef, undef, undef, undef, undef, undef, undef, undef, undef, undef, undef, undef, undef, undef, undef, undef, undef, undef, undef, undef, undef, undef, undef, undef, undef, undef, undef, undef, undef, undef, undef, undef, undef, undef], defers := [] } w := by
  refine wpOp_step (o := { dst := some 15, op := Op.move (Operand.tmp 0), type := 43, pos := "l10_request.go:378", after := #[], guard := none }) rfl (fun K hK => ?_)
  replace hK := hid hK
  go_simp
  exact hK.out _ _ ⟨b0, b1, b2, b3, b4, b5, b6, b7, b8, true, b10, b11, false, false, false, b15, false, XT, XB, R2, mt, wd, R4, bt, pp, rfl, rfl, hS, hp, hg, hc, ht, hr2, hm, hwd, hr4, hbt, hb, hk⟩
set_option maxRecDepth 20000 in
set_option maxHeartbeats 1000000 in
theorem rq1_s10 {Q : Exit → Act → World → Prop} (W0 W1 : World) (c : Nat) (a : Option Addr) (len cap p : Nat) (XR : Nat) (b0 b1 b2 b3 b4 b5 b6 b7 b8 b9 b15 : Bool) (XT : Nat) (XB : Nat) (R2 : Nat) (mt : ByteArray) (wd : ByteArray) (R4 : Nat) (bt : ByteArray) (pp : Nat) (w : World) (hS : Src W0 w c a len cap pp) (hp : pp ≤ p + 40 * (b2.toNat + b6.toNat + 0 + 0)) (hg : W1.grownBy w (some c)) (hc : c < W1.heap.size) (ht : b0 = true → RowAt w XT 9 #[.string ⟨#[71, 69, 84]⟩, .string ⟨#[80, 85, 84]⟩, .string ⟨#[80, 79, 83, 84]⟩, .string ⟨#[68, 69, 76, 69, 84, 69]⟩, .string ⟨#[72, 69, 65, 68]⟩] ∧ W1.heap.size ≤ XT) (hr2 : b2 = true → R2 < 5) (hm : b4 = true → mt.size ≤ 6) (hwd : b6 = true → wd.size ≤ 6) (hr4 : false = true → R4 < 6) (hbt : false = true → bt.size ≤ 6) (hb : b15 = true → W1.heap.size ≤ XB ∧ RowAt w XB 25 (cond false #[.string mt, .string ((⟨#[47]⟩ : ByteArray) ++ wd ++ (⟨#[47]⟩ : ByteArray) ++ bt), .slice none 0 0, .slice none 0 0, .string ⟨#[]⟩] #[.string ⟨#[]⟩, .string ⟨#[]⟩, .slice none 0 0, .slice none 0 0, .string ⟨#[]⟩])) (hk : p ≤ 900000) :
    wpOp Tryz.prog rq1O Q 10 (rq1I W0 W1 c a len cap p XR #[b0, b1, b2, b3, b4, b5, b6, b7, b8, b9, true, false, false, false, false, b15, false]) { tmps := #[.pointer (some ⟨c, 0, none⟩), undef, .pointer (some ⟨XR, 0, none⟩), sel b15 (.pointer (some ⟨XB, 0, none⟩)) (undef), undef, undef, sel b0 (.slice (some ⟨XT, 0, none⟩) 5 5) (undef), sel b1 (.pointer (some ⟨c, 0, none⟩)) (undef), sel b2 (.int .i64 (R2 : Int)) (undef), sel b3 (.pointer (some ⟨XT, R2, none⟩)) (undef), sel b4 (.string mt) (undef), sel b5 (.pointer (some ⟨c, 0, none⟩)) (undef), sel b6 (.string wd) (undef), sel b7 (.string ((⟨#[47]⟩ : ByteArray) ++ wd)) (undef), sel b8 (.string ((⟨#[47]⟩ : ByteArray) ++ wd ++ (⟨#[47]⟩ : ByteArray))) (undef), sel b9 (.pointer (some ⟨c, 0, none⟩)) (undef), undef, undef, undef, undef, undef, undef, undef, undef, undef, undef, undef, undef, undef, undef, undef, undef, undef, undef, undef, undef, undef, undef, undef, undef, undef, undef, undef, undef, undef, undef, undef, undef, undef, undef, undef, undef, undef, undef, undef, undef, undef, undef, undef, undef, undef, undef, undef, undef, undef, undef, undef, undef, undef, undef, undef, undef, undef], defers := [] } w := by
  refine wpOp_step (o := { dst := some 16, op := Op.move (Operand.tmp 0), type := 43, pos := "l10_request.go:378", after := #[], guard := none }) rfl (fun K hK => ?_)
  replace hK := hid hK
  go_simp
  exact hK.out _ _ ⟨b0, b1, b2, b3, b4, b5, b6, b7, b8, b9, true, false, false, false, false, b15, false, XT, XB, R2, mt, wd, R4, bt, pp, rfl, rfl, hS, hp, hg, hc, ht, hr2, hm, hwd, hr4, hbt, hb, hk⟩
set_option maxRecDepth 20000 in
set_option maxHeartbeats 1000000 in
theorem rq1_s11 {Q : Exit → Act → World → Prop} (W0 W1 : World) (c : Nat) (a : Option Addr) (len cap p : Nat) (XR : Nat) (b0 b3 b4 b7 b8 b9 b15 : Bool) (XT : Nat) (XB : Nat) (R2 : Nat) (mt : ByteArray) (wd : ByteArray) (R4 : Nat) (bt : ByteArray) (pp : Nat) (w : World) (hS : Src W0 w c a len cap pp) (hp : pp ≤ p + 40 * (1 + 1 + 0 + 0)) (hg : W1.grownBy w (some c)) (hc : c < W1.heap.size) (ht : b0 = true → RowAt w XT 9 #[.string ⟨#[71, 69, 84]⟩, .string ⟨#[80, 85, 84]⟩, .string ⟨#[80, 79, 83, 84]⟩, .string ⟨#[68, 69, 76, 69, 84, 69]⟩, .string ⟨#[72, 69, 65, 68]⟩] ∧ W1.heap.size ≤ XT) (hr2 : true = true → R2 < 5) (hm : b4 = true → mt.size ≤ 6) (hwd : true = true → wd.size ≤ 6) (hr4 : false = true → R4 < 6) (hbt : false = true → bt.size ≤ 6) (hb : b15 = true → W1.heap.size ≤ XB ∧ RowAt w XB 25 (cond false #[.string mt, .string ((⟨#[47]⟩ : ByteArray) ++ wd ++ (⟨#[47]⟩ : ByteArray) ++ bt), .slice none 0 0, .slice none 0 0, .string ⟨#[]⟩] #[.string ⟨#[]⟩, .string ⟨#[]⟩, .slice none 0 0, .slice none 0 0, .string ⟨#[]⟩])) (hk : p ≤ 900000) :
    wpOp Tryz.prog rq1O Q 11 (rq1I W0 W1 c a len cap p XR #[b0, true, true, b3, b4, true, true, b7, b8, b9, true, true, false, false, false, b15, false]) { tmps := #[.pointer (some ⟨c, 0, none⟩), undef, .pointer (some ⟨XR, 0, none⟩), sel b15 (.pointer (some ⟨XB, 0, none⟩)) (undef), undef, undef, sel b0 (.slice (some ⟨XT, 0, none⟩) 5 5) (undef), .pointer (some ⟨c, 0, none⟩), .int .i64 (R2 : Int), sel b3 (.pointer (some ⟨XT, R2, none⟩)) (undef), sel b4 (.string mt) (undef), .pointer (some ⟨c, 0, none⟩), .string wd, sel b7 (.string ((⟨#[47]⟩ : ByteArray) ++ wd)) (undef), sel b8 (.string ((⟨#[47]⟩ : ByteArray) ++ wd ++ (⟨#[47]⟩ : ByteArray))) (undef), sel b9 (.pointer (some ⟨c, 0, none⟩)) (undef), .pointer (some ⟨c, 0, none⟩), undef, undef, undef, undef, undef, undef, undef, undef, undef, undef, undef, undef, undef, undef, undef, undef, undef, undef, undef, undef, undef, undef, undef, undef, undef, undef, undef, undef, undef, undef, undef, undef, undef, undef, undef, undef, undef, undef, undef, undef, undef, undef, undef, undef, undef, undef, undef, undef, undef, undef, undef, undef, undef, undef, undef, undef], defers := [] } w := by
  refine wpOp_step (o := { dst := some 17, op := Op.call { callee := Callee.value (Operand.func 52), args := #[Operand.tmp 16, Operand.const (Value.int IntKind.i64 6)], argTypes := #[43, 2] }, type := 2, pos := "l10_request.go:378", after := #[{ on := 10, ground := Ground.data }, { on := 6, ground := Ground.chain }], guard := none }) rfl (fun K hK => ?_)
  replace hK := hid hK
  go_simp
  refine (n_all W0 _ c a len cap pp 6 hS (by omega) (by omega) (by omega)).mono ?_
  rintro e w2 ⟨⟨r, rfl, h20, h21⟩, hs2, hg2⟩
  obtain ⟨R, rfl⟩ := Int.eq_ofNat_of_zero_le h20
  dsimp only
  exact hK.out _ _ ⟨b0, true, true, b3, b4, true, true, b7, b8, b9, true, true, false, false, false, b15, false, XT, XB, R2, mt, wd, R, bt, pp + 1, rfl, rfl, hs2, by show pp + 1 ≤ p + 40 * (1 + 1 + 1 + 0); omega, grown_trans hg hg2, hc, fun h => ⟨rowF (ht h).1 hg2 (by have := (ht h).2; omega), (ht h).2⟩, hr2, hm, hwd, fun _ => by omega, hbt, fun h => ⟨(hb h).1, rowF (hb h).2 hg2 (by have := (hb h).1; omega)⟩, hk⟩
set_option maxRecDepth 20000 in
set_option maxHeartbeats 1000000 in
theorem rq1_s12 {Q : Exit → Act → World → Prop} (W0 W1 : World) (c : Nat) (a : Option Addr) (len cap p : Nat) (XR : Nat) (b0 b3 b4 b7 b8 b15 : Bool) (XT : Nat) (XB : Nat) (R2 : Nat) (mt : ByteArray) (wd : ByteArray) (R4 : Nat) (bt : ByteArray) (pp : Nat) (w : World) (hS : Src W0 w c a len cap pp) (hp : pp ≤ p + 40 * (1 + 1 + 1 + 0)) (hg : W1.grownBy w (some c)) (hc : c < W1.heap.size) (ht : b0 = true → RowAt w XT 9 #[.string ⟨#[71, 69, 84]⟩, .string ⟨#[80, 85, 84]⟩, .string ⟨#[80, 79, 83, 84]⟩, .string ⟨#[68, 69, 76, 69, 84, 69]⟩, .string ⟨#[72, 69, 65, 68]⟩] ∧ W1.heap.size ≤ XT) (hr2 : true = true → R2 < 5) (hm : b4 = true → mt.size ≤ 6) (hwd : true = true → wd.size ≤ 6) (hr4 : true = true → R4 < 6) (hbt : false = true → bt.size ≤ 6) (hb : b15 = true → W1.heap.size ≤ XB ∧ RowAt w XB 25 (cond false #[.string mt, .string ((⟨#[47]⟩ : ByteArray) ++ wd ++ (⟨#[47]⟩ : ByteArray) ++ bt), .slice none 0 0, .slice none 0 0, .string ⟨#[]⟩] #[.string ⟨#[]⟩, .string ⟨#[]⟩, .slice none 0 0, .slice none 0 0, .string ⟨#[]⟩])) (hk : p ≤ 900000) :
    wpOp Tryz.prog rq1O Q 12 (rq1I W0 W1 c a len cap p XR #[b0, true, true, b3, b4, true, true, b7, b8, true, true, true, true, false, false, b15, false]) { tmps := #[.pointer (some ⟨c, 0, none⟩), undef, .pointer (some ⟨XR, 0, none⟩), sel b15 (.pointer (some ⟨XB, 0, none⟩)) (undef), undef, undef, sel b0 (.slice (some ⟨XT, 0, none⟩) 5 5) (undef), .pointer (some ⟨c, 0, none⟩), .int .i64 (R2 : Int), sel b3 (.pointer (some ⟨XT, R2, none⟩)) (undef), sel b4 (.string mt) (undef), .pointer (some ⟨c, 0, none⟩), .string wd, sel b7 (.string ((⟨#[47]⟩ : ByteArray) ++ wd)) (undef), sel b8 (.string ((⟨#[47]⟩ : ByteArray) ++ wd ++ (⟨#[47]⟩ : ByteArray))) (undef), .pointer (some ⟨c, 0, none⟩), .pointer (some ⟨c, 0, none⟩), .int .i64 (R4 : Int), undef, undef, undef, undef, undef, undef, undef, undef, undef, undef, undef, undef, undef, undef, undef, undef, undef, undef, undef, undef, undef, undef, undef, undef, undef, undef, undef, undef, undef, undef, undef, undef, undef, undef, undef, undef, undef, undef, undef, undef, undef, undef, undef, undef, undef, undef, undef, undef, undef, undef, undef, undef, undef, undef, undef], defers := [] } w := by
  have r4 := hr4 rfl
  refine wpOp_step (o := { dst := some 18, op := Op.call { callee := Callee.value (Operand.func 63), args := #[Operand.tmp 15, Operand.tmp 17], argTypes := #[43, 2] }, type := 9, pos := "l10_request.go:378", after := #[{ on := 9, ground := Ground.data }, { on := 11, ground := Ground.data }, { on := 11, ground := Ground.chain }], guard := none }) rfl (fun K hK => ?_)
  replace hK := hid hK
  go_simp
  refine (bytes_all W0 _ c a len cap pp R4 hS (by omega) (by omega)).mono ?_
  rintro e w2 ⟨⟨bt2, rfl, hbt2⟩, ⟨p3, hs2, hp3⟩, hg2⟩
  dsimp only
  exact hK.out _ _ ⟨b0, true, true, b3, b4, true, true, b7, b8, true, true, true, true, false, false, b15, false, XT, XB, R2, mt, wd, R4, bt2, p3, rfl, rfl, hs2, by show p3 ≤ p + 40 * (1 + 1 + 1 + 1); omega, grown_trans hg hg2, hc, fun h => ⟨rowF (ht h).1 hg2 (by have := (ht h).2; omega), (ht h).2⟩, hr2, hm, hwd, hr4, fun _ => by omega, fun h => ⟨(hb h).1, rowF (hb h).2 hg2 (by have := (hb h).1; omega)⟩, hk⟩
set_option maxRecDepth 20000 in
set_option maxHeartbeats 1000000 in
theorem rq1_s13 {Q : Exit → Act → World → Prop} (W0 W1 : World) (c : Nat) (a : Option Addr) (len cap p : Nat) (XR : Nat) (b0 b3 b4 b15 : Bool) (XT : Nat) (XB : Nat) (R2 : Nat) (mt : ByteArray) (wd : ByteArray) (R4 : Nat) (bt : ByteArray) (pp : Nat) (w : World) (hS : Src W0 w c a len cap pp) (hp : pp ≤ p + 40 * (1 + 1 + 1 + 1)) (hg : W1.grownBy w (some c)) (hc : c < W1.heap.size) (ht : b0 = true → RowAt w XT 9 #[.string ⟨#[71, 69, 84]⟩, .string ⟨#[80, 85, 84]⟩, .string ⟨#[80, 79, 83, 84]⟩, .string ⟨#[68, 69, 76, 69, 84, 69]⟩, .string ⟨#[72, 69, 65, 68]⟩] ∧ W1.heap.size ≤ XT) (hr2 : true = true → R2 < 5) (hm : b4 = true → mt.size ≤ 6) (hwd : true = true → wd.size ≤ 6) (hr4 : true = true → R4 < 6) (hbt : true = true → bt.size ≤ 6) (hb : b15 = true → W1.heap.size ≤ XB ∧ RowAt w XB 25 (cond false #[.string mt, .string ((⟨#[47]⟩ : ByteArray) ++ wd ++ (⟨#[47]⟩ : ByteArray) ++ bt), .slice none 0 0, .slice none 0 0, .string ⟨#[]⟩] #[.string ⟨#[]⟩, .string ⟨#[]⟩, .slice none 0 0, .slice none 0 0, .string ⟨#[]⟩])) (hk : p ≤ 900000) :
    wpOp Tryz.prog rq1O Q 13 (rq1I W0 W1 c a len cap p XR #[b0, true, true, b3, b4, true, true, true, true, true, true, true, true, true, false, b15, false]) { tmps := #[.pointer (some ⟨c, 0, none⟩), undef, .pointer (some ⟨XR, 0, none⟩), sel b15 (.pointer (some ⟨XB, 0, none⟩)) (undef), undef, undef, sel b0 (.slice (some ⟨XT, 0, none⟩) 5 5) (undef), .pointer (some ⟨c, 0, none⟩), .int .i64 (R2 : Int), sel b3 (.pointer (some ⟨XT, R2, none⟩)) (undef), sel b4 (.string mt) (undef), .pointer (some ⟨c, 0, none⟩), .string wd, .string ((⟨#[47]⟩ : ByteArray) ++ wd), .string ((⟨#[47]⟩ : ByteArray) ++ wd ++ (⟨#[47]⟩ : ByteArray)), .pointer (some ⟨c, 0, none⟩), .pointer (some ⟨c, 0, none⟩), .int .i64 (R4 : Int), .string bt, undef, undef, undef, undef, undef, undef, undef, undef, undef, undef, undef, undef, undef, undef, undef, undef, undef, undef, undef, undef, undef, undef, undef, undef, undef, undef, undef, undef, undef, undef, undef, undef, undef, undef, undef, undef, undef, undef, undef, undef, undef, undef, undef, undef, undef, undef, undef, undef, undef, undef, undef, undef, undef, undef], defers := [] } w := by
  have z := hwd rfl
  have zb := hbt rfl
  have z1 : ¬ 9223372036854775807 < ((⟨#[47]⟩ : ByteArray) ++ wd ++ (⟨#[47]⟩ : ByteArray)).size + bt.size := by rw [ByteArray.size_append, ByteArray.size_append]; show ¬ 9223372036854775807 < 1 + wd.size + 1 + bt.size; omega
  have z2 : ¬ 9223372036854775807 < 1 + wd.size + 1 + bt.size := by omega
  refine wpOp_step (o := { dst := some 19, op := Op.binOp BinOp.add 9 (Operand.tmp 14) (Operand.tmp 18) 9, type := 9, pos := "l10_request.go:378", after := #[{ on := 8, ground := Ground.data }, { on := 12, ground := Ground.data }], guard := none }) rfl (fun K hK => ?_)
  replace hK := hid hK
  go_simp
  exact hK.out _ _ ⟨b0, true, true, b3, b4, true, true, true, true, true, true, true, true, true, false, b15, false, XT, XB, R2, mt, wd, R4, bt, pp, rfl, rfl, hS, hp, hg, hc, ht, hr2, hm, hwd, hr4, hbt, hb, hk⟩
set_option maxRecDepth 20000 in
set_option maxHeartbeats 1000000 in
theorem rq1_s14 {Q : Exit → Act → World → Prop} (W0 W1 : World) (c : Nat) (a : Option Addr) (len cap p : Nat) (XR : Nat) (b15 : Bool) (XT : Nat) (XB : Nat) (R2 : Nat) (mt : ByteArray) (wd : ByteArray) (R4 : Nat) (bt : ByteArray) (pp : Nat) (w : World) (hS : Src W0 w c a len cap pp) (hp : pp ≤ p + 40 * (1 + 1 + 1 + 1)) (hg : W1.grownBy w (some c)) (hc : c < W1.heap.size) (ht : true = true → RowAt w XT 9 #[.string ⟨#[71, 69, 84]⟩, .string ⟨#[80, 85, 84]⟩, .string ⟨#[80, 79, 83, 84]⟩, .string ⟨#[68, 69, 76, 69, 84, 69]⟩, .string ⟨#[72, 69, 65, 68]⟩] ∧ W1.heap.size ≤ XT) (hr2 : true = true → R2 < 5) (hm : true = true → mt.size ≤ 6) (hwd : true = true → wd.size ≤ 6) (hr4 : true = true → R4 < 6) (hbt : true = true → bt.size ≤ 6) (hb : b15 = true → W1.heap.size ≤ XB ∧ RowAt w XB 25 (cond false #[.string mt, .string ((⟨#[47]⟩ : ByteArray) ++ wd ++ (⟨#[47]⟩ : ByteArray) ++ bt), .slice none 0 0, .slice none 0 0, .string ⟨#[]⟩] #[.string ⟨#[]⟩, .string ⟨#[]⟩, .slice none 0 0, .slice none 0 0, .string ⟨#[]⟩])) (hk : p ≤ 900000) :
    wpOp Tryz.prog rq1O Q 14 (rq1I W0 W1 c a len cap p XR #[true, true, true, true, true, true, true, true, true, true, true, true, true, true, true, b15, false]) { tmps := #[.pointer (some ⟨c, 0, none⟩), undef, .pointer (some ⟨XR, 0, none⟩), sel b15 (.pointer (some ⟨XB, 0, none⟩)) (undef), undef, undef, .slice (some ⟨XT, 0, none⟩) 5 5, .pointer (some ⟨c, 0, none⟩), .int .i64 (R2 : Int), .pointer (some ⟨XT, R2, none⟩), .string mt, .pointer (some ⟨c, 0, none⟩), .string wd, .string ((⟨#[47]⟩ : ByteArray) ++ wd), .string ((⟨#[47]⟩ : ByteArray) ++ wd ++ (⟨#[47]⟩ : ByteArray)), .pointer (some ⟨c, 0, none⟩), .pointer (some ⟨c, 0, none⟩), .int .i64 (R4 : Int), .string bt, .string ((⟨#[47]⟩ : ByteArray) ++ wd ++ (⟨#[47]⟩ : ByteArray) ++ bt), undef, undef, undef, undef, undef, undef, undef, undef, undef, undef, undef, undef, undef, undef, undef, undef, undef, undef, undef, undef, undef, undef, undef, undef, undef, undef, undef, undef, undef, undef, undef, undef, undef, undef, undef, undef, undef, undef, undef, undef, undef, undef, undef, undef, undef, undef, undef, undef, undef, undef, undef, undef, undef], defers := [] } w := by
  refine wpOp_step (o := { dst := some 20, op := Op.build 25 #[(0, Operand.tmp 10), (1, Operand.tmp 19)], type := 25, pos := "l10_request.go:378", after := #[{ on := 4, ground := Ground.data }, { on := 13, ground := Ground.data }], guard := none }) rfl (fun K hK => ?_)
  replace hK := hid hK
  go_simp
  exact hK.out _ _ ⟨true, true, true, true, true, true, true, true, true, true, true, true, true, true, true, b15, false, XT, XB, R2, mt, wd, R4, bt, pp, rfl, rfl, hS, hp, hg, hc, ht, hr2, hm, hwd, hr4, hbt, hb, hk⟩
set_option maxRecDepth 20000 in
set_option maxHeartbeats 1000000 in
theorem rq1_s15 {Q : Exit → Act → World → Prop} (W0 W1 : World) (c : Nat) (a : Option Addr) (len cap p : Nat) (XR : Nat) (b0 b1 b2 b3 b4 b5 b6 b7 b8 b9 b10 b11 b12 b13 b14 : Bool) (XT : Nat) (XB : Nat) (R2 : Nat) (mt : ByteArray) (wd : ByteArray) (R4 : Nat) (bt : ByteArray) (pp : Nat) (w : World) (hS : Src W0 w c a len cap pp) (hp : pp ≤ p + 40 * (b2.toNat + b6.toNat + b11.toNat + b12.toNat)) (hg : W1.grownBy w (some c)) (hc : c < W1.heap.size) (ht : b0 = true → RowAt w XT 9 #[.string ⟨#[71, 69, 84]⟩, .string ⟨#[80, 85, 84]⟩, .string ⟨#[80, 79, 83, 84]⟩, .string ⟨#[68, 69, 76, 69, 84, 69]⟩, .string ⟨#[72, 69, 65, 68]⟩] ∧ W1.heap.size ≤ XT) (hr2 : b2 = true → R2 < 5) (hm : b4 = true → mt.size ≤ 6) (hwd : b6 = true → wd.size ≤ 6) (hr4 : b11 = true → R4 < 6) (hbt : b12 = true → bt.size ≤ 6) (hb : false = true → W1.heap.size ≤ XB ∧ RowAt w XB 25 (cond false #[.string mt, .string ((⟨#[47]⟩ : ByteArray) ++ wd ++ (⟨#[47]⟩ : ByteArray) ++ bt), .slice none 0 0, .slice none 0 0, .string ⟨#[]⟩] #[.string ⟨#[]⟩, .string ⟨#[]⟩, .slice none 0 0, .slice none 0 0, .string ⟨#[]⟩])) (hk : p ≤ 900000) :
    wpOp Tryz.prog rq1O Q 15 (rq1I W0 W1 c a len cap p XR #[b0, b1, b2, b3, b4, b5, b6, b7, b8, b9, b10, b11, b12, b13, b14, true, false]) { tmps := #[.pointer (some ⟨c, 0, none⟩), undef, .pointer (some ⟨XR, 0, none⟩), undef, undef, undef, sel b0 (.slice (some ⟨XT, 0, none⟩) 5 5) (undef), sel b1 (.pointer (some ⟨c, 0, none⟩)) (undef), sel b2 (.int .i64 (R2 : Int)) (undef), sel b3 (.pointer (some ⟨XT, R2, none⟩)) (undef), sel b4 (.string mt) (undef), sel b5 (.pointer (some ⟨c, 0, none⟩)) (undef), sel b6 (.string wd) (undef), sel b7 (.string ((⟨#[47]⟩ : ByteArray) ++ wd)) (undef), sel b8 (.string ((⟨#[47]⟩ : ByteArray) ++ wd ++ (⟨#[47]⟩ : ByteArray))) (undef), sel b9 (.pointer (some ⟨c, 0, none⟩)) (undef), sel b10 (.pointer (some ⟨c, 0, none⟩)) (undef), sel b11 (.int .i64 (R4 : Int)) (undef), sel b12 (.string bt) (undef), sel b13 (.string ((⟨#[47]⟩ : ByteArray) ++ wd ++ (⟨#[47]⟩ : ByteArray) ++ bt)) (undef), sel b14 (.agg #[.string mt, .string ((⟨#[47]⟩ : ByteArray) ++ wd ++ (⟨#[47]⟩ : ByteArray) ++ bt), .slice none 0 0, .slice none 0 0, .string ⟨#[]⟩]) (undef), undef, undef, undef, undef, undef, undef, undef, undef, undef, undef, undef, undef, undef, undef, undef, undef, undef, undef, undef, undef, undef, undef, undef, undef, undef, undef, undef, undef, undef, undef, undef, undef, undef, undef, undef, undef, undef, undef, undef, undef, undef, undef, undef, undef, undef, undef, undef, undef, undef, undef, undef, undef], defers := [] } w := by
  refine wpOp_step (o := { dst := some 3, op := Op.alloc 25, type := 0, pos := "l10_request.go:378", after := #[], guard := none }) rfl (fun K hK => ?_)
  replace hK := hid hK
  go_simp
  exact hK.out _ _ ⟨b0, b1, b2, b3, b4, b5, b6, b7, b8, b9, b10, b11, b12, b13, b14, true, false, XT, w.heap.size, R2, mt, wd, R4, bt, pp, rfl, rfl, hS.alloc _, hp, grown_al hg _, hc, fun h => ⟨(ht h).1.alloc _, (ht h).2⟩, hr2, hm, hwd, hr4, hbt, fun _ => ⟨hg.size, RowAt.new w _ _⟩, hk⟩
set_option maxRecDepth 20000 in
set_option maxHeartbeats 1000000 in
theorem rq1_s16 {Q : Exit → Act → World → Prop} (W0 W1 : World) (c : Nat) (a : Option Addr) (len cap p : Nat) (XR : Nat) (XT : Nat) (XB : Nat) (R2 : Nat) (mt : ByteArray) (wd : ByteArray) (R4 : Nat) (bt : ByteArray) (pp : Nat) (w : World) (hS : Src W0 w c a len cap pp) (hp : pp ≤ p + 40 * (1 + 1 + 1 + 1)) (hg : W1.grownBy w (some c)) (hc : c < W1.heap.size) (ht : true = true → RowAt w XT 9 #[.string ⟨#[71, 69, 84]⟩, .string ⟨#[80, 85, 84]⟩, .string ⟨#[80, 79, 83, 84]⟩, .string ⟨#[68, 69, 76, 69, 84, 69]⟩, .string ⟨#[72, 69, 65, 68]⟩] ∧ W1.heap.size ≤ XT) (hr2 : true = true → R2 < 5) (hm : true = true → mt.size ≤ 6) (hwd : true = true → wd.size ≤ 6) (hr4 : true = true → R4 < 6) (hbt : true = true → bt.size ≤ 6) (hb : true = true → W1.heap.size ≤ XB ∧ RowAt w XB 25 (cond false #[.string mt, .string ((⟨#[47]⟩ : ByteArray) ++ wd ++ (⟨#[47]⟩ : ByteArray) ++ bt), .slice none 0 0, .slice none 0 0, .string ⟨#[]⟩] #[.string ⟨#[]⟩, .string ⟨#[]⟩, .slice none 0 0, .slice none 0 0, .string ⟨#[]⟩])) (hk : p ≤ 900000) :
    wpOp Tryz.prog rq1O Q 16 (rq1I W0 W1 c a len cap p XR #[true, true, true, true, true, true, true, true, true, true, true, true, true, true, true, true, true]) { tmps := #[.pointer (some ⟨c, 0, none⟩), undef, .pointer (some ⟨XR, 0, none⟩), .pointer (some ⟨XB, 0, none⟩), undef, undef, .slice (some ⟨XT, 0, none⟩) 5 5, .pointer (some ⟨c, 0, none⟩), .int .i64 (R2 : Int), .pointer (some ⟨XT, R2, none⟩), .string mt, .pointer (some ⟨c, 0, none⟩), .string wd, .string ((⟨#[47]⟩ : ByteArray) ++ wd), .string ((⟨#[47]⟩ : ByteArray) ++ wd ++ (⟨#[47]⟩ : ByteArray)), .pointer (some ⟨c, 0, none⟩), .pointer (some ⟨c, 0, none⟩), .int .i64 (R4 : Int), .string bt, .string ((⟨#[47]⟩ : ByteArray) ++ wd ++ (⟨#[47]⟩ : ByteArray) ++ bt), .agg #[.string mt, .string ((⟨#[47]⟩ : ByteArray) ++ wd ++ (⟨#[47]⟩ : ByteArray) ++ bt), .slice none 0 0, .slice none 0 0, .string ⟨#[]⟩], undef, undef, undef, undef, undef, undef, undef, undef, undef, undef, undef, undef, undef, undef, undef, undef, undef, undef, undef, undef, undef, undef, undef, undef, undef, undef, undef, undef, undef, undef, undef, undef, undef, undef, undef, undef, undef, undef, undef, undef, undef, undef, undef, undef, undef, undef, undef, undef, undef, undef, undef, undef], defers := [] } w := by
  have RB : RowAt w XB 25 #[.string ⟨#[]⟩, .string ⟨#[]⟩, .slice none 0 0, .slice none 0 0, .string ⟨#[]⟩] := (hb rfl).2
  have XL := (hb rfl).1
  have hcx : c < XB := by omega
  have hne := rowNe (ht rfl).1 RB (by decide)
  have q0 := RB.cell 0
  have q1 := RB.cell 1
  have q2 := RB.cell 2
  have q3 := RB.cell 3
  have q4 := RB.cell 4
  have f0 := RB.free 0
  have f1 := RB.free 1
  have f2 := RB.free 2
  have f3 := RB.free 3
  have f4 := RB.free 4
  refine wpOp_step (o := { dst := none, op := Op.store 25 (Operand.tmp 3) (Operand.tmp 20), type := 0, pos := "l10_request.go:378", after := #[{ on := 15, ground := Ground.data }, { on := 14, ground := Ground.data }, { on := 12, ground := Ground.chain }, { on := 0, ground := Ground.phase }, { on := 1, ground := Ground.phase }, { on := 2, ground := Ground.phase }, { on := 3, ground := Ground.phase }, { on := 4, ground := Ground.phase }, { on := 5, ground := Ground.phase }, { on := 6, ground := Ground.phase }, { on := 7, ground := Ground.phase }, { on := 8, ground := Ground.phase }, { on := 9, ground := Ground.phase }, { on := 10, ground := Ground.phase }, { on := 11, ground := Ground.phase }, { on := 12, ground := Ground.phase }, { on := 13, ground := Ground.phase }, { on := 14, ground := Ground.phase }, { on := 15, ground := Ground.phase }], guard := none }) rfl (fun K hK => ?_)
  replace hK := hid hK
  go_simp
  exact hK.out _ _ ⟨true, true, true, true, true, true, true, true, true, true, true, true, true, true, true, true, true, XT, XB, R2, mt, wd, R4, bt, pp, rfl, rfl, (((((hS.set hcx 0 _).set hcx 1 _).set hcx 2 _).set hcx 3 _).set hcx 4 _), hp, (grown_far (grown_far (grown_far (grown_far (grown_far hg XL 0 _) XL 1 _) XL 2 _) XL 3 _) XL 4 _), hc, fun _ => ⟨((((((ht rfl).1.other ⟨XB, 0, none⟩ _ hne).other ⟨XB, 1, none⟩ _ hne).other ⟨XB, 2, none⟩ _ hne).other ⟨XB, 3, none⟩ _ hne).other ⟨XB, 4, none⟩ _ hne), (ht rfl).2⟩, hr2, hm, hwd, hr4, hbt, fun _ => ⟨XL, (((((RB.set 0 _).set 1 _).set 2 _).set 3 _).set 4 _)⟩, hk⟩
set_option maxRecDepth 20000 in
set_option maxHeartbeats 2000000 in
theorem rq1_step {Q : Exit → Act → World → Prop} (W0 W1 : World) (c : Nat) (a : Option Addr) (len cap p : Nat) (XR : Nat) (l : Array Bool) (f : Act) (w : World) (hC : Closed rq1O l) (hI : rq1I W0 W1 c a len cap p XR l f w) (i : Nat) (h0 : l.getD i true = false) (o : Oper) (ho : rq1O[i]? = some o) (h1 : ∀ e ∈ o.after, Region.binds .any e = true → l.getD e.on false = true) : wpOp Tryz.prog rq1O Q i (rq1I W0 W1 c a len cap p XR (l.setIfInBounds i true)) f w := by
  obtain ⟨b0, b1, b2, b3, b4, b5, b6, b7, b8, b9, b10, b11, b12, b13, b14, b15, b16, XT, XB, R2, mt, wd, R4, bt, pp, rfl, rfl, hS, hp, hg, hc, ht, hr2, hm, hwd, hr4, hbt, hb, hk⟩ := hI
  have hi : i < 17 := by
    rcases Nat.lt_or_ge i 17 with h | h
    · exact h
    · rw [show rq1O[i]? = none from Array.getElem?_eq_none h] at ho; cases ho
  rcases (by omega : i = 0 ∨ i = 1 ∨ i = 2 ∨ i = 3 ∨ i = 4 ∨ i = 5 ∨ i = 6 ∨ i = 7 ∨ i = 8 ∨ i = 9 ∨ i = 10 ∨ i = 11 ∨ i = 12 ∨ i = 13 ∨ i = 14 ∨ i = 15 ∨ i = 16) with rfl | rfl | rfl | rfl | rfl | rfl | rfl | rfl | rfl | rfl | rfl | rfl | rfl | rfl | rfl | rfl | rfl
  · obtain rfl : rq1o0 = o := Option.some.inj ho
    obtain rfl : b0 = false := h0
    obtain rfl : b3 = false := by
      cases b3 with
      | false => rfl
      | true => exact Bool.noConfusion (show false = true from hC 3 rq1o3 rfl rfl ⟨0, .data⟩ (by simp [rq1o3]) rfl)
    obtain rfl : b4 = false := by
      cases b4 with
      | false => rfl
      | true => exact Bool.noConfusion (show false = true from hC 4 rq1o4 rfl rfl ⟨3, .data⟩ (by simp [rq1o4]) rfl)
    obtain rfl : b14 = false := by
      cases b14 with
      | false => rfl
      | true => exact Bool.noConfusion (show false = true from hC 14 rq1o14 rfl rfl ⟨4, .data⟩ (by simp [rq1o14]) rfl)
    obtain rfl : b16 = false := by
      cases b16 with
      | false => rfl
      | true => exact Bool.noConfusion (show false = true from hC 16 rq1o16 rfl rfl ⟨0, .phase⟩ (by simp [rq1o16]) rfl)
    exact rq1_s0 W0 W1 c a len cap p XR b1 b2 b5 b6 b7 b8 b9 b10 b11 b12 b13 b15 XT XB R2 mt wd R4 bt pp w hS hp hg hc ht hr2 hm hwd hr4 hbt hb hk
  · obtain rfl : rq1o1 = o := Option.some.inj ho
    obtain rfl : b1 = false := h0
    obtain rfl : b2 = false := by
      cases b2 with
      | false => rfl
      | true => exact Bool.noConfusion (show false = true from hC 2 rq1o2 rfl rfl ⟨1, .data⟩ (by simp [rq1o2]) rfl)
    obtain rfl : b3 = false := by
      cases b3 with
      | false => rfl
      | true => exact Bool.noConfusion (show false = true from hC 3 rq1o3 rfl rfl ⟨2, .data⟩ (by simp [rq1o3]) rfl)
    obtain rfl : b4 = false := by
      cases b4 with
      | false => rfl
      | true => exact Bool.noConfusion (show false = true from hC 4 rq1o4 rfl rfl ⟨3, .data⟩ (by simp [rq1o4]) rfl)
    obtain rfl : b6 = false := by
      cases b6 with
      | false => rfl
      | true => exact Bool.noConfusion (show false = true from hC 6 rq1o6 rfl rfl ⟨2, .chain⟩ (by simp [rq1o6]) rfl)
    obtain rfl : b7 = false := by
      cases b7 with
      | false => rfl
      | true => exact Bool.noConfusion (show false = true from hC 7 rq1o7 rfl rfl ⟨6, .data⟩ (by simp [rq1o7]) rfl)
    obtain rfl : b8 = false := by
      cases b8 with
      | false => rfl
      | true => exact Bool.noConfusion (show false = true from hC 8 rq1o8 rfl rfl ⟨7, .data⟩ (by simp [rq1o8]) rfl)
    obtain rfl : b11 = false := by
      cases b11 with
      | false => rfl
      | true => exact Bool.noConfusion (show false = true from hC 11 rq1o11 rfl rfl ⟨6, .chain⟩ (by simp [rq1o11]) rfl)
    obtain rfl : b12 = false := by
      cases b12 with
      | false => rfl
      | true => exact Bool.noConfusion (show false = true from hC 12 rq1o12 rfl rfl ⟨11, .chain⟩ (by simp [rq1o12]) rfl)
    obtain rfl : b13 = false := by
      cases b13 with
      | false => rfl
      | true => exact Bool.noConfusion (show false = true from hC 13 rq1o13 rfl rfl ⟨8, .data⟩ (by simp [rq1o13]) rfl)
    obtain rfl : b14 = false := by
      cases b14 with
      | false => rfl
      | true => exact Bool.noConfusion (show false = true from hC 14 rq1o14 rfl rfl ⟨4, .data⟩ (by simp [rq1o14]) rfl)
    obtain rfl : b16 = false := by
      cases b16 with
      | false => rfl
      | true => exact Bool.noConfusion (show false = true from hC 16 rq1o16 rfl rfl ⟨1, .phase⟩ (by simp [rq1o16]) rfl)
    exact rq1_s1 W0 W1 c a len cap p XR b0 b5 b9 b10 b15 XT XB R2 mt wd R4 bt pp w hS hp hg hc ht hr2 hm hwd hr4 hbt hb hk
  · obtain rfl : rq1o2 = o := Option.some.inj ho
    obtain rfl : b2 = false := h0
    obtain rfl : b1 = true := h1 ⟨1, .data⟩ (by simp [rq1o2]) rfl
    obtain rfl : b3 = false := by
      cases b3 with
      | false => rfl
      | true => exact Bool.noConfusion (show false = true from hC 3 rq1o3 rfl rfl ⟨2, .data⟩ (by simp [rq1o3]) rfl)
    obtain rfl : b4 = false := by
      cases b4 with
      | false => rfl
      | true => exact Bool.noConfusion (show false = true from hC 4 rq1o4 rfl rfl ⟨3, .data⟩ (by simp [rq1o4]) rfl)
    obtain rfl : b6 = false := by
      cases b6 with
      | false => rfl
      | true => exact Bool.noConfusion (show false = true from hC 6 rq1o6 rfl rfl ⟨2, .chain⟩ (by simp [rq1o6]) rfl)
    obtain rfl : b7 = false := by
      cases b7 with
      | false => rfl
      | true => exact Bool.noConfusion (show false = true from hC 7 rq1o7 rfl rfl ⟨6, .data⟩ (by simp [rq1o7]) rfl)
    obtain rfl : b8 = false := by
      cases b8 with
      | false => rfl
      | true => exact Bool.noConfusion (show false = true from hC 8 rq1o8 rfl rfl ⟨7, .data⟩ (by simp [rq1o8]) rfl)
    obtain rfl : b11 = false := by
      cases b11 with
      | false => rfl
      | true => exact Bool.noConfusion (show false = true from hC 11 rq1o11 rfl rfl ⟨6, .chain⟩ (by simp [rq1o11]) rfl)
    obtain rfl : b12 = false := by
      cases b12 with
      | false => rfl
      | true => exact Bool.noConfusion (show false = true from hC 12 rq1o12 rfl rfl ⟨11, .chain⟩ (by simp [rq1o12]) rfl)
    obtain rfl : b13 = false := by
      cases b13 with
      | false => rfl
      | true => exact Bool.noConfusion (show false = true from hC 13 rq1o13 rfl rfl ⟨8, .data⟩ (by simp [rq1o13]) rfl)
    obtain rfl : b14 = false := by
      cases b14 with
      | false => rfl
      | true => exact Bool.noConfusion (show false = true from hC 14 rq1o14 rfl rfl ⟨4, .data⟩ (by simp [rq1o14]) rfl)
    obtain rfl : b16 = false := by
      cases b16 with
      | false => rfl
      | true => exact Bool.noConfusion (show false = true from hC 16 rq1o16 rfl rfl ⟨2, .phase⟩ (by simp [rq1o16]) rfl)
    exact rq1_s2 W0 W1 c a len cap p XR b0 b5 b9 b10 b15 XT XB R2 mt wd R4 bt pp w hS hp hg hc ht hr2 hm hwd hr4 hbt hb hk
  · obtain rfl : rq1o3 = o := Option.some.inj ho
    obtain rfl : b3 = false := h0
    obtain rfl : b2 = true := h1 ⟨2, .data⟩ (by simp [rq1o3]) rfl
    obtain rfl : b0 = true := h1 ⟨0, .data⟩ (by simp [rq1o3]) rfl
    obtain rfl : b1 = true := hC 2 rq1o2 rfl rfl ⟨1, .data⟩ (by simp [rq1o2]) rfl
    obtain rfl : b4 = false := by
      cases b4 with
      | false => rfl
      | true => exact Bool.noConfusion (show false = true from hC 4 rq1o4 rfl rfl ⟨3, .data⟩ (by simp [rq1o4]) rfl)
    obtain rfl : b14 = false := by
      cases b14 with
      | false => rfl
      | true => exact Bool.noConfusion (show false = true from hC 14 rq1o14 rfl rfl ⟨4, .data⟩ (by simp [rq1o14]) rfl)
    obtain rfl : b16 = false := by
      cases b16 with
      | false => rfl
      | true => exact Bool.noConfusion (show false = true from hC 16 rq1o16 rfl rfl ⟨3, .phase⟩ (by simp [rq1o16]) rfl)
    exact rq1_s3 W0 W1 c a len cap p XR b5 b6 b7 b8 b9 b10 b11 b12 b13 b15 XT XB R2 mt wd R4 bt pp w hS hp hg hc ht hr2 hm hwd hr4 hbt hb hk
  · obtain rfl : rq1o4 = o := Option.some.inj ho
    obtain rfl : b4 = false := h0
    obtain rfl : b3 = true := h1 ⟨3, .data⟩ (by simp [rq1o4]) rfl
    obtain rfl : b0 = true := hC 3 rq1o3 rfl rfl ⟨0, .data⟩ (by simp [rq1o3]) rfl
    obtain rfl : b2 = true := hC 3 rq1o3 rfl rfl ⟨2, .data⟩ (by simp [rq1o3]) rfl
    obtain rfl : b1 = true := hC 2 rq1o2 rfl rfl ⟨1, .data⟩ (by simp [rq1o2]) rfl
    obtain rfl : b14 = false := by
      cases b14 with
      | false => rfl
      | true => exact Bool.noConfusion (show false = true from hC 14 rq1o14 rfl rfl ⟨4, .data⟩ (by simp [rq1o14]) rfl)
    obtain rfl : b16 = false := by
      cases b16 with
      | false => rfl
      | true => exact Bool.noConfusion (show false = true from hC 16 rq1o16 rfl rfl ⟨4, .phase⟩ (by simp [rq1o16]) rfl)
    exact rq1_s4 W0 W1 c a len cap p XR b5 b6 b7 b8 b9 b10 b11 b12 b13 b15 XT XB R2 mt wd R4 bt pp w hS hp hg hc ht hr2 hm hwd hr4 hbt hb hk
  · obtain rfl : rq1o5 = o := Option.some.inj ho
    obtain rfl : b5 = false := h0
    obtain rfl : b6 = false := by
      cases b6 with
      | false => rfl
      | true => exact Bool.noConfusion (show false = true from hC 6 rq1o6 rfl rfl ⟨5, .data⟩ (by simp [rq1o6]) rfl)
    obtain rfl : b7 = false := by
      cases b7 with
      | false => rfl
      | true => exact Bool.noConfusion (show false = true from hC 7 rq1o7 rfl rfl ⟨6, .data⟩ (by simp [rq1o7]) rfl)
    obtain rfl : b8 = false := by
      cases b8 with
      | false => rfl
      | true => exact Bool.noConfusion (show false = true from hC 8 rq1o8 rfl rfl ⟨7, .data⟩ (by simp [rq1o8]) rfl)
    obtain rfl : b11 = false := by
      cases b11 with
      | false => rfl
      | true => exact Bool.noConfusion (show false = true from hC 11 rq1o11 rfl rfl ⟨6, .chain⟩ (by simp [rq1o11]) rfl)
    obtain rfl : b12 = false := by
      cases b12 with
      | false => rfl
      | true => exact Bool.noConfusion (show false = true from hC 12 rq1o12 rfl rfl ⟨11, .chain⟩ (by simp [rq1o12]) rfl)
    obtain rfl : b13 = false := by
      cases b13 with
      | false => rfl
      | true => exact Bool.noConfusion (show false = true from hC 13 rq1o13 rfl rfl ⟨8, .data⟩ (by simp [rq1o13]) rfl)
    obtain rfl : b14 = false := by
      cases b14 with
      | false => rfl
      | true => exact Bool.noConfusion (show false = true from hC 14 rq1o14 rfl rfl ⟨13, .data⟩ (by simp [rq1o14]) rfl)
    obtain rfl : b16 = false := by
      cases b16 with
      | false => rfl
      | true => exact Bool.noConfusion (show false = true from hC 16 rq1o16 rfl rfl ⟨5, .phase⟩ (by simp [rq1o16]) rfl)
    exact rq1_s5 W0 W1 c a len cap p XR b0 b1 b2 b3 b4 b9 b10 b15 XT XB R2 mt wd R4 bt pp w hS hp hg hc ht hr2 hm hwd hr4 hbt hb hk
  · obtain rfl : rq1o6 = o := Option.some.inj ho
    obtain rfl : b6 = false := h0
    obtain rfl : b5 = true := h1 ⟨5, .data⟩ (by simp [rq1o6]) rfl
    obtain rfl : b2 = true := h1 ⟨2, .chain⟩ (by simp [rq1o6]) rfl
    obtain rfl : b1 = true := hC 2 rq1o2 rfl rfl ⟨1, .data⟩ (by simp [rq1o2]) rfl
    obtain rfl : b7 = false := by
      cases b7 with
      | false => rfl
      | true => exact Bool.noConfusion (show false = true from hC 7 rq1o7 rfl rfl ⟨6, .data⟩ (by simp [rq1o7]) rfl)
    obtain rfl : b8 = false := by
      cases b8 with
      | false => rfl
      | true => exact Bool.noConfusion (show false = true from hC 8 rq1o8 rfl rfl ⟨7, .data⟩ (by simp [rq1o8]) rfl)
    obtain rfl : b11 = false := by
      cases b11 with
      | false => rfl
      | true => exact Bool.noConfusion (show false = true from hC 11 rq1o11 rfl rfl ⟨6, .chain⟩ (by simp [rq1o11]) rfl)
    obtain rfl : b12 = false := by
      cases b12 with
      | false => rfl
      | true => exact Bool.noConfusion (show false = true from hC 12 rq1o12 rfl rfl ⟨11, .chain⟩ (by simp [rq1o12]) rfl)
    obtain rfl : b13 = false := by
      cases b13 with
      | false => rfl
      | true => exact Bool.noConfusion (show false = true from hC 13 rq1o13 rfl rfl ⟨8, .data⟩ (by simp [rq1o13]) rfl)
    obtain rfl : b14 = false := by
      cases b14 with
      | false => rfl
      | true => exact Bool.noConfusion (show false = true from hC 14 rq1o14 rfl rfl ⟨13, .data⟩ (by simp [rq1o14]) rfl)
    obtain rfl : b16 = false := by
      cases b16 with
      | false => rfl
      | true => exact Bool.noConfusion (show false = true from hC 16 rq1o16 rfl rfl ⟨6, .phase⟩ (by simp [rq1o16]) rfl)
    exact rq1_s6 W0 W1 c a len cap p XR b0 b3 b4 b9 b10 b15 XT XB R2 mt wd R4 bt pp w hS hp hg hc ht hr2 hm hwd hr4 hbt hb hk
  · obtain rfl : rq1o7 = o := Option.some.inj ho
    obtain rfl : b7 = false := h0
    obtain rfl : b6 = true := h1 ⟨6, .data⟩ (by simp [rq1o7]) rfl
    obtain rfl : b2 = true := hC 6 rq1o6 rfl rfl ⟨2, .chain⟩ (by simp [rq1o6]) rfl
    obtain rfl : b5 = true := hC 6 rq1o6 rfl rfl ⟨5, .data⟩ (by simp [rq1o6]) rfl
    obtain rfl : b1 = true := hC 2 rq1o2 rfl rfl ⟨1, .data⟩ (by simp [rq1o2]) rfl
    obtain rfl : b8 = false := by
      cases b8 with
      | false => rfl
      | true => exact Bool.noConfusion (show false = true from hC 8 rq1o8 rfl rfl ⟨7, .data⟩ (by simp [rq1o8]) rfl)
    obtain rfl : b13 = false := by
      cases b13 with
      | false => rfl
      | true => exact Bool.noConfusion (show false = true from hC 13 rq1o13 rfl rfl ⟨8, .data⟩ (by simp [rq1o13]) rfl)
    obtain rfl : b14 = false := by
      cases b14 with
      | false => rfl
      | true => exact Bool.noConfusion (show false = true from hC 14 rq1o14 rfl rfl ⟨13, .data⟩ (by simp [rq1o14]) rfl)
    obtain rfl : b16 = false := by
      cases b16 with
      | false => rfl
      | true => exact Bool.noConfusion (show false = true from hC 16 rq1o16 rfl rfl ⟨7, .phase⟩ (by simp [rq1o16]) rfl)
    exact rq1_s7 W0 W1 c a len cap p XR b0 b3 b4 b9 b10 b11 b12 b15 XT XB R2 mt wd R4 bt pp w hS hp hg hc ht hr2 hm hwd hr4 hbt hb hk
  · obtain rfl : rq1o8 = o := Option.some.inj ho
    obtain rfl : b8 = false := h0
    obtain rfl : b7 = true := h1 ⟨7, .data⟩ (by simp [rq1o8]) rfl
    obtain rfl : b6 = true := hC 7 rq1o7 rfl rfl ⟨6, .data⟩ (by simp [rq1o7]) rfl
    obtain rfl : b2 = true := hC 6 rq1o6 rfl rfl ⟨2, .chain⟩ (by simp [rq1o6]) rfl
    obtain rfl : b5 = true := hC 6 rq1o6 rfl rfl ⟨5, .data⟩ (by simp [rq1o6]) rfl
    obtain rfl : b1 = true := hC 2 rq1o2 rfl rfl ⟨1, .data⟩ (by simp [rq1o2]) rfl
    obtain rfl : b13 = false := by
      cases b13 with
      | false => rfl
      | true => exact Bool.noConfusion (show false = true from hC 13 rq1o13 rfl rfl ⟨8, .data⟩ (by simp [rq1o13]) rfl)
    obtain rfl : b14 = false := by
      cases b14 with
      | false => rfl
      | true => exact Bool.noConfusion (show false = true from hC 14 rq1o14 rfl rfl ⟨13, .data⟩ (by simp [rq1o14]) rfl)
    obtain rfl : b16 = false := by
      cases b16 with
      | false => rfl
      | true => exact Bool.noConfusion (show false = true from hC 16 rq1o16 rfl rfl ⟨8, .phase⟩ (by simp [rq1o16]) rfl)
    exact rq1_s8 W0 W1 c a len cap p XR b0 b3 b4 b9 b10 b11 b12 b15 XT XB R2 mt wd R4 bt pp w hS hp hg hc ht hr2 hm hwd hr4 hbt hb hk
  · obtain rfl : rq1o9 = o := Option.some.inj ho
    obtain rfl : b9 = false := h0
    obtain rfl : b12 = false := by
      cases b12 with
      | false => rfl
      | true => exact Bool.noConfusion (show false = true from hC 12 rq1o12 rfl rfl ⟨9, .data⟩ (by simp [rq1o12]) rfl)
    obtain rfl : b13 = false := by
      cases b13 with
      | false => rfl
      | true => exact Bool.noConfusion (show false = true from hC 13 rq1o13 rfl rfl ⟨12, .data⟩ (by simp [rq1o13]) rfl)
    obtain rfl : b14 = false := by
      cases b14 with
      | false => rfl
      | true => exact Bool.noConfusion (show false = true from hC 14 rq1o14 rfl rfl ⟨13, .data⟩ (by simp [rq1o14]) rfl)
    obtain rfl : b16 = false := by
      cases b16 with
      | false => rfl
      | true => exact Bool.noConfusion (show false = true from hC 16 rq1o16 rfl rfl ⟨9, .phase⟩ (by simp [rq1o16]) rfl)
    exact rq1_s9 W0 W1 c a len cap p XR b0 b1 b2 b3 b4 b5 b6 b7 b8 b10 b11 b15 XT XB R2 mt wd R4 bt pp w hS hp hg hc ht hr2 hm hwd hr4 hbt hb hk
  · obtain rfl : rq1o10 = o := Option.some.inj ho
    obtain rfl : b10 = false := h0
    obtain rfl : b11 = false := by
      cases b11 with
      | false => rfl
      | true => exact Bool.noConfusion (show false = true from hC 11 rq1o11 rfl rfl ⟨10, .data⟩ (by simp [rq1o11]) rfl)
    obtain rfl : b12 = false := by
      cases b12 with
      | false => rfl
      | true => exact Bool.noConfusion (show false = true from hC 12 rq1o12 rfl rfl ⟨11, .chain⟩ (by simp [rq1o12]) rfl)
    obtain rfl : b13 = false := by
      cases b13 with
      | false => rfl
      | true => exact Bool.noConfusion (show false = true from hC 13 rq1o13 rfl rfl ⟨12, .data⟩ (by simp [rq1o13]) rfl)
    obtain rfl : b14 = false := by
      cases b14 with
      | false => rfl
      | true => exact Bool.noConfusion (show false = true from hC 14 rq1o14 rfl rfl ⟨13, .data⟩ (by simp [rq1o14]) rfl)
    obtain rfl : b16 = false := by
      cases b16 with
      | false => rfl
      | true => exact Bool.noConfusion (show false = true from hC 16 rq1o16 rfl rfl ⟨10, .phase⟩ (by simp [rq1o16]) rfl)
    exact rq1_s10 W0 W1 c a len cap p XR b0 b1 b2 b3 b4 b5 b6 b7 b8 b9 b15 XT XB R2 mt wd R4 bt pp w hS hp hg hc ht hr2 hm hwd hr4 hbt hb hk
  · obtain rfl : rq1o11 = o := Option.some.inj ho
    obtain rfl : b11 = false := h0
    obtain rfl : b10 = true := h1 ⟨10, .data⟩ (by simp [rq1o11]) rfl
    obtain rfl : b6 = true := h1 ⟨6, .chain⟩ (by simp [rq1o11]) rfl
    obtain rfl : b2 = true := hC 6 rq1o6 rfl rfl ⟨2, .chain⟩ (by simp [rq1o6]) rfl
    obtain rfl : b5 = true := hC 6 rq1o6 rfl rfl ⟨5, .data⟩ (by simp [rq1o6]) rfl
    obtain rfl : b1 = true := hC 2 rq1o2 rfl rfl ⟨1, .data⟩ (by simp [rq1o2]) rfl
    obtain rfl : b12 = false := by
      cases b12 with
      | false => rfl
      | true => exact Bool.noConfusion (show false = true from hC 12 rq1o12 rfl rfl ⟨11, .chain⟩ (by simp [rq1o12]) rfl)
    obtain rfl : b13 = false := by
      cases b13 with
      | false => rfl
      | true => exact Bool.noConfusion (show false = true from hC 13 rq1o13 rfl rfl ⟨12, .data⟩ (by simp [rq1o13]) rfl)
    obtain rfl : b14 = false := by
      cases b14 with
      | false => rfl
      | true => exact Bool.noConfusion (show false = true from hC 14 rq1o14 rfl rfl ⟨13, .data⟩ (by simp [rq1o14]) rfl)
    obtain rfl : b16 = false := by
      cases b16 with
      | false => rfl
      | true => exact Bool.noConfusion (show false = true from hC 16 rq1o16 rfl rfl ⟨11, .phase⟩ (by simp [rq1o16]) rfl)
    exact rq1_s11 W0 W1 c a len cap p XR b0 b3 b4 b7 b8 b9 b15 XT XB R2 mt wd R4 bt pp w hS hp hg hc ht hr2 hm hwd hr4 hbt hb hk
  · obtain rfl : rq1o12 = o := Option.some.inj ho
    obtain rfl : b12 = false := h0
    obtain rfl : b11 = true := h1 ⟨11, .chain⟩ (by simp [rq1o12]) rfl
    obtain rfl : b9 = true := h1 ⟨9, .data⟩ (by simp [rq1o12]) rfl
    obtain rfl : b6 = true := hC 11 rq1o11 rfl rfl ⟨6, .chain⟩ (by simp [rq1o11]) rfl
    obtain rfl : b10 = true := hC 11 rq1o11 rfl rfl ⟨10, .data⟩ (by simp [rq1o11]) rfl
    obtain rfl : b2 = true := hC 6 rq1o6 rfl rfl ⟨2, .chain⟩ (by simp [rq1o6]) rfl
    obtain rfl : b5 = true := hC 6 rq1o6 rfl rfl ⟨5, .data⟩ (by simp [rq1o6]) rfl
    obtain rfl : b1 = true := hC 2 rq1o2 rfl rfl ⟨1, .data⟩ (by simp [rq1o2]) rfl
    obtain rfl : b13 = false := by
      cases b13 with
      | false => rfl
      | true => exact Bool.noConfusion (show false = true from hC 13 rq1o13 rfl rfl ⟨12, .data⟩ (by simp [rq1o13]) rfl)
    obtain rfl : b14 = false := by
      cases b14 with
      | false => rfl
      | true => exact Bool.noConfusion (show false = true from hC 14 rq1o14 rfl rfl ⟨13, .data⟩ (by simp [rq1o14]) rfl)
    obtain rfl : b16 = false := by
      cases b16 with
      | false => rfl
      | true => exact Bool.noConfusion (show false = true from hC 16 rq1o16 rfl rfl ⟨12, .chain⟩ (by simp [rq1o16]) rfl)
    exact rq1_s12 W0 W1 c a len cap p XR b0 b3 b4 b7 b8 b15 XT XB R2 mt wd R4 bt pp w hS hp hg hc ht hr2 hm hwd hr4 hbt hb hk
  · obtain rfl : rq1o13 = o := Option.some.inj ho
    obtain rfl : b13 = false := h0
    obtain rfl : b12 = true := h1 ⟨12, .data⟩ (by simp [rq1o13]) rfl
    obtain rfl : b8 = true := h1 ⟨8, .data⟩ (by simp [rq1o13]) rfl
    obtain rfl : b9 = true := hC 12 rq1o12 rfl rfl ⟨9, .data⟩ (by simp [rq1o12]) rfl
    obtain rfl : b11 = true := hC 12 rq1o12 rfl rfl ⟨11, .chain⟩ (by simp [rq1o12]) rfl
    obtain rfl : b6 = true := hC 11 rq1o11 rfl rfl ⟨6, .chain⟩ (by simp [rq1o11]) rfl
    obtain rfl : b10 = true := hC 11 rq1o11 rfl rfl ⟨10, .data⟩ (by simp [rq1o11]) rfl
    obtain rfl : b7 = true := hC 8 rq1o8 rfl rfl ⟨7, .data⟩ (by simp [rq1o8]) rfl
    obtain rfl : b2 = true := hC 6 rq1o6 rfl rfl ⟨2, .chain⟩ (by simp [rq1o6]) rfl
    obtain rfl : b5 = true := hC 6 rq1o6 rfl rfl ⟨5, .data⟩ (by simp [rq1o6]) rfl
    obtain rfl : b1 = true := hC 2 rq1o2 rfl rfl ⟨1, .data⟩ (by simp [rq1o2]) rfl
    obtain rfl : b14 = false := by
      cases b14 with
      | false => rfl
      | true => exact Bool.noConfusion (show false = true from hC 14 rq1o14 rfl rfl ⟨13, .data⟩ (by simp [rq1o14]) rfl)
    obtain rfl : b16 = false := by
      cases b16 with
      | false => rfl
      | true => exact Bool.noConfusion (show false = true from hC 16 rq1o16 rfl rfl ⟨13, .phase⟩ (by simp [rq1o16]) rfl)
    exact rq1_s13 W0 W1 c a len cap p XR b0 b3 b4 b15 XT XB R2 mt wd R4 bt pp w hS hp hg hc ht hr2 hm hwd hr4 hbt hb hk
  · obtain rfl : rq1o14 = o := Option.some.inj ho
    obtain rfl : b14 = false := h0
    obtain rfl : b13 = true := h1 ⟨13, .data⟩ (by simp [rq1o14]) rfl
    obtain rfl : b4 = true := h1 ⟨4, .data⟩ (by simp [rq1o14]) rfl
    obtain rfl : b8 = true := hC 13 rq1o13 rfl rfl ⟨8, .data⟩ (by simp [rq1o13]) rfl
    obtain rfl : b12 = true := hC 13 rq1o13 rfl rfl ⟨12, .data⟩ (by simp [rq1o13]) rfl
    obtain rfl : b9 = true := hC 12 rq1o12 rfl rfl ⟨9, .data⟩ (by simp [rq1o12]) rfl
    obtain rfl : b11 = true := hC 12 rq1o12 rfl rfl ⟨11, .chain⟩ (by simp [rq1o12]) rfl
    obtain rfl : b6 = true := hC 11 rq1o11 rfl rfl ⟨6, .chain⟩ (by simp [rq1o11]) rfl
    obtain rfl : b10 = true := hC 11 rq1o11 rfl rfl ⟨10, .data⟩ (by simp [rq1o11]) rfl
    obtain rfl : b7 = true := hC 8 rq1o8 rfl rfl ⟨7, .data⟩ (by simp [rq1o8]) rfl
    obtain rfl : b2 = true := hC 6 rq1o6 rfl rfl ⟨2, .chain⟩ (by simp [rq1o6]) rfl
    obtain rfl : b5 = true := hC 6 rq1o6 rfl rfl ⟨5, .data⟩ (by simp [rq1o6]) rfl
    obtain rfl : b3 = true := hC 4 rq1o4 rfl rfl ⟨3, .data⟩ (by simp [rq1o4]) rfl
    obtain rfl : b0 = true := hC 3 rq1o3 rfl rfl ⟨0, .data⟩ (by simp [rq1o3]) rfl
    obtain rfl : b1 = true := hC 2 rq1o2 rfl rfl ⟨1, .data⟩ (by simp [rq1o2]) rfl
    obtain rfl : b16 = false := by
      cases b16 with
      | false => rfl
      | true => exact Bool.noConfusion (show false = true from hC 16 rq1o16 rfl rfl ⟨14, .data⟩ (by simp [rq1o16]) rfl)
    exact rq1_s14 W0 W1 c a len cap p XR b15 XT XB R2 mt wd R4 bt pp w hS hp hg hc ht hr2 hm hwd hr4 hbt hb hk
  · obtain rfl : rq1o15 = o := Option.some.inj ho
    obtain rfl : b15 = false := h0
    obtain rfl : b16 = false := by
      cases b16 with
      | false => rfl
      | true => exact Bool.noConfusion (show false = true from hC 16 rq1o16 rfl rfl ⟨15, .data⟩ (by simp [rq1o16]) rfl)
    exact rq1_s15 W0 W1 c a len cap p XR b0 b1 b2 b3 b4 b5 b6 b7 b8 b9 b10 b11 b12 b13 b14 XT XB R2 mt wd R4 bt pp w hS hp hg hc ht hr2 hm hwd hr4 hbt hb hk
  · obtain rfl : rq1o16 = o := Option.some.inj ho
    obtain rfl : b16 = false := h0
    obtain rfl : b15 = true := h1 ⟨15, .data⟩ (by simp [rq1o16]) rfl
    obtain rfl : b14 = true := h1 ⟨14, .data⟩ (by simp [rq1o16]) rfl
    obtain rfl : b13 = true := h1 ⟨13, .phase⟩ (by simp [rq1o16]) rfl
    obtain rfl : b12 = true := h1 ⟨12, .chain⟩ (by simp [rq1o16]) rfl
    obtain rfl : b11 = true := h1 ⟨11, .phase⟩ (by simp [rq1o16]) rfl
    obtain rfl : b10 = true := h1 ⟨10, .phase⟩ (by simp [rq1o16]) rfl
    obtain rfl : b9 = true := h1 ⟨9, .phase⟩ (by simp [rq1o16]) rfl
    obtain rfl : b8 = true := h1 ⟨8, .phase⟩ (by simp [rq1o16]) rfl
    obtain rfl : b7 = true := h1 ⟨7, .phase⟩ (by simp [rq1o16]) rfl
    obtain rfl : b6 = true := h1 ⟨6, .phase⟩ (by simp [rq1o16]) rfl
    obtain rfl : b5 = true := h1 ⟨5, .phase⟩ (by simp [rq1o16]) rfl
    obtain rfl : b4 = true := h1 ⟨4, .phase⟩ (by simp [rq1o16]) rfl
    obtain rfl : b3 = true := h1 ⟨3, .phase⟩ (by simp [rq1o16]) rfl
    obtain rfl : b2 = true := h1 ⟨2, .phase⟩ (by simp [rq1o16]) rfl
    obtain rfl : b1 = true := h1 ⟨1, .phase⟩ (by simp [rq1o16]) rfl
    obtain rfl : b0 = true := h1 ⟨0, .phase⟩ (by simp [rq1o16]) rfl
    exact rq1_s16 W0 W1 c a len cap p XR  XT XB R2 mt wd R4 bt pp w hS hp hg hc ht hr2 hm hwd hr4 hbt hb hk
set_option maxRecDepth 20000 in
set_option maxHeartbeats 4000000 in
theorem rq1_wp {Q : Exit → Act → World → Prop} {id : Nat} (W0 W1 : World) (c : Nat) (a : Option Addr) (len cap p : Nat) (XR : Nat) (w : World) (hS : Src W0 w c a len cap p) (hg : W1.grownBy w (some c)) (hc : c < W1.heap.size) (hk : p ≤ 900000)
    (fin : ∀ (XT : Nat) (XB : Nat) (R2 : Nat) (mt : ByteArray) (wd : ByteArray) (R4 : Nat) (bt : ByteArray) (pp : Nat) (w' : World), (Src W0 w' c a len cap pp) → (pp ≤ p + 40 * (1 + 1 + 1 + 1)) → (W1.grownBy w' (some c)) → (c < W1.heap.size) → (RowAt w' XT 9 #[.string ⟨#[71, 69, 84]⟩, .string ⟨#[80, 85, 84]⟩, .string ⟨#[80, 79, 83, 84]⟩, .string ⟨#[68, 69, 76, 69, 84, 69]⟩, .string ⟨#[72, 69, 65, 68]⟩] ∧ W1.heap.size ≤ XT) → (R2 < 5) → (mt.size ≤ 6) → (wd.size ≤ 6) → (R4 < 6) → (bt.size ≤ 6) → (W1.heap.size ≤ XB ∧ RowAt w' XB 25 (cond true #[.string mt, .string ((⟨#[47]⟩ : ByteArray) ++ wd ++ (⟨#[47]⟩ : ByteArray) ++ bt), .slice none 0 0, .slice none 0 0, .string ⟨#[]⟩] #[.string ⟨#[]⟩, .string ⟨#[]⟩, .slice none 0 0, .slice none 0 0, .string ⟨#[]⟩])) → (p ≤ 900000) → Q .normal { tmps := #[.pointer (some ⟨c, 0, none⟩), undef, .pointer (some ⟨XR, 0, none⟩), .pointer (some ⟨XB, 0, none⟩), undef, undef, .slice (some ⟨XT, 0, none⟩) 5 5, .pointer (some ⟨c, 0, none⟩), .int .i64 (R2 : Int), .pointer (some ⟨XT, R2, none⟩), .string mt, .pointer (some ⟨c, 0, none⟩), .string wd, .string ((⟨#[47]⟩ : ByteArray) ++ wd), .string ((⟨#[47]⟩ : ByteArray) ++ wd ++ (⟨#[47]⟩ : ByteArray)), .pointer (some ⟨c, 0, none⟩), .pointer (some ⟨c, 0, none⟩), .int .i64 (R4 : Int), .string bt, .string ((⟨#[47]⟩ : ByteArray) ++ wd ++ (⟨#[47]⟩ : ByteArray) ++ bt), .agg #[.string mt, .string ((⟨#[47]⟩ : ByteArray) ++ wd ++ (⟨#[47]⟩ : ByteArray) ++ bt), .slice none 0 0, .slice none 0 0, .string ⟨#[]⟩], undef, undef, undef, undef, undef, undef, undef, undef, undef, undef, undef, undef, undef, undef, undef, undef, undef, undef, undef, undef, undef, undef, undef, undef, undef, undef, undef, undef, undef, undef, undef, undef, undef, undef, undef, undef, undef, undef, undef, undef, undef, undef, undef, undef, undef, undef, undef, undef, undef, undef, undef, undef], defers := [] } w') :
    (Code.region id rq1O true).wp Tryz.prog Q { tmps := #[.pointer (some ⟨c, 0, none⟩), undef, .pointer (some ⟨XR, 0, none⟩), undef, undef, undef, undef, undef, undef, undef, undef, undef, undef, undef, undef, undef, undef, undef, undef, undef, undef, undef, undef, undef, undef, undef, undef, undef, undef, undef, undef, undef, undef, undef, undef, undef, undef, undef, undef, undef, undef, undef, undef, undef, undef, undef, undef, undef, undef, undef, undef, undef, undef, undef, undef, undef, undef, undef, undef, undef, undef, undef, undef, undef, undef, undef, undef, undef, undef, undef, undef, undef, undef], defers := [] } w := by
  refine wp_region_inv (ops := rq1O) (rq1I W0 W1 c a len cap p XR) (by kernel_rfl) (by kernel_rfl) (fun l f v hI => ?_) (fun l f v hC hI i h0 o ho h1 => rq1_step W0 W1 c a len cap p XR l f v hC hI i h0 o ho h1) (fun l f v hI hall => ?_) ?_
  · obtain ⟨_, _, _, _, _, _, _, _, _, _, _, _, _, _, _, _, _, _, _, _, _, _, _, _, _, rfl, _⟩ := hI; rfl
  · obtain ⟨b0, b1, b2, b3, b4, b5, b6, b7, b8, b9, b10, b11, b12, b13, b14, b15, b16, XT, XB, R2, mt, wd, R4, bt, pp, rfl, rfl, hS, hp, hg, hc, ht, hr2, hm, hwd, hr4, hbt, hb, hk⟩ := hI
    obtain rfl : b0 = true := hall 0 (by simp)
    obtain rfl : b1 = true := hall 1 (by simp)
    obtain rfl : b2 = true := hall 2 (by simp)
    obtain rfl : b3 = true := hall 3 (by simp)
    obtain rfl : b4 = true := hall 4 (by simp)
    obtain rfl : b5 = true := hall 5 (by simp)
    obtain rfl : b6 = true := hall 6 (by simp)
    obtain rfl : b7 = true := hall 7 (by simp)
    obtain rfl : b8 = true := hall 8 (by simp)
    obtain rfl : b9 = true := hall 9 (by simp)
    obtain rfl : b10 = true := hall 10 (by simp)
    obtain rfl : b11 = true := hall 11 (by simp)
    obtain rfl : b12 = true := hall 12 (by simp)
    obtain rfl : b13 = true := hall 13 (by simp)
    obtain rfl : b14 = true := hall 14 (by simp)
    obtain rfl : b15 = true := hall 15 (by simp)
    obtain rfl : b16 = true := hall 16 (by simp)
    exact fin XT XB R2 mt wd R4 bt pp v hS hp hg hc (ht rfl) (hr2 rfl) (hm rfl) (hwd rfl) (hr4 rfl) (hbt rfl) (hb rfl) hk
  · exact ⟨false, false, false, false, false, false, false, false, false, false, false, false, false, false, false, false, false, 0, 0, 0, ⟨#[]⟩, ⟨#[]⟩, 0, ⟨#[]⟩, p, rfl, rfl, hS.drew, by omega, grown_trans hg (grown_drewS _ _), hc, fun h => Bool.noConfusion h, fun h => Bool.noConfusion h, fun h => Bool.noConfusion h, fun h => Bool.noConfusion h, fun h => Bool.noConfusion h, fun h => Bool.noConfusion h, fun h => Bool.noConfusion h, hk⟩
end Go.Proofs.YtgoplcjjoiiagaaGreatDoor
namespace Go.Proofs.YtgoplcjjoiiagaaGreatDoor
open Go.RowKit
theorem made8 (n : Nat) : madeCells (Value.int .u8 0).cells (n * 1) = ints .u8 (List.replicate n 0) := by
  apply Array.ext
  · simp [madeCells, ints]
  · intro i h1 h2
    simp [madeCells, ints, Value.cells, Nat.mod_one]
theorem mk_bytes (w : World) (n : Nat) (hn : n ≤ 1048576) : (Instr.makeSlice 22 (.int .i64 n) (.int .i64 n)).run Tryz.prog w = .ok (.slice (some ⟨w.heap.size, 0, none⟩) n n) (w.alloc (.cells (ints .u8 (List.replicate n 0)) 5)) := by
  obtain ⟨i0, hi, hz0, hz1, hz2⟩ := info_parts Tryz.infoU8
  have := run_make (P := Tryz.prog) w 22 5 i0 (.int .u8 0) Tryz.underlying22 hi hz0 .i64 .i64 n n (by omega) (Int.le_refl _) (by rw [hz2]; omega) (by omega)
  rw [this, hz1]
  simp only [Int.toNat_natCast, made8]
theorem own_made (w : World) (n : Nat) (hn : n ≤ 1048576) : OwnNums (w.alloc (.cells (ints .u8 (List.replicate n 0)) 5)) w.heap.size 5 .u8 (.slice (some ⟨w.heap.size, 0, none⟩) n n) (List.replicate n 0) := by
  refine ⟨by simp, .inr ⟨w.heap.size, n, ints .u8 (List.replicate n 0), by simp, Nat.le_refl _, heap_alloc_new w _, by simp, by unfold maxLen; omega, by simp [ints], ?_⟩⟩
  simp [ints]
theorem OwnNums.monoD {w : World} {base base' : Nat} {e : TypeId} {k : IntKind} {v : Value} {xs : List Int} (h : OwnNums w base e k v xs) (hb : base' ≤ base) : OwnNums w base' e k v xs := by
  refine ⟨h.1, ?_⟩
  rcases h.2 with h0 | ⟨g, cap, cur, h1, h2, h3⟩
  · exact Or.inl h0
  · exact Or.inr ⟨g, cap, cur, h1, Nat.le_trans hb h2, h3⟩
theorem OwnHp.neRow {w : World} {B X : Nat} {v : Value} {L : List Hp} {t : TypeId} {cs : Array Value} (h : OwnHp w B v L) (hr : RowAt w X t cs) (ht : t ≠ 54) : some X ≠ v.ownBlock := fun e => by
  rcases h.2 with ⟨rfl, _⟩ | ⟨g, cap, cur, rfl, _, hg, _⟩
  · simp [Value.ownBlock] at e
  · simp [Value.ownBlock] at e
    subst e
    have := Option.some.inj (Eq.trans (Eq.symm hr) hg)
    injection this with _ h2
    exact ht h2
theorem OwnHp.setCellN {w : World} {B b k : Nat} {v u : Value} {L : List Hp} (h : OwnHp w B v L) (hne : some b ≠ v.ownBlock) : OwnHp (w.setCell ⟨b, k, none⟩ u) B v L :=
  World.ownsRow.kept h (grown_setCellF w b k u) (.inr (Ne.symm hne))
theorem OwnHp.setRowN {w : World} {B b : Nat} {v : Value} {L : List Hp} (h : OwnHp w B v L) (hne : some b ≠ v.ownBlock) (cs : Array Value) : OwnHp (w.setRow b cs) B v L :=
  World.ownsRow.kept h (row := some b) ⟨rfl, rfl, rfl, by simp [World.setRow], fun j _ hr => setRow_other w b j cs (fun e => hr (by rw [e]))⟩ (.inr (Ne.symm hne))
theorem OwnHp.keptC {w w' : World} {B c : Nat} {v : Value} {L : List Hp} (h : OwnHp w B v L) (hg : w.grownBy w' (some c)) (hc : c < B) : OwnHp w' B v L :=
  World.ownsRow.kept h hg (.inr (Ne.symm (OwnHp.apart h hc)))
theorem step_append_hpD {P : Program} (base : Nat) (w : World) {ops : Array Oper} {op : Oper} {a : Act} {K : Act → World → Prop} {Q : Exit → Act → World → Prop} {E : Prop} (hgd : op.guard = none) (s x : Operand) (t : TypeId)
    (ho : op.op = .call { callee := .builtin .append, args := #[s, x], argTypes := #[t, t] })
    (ht : P.underlying t = some (.slice 54)) (hinfo : (P.info? 54).map (fun i => (i.zero, i.size, i.bytes)) = some (some hz2, 2, 32))
    (v : Value) (L : List Hp) (n y : ByteArray) (hs : a.eval s = v) (hown : OwnHp w base v L) (hsz : base ≤ w.heap.size)
    (b : Nat) (hbox : w.heap[b]? = some (.cells #[.string n, .string y] 54 (0, 0))) (hx : a.eval x = .slice (some ⟨b, 0, none⟩) 1 1) (hlen : L.length + 1 ≤ 1048576)
    (h : ∀ g cap w', OwnHp w' base (.slice (some ⟨g, 0, none⟩) (L.length + 1) cap) (L ++ [(⟨n, y⟩ : Hp)]) → w.grownBy w' v.ownBlock → K (a.put op.dst (.slice (some ⟨g, 0, none⟩) (L.length + 1) cap)) w') :
    if Region.wanted op (yielded ops a.tmps) = true then Oper.wp P op a w K Q else E := by
  obtain ⟨i0, hi, hz0, hz1, hz2⟩ := info_parts hinfo
  have R : RowAt w b 54 #[.string n, .string y] := hbox
  refine step_append_lies _ hgd s x t ho base 54 i0 _ 2 32 ht hi hz0 hz1 hz2 rfl (by decide) v L.length (hpL L) hs hown ⟨b, 0, none⟩ 1 1 (hpL [⟨n, y⟩]) hx rfl ?_ ?_ (by decide) ?_ ?_ hsz w.heap.size rfl ?_
  · intro j u hj
    have hadd : (⟨b, 0, none⟩ : Addr).add j = ⟨b, j, none⟩ := by unfold Addr.add; split <;> simp_all
    rw [hadd, R.cell]
    match j, hj with
    | 0, hj => exact hj
    | 1, hj => exact hj
  · intro u hu
    simp [hpL] at hu
    rcases hu with rfl | rfl <;> rfl
  · unfold maxLen; omega
  · omega
  · intro g cap w' h1 h2 _ _
    exact h g cap w' (by unfold OwnHp; rw [hpL_app, List.length_append]; exact h1) h2
end Go.Proofs.YtgoplcjjoiiagaaGreatDoor
namespace Go.Proofs.YtgoplcjjoiiagaaGreatDoor
open Go.RowKit
set_option linter.unusedVariables false

def rq5o0 : Oper := { dst := some 27, op := Op.fieldAddr 25 (Operand.tmp 3) 2, type := 0, pos := "l10_request.go:380", after := #[], guard := none }
def rq5o1 : Oper := { dst := some 28, op := Op.load 23 (Operand.tmp 27), type := 23, pos := "l10_request.go:380", after := #[{ on := 0, ground := Ground.data }], guard := none }
def rq5o2 : Oper := { dst := some 29, op := Op.move (Operand.tmp 0), type := 43, pos := "l10_request.go:380", after := #[], guard := none }
def rq5o3 : Oper := { dst := some 30, op := Op.call { callee := Callee.value (Operand.func 81), args := #[Operand.tmp 29], argTypes := #[43] }, type := 9, pos := "l10_request.go:380", after := #[{ on := 2, ground := Ground.data }], guard := none }
def rq5o4 : Oper := { dst := some 31, op := Op.move (Operand.tmp 4), type := 2, pos := "l10_request.go:380", after := #[], guard := none }
def rq5o5 : Oper := { dst := some 32, op := Op.call { callee := Callee.value (Operand.func 47), args := #[Operand.tmp 31], argTypes := #[2] }, type := 9, pos := "l10_request.go:380", after := #[{ on := 4, ground := Ground.data }, { on := 3, ground := Ground.chain }], guard := none }
def rq5o6 : Oper := { dst := some 33, op := Op.binOp BinOp.add 9 (Operand.tmp 30) (Operand.tmp 32) 9, type := 9, pos := "l10_request.go:380", after := #[{ on := 3, ground := Ground.data }, { on := 5, ground := Ground.data }], guard := none }
def rq5o7 : Oper := { dst := some 34, op := Op.move (Operand.tmp 0), type := 43, pos := "l10_request.go:380", after := #[], guard := none }
def rq5o8 : Oper := { dst := some 35, op := Op.move (Operand.tmp 0), type := 43, pos := "l10_request.go:380", after := #[], guard := none }
def rq5o9 : Oper := { dst := some 36, op := Op.call { callee := Callee.value (Operand.func 52), args := #[Operand.tmp 35, Operand.const (Value.int IntKind.i64 6)], argTypes := #[43, 2] }, type := 2, pos := "l10_request.go:380", after := #[{ on := 8, ground := Ground.data }, { on := 5, ground := Ground.chain }], guard := none }
def rq5o10 : Oper := { dst := some 37, op := Op.call { callee := Callee.value (Operand.func 63), args := #[Operand.tmp 34, Operand.tmp 36], argTypes := #[43, 2] }, type := 9, pos := "l10_request.go:380", after := #[{ on := 7, ground := Ground.data }, { on := 9, ground := Ground.data }, { on := 9, ground := Ground.chain }], guard := none }
def rq5o11 : Oper := { dst := some 38, op := Op.build 54 #[(0, Operand.tmp 33), (1, Operand.tmp 37)], type := 54, pos := "l10_request.go:380", after := #[{ on := 6, ground := Ground.data }, { on := 10, ground := Ground.data }], guard := none }
def rq5o12 : Oper := { dst := some 39, op := Op.buildSlice 23 1 #[(0, Operand.tmp 38)], type := 23, pos := "l10_request.go:380", after := #[{ on := 11, ground := Ground.data }], guard := none }
def rq5o13 : Oper := { dst := some 40, op := Op.call { callee := Callee.builtin Builtin.append, args := #[Operand.tmp 28, Operand.tmp 39], argTypes := #[23, 23] }, type := 23, pos := "l10_request.go:380", after := #[{ on := 1, ground := Ground.data }, { on := 12, ground := Ground.data }, { on := 10, ground := Ground.chain }], guard := none }
def rq5o14 : Oper := { dst := some 41, op := Op.fieldAddr 25 (Operand.tmp 3) 2, type := 0, pos := "l10_request.go:380", after := #[{ on := 0, ground := Ground.phase }, { on := 1, ground := Ground.phase }, { on := 2, ground := Ground.phase }, { on := 3, ground := Ground.phase }, { on := 4, ground := Ground.phase }, { on := 5, ground := Ground.phase }, { on := 6, ground := Ground.phase }, { on := 7, ground := Ground.phase }, { on := 8, ground := Ground.phase }, { on := 9, ground := Ground.phase }, { on := 10, ground := Ground.phase }, { on := 11, ground := Ground.phase }, { on := 12, ground := Ground.phase }, { on := 13, ground := Ground.phase }], guard := none }
def rq5o15 : Oper := { dst := none, op := Op.store 23 (Operand.tmp 41) (Operand.tmp 40), type := 0, pos := "l10_request.go:380", after := #[{ on := 14, ground := Ground.data }, { on := 13, ground := Ground.data }, { on := 13, ground := Ground.chain }, { on := 0, ground := Ground.phase }, { on := 1, ground := Ground.phase }, { on := 2, ground := Ground.phase }, { on := 3, ground := Ground.phase }, { on := 4, ground := Ground.phase }, { on := 5, ground := Ground.phase }, { on := 6, ground := Ground.phase }, { on := 7, ground := Ground.phase }, { on := 8, ground := Ground.phase }, { on := 9, ground := Ground.phase }, { on := 10, ground := Ground.phase }, { on := 11, ground := Ground.phase }, { on := 12, ground := Ground.phase }, { on := 13, ground := Ground.phase }], guard := none }
def rq5O : Array Oper := #[rq5o0, rq5o1, rq5o2, rq5o3, rq5o4, rq5o5, rq5o6, rq5o7, rq5o8, rq5o9, rq5o10, rq5o11, rq5o12, rq5o13, rq5o14, rq5o15]
def rq5I (W0 w0 : World) (c : Nat) (a : Option Addr) (len cap p XR XB B : Nat) (zr : Array Value) (y0 y1 y3 y4 : Value) (aL : Option Addr) (cL : Nat) (L : List Hp) (kk : Nat) (s1 s5 s6 s7 s8 s9 s10 s11 s12 s13 s14 s15 s16 s17 s18 s19 s20 s21 s22 s23 s24 s25 s26 s27 s28 s29 s30 s31 s32 s33 s34 s35 s36 s37 s38 s39 s40 s41 s42 s43 s44 s45 s46 s47 s48 s49 s50 s51 s52 s53 s54 s55 s56 s57 s58 s59 s60 s61 s62 s63 s64 s65 s66 s67 s68 s69 s70 s71 s72 : Value) (l : Array Bool) (f : Act) (w : World) : Prop :=
  ∃ (b0 b1 b2 b3 b4 b5 b6 b7 b8 b9 b10 b11 b12 b13 b14 b15 : Bool) (x3 : ByteArray) (x5 : ByteArray) (R9 : Nat) (x10 : ByteArray) (X12 : Nat) (G : Nat) (CP : Nat) (pp : Nat), l = #[b0, b1, b2, b3, b4, b5, b6, b7, b8, b9, b10, b11, b12, b13, b14, b15] ∧ f = { tmps := #[.pointer (some ⟨c, 0, none⟩), s1, .pointer (some ⟨XR, 0, none⟩), .pointer (some ⟨XB, 0, none⟩), .int .i64 (kk : Int), s5, s6, s7, s8, s9, s10, s11, s12, s13, s14, s15, s16, s17, s18, s19, s20, s21, s22, s23, s24, s25, s26, sel b0 (.pointer (some ⟨XB, 2, none⟩)) (s27), sel b1 (.slice aL L.length cL) (s28), sel b2 (.pointer (some ⟨c, 0, none⟩)) (s29), sel b3 (.string x3) (s30), sel b4 (.int .i64 (kk : Int)) (s31), sel b5 (.string x5) (s32), sel b6 (.string (x3 ++ x5)) (s33), sel b7 (.pointer (some ⟨c, 0, none⟩)) (s34), sel b8 (.pointer (some ⟨c, 0, none⟩)) (s35), sel b9 (.int .i64 (R9 : Int)) (s36), sel b10 (.string x10) (s37), sel b11 (.agg #[.string (x3 ++ x5), .string x10]) (s38), sel b12 (.slice (some ⟨X12, 0, none⟩) 1 1) (s39), sel b13 (.slice (some ⟨G, 0, none⟩) (L.length + 1) CP) (s40), sel b14 (.pointer (some ⟨XB, 2, none⟩)) (s41), s42, s43, s44, s45, s46, s47, s48, s49, s50, s51, s52, s53, s54, s55, s56, s57, s58, s59, s60, s61, s62, s63, s64, s65, s66, s67, s68, s69, s70, s71, s72], defers := [] } ∧ (Src W0 w c a len cap pp) ∧ (pp ≤ p + 40 * (b3.toNat + b9.toNat + b10.toNat)) ∧ (w0.grownBy w (some c)) ∧ (RowAt w XB 25 (cond b15 #[y0, y1, .slice (some ⟨G, 0, none⟩) (L.length + 1) CP, y3, y4] #[y0, y1, .slice aL L.length cL, y3, y4])) ∧ (RowAt w XR 25 zr) ∧ (B ≤ w.heap.size) ∧ (c < XB ∧ c < B ∧ w0.heap.size ≤ B ∧ XR ≠ XB ∧ w0.heap.size ≤ XB ∧ W0.heap.size ≤ c ∧ p ≤ 900000 ∧ c ≠ XR) ∧ (b13 = false → OwnHp w B (.slice aL L.length cL) L) ∧ (b13 = true → OwnHp w B (.slice (some ⟨G, 0, none⟩) (L.length + 1) CP) (L ++ [(⟨(x3 ++ x5), x10⟩ : Hp)])) ∧ (L.length ≤ 1000) ∧ (kk < 50) ∧ (b3 = true → x3.size ≤ 6) ∧ (b5 = true → x5.size ≤ 2) ∧ (b9 = true → R9 < 6) ∧ (b10 = true → x10.size ≤ 6) ∧ (b12 = true → b13 = false → RowAt w X12 54 #[.string (x3 ++ x5), .string x10] ∧ B ≤ X12)
set_option maxRecDepth 20000 in
set_option maxHeartbeats 1000000 in
theorem rq5_s0 {Q : Exit → Act → World → Prop} (W0 w0 : World) (c : Nat) (a : Option Addr) (len cap p XR XB B : Nat) (zr : Array Value) (y0 y1 y3 y4 : Value) (aL : Option Addr) (cL : Nat) (L : List Hp) (kk : Nat) (s1 s5 s6 s7 s8 s9 s10 s11 s12 s13 s14 s15 s16 s17 s18 s19 s20 s21 s22 s23 s24 s25 s26 s27 s28 s29 s30 s31 s32 s33 s34 s35 s36 s37 s38 s39 s40 s41 s42 s43 s44 s45 s46 s47 s48 s49 s50 s51 s52 s53 s54 s55 s56 s57 s58 s59 s60 s61 s62 s63 s64 s65 s66 s67 s68 s69 s70 s71 s72 : Value) (b2 b3 b4 b5 b6 b7 b8 b9 b10 b11 b12 : Bool) (x3 : ByteArray) (x5 : ByteArray) (R9 : Nat) (x10 : ByteArray) (X12 : Nat) (G : Nat) (CP : Nat) (pp : Nat) (w : World) (hS : Src W0 w c a len cap pp) (hp : pp ≤ p + 40 * (b3.toNat + b9.toNat + b10.toNat)) (hg : w0.grownBy w (some c)) (hbox : RowAt w XB 25 (cond false #[y0, y1, .slice (some ⟨G, 0, none⟩) (L.length + 1) CP, y3, y4] #[y0, y1, .slice aL L.length cL, y3, y4])) (hR : RowAt w XR 25 zr) (hBz : B ≤ w.heap.size) (hst : c < XB ∧ c < B ∧ w0.heap.size ≤ B ∧ XR ≠ XB ∧ w0.heap.size ≤ XB ∧ W0.heap.size ≤ c ∧ p ≤ 900000 ∧ c ≠ XR) (ho1 : false = false → OwnHp w B (.slice aL L.length cL) L) (ho2 : false = true → OwnHp w B (.slice (some ⟨G, 0, none⟩) (L.length + 1) CP) (L ++ [(⟨(x3 ++ x5), x10⟩ : Hp)])) (hLn : L.length ≤ 1000) (hex : kk < 50) (hx3 : b3 = true → x3.size ≤ 6) (hx5 : b5 = true → x5.size ≤ 2) (hR9 : b9 = true → R9 < 6) (hx10 : b10 = true → x10.size ≤ 6) (hX12 : b12 = true → false = false → RowAt w X12 54 #[.string (x3 ++ x5), .string x10] ∧ B ≤ X12) :
    wpOp Tryz.prog rq5O Q 0 (rq5I W0 w0 c a len cap p XR XB B zr y0 y1 y3 y4 aL cL L kk s1 s5 s6 s7 s8 s9 s10 s11 s12 s13 s14 s15 s16 s17 s18 s19 s20 s21 s22 s23 s24 s25 s26 s27 s28 s29 s30 s31 s32 s33 s34 s35 s36 s37 s38 s39 s40 s41 s42 s43 s44 s45 s46 s47 s48 s49 s50 s51 s52 s53 s54 s55 s56 s57 s58 s59 s60 s61 s62 s63 s64 s65 s66 s67 s68 s69 s70 s71 s72 #[true, false, b2, b3, b4, b5, b6, b7, b8, b9, b10, b11, b12, false, false, false]) { tmps := #[.pointer (some ⟨c, 0, none⟩), s1, .pointer (some ⟨XR, 0, none⟩), .pointer (some ⟨XB, 0, none⟩), .int .i64 (kk : Int), s5, s6, s7, s8, s9, s10, s11, s12, s13, s14, s15, s16, s17, s18, s19, s20, s21, s22, s23, s24, s25, s26, s27, s28, sel b2 (.pointer (some ⟨c, 0, none⟩)) (s29), sel b3 (.string x3) (s30), sel b4 (.int .i64 (kk : Int)) (s31), sel b5 (.string x5) (s32), sel b6 (.string (x3 ++ x5)) (s33), sel b7 (.pointer (some ⟨c, 0, none⟩)) (s34), sel b8 (.pointer (some ⟨c, 0, none⟩)) (s35), sel b9 (.int .i64 (R9 : Int)) (s36), sel b10 (.string x10) (s37), sel b11 (.agg #[.string (x3 ++ x5), .string x10]) (s38), sel b12 (.slice (some ⟨X12, 0, none⟩) 1 1) (s39), s40, s41, s42, s43, s44, s45, s46, s47, s48, s49, s50, s51, s52, s53, s54, s55, s56, s57, s58, s59, s60, s61, s62, s63, s64, s65, s66, s67, s68, s69, s70, s71, s72], defers := [] } w := by
  refine wpOp_step (o := { dst := some 27, op := Op.fieldAddr 25 (Operand.tmp 3) 2, type := 0, pos := "l10_request.go:380", after := #[], guard := none }) rfl (fun K hK => ?_)
  replace hK := hid hK
  go_simp
  exact hK.out _ _ ⟨true, false, b2, b3, b4, b5, b6, b7, b8, b9, b10, b11, b12, false, false, false, x3, x5, R9, x10, X12, G, CP, pp, rfl, rfl, hS, hp, hg, hbox, hR, hBz, hst, ho1, ho2, hLn, hex, hx3, hx5, hR9, hx10, hX12⟩
set_option maxRecDepth 20000 in
set_option maxHeartbeats 1000000 in
theorem rq5_s1 {Q : Exit → Act → World → Prop} (W0 w0 : World) (c : Nat) (a : Option Addr) (len cap p XR XB B : Nat) (zr : Array Value) (y0 y1 y3 y4 : Value) (aL : Option Addr) (cL : Nat) (L : List Hp) (kk : Nat) (s1 s5 s6 s7 s8 s9 s10 s11 s12 s13 s14 s15 s16 s17 s18 s19 s20 s21 s22 s23 s24 s25 s26 s27 s28 s29 s30 s31 s32 s33 s34 s35 s36 s37 s38 s39 s40 s41 s42 s43 s44 s45 s46 s47 s48 s49 s50 s51 s52 s53 s54 s55 s56 s57 s58 s59 s60 s61 s62 s63 s64 s65 s66 s67 s68 s69 s70 s71 s72 : Value) (b2 b3 b4 b5 b6 b7 b8 b9 b10 b11 b12 : Bool) (x3 : ByteArray) (x5 : ByteArray) (R9 : Nat) (x10 : ByteArray) (X12 : Nat) (G : Nat) (CP : Nat) (pp : Nat) (w : World) (hS : Src W0 w c a len cap pp) (hp : pp ≤ p + 40 * (b3.toNat + b9.toNat + b10.toNat)) (hg : w0.grownBy w (some c)) (hbox : RowAt w XB 25 (cond false #[y0, y1, .slice (some ⟨G, 0, none⟩) (L.length + 1) CP, y3, y4] #[y0, y1, .slice aL L.length cL, y3, y4])) (hR : RowAt w XR 25 zr) (hBz : B ≤ w.heap.size) (hst : c < XB ∧ c < B ∧ w0.heap.size ≤ B ∧ XR ≠ XB ∧ w0.heap.size ≤ XB ∧ W0.heap.size ≤ c ∧ p ≤ 900000 ∧ c ≠ XR) (ho1 : false = false → OwnHp w B (.slice aL L.length cL) L) (ho2 : false = true → OwnHp w B (.slice (some ⟨G, 0, none⟩) (L.length + 1) CP) (L ++ [(⟨(x3 ++ x5), x10⟩ : Hp)])) (hLn : L.length ≤ 1000) (hex : kk < 50) (hx3 : b3 = true → x3.size ≤ 6) (hx5 : b5 = true → x5.size ≤ 2) (hR9 : b9 = true → R9 < 6) (hx10 : b10 = true → x10.size ≤ 6) (hX12 : b12 = true → false = false → RowAt w X12 54 #[.string (x3 ++ x5), .string x10] ∧ B ≤ X12) :
    wpOp Tryz.prog rq5O Q 1 (rq5I W0 w0 c a len cap p XR XB B zr y0 y1 y3 y4 aL cL L kk s1 s5 s6 s7 s8 s9 s10 s11 s12 s13 s14 s15 s16 s17 s18 s19 s20 s21 s22 s23 s24 s25 s26 s27 s28 s29 s30 s31 s32 s33 s34 s35 s36 s37 s38 s39 s40 s41 s42 s43 s44 s45 s46 s47 s48 s49 s50 s51 s52 s53 s54 s55 s56 s57 s58 s59 s60 s61 s62 s63 s64 s65 s66 s67 s68 s69 s70 s71 s72 #[true, true, b2, b3, b4, b5, b6, b7, b8, b9, b10, b11, b12, false, false, false]) { tmps := #[.pointer (some ⟨c, 0, none⟩), s1, .pointer (some ⟨XR, 0, none⟩), .pointer (some ⟨XB, 0, none⟩), .int .i64 (kk : Int), s5, s6, s7, s8, s9, s10, s11, s12, s13, s14, s15, s16, s17, s18, s19, s20, s21, s22, s23, s24, s25, s26, .pointer (some ⟨XB, 2, none⟩), s28, sel b2 (.pointer (some ⟨c, 0, none⟩)) (s29), sel b3 (.string x3) (s30), sel b4 (.int .i64 (kk : Int)) (s31), sel b5 (.string x5) (s32), sel b6 (.string (x3 ++ x5)) (s33), sel b7 (.pointer (some ⟨c, 0, none⟩)) (s34), sel b8 (.pointer (some ⟨c, 0, none⟩)) (s35), sel b9 (.int .i64 (R9 : Int)) (s36), sel b10 (.string x10) (s37), sel b11 (.agg #[.string (x3 ++ x5), .string x10]) (s38), sel b12 (.slice (some ⟨X12, 0, none⟩) 1 1) (s39), s40, s41, s42, s43, s44, s45, s46, s47, s48, s49, s50, s51, s52, s53, s54, s55, s56, s57, s58, s59, s60, s61, s62, s63, s64, s65, s66, s67, s68, s69, s70, s71, s72], defers := [] } w := by
  have q := hbox.cell 2
  refine wpOp_step (o := { dst := some 28, op := Op.load 23 (Operand.tmp 27), type := 23, pos := "l10_request.go:380", after := #[{ on := 0, ground := Ground.data }], guard := none }) rfl (fun K hK => ?_)
  replace hK := hid hK
  go_simp
  exact hK.out _ _ ⟨true, true, b2, b3, b4, b5, b6, b7, b8, b9, b10, b11, b12, false, false, false, x3, x5, R9, x10, X12, G, CP, pp, rfl, rfl, hS, hp, hg, hbox, hR, hBz, hst, ho1, ho2, hLn, hex, hx3, hx5, hR9, hx10, hX12⟩
set_option maxRecDepth 20000 in
set_option maxHeartbeats 1000000 in
theorem rq5_s2 {Q : Exit → Act → World → Prop} (W0 w0 : World) (c : Nat) (a : Option Addr) (len cap p XR XB B : Nat) (zr : Array Value) (y0 y1 y3 y4 : Value) (aL : Option Addr) (cL : Nat) (L : List Hp) (kk : Nat) (s1 s5 s6 s7 s8 s9 s10 s11 s12 s13 s14 s15 s16 s17 s18 s19 s20 s21 s22 s23 s24 s25 s26 s27 s28 s29 s30 s31 s32 s33 s34 s35 s36 s37 s38 s39 s40 s41 s42 s43 s44 s45 s46 s47 s48 s49 s50 s51 s52 s53 s54 s55 s56 s57 s58 s59 s60 s61 s62 s63 s64 s65 s66 s67 s68 s69 s70 s71 s72 : Value) (b0 b1 b4 b7 b8 : Bool) (x3 : ByteArray) (x5 : ByteArray) (R9 : Nat) (x10 : ByteArray) (X12 : Nat) (G : Nat) (CP : Nat) (pp : Nat) (w : World) (hS : Src W0 w c a len cap pp) (hp : pp ≤ p + 40 * (0 + 0 + 0)) (hg : w0.grownBy w (some c)) (hbox : RowAt w XB 25 (cond false #[y0, y1, .slice (some ⟨G, 0, none⟩) (L.length + 1) CP, y3, y4] #[y0, y1, .slice aL L.length cL, y3, y4])) (hR : RowAt w XR 25 zr) (hBz : B ≤ w.heap.size) (hst : c < XB ∧ c < B ∧ w0.heap.size ≤ B ∧ XR ≠ XB ∧ w0.heap.size ≤ XB ∧ W0.heap.size ≤ c ∧ p ≤ 900000 ∧ c ≠ XR) (ho1 : false = false → OwnHp w B (.slice aL L.length cL) L) (ho2 : false = true → OwnHp w B (.slice (some ⟨G, 0, none⟩) (L.length + 1) CP) (L ++ [(⟨(x3 ++ x5), x10⟩ : Hp)])) (hLn : L.length ≤ 1000) (hex : kk < 50) (hx3 : false = true → x3.size ≤ 6) (hx5 : false = true → x5.size ≤ 2) (hR9 : false = true → R9 < 6) (hx10 : false = true → x10.size ≤ 6) (hX12 : false = true → false = false → RowAt w X12 54 #[.string (x3 ++ x5), .string x10] ∧ B ≤ X12) :
    wpOp Tryz.prog rq5O Q 2 (rq5I W0 w0 c a len cap p XR XB B zr y0 y1 y3 y4 aL cL L kk s1 s5 s6 s7 s8 s9 s10 s11 s12 s13 s14 s15 s16 s17 s18 s19 s20 s21 s22 s23 s24 s25 s26 s27 s28 s29 s30 s31 s32 s33 s34 s35 s36 s37 s38 s39 s40 s41 s42 s43 s44 s45 s46 s47 s48 s49 s50 s51 s52 s53 s54 s55 s56 s57 s58 s59 s60 s61 s62 s63 s64 s65 s66 s67 s68 s69 s70 s71 s72 #[b0, b1, true, false, b4, false, false, b7, b8, false, false, false, false, false, false, false]) { tmps := #[.pointer (some ⟨c, 0, none⟩), s1, .pointer (some ⟨XR, 0, none⟩), .pointer (some ⟨XB, 0, none⟩), .int .i64 (kk : Int), s5, s6, s7, s8, s9, s10, s11, s12, s13, s14, s15, s16, s17, s18, s19, s20, s21, s22, s23, s24, s25, s26, sel b0 (.pointer (some ⟨XB, 2, none⟩)) (s27), sel b1 (.slice aL L.length cL) (s28), s29, s30, sel b4 (.int .i64 (kk : Int)) (s31), s32, s33, sel b7 (.pointer (some ⟨c, 0, none⟩)) (s34), sel b8 (.pointer (some ⟨c, 0, none⟩)) (s35), s36, s37, s38, s39, s40, s41, s42, s43, s44, s45, s46, s47, s48, s49, s50, s51, s52, s53, s54, s55, s56, s57, s58, s59, s60, s61, s62, s63, s64, s65, s66, s67, s68, s69, s70, s71, s72], defers := [] } w := by
  refine wpOp_step (o := { dst := some 29, op := Op.move (Operand.tmp 0), type := 43, pos := "l10_request.go:380", after := #[], guard := none }) rfl (fun K hK => ?_)
  replace hK := hid hK
  go_simp
  exact hK.out _ _ ⟨b0, b1, true, false, b4, false, false, b7, b8, false, false, false, false, false, false, false, x3, x5, R9, x10, X12, G, CP, pp, rfl, rfl, hS, hp, hg, hbox, hR, hBz, hst, ho1, ho2, hLn, hex, hx3, hx5, hR9, hx10, hX12⟩
set_option maxRecDepth 20000 in
set_option maxHeartbeats 1000000 in
theorem rq5_s3 {Q : Exit → Act → World → Prop} (W0 w0 : World) (c : Nat) (a : Option Addr) (len cap p XR XB B : Nat) (zr : Array Value) (y0 y1 y3 y4 : Value) (aL : Option Addr) (cL : Nat) (L : List Hp) (kk : Nat) (s1 s5 s6 s7 s8 s9 s10 s11 s12 s13 s14 s15 s16 s17 s18 s19 s20 s21 s22 s23 s24 s25 s26 s27 s28 s29 s30 s31 s32 s33 s34 s35 s36 s37 s38 s39 s40 s41 s42 s43 s44 s45 s46 s47 s48 s49 s50 s51 s52 s53 s54 s55 s56 s57 s58 s59 s60 s61 s62 s63 s64 s65 s66 s67 s68 s69 s70 s71 s72 : Value) (b0 b1 b4 b7 b8 : Bool) (x3 : ByteArray) (x5 : ByteArray) (R9 : Nat) (x10 : ByteArray) (X12 : Nat) (G : Nat) (CP : Nat) (pp : Nat) (w : World) (hS : Src W0 w c a len cap pp) (hp : pp ≤ p + 40 * (0 + 0 + 0)) (hg : w0.grownBy w (some c)) (hbox : RowAt w XB 25 (cond false #[y0, y1, .slice (some ⟨G, 0, none⟩) (L.length + 1) CP, y3, y4] #[y0, y1, .slice aL L.length cL, y3, y4])) (hR : RowAt w XR 25 zr) (hBz : B ≤ w.heap.size) (hst : c < XB ∧ c < B ∧ w0.heap.size ≤ B ∧ XR ≠ XB ∧ w0.heap.size ≤ XB ∧ W0.heap.size ≤ c ∧ p ≤ 900000 ∧ c ≠ XR) (ho1 : false = false → OwnHp w B (.slice aL L.length cL) L) (ho2 : false = true → OwnHp w B (.slice (some ⟨G, 0, none⟩) (L.length + 1) CP) (L ++ [(⟨(x3 ++ x5), x10⟩ : Hp)])) (hLn : L.length ≤ 1000) (hex : kk < 50) (hx3 : false = true → x3.size ≤ 6) (hx5 : false = true → x5.size ≤ 2) (hR9 : false = true → R9 < 6) (hx10 : false = true → x10.size ≤ 6) (hX12 : false = true → false = false → RowAt w X12 54 #[.string (x3 ++ x5), .string x10] ∧ B ≤ X12) :
    wpOp Tryz.prog rq5O Q 3 (rq5I W0 w0 c a len cap p XR XB B zr y0 y1 y3 y4 aL cL L kk s1 s5 s6 s7 s8 s9 s10 s11 s12 s13 s14 s15 s16 s17 s18 s19 s20 s21 s22 s23 s24 s25 s26 s27 s28 s29 s30 s31 s32 s33 s34 s35 s36 s37 s38 s39 s40 s41 s42 s43 s44 s45 s46 s47 s48 s49 s50 s51 s52 s53 s54 s55 s56 s57 s58 s59 s60 s61 s62 s63 s64 s65 s66 s67 s68 s69 s70 s71 s72 #[b0, b1, true, true, b4, false, false, b7, b8, false, false, false, false, false, false, false]) { tmps := #[.pointer (some ⟨c, 0, none⟩), s1, .pointer (some ⟨XR, 0, none⟩), .pointer (some ⟨XB, 0, none⟩), .int .i64 (kk : Int), s5, s6, s7, s8, s9, s10, s11, s12, s13, s14, s15, s16, s17, s18, s19, s20, s21, s22, s23, s24, s25, s26, sel b0 (.pointer (some ⟨XB, 2, none⟩)) (s27), sel b1 (.slice aL L.length cL) (s28), .pointer (some ⟨c, 0, none⟩), s30, sel b4 (.int .i64 (kk : Int)) (s31), s32, s33, sel b7 (.pointer (some ⟨c, 0, none⟩)) (s34), sel b8 (.pointer (some ⟨c, 0, none⟩)) (s35), s36, s37, s38, s39, s40, s41, s42, s43, s44, s45, s46, s47, s48, s49, s50, s51, s52, s53, s54, s55, s56, s57, s58, s59, s60, s61, s62, s63, s64, s65, s66, s67, s68, s69, s70, s71, s72], defers := [] } w := by
  have hcB : c < B := by omega
  refine wpOp_step (o := { dst := some 30, op := Op.call { callee := Callee.value (Operand.func 81), args := #[Operand.tmp 29], argTypes := #[43] }, type := 9, pos := "l10_request.go:380", after := #[{ on := 2, ground := Ground.data }], guard := none }) rfl (fun K hK => ?_)
  replace hK := hid hK
  go_simp
  refine (word_all W0 _ c a len cap pp hS (by omega)).mono ?_
  rintro e w2 ⟨⟨t2, rfl, ht2⟩, ⟨p3, hs2, hp3⟩, hg2⟩
  dsimp only
  exact hK.out _ _ ⟨b0, b1, true, true, b4, false, false, b7, b8, false, false, false, false, false, false, false, t2, x5, R9, x10, X12, G, CP, p3, rfl, rfl, hs2, by show p3 ≤ p + 40 * (1 + 0 + 0); omega, grown_trans hg hg2, rowF hbox hg2 hst.1, rowF2 hR hg2 hst.2.2.2.2.2.2.2, Nat.le_trans hBz hg2.size, hst, fun h => OwnHp.keptC (ho1 h) hg2 (by omega), fun h => Bool.noConfusion h, hLn, hex, fun _ => ht2, hx5, hR9, hx10, fun h => Bool.noConfusion h⟩
set_option maxRecDepth 20000 in
set_option maxHeartbeats 1000000 in
theorem rq5_s4 {Q : Exit → Act → World → Prop} (W0 w0 : World) (c : Nat) (a : Option Addr) (len cap p XR XB B : Nat) (zr : Array Value) (y0 y1 y3 y4 : Value) (aL : Option Addr) (cL : Nat) (L : List Hp) (kk : Nat) (s1 s5 s6 s7 s8 s9 s10 s11 s12 s13 s14 s15 s16 s17 s18 s19 s20 s21 s22 s23 s24 s25 s26 s27 s28 s29 s30 s31 s32 s33 s34 s35 s36 s37 s38 s39 s40 s41 s42 s43 s44 s45 s46 s47 s48 s49 s50 s51 s52 s53 s54 s55 s56 s57 s58 s59 s60 s61 s62 s63 s64 s65 s66 s67 s68 s69 s70 s71 s72 : Value) (b0 b1 b2 b3 b7 b8 : Bool) (x3 : ByteArray) (x5 : ByteArray) (R9 : Nat) (x10 : ByteArray) (X12 : Nat) (G : Nat) (CP : Nat) (pp : Nat) (w : World) (hS : Src W0 w c a len cap pp) (hp : pp ≤ p + 40 * (b3.toNat + 0 + 0)) (hg : w0.grownBy w (some c)) (hbox : RowAt w XB 25 (cond false #[y0, y1, .slice (some ⟨G, 0, none⟩) (L.length + 1) CP, y3, y4] #[y0, y1, .slice aL L.length cL, y3, y4])) (hR : RowAt w XR 25 zr) (hBz : B ≤ w.heap.size) (hst : c < XB ∧ c < B ∧ w0.heap.size ≤ B ∧ XR ≠ XB ∧ w0.heap.size ≤ XB ∧ W0.heap.size ≤ c ∧ p ≤ 900000 ∧ c ≠ XR) (ho1 : false = false → OwnHp w B (.slice aL L.length cL) L) (ho2 : false = true → OwnHp w B (.slice (some ⟨G, 0, none⟩) (L.length + 1) CP) (L ++ [(⟨(x3 ++ x5), x10⟩ : Hp)])) (hLn : L.length ≤ 1000) (hex : kk < 50) (hx3 : b3 = true → x3.size ≤ 6) (hx5 : false = true → x5.size ≤ 2) (hR9 : false = true → R9 < 6) (hx10 : false = true → x10.size ≤ 6) (hX12 : false = true → false = false → RowAt w X12 54 #[.string (x3 ++ x5), .string x10] ∧ B ≤ X12) :
    wpOp Tryz.prog rq5O Q 4 (rq5I W0 w0 c a len cap p XR XB B zr y0 y1 y3 y4 aL cL L kk s1 s5 s6 s7 s8 s9 s10 s11 s12 s13 s14 s15 s16 s17 s18 s19 s20 s21 s22 s23 s24 s25 s26 s27 s28 s29 s30 s31 s32 s33 s34 s35 s36 s37 s38 s39 s40 s41 s42 s43 s44 s45 s46 s47 s48 s49 s50 s51 s52 s53 s54 s55 s56 s57 s58 s59 s60 s61 s62 s63 s64 s65 s66 s67 s68 s69 s70 s71 s72 #[b0, b1, b2, b3, true, false, false, b7, b8, false, false, false, false, false, false, false]) { tmps := #[.pointer (some ⟨c, 0, none⟩), s1, .pointer (some ⟨XR, 0, none⟩), .pointer (some ⟨XB, 0, none⟩), .int .i64 (kk : Int), s5, s6, s7, s8, s9, s10, s11, s12, s13, s14, s15, s16, s17, s18, s19, s20, s21, s22, s23, s24, s25, s26, sel b0 (.pointer (some ⟨XB, 2, none⟩)) (s27), sel b1 (.slice aL L.length cL) (s28), sel b2 (.pointer (some ⟨c, 0, none⟩)) (s29), sel b3 (.string x3) (s30), s31, s32, s33, sel b7 (.pointer (some ⟨c, 0, none⟩)) (s34), sel b8 (.pointer (some ⟨c, 0, none⟩)) (s35), s36, s37, s38, s39, s40, s41, s42, s43, s44, s45, s46, s47, s48, s49, s50, s51, s52, s53, s54, s55, s56, s57, s58, s59, s60, s61, s62, s63, s64, s65, s66, s67, s68, s69, s70, s71, s72], defers := [] } w := by
  refine wpOp_step (o := { dst := some 31, op := Op.move (Operand.tmp 4), type := 2, pos := "l10_request.go:380", after := #[], guard := none }) rfl (fun K hK => ?_)
  replace hK := hid hK
  go_simp
  exact hK.out _ _ ⟨b0, b1, b2, b3, true, false, false, b7, b8, false, false, false, false, false, false, false, x3, x5, R9, x10, X12, G, CP, pp, rfl, rfl, hS, hp, hg, hbox, hR, hBz, hst, ho1, ho2, hLn, hex, hx3, hx5, hR9, hx10, hX12⟩
set_option maxRecDepth 20000 in
set_option maxHeartbeats 1000000 in
theorem rq5_s5 {Q : Exit → Act → World → Prop} (W0 w0 : World) (c : Nat) (a : Option Addr) (len cap p XR XB B : Nat) (zr : Array Value) (y0 y1 y3 y4 : Value) (aL : Option Addr) (cL : Nat) (L : List Hp) (kk : Nat) (s1 s5 s6 s7 s8 s9 s10 s11 s12 s13 s14 s15 s16 s17 s18 s19 s20 s21 s22 s23 s24 s25 s26 s27 s28 s29 s30 s31 s32 s33 s34 s35 s36 s37 s38 s39 s40 s41 s42 s43 s44 s45 s46 s47 s48 s49 s50 s51 s52 s53 s54 s55 s56 s57 s58 s59 s60 s61 s62 s63 s64 s65 s66 s67 s68 s69 s70 s71 s72 : Value) (b0 b1 b7 b8 : Bool) (x3 : ByteArray) (x5 : ByteArray) (R9 : Nat) (x10 : ByteArray) (X12 : Nat) (G : Nat) (CP : Nat) (pp : Nat) (w : World) (hS : Src W0 w c a len cap pp) (hp : pp ≤ p + 40 * (1 + 0 + 0)) (hg : w0.grownBy w (some c)) (hbox : RowAt w XB 25 (cond false #[y0, y1, .slice (some ⟨G, 0, none⟩) (L.length + 1) CP, y3, y4] #[y0, y1, .slice aL L.length cL, y3, y4])) (hR : RowAt w XR 25 zr) (hBz : B ≤ w.heap.size) (hst : c < XB ∧ c < B ∧ w0.heap.size ≤ B ∧ XR ≠ XB ∧ w0.heap.size ≤ XB ∧ W0.heap.size ≤ c ∧ p ≤ 900000 ∧ c ≠ XR) (ho1 : false = false → OwnHp w B (.slice aL L.length cL) L) (ho2 : false = true → OwnHp w B (.slice (some ⟨G, 0, none⟩) (L.length + 1) CP) (L ++ [(⟨(x3 ++ x5), x10⟩ : Hp)])) (hLn : L.length ≤ 1000) (hex : kk < 50) (hx3 : true = true → x3.size ≤ 6) (hx5 : false = true → x5.size ≤ 2) (hR9 : false = true → R9 < 6) (hx10 : false = true → x10.size ≤ 6) (hX12 : false = true → false = false → RowAt w X12 54 #[.string (x3 ++ x5), .string x10] ∧ B ≤ X12) :
    wpOp Tryz.prog rq5O Q 5 (rq5I W0 w0 c a len cap p XR XB B zr y0 y1 y3 y4 aL cL L kk s1 s5 s6 s7 s8 s9 s10 s11 s12 s13 s14 s15 s16 s17 s18 s19 s20 s21 s22 s23 s24 s25 s26 s27 s28 s29 s30 s31 s32 s33 s34 s35 s36 s37 s38 s39 s40 s41 s42 s43 s44 s45 s46 s47 s48 s49 s50 s51 s52 s53 s54 s55 s56 s57 s58 s59 s60 s61 s62 s63 s64 s65 s66 s67 s68 s69 s70 s71 s72 #[b0, b1, true, true, true, true, false, b7, b8, false, false, false, false, false, false, false]) { tmps := #[.pointer (some ⟨c, 0, none⟩), s1, .pointer (some ⟨XR, 0, none⟩), .pointer (some ⟨XB, 0, none⟩), .int .i64 (kk : Int), s5, s6, s7, s8, s9, s10, s11, s12, s13, s14, s15, s16, s17, s18, s19, s20, s21, s22, s23, s24, s25, s26, sel b0 (.pointer (some ⟨XB, 2, none⟩)) (s27), sel b1 (.slice aL L.length cL) (s28), .pointer (some ⟨c, 0, none⟩), .string x3, .int .i64 (kk : Int), s32, s33, sel b7 (.pointer (some ⟨c, 0, none⟩)) (s34), sel b8 (.pointer (some ⟨c, 0, none⟩)) (s35), s36, s37, s38, s39, s40, s41, s42, s43, s44, s45, s46, s47, s48, s49, s50, s51, s52, s53, s54, s55, s56, s57, s58, s59, s60, s61, s62, s63, s64, s65, s66, s67, s68, s69, s70, s71, s72], defers := [] } w := by
  refine wpOp_step (o := { dst := some 32, op := Op.call { callee := Callee.value (Operand.func 47), args := #[Operand.tmp 31], argTypes := #[2] }, type := 9, pos := "l10_request.go:380", after := #[{ on := 4, ground := Ground.data }, { on := 3, ground := Ground.chain }], guard := none }) rfl (fun K hK => ?_)
  replace hK := hid hK
  go_simp
  refine (dec_all kk (by omega) _).mono ?_
  rintro e w2 ⟨⟨t2, rfl, ht2⟩, hb2⟩
  dsimp only
  exact hK.out _ _ ⟨b0, b1, true, true, true, true, false, b7, b8, false, false, false, false, false, false, false, x3, t2, R9, x10, X12, G, CP, pp, rfl, rfl, Src.belowD hS hb2, hp, grown_trans hg (below_grown hb2 _), RowAt.nxD hb2 hbox, RowAt.nxD hb2 hR, Nat.le_trans hBz hb2.size, hst, fun h => OwnHp.next hb2 (ho1 h), fun h => Bool.noConfusion h, hLn, hex, hx3, fun _ => ht2, hR9, hx10, fun h => Bool.noConfusion h⟩
set_option maxRecDepth 20000 in
set_option maxHeartbeats 1000000 in
theorem rq5_s6 {Q : Exit → Act → World → Prop} (W0 w0 : World) (c : Nat) (a : Option Addr) (len cap p XR XB B : Nat) (zr : Array Value) (y0 y1 y3 y4 : Value) (aL : Option Addr) (cL : Nat) (L : List Hp) (kk : Nat) (s1 s5 s6 s7 s8 s9 s10 s11 s12 s13 s14 s15 s16 s17 s18 s19 s20 s21 s22 s23 s24 s25 s26 s27 s28 s29 s30 s31 s32 s33 s34 s35 s36 s37 s38 s39 s40 s41 s42 s43 s44 s45 s46 s47 s48 s49 s50 s51 s52 s53 s54 s55 s56 s57 s58 s59 s60 s61 s62 s63 s64 s65 s66 s67 s68 s69 s70 s71 s72 : Value) (b0 b1 b7 b8 b9 b10 : Bool) (x3 : ByteArray) (x5 : ByteArray) (R9 : Nat) (x10 : ByteArray) (X12 : Nat) (G : Nat) (CP : Nat) (pp : Nat) (w : World) (hS : Src W0 w c a len cap pp) (hp : pp ≤ p + 40 * (1 + b9.toNat + b10.toNat)) (hg : w0.grownBy w (some c)) (hbox : RowAt w XB 25 (cond false #[y0, y1, .slice (some ⟨G, 0, none⟩) (L.length + 1) CP, y3, y4] #[y0, y1, .slice aL L.length cL, y3, y4])) (hR : RowAt w XR 25 zr) (hBz : B ≤ w.heap.size) (hst : c < XB ∧ c < B ∧ w0.heap.size ≤ B ∧ XR ≠ XB ∧ w0.heap.size ≤ XB ∧ W0.heap.size ≤ c ∧ p ≤ 900000 ∧ c ≠ XR) (ho1 : false = false → OwnHp w B (.slice aL L.length cL) L) (ho2 : false = true → OwnHp w B (.slice (some ⟨G, 0, none⟩) (L.length + 1) CP) (L ++ [(⟨(x3 ++ x5), x10⟩ : Hp)])) (hLn : L.length ≤ 1000) (hex : kk < 50) (hx3 : true = true → x3.size ≤ 6) (hx5 : true = true → x5.size ≤ 2) (hR9 : b9 = true → R9 < 6) (hx10 : b10 = true → x10.size ≤ 6) (hX12 : false = true → false = false → RowAt w X12 54 #[.string (x3 ++ x5), .string x10] ∧ B ≤ X12) :
    wpOp Tryz.prog rq5O Q 6 (rq5I W0 w0 c a len cap p XR XB B zr y0 y1 y3 y4 aL cL L kk s1 s5 s6 s7 s8 s9 s10 s11 s12 s13 s14 s15 s16 s17 s18 s19 s20 s21 s22 s23 s24 s25 s26 s27 s28 s29 s30 s31 s32 s33 s34 s35 s36 s37 s38 s39 s40 s41 s42 s43 s44 s45 s46 s47 s48 s49 s50 s51 s52 s53 s54 s55 s56 s57 s58 s59 s60 s61 s62 s63 s64 s65 s66 s67 s68 s69 s70 s71 s72 #[b0, b1, true, true, true, true, true, b7, b8, b9, b10, false, false, false, false, false]) { tmps := #[.pointer (some ⟨c, 0, none⟩), s1, .pointer (some ⟨XR, 0, none⟩), .pointer (some ⟨XB, 0, none⟩), .int .i64 (kk : Int), s5, s6, s7, s8, s9, s10, s11, s12, s13, s14, s15, s16, s17, s18, s19, s20, s21, s22, s23, s24, s25, s26, sel b0 (.pointer (some ⟨XB, 2, none⟩)) (s27), sel b1 (.slice aL L.length cL) (s28), .pointer (some ⟨c, 0, none⟩), .string x3, .int .i64 (kk : Int), .string x5, s33, sel b7 (.pointer (some ⟨c, 0, none⟩)) (s34), sel b8 (.pointer (some ⟨c, 0, none⟩)) (s35), sel b9 (.int .i64 (R9 : Int)) (s36), sel b10 (.string x10) (s37), s38, s39, s40, s41, s42, s43, s44, s45, s46, s47, s48, s49, s50, s51, s52, s53, s54, s55, s56, s57, s58, s59, s60, s61, s62, s63, s64, s65, s66, s67, s68, s69, s70, s71, s72], defers := [] } w := by
  have za := hx3 rfl
  have zb := hx5 rfl
  have z1 : ¬ 9223372036854775807 < x3.size + x5.size := by omega
  refine wpOp_step (o := { dst := some 33, op := Op.binOp BinOp.add 9 (Operand.tmp 30) (Operand.tmp 32) 9, type := 9, pos := "l10_request.go:380", after := #[{ on := 3, ground := Ground.data }, { on := 5, ground := Ground.data }], guard := none }) rfl (fun K hK => ?_)
  replace hK := hid hK
  go_simp
  exact hK.out _ _ ⟨b0, b1, true, true, true, true, true, b7, b8, b9, b10, false, false, false, false, false, x3, x5, R9, x10, X12, G, CP, pp, rfl, rfl, hS, hp, hg, hbox, hR, hBz, hst, ho1, ho2, hLn, hex, hx3, hx5, hR9, hx10, hX12⟩
set_option maxRecDepth 20000 in
set_option maxHeartbeats 1000000 in
theorem rq5_s7 {Q : Exit → Act → World → Prop} (W0 w0 : World) (c : Nat) (a : Option Addr) (len cap p XR XB B : Nat) (zr : Array Value) (y0 y1 y3 y4 : Value) (aL : Option Addr) (cL : Nat) (L : List Hp) (kk : Nat) (s1 s5 s6 s7 s8 s9 s10 s11 s12 s13 s14 s15 s16 s17 s18 s19 s20 s21 s22 s23 s24 s25 s26 s27 s28 s29 s30 s31 s32 s33 s34 s35 s36 s37 s38 s39 s40 s41 s42 s43 s44 s45 s46 s47 s48 s49 s50 s51 s52 s53 s54 s55 s56 s57 s58 s59 s60 s61 s62 s63 s64 s65 s66 s67 s68 s69 s70 s71 s72 : Value) (b0 b1 b2 b3 b4 b5 b6 b8 b9 : Bool) (x3 : ByteArray) (x5 : ByteArray) (R9 : Nat) (x10 : ByteArray) (X12 : Nat) (G : Nat) (CP : Nat) (pp : Nat) (w : World) (hS : Src W0 w c a len cap pp) (hp : pp ≤ p + 40 * (b3.toNat + b9.toNat + 0)) (hg : w0.grownBy w (some c)) (hbox : RowAt w XB 25 (cond false #[y0, y1, .slice (some ⟨G, 0, none⟩) (L.length + 1) CP, y3, y4] #[y0, y1, .slice aL L.length cL, y3, y4])) (hR : RowAt w XR 25 zr) (hBz : B ≤ w.heap.size) (hst : c < XB ∧ c < B ∧ w0.heap.size ≤ B ∧ XR ≠ XB ∧ w0.heap.size ≤ XB ∧ W0.heap.size ≤ c ∧ p ≤ 900000 ∧ c ≠ XR) (ho1 : false = false → OwnHp w B (.slice aL L.length cL) L) (ho2 : false = true → OwnHp w B (.slice (some ⟨G, 0, none⟩) (L.length + 1) CP) (L ++ [(⟨(x3 ++ x5), x10⟩ : Hp)])) (hLn : L.length ≤ 1000) (hex : kk < 50) (hx3 : b3 = true → x3.size ≤ 6) (hx5 : b5 = true → x5.size ≤ 2) (hR9 : b9 = true → R9 < 6) (hx10 : false = true → x10.size ≤ 6) (hX12 : false = true → false = false → RowAt w X12 54 #[.string (x3 ++ x5), .string x10] ∧ B ≤ X12) :
    wpOp Tryz.prog rq5O Q 7 (rq5I W0 w0 c a len cap p XR XB B zr y0 y1 y3 y4 aL cL L kk s1 s5 s6 s7 s8 s9 s10 s11 s12 s13 s14 s15 s16 s17 s18 s19 s20 s21 s22 s23 s24 s25 s26 s27 s28 s29 s30 s31 s32 s33 s34 s35 s36 s37 s38 s39 s40 s41 s42 s43 s44 s45 s46 s47 s48 s49 s50 s51 s52 s53 s54 s55 s56 s57 s58 s59 s60 s61 s62 s63 s64 s65 s66 s67 s68 s69 s70 s71 s72 #[b0, b1, b2, b3, b4, b5, b6, true, b8, b9, false, false, false, false, false, false]) { tmps := #[.pointer (some ⟨c, 0, none⟩), s1, .pointer (some ⟨XR, 0, none⟩), .pointer (some ⟨XB, 0, none⟩), .int .i64 (kk : Int), s5, s6, s7, s8, s9, s10, s11, s12, s13, s14, s15, s16, s17, s18, s19, s20, s21, s22, s23, s24, s25, s26, sel b0 (.pointer (some ⟨XB, 2, none⟩)) (s27), sel b1 (.slice aL L.length cL) (s28), sel b2 (.pointer (some ⟨c, 0, none⟩)) (s29), sel b3 (.string x3) (s30), sel b4 (.int .i64 (kk : Int)) (s31), sel b5 (.string x5) (s32), sel b6 (.string (x3 ++ x5)) (s33), s34, sel b8 (.pointer (some ⟨c, 0, none⟩)) (s35), sel b9 (.int .i64 (R9 : Int)) (s36), s37, s38, s39, s40, s41, s42, s43, s44, s45, s46, s47, s48, s49, s50, s51, s52, s53, s54, s55, s56, s57, s58, s59, s60, s61, s62, s63, s64, s65, s66, s67, s68, s69, s70, s71, s72], defers := [] } w := by
  refine wpOp_step (o := { dst := some 34, op := Op.move (Operand.tmp 0), type := 43, pos := "l10_request.go:380", after := #[], guard := none }) rfl (fun K hK => ?_)
  replace hK := hid hK
  go_simp
  exact hK.out _ _ ⟨b0, b1, b2, b3, b4, b5, b6, true, b8, b9, false, false, false, false, false, false, x3, x5, R9, x10, X12, G, CP, pp, rfl, rfl, hS, hp, hg, hbox, hR, hBz, hst, ho1, ho2, hLn, hex, hx3, hx5, hR9, hx10, hX12⟩
set_option maxRecDepth 20000 in
set_option maxHeartbeats 1000000 in
theorem rq5_s8 {Q : Exit → Act → World → Prop} (W0 w0 : World) (c : Nat) (a : Option Addr) (len cap p XR XB B : Nat) (zr : Array Value) (y0 y1 y3 y4 : Value) (aL : Option Addr) (cL : Nat) (L : List Hp) (kk : Nat) (s1 s5 s6 s7 s8 s9 s10 s11 s12 s13 s14 s15 s16 s17 s18 s19 s20 s21 s22 s23 s24 s25 s26 s27 s28 s29 s30 s31 s32 s33 s34 s35 s36 s37 s38 s39 s40 s41 s42 s43 s44 s45 s46 s47 s48 s49 s50 s51 s52 s53 s54 s55 s56 s57 s58 s59 s60 s61 s62 s63 s64 s65 s66 s67 s68 s69 s70 s71 s72 : Value) (b0 b1 b2 b3 b4 b5 b6 b7 : Bool) (x3 : ByteArray) (x5 : ByteArray) (R9 : Nat) (x10 : ByteArray) (X12 : Nat) (G : Nat) (CP : Nat) (pp : Nat) (w : World) (hS : Src W0 w c a len cap pp) (hp : pp ≤ p + 40 * (b3.toNat + 0 + 0)) (hg : w0.grownBy w (some c)) (hbox : RowAt w XB 25 (cond false #[y0, y1, .slice (some ⟨G, 0, none⟩) (L.length + 1) CP, y3, y4] #[y0, y1, .slice aL L.length cL, y3, y4])) (hR : RowAt w XR 25 zr) (hBz : B ≤ w.heap.size) (hst : c < XB ∧ c < B ∧ w0.heap.size ≤ B ∧ XR ≠ XB ∧ w0.heap.size ≤ XB ∧ W0.heap.size ≤ c ∧ p ≤ 900000 ∧ c ≠ XR) (ho1 : false = false → OwnHp w B (.slice aL L.length cL) L) (ho2 : false = true → OwnHp w B (.slice (some ⟨G, 0, none⟩) (L.length + 1) CP) (L ++ [(⟨(x3 ++ x5), x10⟩ : Hp)])) (hLn : L.length ≤ 1000) (hex : kk < 50) (hx3 : b3 = true → x3.size ≤ 6) (hx5 : b5 = true → x5.size ≤ 2) (hR9 : false = true → R9 < 6) (hx10 : false = true → x10.size ≤ 6) (hX12 : false = true → false = false → RowAt w X12 54 #[.string (x3 ++ x5), .string x10] ∧ B ≤ X12) :
    wpOp Tryz.prog rq5O Q 8 (rq5I W0 w0 c a len cap p XR XB B zr y0 y1 y3 y4 aL cL L kk s1 s5 s6 s7 s8 s9 s10 s11 s12 s13 s14 s15 s16 s17 s18 s19 s20 s21 s22 s23 s24 s25 s26 s27 s28 s29 s30 s31 s32 s33 s34 s35 s36 s37 s38 s39 s40 s41 s42 s43 s44 s45 s46 s47 s48 s49 s50 s51 s52 s53 s54 s55 s56 s57 s58 s59 s60 s61 s62 s63 s64 s65 s66 s67 s68 s69 s70 s71 s72 #[b0, b1, b2, b3, b4, b5, b6, b7, true, false, false, false, false, false, false, false]) { tmps := #[.pointer (some ⟨c, 0, none⟩), s1, .pointer (some ⟨XR, 0, none⟩), .pointer (some ⟨XB, 0, none⟩), .int .i64 (kk : Int), s5, s6, s7, s8, s9, s10, s11, s12, s13, s14, s15, s16, s17, s18, s19, s20, s21, s22, s23, s24, s25, s26, sel b0 (.pointer (some ⟨XB, 2, none⟩)) (s27), sel b1 (.slice aL L.length cL) (s28), sel b2 (.pointer (some ⟨c, 0, none⟩)) (s29), sel b3 (.string x3) (s30), sel b4 (.int .i64 (kk : Int)) (s31), sel b5 (.string x5) (s32), sel b6 (.string (x3 ++ x5)) (s33), sel b7 (.pointer (some ⟨c, 0, none⟩)) (s34), s35, s36, s37, s38, s39, s40, s41, s42, s43, s44, s45, s46, s47, s48, s49, s50, s51, s52, s53, s54, s55, s56, s57, s58, s59, s60, s61, s62, s63, s64, s65, s66, s67, s68, s69, s70, s71, s72], defers := [] } w := by
  refine wpOp_step (o := { dst := some 35, op := Op.move (Operand.tmp 0), type := 43, pos := "l10_request.go:380", after := #[], guard := none }) rfl (fun K hK => ?_)
  replace hK := hid hK
  go_simp
  exact hK.out _ _ ⟨b0, b1, b2, b3, b4, b5, b6, b7, true, false, false, false, false, false, false, false, x3, x5, R9, x10, X12, G, CP, pp, rfl, rfl, hS, hp, hg, hbox, hR, hBz, hst, ho1, ho2, hLn, hex, hx3, hx5, hR9, hx10, hX12⟩
set_option maxRecDepth 20000 in
set_option maxHeartbeats 1000000 in
theorem rq5_s9 {Q : Exit → Act → World → Prop} (W0 w0 : World) (c : Nat) (a : Option Addr) (len cap p XR XB B : Nat) (zr : Array Value) (y0 y1 y3 y4 : Value) (aL : Option Addr) (cL : Nat) (L : List Hp) (kk : Nat) (s1 s5 s6 s7 s8 s9 s10 s11 s12 s13 s14 s15 s16 s17 s18 s19 s20 s21 s22 s23 s24 s25 s26 s27 s28 s29 s30 s31 s32 s33 s34 s35 s36 s37 s38 s39 s40 s41 s42 s43 s44 s45 s46 s47 s48 s49 s50 s51 s52 s53 s54 s55 s56 s57 s58 s59 s60 s61 s62 s63 s64 s65 s66 s67 s68 s69 s70 s71 s72 : Value) (b0 b1 b6 b7 : Bool) (x3 : ByteArray) (x5 : ByteArray) (R9 : Nat) (x10 : ByteArray) (X12 : Nat) (G : Nat) (CP : Nat) (pp : Nat) (w : World) (hS : Src W0 w c a len cap pp) (hp : pp ≤ p + 40 * (1 + 0 + 0)) (hg : w0.grownBy w (some c)) (hbox : RowAt w XB 25 (cond false #[y0, y1, .slice (some ⟨G, 0, none⟩) (L.length + 1) CP, y3, y4] #[y0, y1, .slice aL L.length cL, y3, y4])) (hR : RowAt w XR 25 zr) (hBz : B ≤ w.heap.size) (hst : c < XB ∧ c < B ∧ w0.heap.size ≤ B ∧ XR ≠ XB ∧ w0.heap.size ≤ XB ∧ W0.heap.size ≤ c ∧ p ≤ 900000 ∧ c ≠ XR) (ho1 : false = false → OwnHp w B (.slice aL L.length cL) L) (ho2 : false = true → OwnHp w B (.slice (some ⟨G, 0, none⟩) (L.length + 1) CP) (L ++ [(⟨(x3 ++ x5), x10⟩ : Hp)])) (hLn : L.length ≤ 1000) (hex : kk < 50) (hx3 : true = true → x3.size ≤ 6) (hx5 : true = true → x5.size ≤ 2) (hR9 : false = true → R9 < 6) (hx10 : false = true → x10.size ≤ 6) (hX12 : false = true → false = false → RowAt w X12 54 #[.string (x3 ++ x5), .string x10] ∧ B ≤ X12) :
    wpOp Tryz.prog rq5O Q 9 (rq5I W0 w0 c a len cap p XR XB B zr y0 y1 y3 y4 aL cL L kk s1 s5 s6 s7 s8 s9 s10 s11 s12 s13 s14 s15 s16 s17 s18 s19 s20 s21 s22 s23 s24 s25 s26 s27 s28 s29 s30 s31 s32 s33 s34 s35 s36 s37 s38 s39 s40 s41 s42 s43 s44 s45 s46 s47 s48 s49 s50 s51 s52 s53 s54 s55 s56 s57 s58 s59 s60 s61 s62 s63 s64 s65 s66 s67 s68 s69 s70 s71 s72 #[b0, b1, true, true, true, true, b6, b7, true, true, false, false, false, false, false, false]) { tmps := #[.pointer (some ⟨c, 0, none⟩), s1, .pointer (some ⟨XR, 0, none⟩), .pointer (some ⟨XB, 0, none⟩), .int .i64 (kk : Int), s5, s6, s7, s8, s9, s10, s11, s12, s13, s14, s15, s16, s17, s18, s19, s20, s21, s22, s23, s24, s25, s26, sel b0 (.pointer (some ⟨XB, 2, none⟩)) (s27), sel b1 (.slice aL L.length cL) (s28), .pointer (some ⟨c, 0, none⟩), .string x3, .int .i64 (kk : Int), .string x5, sel b6 (.string (x3 ++ x5)) (s33), sel b7 (.pointer (some ⟨c, 0, none⟩)) (s34), .pointer (some ⟨c, 0, none⟩), s36, s37, s38, s39, s40, s41, s42, s43, s44, s45, s46, s47, s48, s49, s50, s51, s52, s53, s54, s55, s56, s57, s58, s59, s60, s61, s62, s63, s64, s65, s66, s67, s68, s69, s70, s71, s72], defers := [] } w := by
  have hcB : c < B := by omega
  refine wpOp_step (o := { dst := some 36, op := Op.call { callee := Callee.value (Operand.func 52), args := #[Operand.tmp 35, Operand.const (Value.int IntKind.i64 6)], argTypes := #[43, 2] }, type := 2, pos := "l10_request.go:380", after := #[{ on := 8, ground := Ground.data }, { on := 5, ground := Ground.chain }], guard := none }) rfl (fun K hK => ?_)
  replace hK := hid hK
  go_simp
  refine (n_all W0 _ c a len cap pp 6 hS (by omega) (by omega) (by omega)).mono ?_
  rintro e w2 ⟨⟨r, rfl, h20, h21⟩, hs2, hg2⟩
  obtain ⟨R, rfl⟩ := Int.eq_ofNat_of_zero_le h20
  dsimp only
  exact hK.out _ _ ⟨b0, b1, true, true, true, true, b6, b7, true, true, false, false, false, false, false, false, x3, x5, R, x10, X12, G, CP, pp + 1, rfl, rfl, hs2, by show pp + 1 ≤ p + 40 * (1 + 1 + 0); omega, grown_trans hg hg2, rowF hbox hg2 hst.1, rowF2 hR hg2 hst.2.2.2.2.2.2.2, Nat.le_trans hBz hg2.size, hst, fun h => OwnHp.keptC (ho1 h) hg2 (by omega), fun h => Bool.noConfusion h, hLn, hex, hx3, hx5, fun _ => by omega, hx10, fun h => Bool.noConfusion h⟩
set_option maxRecDepth 20000 in
set_option maxHeartbeats 1000000 in
theorem rq5_s10 {Q : Exit → Act → World → Prop} (W0 w0 : World) (c : Nat) (a : Option Addr) (len cap p XR XB B : Nat) (zr : Array Value) (y0 y1 y3 y4 : Value) (aL : Option Addr) (cL : Nat) (L : List Hp) (kk : Nat) (s1 s5 s6 s7 s8 s9 s10 s11 s12 s13 s14 s15 s16 s17 s18 s19 s20 s21 s22 s23 s24 s25 s26 s27 s28 s29 s30 s31 s32 s33 s34 s35 s36 s37 s38 s39 s40 s41 s42 s43 s44 s45 s46 s47 s48 s49 s50 s51 s52 s53 s54 s55 s56 s57 s58 s59 s60 s61 s62 s63 s64 s65 s66 s67 s68 s69 s70 s71 s72 : Value) (b0 b1 b6 : Bool) (x3 : ByteArray) (x5 : ByteArray) (R9 : Nat) (x10 : ByteArray) (X12 : Nat) (G : Nat) (CP : Nat) (pp : Nat) (w : World) (hS : Src W0 w c a len cap pp) (hp : pp ≤ p + 40 * (1 + 1 + 0)) (hg : w0.grownBy w (some c)) (hbox : RowAt w XB 25 (cond false #[y0, y1, .slice (some ⟨G, 0, none⟩) (L.length + 1) CP, y3, y4] #[y0, y1, .slice aL L.length cL, y3, y4])) (hR : RowAt w XR 25 zr) (hBz : B ≤ w.heap.size) (hst : c < XB ∧ c < B ∧ w0.heap.size ≤ B ∧ XR ≠ XB ∧ w0.heap.size ≤ XB ∧ W0.heap.size ≤ c ∧ p ≤ 900000 ∧ c ≠ XR) (ho1 : false = false → OwnHp w B (.slice aL L.length cL) L) (ho2 : false = true → OwnHp w B (.slice (some ⟨G, 0, none⟩) (L.length + 1) CP) (L ++ [(⟨(x3 ++ x5), x10⟩ : Hp)])) (hLn : L.length ≤ 1000) (hex : kk < 50) (hx3 : true = true → x3.size ≤ 6) (hx5 : true = true → x5.size ≤ 2) (hR9 : true = true → R9 < 6) (hx10 : false = true → x10.size ≤ 6) (hX12 : false = true → false = false → RowAt w X12 54 #[.string (x3 ++ x5), .string x10] ∧ B ≤ X12) :
    wpOp Tryz.prog rq5O Q 10 (rq5I W0 w0 c a len cap p XR XB B zr y0 y1 y3 y4 aL cL L kk s1 s5 s6 s7 s8 s9 s10 s11 s12 s13 s14 s15 s16 s17 s18 s19 s20 s21 s22 s23 s24 s25 s26 s27 s28 s29 s30 s31 s32 s33 s34 s35 s36 s37 s38 s39 s40 s41 s42 s43 s44 s45 s46 s47 s48 s49 s50 s51 s52 s53 s54 s55 s56 s57 s58 s59 s60 s61 s62 s63 s64 s65 s66 s67 s68 s69 s70 s71 s72 #[b0, b1, true, true, true, true, b6, true, true, true, true, false, false, false, false, false]) { tmps := #[.pointer (some ⟨c, 0, none⟩), s1, .pointer (some ⟨XR, 0, none⟩), .pointer (some ⟨XB, 0, none⟩), .int .i64 (kk : Int), s5, s6, s7, s8, s9, s10, s11, s12, s13, s14, s15, s16, s17, s18, s19, s20, s21, s22, s23, s24, s25, s26, sel b0 (.pointer (some ⟨XB, 2, none⟩)) (s27), sel b1 (.slice aL L.length cL) (s28), .pointer (some ⟨c, 0, none⟩), .string x3, .int .i64 (kk : Int), .string x5, sel b6 (.string (x3 ++ x5)) (s33), .pointer (some ⟨c, 0, none⟩), .pointer (some ⟨c, 0, none⟩), .int .i64 (R9 : Int), s37, s38, s39, s40, s41, s42, s43, s44, s45, s46, s47, s48, s49, s50, s51, s52, s53, s54, s55, s56, s57, s58, s59, s60, s61, s62, s63, s64, s65, s66, s67, s68, s69, s70, s71, s72], defers := [] } w := by
  have hcB : c < B := by omega
  have r4 := hR9 rfl
  refine wpOp_step (o := { dst := some 37, op := Op.call { callee := Callee.value (Operand.func 63), args := #[Operand.tmp 34, Operand.tmp 36], argTypes := #[43, 2] }, type := 9, pos := "l10_request.go:380", after := #[{ on := 7, ground := Ground.data }, { on := 9, ground := Ground.data }, { on := 9, ground := Ground.chain }], guard := none }) rfl (fun K hK => ?_)
  replace hK := hid hK
  go_simp
  refine (bytes_all W0 _ c a len cap pp R9 hS (by omega) (by omega)).mono ?_
  rintro e w2 ⟨⟨t2, rfl, ht2⟩, ⟨p3, hs2, hp3⟩, hg2⟩
  dsimp only
  exact hK.out _ _ ⟨b0, b1, true, true, true, true, b6, true, true, true, true, false, false, false, false, false, x3, x5, R9, t2, X12, G, CP, p3, rfl, rfl, hs2, by show p3 ≤ p + 40 * (1 + 1 + 1); omega, grown_trans hg hg2, rowF hbox hg2 hst.1, rowF2 hR hg2 hst.2.2.2.2.2.2.2, Nat.le_trans hBz hg2.size, hst, fun h => OwnHp.keptC (ho1 h) hg2 (by omega), fun h => Bool.noConfusion h, hLn, hex, hx3, hx5, hR9, fun _ => by omega, fun h => Bool.noConfusion h⟩
set_option maxRecDepth 20000 in
set_option maxHeartbeats 1000000 in
theorem rq5_s11 {Q : Exit → Act → World → Prop} (W0 w0 : World) (c : Nat) (a : Option Addr) (len cap p XR XB B : Nat) (zr : Array Value) (y0 y1 y3 y4 : Value) (aL : Option Addr) (cL : Nat) (L : List Hp) (kk : Nat) (s1 s5 s6 s7 s8 s9 s10 s11 s12 s13 s14 s15 s16 s17 s18 s19 s20 s21 s22 s23 s24 s25 s26 s27 s28 s29 s30 s31 s32 s33 s34 s35 s36 s37 s38 s39 s40 s41 s42 s43 s44 s45 s46 s47 s48 s49 s50 s51 s52 s53 s54 s55 s56 s57 s58 s59 s60 s61 s62 s63 s64 s65 s66 s67 s68 s69 s70 s71 s72 : Value) (b0 b1 : Bool) (x3 : ByteArray) (x5 : ByteArray) (R9 : Nat) (x10 : ByteArray) (X12 : Nat) (G : Nat) (CP : Nat) (pp : Nat) (w : World) (hS : Src W0 w c a len cap pp) (hp : pp ≤ p + 40 * (1 + 1 + 1)) (hg : w0.grownBy w (some c)) (hbox : RowAt w XB 25 (cond false #[y0, y1, .slice (some ⟨G, 0, none⟩) (L.length + 1) CP, y3, y4] #[y0, y1, .slice aL L.length cL, y3, y4])) (hR : RowAt w XR 25 zr) (hBz : B ≤ w.heap.size) (hst : c < XB ∧ c < B ∧ w0.heap.size ≤ B ∧ XR ≠ XB ∧ w0.heap.size ≤ XB ∧ W0.heap.size ≤ c ∧ p ≤ 900000 ∧ c ≠ XR) (ho1 : false = false → OwnHp w B (.slice aL L.length cL) L) (ho2 : false = true → OwnHp w B (.slice (some ⟨G, 0, none⟩) (L.length + 1) CP) (L ++ [(⟨(x3 ++ x5), x10⟩ : Hp)])) (hLn : L.length ≤ 1000) (hex : kk < 50) (hx3 : true = true → x3.size ≤ 6) (hx5 : true = true → x5.size ≤ 2) (hR9 : true = true → R9 < 6) (hx10 : true = true → x10.size ≤ 6) (hX12 : false = true → false = false → RowAt w X12 54 #[.string (x3 ++ x5), .string x10] ∧ B ≤ X12) :
    wpOp Tryz.prog rq5O Q 11 (rq5I W0 w0 c a len cap p XR XB B zr y0 y1 y3 y4 aL cL L kk s1 s5 s6 s7 s8 s9 s10 s11 s12 s13 s14 s15 s16 s17 s18 s19 s20 s21 s22 s23 s24 s25 s26 s27 s28 s29 s30 s31 s32 s33 s34 s35 s36 s37 s38 s39 s40 s41 s42 s43 s44 s45 s46 s47 s48 s49 s50 s51 s52 s53 s54 s55 s56 s57 s58 s59 s60 s61 s62 s63 s64 s65 s66 s67 s68 s69 s70 s71 s72 #[b0, b1, true, true, true, true, true, true, true, true, true, true, false, false, false, false]) { tmps := #[.pointer (some ⟨c, 0, none⟩), s1, .pointer (some ⟨XR, 0, none⟩), .pointer (some ⟨XB, 0, none⟩), .int .i64 (kk : Int), s5, s6, s7, s8, s9, s10, s11, s12, s13, s14, s15, s16, s17, s18, s19, s20, s21, s22, s23, s24, s25, s26, sel b0 (.pointer (some ⟨XB, 2, none⟩)) (s27), sel b1 (.slice aL L.length cL) (s28), .pointer (some ⟨c, 0, none⟩), .string x3, .int .i64 (kk : Int), .string x5, .string (x3 ++ x5), .pointer (some ⟨c, 0, none⟩), .pointer (some ⟨c, 0, none⟩), .int .i64 (R9 : Int), .string x10, s38, s39, s40, s41, s42, s43, s44, s45, s46, s47, s48, s49, s50, s51, s52, s53, s54, s55, s56, s57, s58, s59, s60, s61, s62, s63, s64, s65, s66, s67, s68, s69, s70, s71, s72], defers := [] } w := by
  refine wpOp_step (o := { dst := some 38, op := Op.build 54 #[(0, Operand.tmp 33), (1, Operand.tmp 37)], type := 54, pos := "l10_request.go:380", after := #[{ on := 6, ground := Ground.data }, { on := 10, ground := Ground.data }], guard := none }) rfl (fun K hK => ?_)
  replace hK := hid hK
  go_simp
  exact hK.out _ _ ⟨b0, b1, true, true, true, true, true, true, true, true, true, true, false, false, false, false, x3, x5, R9, x10, X12, G, CP, pp, rfl, rfl, hS, hp, hg, hbox, hR, hBz, hst, ho1, ho2, hLn, hex, hx3, hx5, hR9, hx10, hX12⟩
set_option maxRecDepth 20000 in
set_option maxHeartbeats 1000000 in
theorem rq5_s12 {Q : Exit → Act → World → Prop} (W0 w0 : World) (c : Nat) (a : Option Addr) (len cap p XR XB B : Nat) (zr : Array Value) (y0 y1 y3 y4 : Value) (aL : Option Addr) (cL : Nat) (L : List Hp) (kk : Nat) (s1 s5 s6 s7 s8 s9 s10 s11 s12 s13 s14 s15 s16 s17 s18 s19 s20 s21 s22 s23 s24 s25 s26 s27 s28 s29 s30 s31 s32 s33 s34 s35 s36 s37 s38 s39 s40 s41 s42 s43 s44 s45 s46 s47 s48 s49 s50 s51 s52 s53 s54 s55 s56 s57 s58 s59 s60 s61 s62 s63 s64 s65 s66 s67 s68 s69 s70 s71 s72 : Value) (b0 b1 : Bool) (x3 : ByteArray) (x5 : ByteArray) (R9 : Nat) (x10 : ByteArray) (X12 : Nat) (G : Nat) (CP : Nat) (pp : Nat) (w : World) (hS : Src W0 w c a len cap pp) (hp : pp ≤ p + 40 * (1 + 1 + 1)) (hg : w0.grownBy w (some c)) (hbox : RowAt w XB 25 (cond false #[y0, y1, .slice (some ⟨G, 0, none⟩) (L.length + 1) CP, y3, y4] #[y0, y1, .slice aL L.length cL, y3, y4])) (hR : RowAt w XR 25 zr) (hBz : B ≤ w.heap.size) (hst : c < XB ∧ c < B ∧ w0.heap.size ≤ B ∧ XR ≠ XB ∧ w0.heap.size ≤ XB ∧ W0.heap.size ≤ c ∧ p ≤ 900000 ∧ c ≠ XR) (ho1 : false = false → OwnHp w B (.slice aL L.length cL) L) (ho2 : false = true → OwnHp w B (.slice (some ⟨G, 0, none⟩) (L.length + 1) CP) (L ++ [(⟨(x3 ++ x5), x10⟩ : Hp)])) (hLn : L.length ≤ 1000) (hex : kk < 50) (hx3 : true = true → x3.size ≤ 6) (hx5 : true = true → x5.size ≤ 2) (hR9 : true = true → R9 < 6) (hx10 : true = true → x10.size ≤ 6) (hX12 : false = true → false = false → RowAt w X12 54 #[.string (x3 ++ x5), .string x10] ∧ B ≤ X12) :
    wpOp Tryz.prog rq5O Q 12 (rq5I W0 w0 c a len cap p XR XB B zr y0 y1 y3 y4 aL cL L kk s1 s5 s6 s7 s8 s9 s10 s11 s12 s13 s14 s15 s16 s17 s18 s19 s20 s21 s22 s23 s24 s25 s26 s27 s28 s29 s30 s31 s32 s33 s34 s35 s36 s37 s38 s39 s40 s41 s42 s43 s44 s45 s46 s47 s48 s49 s50 s51 s52 s53 s54 s55 s56 s57 s58 s59 s60 s61 s62 s63 s64 s65 s66 s67 s68 s69 s70 s71 s72 #[b0, b1, true, true, true, true, true, true, true, true, true, true, true, false, false, false]) { tmps := #[.pointer (some ⟨c, 0, none⟩), s1, .pointer (some ⟨XR, 0, none⟩), .pointer (some ⟨XB, 0, none⟩), .int .i64 (kk : Int), s5, s6, s7, s8, s9, s10, s11, s12, s13, s14, s15, s16, s17, s18, s19, s20, s21, s22, s23, s24, s25, s26, sel b0 (.pointer (some ⟨XB, 2, none⟩)) (s27), sel b1 (.slice aL L.length cL) (s28), .pointer (some ⟨c, 0, none⟩), .string x3, .int .i64 (kk : Int), .string x5, .string (x3 ++ x5), .pointer (some ⟨c, 0, none⟩), .pointer (some ⟨c, 0, none⟩), .int .i64 (R9 : Int), .string x10, .agg #[.string (x3 ++ x5), .string x10], s39, s40, s41, s42, s43, s44, s45, s46, s47, s48, s49, s50, s51, s52, s53, s54, s55, s56, s57, s58, s59, s60, s61, s62, s63, s64, s65, s66, s67, s68, s69, s70, s71, s72], defers := [] } w := by
  refine wpOp_step (o := { dst := some 39, op := Op.buildSlice 23 1 #[(0, Operand.tmp 38)], type := 23, pos := "l10_request.go:380", after := #[{ on := 11, ground := Ground.data }], guard := none }) rfl (fun K hK => ?_)
  replace hK := hid hK
  go_simp
  exact hK.out _ _ ⟨b0, b1, true, true, true, true, true, true, true, true, true, true, true, false, false, false, x3, x5, R9, x10, w.heap.size, G, CP, pp, rfl, rfl, hS.alloc _, hp, grown_al hg _, hbox.alloc _, hR.alloc _, by simp only [World.size_alloc]; omega, hst, fun h => World.ownsRow.alloc (ho1 h) _, fun h => Bool.noConfusion h, hLn, hex, hx3, hx5, hR9, hx10, fun _ _ => ⟨RowAt.new w _ _, hBz⟩⟩
set_option maxRecDepth 20000 in
set_option maxHeartbeats 1000000 in
theorem rq5_s13 {Q : Exit → Act → World → Prop} (W0 w0 : World) (c : Nat) (a : Option Addr) (len cap p XR XB B : Nat) (zr : Array Value) (y0 y1 y3 y4 : Value) (aL : Option Addr) (cL : Nat) (L : List Hp) (kk : Nat) (s1 s5 s6 s7 s8 s9 s10 s11 s12 s13 s14 s15 s16 s17 s18 s19 s20 s21 s22 s23 s24 s25 s26 s27 s28 s29 s30 s31 s32 s33 s34 s35 s36 s37 s38 s39 s40 s41 s42 s43 s44 s45 s46 s47 s48 s49 s50 s51 s52 s53 s54 s55 s56 s57 s58 s59 s60 s61 s62 s63 s64 s65 s66 s67 s68 s69 s70 s71 s72 : Value) (x3 : ByteArray) (x5 : ByteArray) (R9 : Nat) (x10 : ByteArray) (X12 : Nat) (G : Nat) (CP : Nat) (pp : Nat) (w : World) (hS : Src W0 w c a len cap pp) (hp : pp ≤ p + 40 * (1 + 1 + 1)) (hg : w0.grownBy w (some c)) (hbox : RowAt w XB 25 (cond false #[y0, y1, .slice (some ⟨G, 0, none⟩) (L.length + 1) CP, y3, y4] #[y0, y1, .slice aL L.length cL, y3, y4])) (hR : RowAt w XR 25 zr) (hBz : B ≤ w.heap.size) (hst : c < XB ∧ c < B ∧ w0.heap.size ≤ B ∧ XR ≠ XB ∧ w0.heap.size ≤ XB ∧ W0.heap.size ≤ c ∧ p ≤ 900000 ∧ c ≠ XR) (ho1 : false = false → OwnHp w B (.slice aL L.length cL) L) (ho2 : false = true → OwnHp w B (.slice (some ⟨G, 0, none⟩) (L.length + 1) CP) (L ++ [(⟨(x3 ++ x5), x10⟩ : Hp)])) (hLn : L.length ≤ 1000) (hex : kk < 50) (hx3 : true = true → x3.size ≤ 6) (hx5 : true = true → x5.size ≤ 2) (hR9 : true = true → R9 < 6) (hx10 : true = true → x10.size ≤ 6) (hX12 : true = true → false = false → RowAt w X12 54 #[.string (x3 ++ x5), .string x10] ∧ B ≤ X12) :
    wpOp Tryz.prog rq5O Q 13 (rq5I W0 w0 c a len cap p XR XB B zr y0 y1 y3 y4 aL cL L kk s1 s5 s6 s7 s8 s9 s10 s11 s12 s13 s14 s15 s16 s17 s18 s19 s20 s21 s22 s23 s24 s25 s26 s27 s28 s29 s30 s31 s32 s33 s34 s35 s36 s37 s38 s39 s40 s41 s42 s43 s44 s45 s46 s47 s48 s49 s50 s51 s52 s53 s54 s55 s56 s57 s58 s59 s60 s61 s62 s63 s64 s65 s66 s67 s68 s69 s70 s71 s72 #[true, true, true, true, true, true, true, true, true, true, true, true, true, true, false, false]) { tmps := #[.pointer (some ⟨c, 0, none⟩), s1, .pointer (some ⟨XR, 0, none⟩), .pointer (some ⟨XB, 0, none⟩), .int .i64 (kk : Int), s5, s6, s7, s8, s9, s10, s11, s12, s13, s14, s15, s16, s17, s18, s19, s20, s21, s22, s23, s24, s25, s26, .pointer (some ⟨XB, 2, none⟩), .slice aL L.length cL, .pointer (some ⟨c, 0, none⟩), .string x3, .int .i64 (kk : Int), .string x5, .string (x3 ++ x5), .pointer (some ⟨c, 0, none⟩), .pointer (some ⟨c, 0, none⟩), .int .i64 (R9 : Int), .string x10, .agg #[.string (x3 ++ x5), .string x10], .slice (some ⟨X12, 0, none⟩) 1 1, s40, s41, s42, s43, s44, s45, s46, s47, s48, s49, s50, s51, s52, s53, s54, s55, s56, s57, s58, s59, s60, s61, s62, s63, s64, s65, s66, s67, s68, s69, s70, s71, s72], defers := [] } w := by
  refine wpOp_step (o := { dst := some 40, op := Op.call { callee := Callee.builtin Builtin.append, args := #[Operand.tmp 28, Operand.tmp 39], argTypes := #[23, 23] }, type := 23, pos := "l10_request.go:380", after := #[{ on := 1, ground := Ground.data }, { on := 12, ground := Ground.data }, { on := 10, ground := Ground.chain }], guard := none }) rfl (fun K hK => ?_)
  replace hK := hid hK
  have hO := ho1 rfl
  refine step_append_hpD B _ (by rfl) _ _ 23 (by rfl) Tryz.underlying23 Tryz.infoHpF _ L (x3 ++ x5) x10 (by rfl) hO hBz X12 (hX12 rfl rfl).1 (by rfl) (by omega) ?_
  intro g3 c3 w3 hO3 hg3
  exact hK.out _ _ ⟨true, true, true, true, true, true, true, true, true, true, true, true, true, true, false, false, x3, x5, R9, x10, X12, g3, c3, pp, rfl, rfl, hS.far hg3 (OwnHp.apart hO (by omega)) (fun g hg => by have := (World.ownsRow.lt hO _ hg).1; omega), hp, grown_own hg hg3 (fun g hg => (World.ownsRow.lt hO _ hg).1) (by omega), row_grown hbox hg3 (OwnHp.neRow hO hbox (by decide)), row_grown hR hg3 (OwnHp.neRow hO hR (by decide)), Nat.le_trans hBz hg3.size, hst, fun h => Bool.noConfusion h, fun _ => hO3, hLn, hex, hx3, hx5, hR9, hx10, fun h e => Bool.noConfusion e⟩
set_option maxRecDepth 20000 in
set_option maxHeartbeats 1000000 in
theorem rq5_s14 {Q : Exit → Act → World → Prop} (W0 w0 : World) (c : Nat) (a : Option Addr) (len cap p XR XB B : Nat) (zr : Array Value) (y0 y1 y3 y4 : Value) (aL : Option Addr) (cL : Nat) (L : List Hp) (kk : Nat) (s1 s5 s6 s7 s8 s9 s10 s11 s12 s13 s14 s15 s16 s17 s18 s19 s20 s21 s22 s23 s24 s25 s26 s27 s28 s29 s30 s31 s32 s33 s34 s35 s36 s37 s38 s39 s40 s41 s42 s43 s44 s45 s46 s47 s48 s49 s50 s51 s52 s53 s54 s55 s56 s57 s58 s59 s60 s61 s62 s63 s64 s65 s66 s67 s68 s69 s70 s71 s72 : Value) (x3 : ByteArray) (x5 : ByteArray) (R9 : Nat) (x10 : ByteArray) (X12 : Nat) (G : Nat) (CP : Nat) (pp : Nat) (w : World) (hS : Src W0 w c a len cap pp) (hp : pp ≤ p + 40 * (1 + 1 + 1)) (hg : w0.grownBy w (some c)) (hbox : RowAt w XB 25 (cond false #[y0, y1, .slice (some ⟨G, 0, none⟩) (L.length + 1) CP, y3, y4] #[y0, y1, .slice aL L.length cL, y3, y4])) (hR : RowAt w XR 25 zr) (hBz : B ≤ w.heap.size) (hst : c < XB ∧ c < B ∧ w0.heap.size ≤ B ∧ XR ≠ XB ∧ w0.heap.size ≤ XB ∧ W0.heap.size ≤ c ∧ p ≤ 900000 ∧ c ≠ XR) (ho1 : true = false → OwnHp w B (.slice aL L.length cL) L) (ho2 : true = true → OwnHp w B (.slice (some ⟨G, 0, none⟩) (L.length + 1) CP) (L ++ [(⟨(x3 ++ x5), x10⟩ : Hp)])) (hLn : L.length ≤ 1000) (hex : kk < 50) (hx3 : true = true → x3.size ≤ 6) (hx5 : true = true → x5.size ≤ 2) (hR9 : true = true → R9 < 6) (hx10 : true = true → x10.size ≤ 6) (hX12 : true = true → true = false → RowAt w X12 54 #[.string (x3 ++ x5), .string x10] ∧ B ≤ X12) :
    wpOp Tryz.prog rq5O Q 14 (rq5I W0 w0 c a len cap p XR XB B zr y0 y1 y3 y4 aL cL L kk s1 s5 s6 s7 s8 s9 s10 s11 s12 s13 s14 s15 s16 s17 s18 s19 s20 s21 s22 s23 s24 s25 s26 s27 s28 s29 s30 s31 s32 s33 s34 s35 s36 s37 s38 s39 s40 s41 s42 s43 s44 s45 s46 s47 s48 s49 s50 s51 s52 s53 s54 s55 s56 s57 s58 s59 s60 s61 s62 s63 s64 s65 s66 s67 s68 s69 s70 s71 s72 #[true, true, true, true, true, true, true, true, true, true, true, true, true, true, true, false]) { tmps := #[.pointer (some ⟨c, 0, none⟩), s1, .pointer (some ⟨XR, 0, none⟩), .pointer (some ⟨XB, 0, none⟩), .int .i64 (kk : Int), s5, s6, s7, s8, s9, s10, s11, s12, s13, s14, s15, s16, s17, s18, s19, s20, s21, s22, s23, s24, s25, s26, .pointer (some ⟨XB, 2, none⟩), .slice aL L.length cL, .pointer (some ⟨c, 0, none⟩), .string x3, .int .i64 (kk : Int), .string x5, .string (x3 ++ x5), .pointer (some ⟨c, 0, none⟩), .pointer (some ⟨c, 0, none⟩), .int .i64 (R9 : Int), .string x10, .agg #[.string (x3 ++ x5), .string x10], .slice (some ⟨X12, 0, none⟩) 1 1, .slice (some ⟨G, 0, none⟩) (L.length + 1) CP, s41, s42, s43, s44, s45, s46, s47, s48, s49, s50, s51, s52, s53, s54, s55, s56, s57, s58, s59, s60, s61, s62, s63, s64, s65, s66, s67, s68, s69, s70, s71, s72], defers := [] } w := by
  refine wpOp_step (o := { dst := some 41, op := Op.fieldAddr 25 (Operand.tmp 3) 2, type := 0, pos := "l10_request.go:380", after := #[{ on := 0, ground := Ground.phase }, { on := 1, ground := Ground.phase }, { on := 2, ground := Ground.phase }, { on := 3, ground := Ground.phase }, { on := 4, ground := Ground.phase }, { on := 5, ground := Ground.phase }, { on := 6, ground := Ground.phase }, { on := 7, ground := Ground.phase }, { on := 8, ground := Ground.phase }, { on := 9, ground := Ground.phase }, { on := 10, ground := Ground.phase }, { on := 11, ground := Ground.phase }, { on := 12, ground := Ground.phase }, { on := 13, ground := Ground.phase }], guard := none }) rfl (fun K hK => ?_)
  replace hK := hid hK
  go_simp
  exact hK.out _ _ ⟨true, true, true, true, true, true, true, true, true, true, true, true, true, true, true, false, x3, x5, R9, x10, X12, G, CP, pp, rfl, rfl, hS, hp, hg, hbox, hR, hBz, hst, ho1, ho2, hLn, hex, hx3, hx5, hR9, hx10, hX12⟩
set_option maxRecDepth 20000 in
set_option maxHeartbeats 1000000 in
theorem rq5_s15 {Q : Exit → Act → World → Prop} (W0 w0 : World) (c : Nat) (a : Option Addr) (len cap p XR XB B : Nat) (zr : Array Value) (y0 y1 y3 y4 : Value) (aL : Option Addr) (cL : Nat) (L : List Hp) (kk : Nat) (s1 s5 s6 s7 s8 s9 s10 s11 s12 s13 s14 s15 s16 s17 s18 s19 s20 s21 s22 s23 s24 s25 s26 s27 s28 s29 s30 s31 s32 s33 s34 s35 s36 s37 s38 s39 s40 s41 s42 s43 s44 s45 s46 s47 s48 s49 s50 s51 s52 s53 s54 s55 s56 s57 s58 s59 s60 s61 s62 s63 s64 s65 s66 s67 s68 s69 s70 s71 s72 : Value) (x3 : ByteArray) (x5 : ByteArray) (R9 : Nat) (x10 : ByteArray) (X12 : Nat) (G : Nat) (CP : Nat) (pp : Nat) (w : World) (hS : Src W0 w c a len cap pp) (hp : pp ≤ p + 40 * (1 + 1 + 1)) (hg : w0.grownBy w (some c)) (hbox : RowAt w XB 25 (cond false #[y0, y1, .slice (some ⟨G, 0, none⟩) (L.length + 1) CP, y3, y4] #[y0, y1, .slice aL L.length cL, y3, y4])) (hR : RowAt w XR 25 zr) (hBz : B ≤ w.heap.size) (hst : c < XB ∧ c < B ∧ w0.heap.size ≤ B ∧ XR ≠ XB ∧ w0.heap.size ≤ XB ∧ W0.heap.size ≤ c ∧ p ≤ 900000 ∧ c ≠ XR) (ho1 : true = false → OwnHp w B (.slice aL L.length cL) L) (ho2 : true = true → OwnHp w B (.slice (some ⟨G, 0, none⟩) (L.length + 1) CP) (L ++ [(⟨(x3 ++ x5), x10⟩ : Hp)])) (hLn : L.length ≤ 1000) (hex : kk < 50) (hx3 : true = true → x3.size ≤ 6) (hx5 : true = true → x5.size ≤ 2) (hR9 : true = true → R9 < 6) (hx10 : true = true → x10.size ≤ 6) (hX12 : true = true → true = false → RowAt w X12 54 #[.string (x3 ++ x5), .string x10] ∧ B ≤ X12) :
    wpOp Tryz.prog rq5O Q 15 (rq5I W0 w0 c a len cap p XR XB B zr y0 y1 y3 y4 aL cL L kk s1 s5 s6 s7 s8 s9 s10 s11 s12 s13 s14 s15 s16 s17 s18 s19 s20 s21 s22 s23 s24 s25 s26 s27 s28 s29 s30 s31 s32 s33 s34 s35 s36 s37 s38 s39 s40 s41 s42 s43 s44 s45 s46 s47 s48 s49 s50 s51 s52 s53 s54 s55 s56 s57 s58 s59 s60 s61 s62 s63 s64 s65 s66 s67 s68 s69 s70 s71 s72 #[true, true, true, true, true, true, true, true, true, true, true, true, true, true, true, true]) { tmps := #[.pointer (some ⟨c, 0, none⟩), s1, .pointer (some ⟨XR, 0, none⟩), .pointer (some ⟨XB, 0, none⟩), .int .i64 (kk : Int), s5, s6, s7, s8, s9, s10, s11, s12, s13, s14, s15, s16, s17, s18, s19, s20, s21, s22, s23, s24, s25, s26, .pointer (some ⟨XB, 2, none⟩), .slice aL L.length cL, .pointer (some ⟨c, 0, none⟩), .string x3, .int .i64 (kk : Int), .string x5, .string (x3 ++ x5), .pointer (some ⟨c, 0, none⟩), .pointer (some ⟨c, 0, none⟩), .int .i64 (R9 : Int), .string x10, .agg #[.string (x3 ++ x5), .string x10], .slice (some ⟨X12, 0, none⟩) 1 1, .slice (some ⟨G, 0, none⟩) (L.length + 1) CP, .pointer (some ⟨XB, 2, none⟩), s42, s43, s44, s45, s46, s47, s48, s49, s50, s51, s52, s53, s54, s55, s56, s57, s58, s59, s60, s61, s62, s63, s64, s65, s66, s67, s68, s69, s70, s71, s72], defers := [] } w := by
  have hbx : RowAt w XB 25 #[y0, y1, .slice aL L.length cL, y3, y4] := hbox
  have q := hbx.cell 2
  have f := hbx.free 2
  refine wpOp_step (o := { dst := none, op := Op.store 23 (Operand.tmp 41) (Operand.tmp 40), type := 0, pos := "l10_request.go:380", after := #[{ on := 14, ground := Ground.data }, { on := 13, ground := Ground.data }, { on := 13, ground := Ground.chain }, { on := 0, ground := Ground.phase }, { on := 1, ground := Ground.phase }, { on := 2, ground := Ground.phase }, { on := 3, ground := Ground.phase }, { on := 4, ground := Ground.phase }, { on := 5, ground := Ground.phase }, { on := 6, ground := Ground.phase }, { on := 7, ground := Ground.phase }, { on := 8, ground := Ground.phase }, { on := 9, ground := Ground.phase }, { on := 10, ground := Ground.phase }, { on := 11, ground := Ground.phase }, { on := 12, ground := Ground.phase }, { on := 13, ground := Ground.phase }], guard := none }) rfl (fun K hK => ?_)
  replace hK := hid hK
  go_simp
  exact hK.out _ _ ⟨true, true, true, true, true, true, true, true, true, true, true, true, true, true, true, true, x3, x5, R9, x10, X12, G, CP, pp, rfl, rfl, hS.set hst.1 2 _, hp, grown_far hg hst.2.2.2.2.1 2 _, hbx.set 2 _, hR.other ⟨XB, 2, none⟩ _ hst.2.2.2.1, by simp; omega, hst, fun h => Bool.noConfusion h, fun h => OwnHp.setCellN (ho2 h) (OwnHp.neRow (ho2 h) hbx (by decide)), hLn, hex, hx3, hx5, hR9, hx10, fun h e => Bool.noConfusion e⟩
set_option maxRecDepth 20000 in
set_option maxHeartbeats 2000000 in
theorem rq5_step {Q : Exit → Act → World → Prop} (W0 w0 : World) (c : Nat) (a : Option Addr) (len cap p XR XB B : Nat) (zr : Array Value) (y0 y1 y3 y4 : Value) (aL : Option Addr) (cL : Nat) (L : List Hp) (kk : Nat) (s1 s5 s6 s7 s8 s9 s10 s11 s12 s13 s14 s15 s16 s17 s18 s19 s20 s21 s22 s23 s24 s25 s26 s27 s28 s29 s30 s31 s32 s33 s34 s35 s36 s37 s38 s39 s40 s41 s42 s43 s44 s45 s46 s47 s48 s49 s50 s51 s52 s53 s54 s55 s56 s57 s58 s59 s60 s61 s62 s63 s64 s65 s66 s67 s68 s69 s70 s71 s72 : Value) (l : Array Bool) (f : Act) (w : World) (hC : Closed rq5O l) (hI : rq5I W0 w0 c a len cap p XR XB B zr y0 y1 y3 y4 aL cL L kk s1 s5 s6 s7 s8 s9 s10 s11 s12 s13 s14 s15 s16 s17 s18 s19 s20 s21 s22 s23 s24 s25 s26 s27 s28 s29 s30 s31 s32 s33 s34 s35 s36 s37 s38 s39 s40 s41 s42 s43 s44 s45 s46 s47 s48 s49 s50 s51 s52 s53 s54 s55 s56 s57 s58 s59 s60 s61 s62 s63 s64 s65 s66 s67 s68 s69 s70 s71 s72 l f w) (i : Nat) (h0 : l.getD i true = false) (o : Oper) (ho : rq5O[i]? = some o) (h1 : ∀ e ∈ o.after, Region.binds .any e = true → l.getD e.on false = true) : wpOp Tryz.prog rq5O Q i (rq5I W0 w0 c a len cap p XR XB B zr y0 y1 y3 y4 aL cL L kk s1 s5 s6 s7 s8 s9 s10 s11 s12 s13 s14 s15 s16 s17 s18 s19 s20 s21 s22 s23 s24 s25 s26 s27 s28 s29 s30 s31 s32 s33 s34 s35 s36 s37 s38 s39 s40 s41 s42 s43 s44 s45 s46 s47 s48 s49 s50 s51 s52 s53 s54 s55 s56 s57 s58 s59 s60 s61 s62 s63 s64 s65 s66 s67 s68 s69 s70 s71 s72 (l.setIfInBounds i true)) f w := by
  obtain ⟨b0, b1, b2, b3, b4, b5, b6, b7, b8, b9, b10, b11, b12, b13, b14, b15, x3, x5, R9, x10, X12, G, CP, pp, rfl, rfl, hS, hp, hg, hbox, hR, hBz, hst, ho1, ho2, hLn, hex, hx3, hx5, hR9, hx10, hX12⟩ := hI
  have hi : i < 16 := by
    rcases Nat.lt_or_ge i 16 with h | h
    · exact h
    · rw [show rq5O[i]? = none from Array.getElem?_eq_none h] at ho; cases ho
  rcases (by omega : i = 0 ∨ i = 1 ∨ i = 2 ∨ i = 3 ∨ i = 4 ∨ i = 5 ∨ i = 6 ∨ i = 7 ∨ i = 8 ∨ i = 9 ∨ i = 10 ∨ i = 11 ∨ i = 12 ∨ i = 13 ∨ i = 14 ∨ i = 15) with rfl | rfl | rfl | rfl | rfl | rfl | rfl | rfl | rfl | rfl | rfl | rfl | rfl | rfl | rfl | rfl
  · obtain rfl : rq5o0 = o := Option.some.inj ho
    obtain rfl : b0 = false := h0
    obtain rfl : b1 = false := by
      cases b1 with
      | false => rfl
      | true => exact Bool.noConfusion (show false = true from hC 1 rq5o1 rfl rfl ⟨0, .data⟩ (by simp [rq5o1]) rfl)
    obtain rfl : b13 = false := by
      cases b13 with
      | false => rfl
      | true => exact Bool.noConfusion (show false = true from hC 13 rq5o13 rfl rfl ⟨1, .data⟩ (by simp [rq5o13]) rfl)
    obtain rfl : b14 = false := by
      cases b14 with
      | false => rfl
      | true => exact Bool.noConfusion (show false = true from hC 14 rq5o14 rfl rfl ⟨0, .phase⟩ (by simp [rq5o14]) rfl)
    obtain rfl : b15 = false := by
      cases b15 with
      | false => rfl
      | true => exact Bool.noConfusion (show false = true from hC 15 rq5o15 rfl rfl ⟨0, .phase⟩ (by simp [rq5o15]) rfl)
    exact rq5_s0 W0 w0 c a len cap p XR XB B zr y0 y1 y3 y4 aL cL L kk s1 s5 s6 s7 s8 s9 s10 s11 s12 s13 s14 s15 s16 s17 s18 s19 s20 s21 s22 s23 s24 s25 s26 s27 s28 s29 s30 s31 s32 s33 s34 s35 s36 s37 s38 s39 s40 s41 s42 s43 s44 s45 s46 s47 s48 s49 s50 s51 s52 s53 s54 s55 s56 s57 s58 s59 s60 s61 s62 s63 s64 s65 s66 s67 s68 s69 s70 s71 s72 b2 b3 b4 b5 b6 b7 b8 b9 b10 b11 b12 x3 x5 R9 x10 X12 G CP pp w hS hp hg hbox hR hBz hst ho1 ho2 hLn hex hx3 hx5 hR9 hx10 hX12
  · obtain rfl : rq5o1 = o := Option.some.inj ho
    obtain rfl : b1 = false := h0
    obtain rfl : b0 = true := h1 ⟨0, .data⟩ (by simp [rq5o1]) rfl
    obtain rfl : b13 = false := by
      cases b13 with
      | false => rfl
      | true => exact Bool.noConfusion (show false = true from hC 13 rq5o13 rfl rfl ⟨1, .data⟩ (by simp [rq5o13]) rfl)
    obtain rfl : b14 = false := by
      cases b14 with
      | false => rfl
      | true => exact Bool.noConfusion (show false = true from hC 14 rq5o14 rfl rfl ⟨1, .phase⟩ (by simp [rq5o14]) rfl)
    obtain rfl : b15 = false := by
      cases b15 with
      | false => rfl
      | true => exact Bool.noConfusion (show false = true from hC 15 rq5o15 rfl rfl ⟨1, .phase⟩ (by simp [rq5o15]) rfl)
    exact rq5_s1 W0 w0 c a len cap p XR XB B zr y0 y1 y3 y4 aL cL L kk s1 s5 s6 s7 s8 s9 s10 s11 s12 s13 s14 s15 s16 s17 s18 s19 s20 s21 s22 s23 s24 s25 s26 s27 s28 s29 s30 s31 s32 s33 s34 s35 s36 s37 s38 s39 s40 s41 s42 s43 s44 s45 s46 s47 s48 s49 s50 s51 s52 s53 s54 s55 s56 s57 s58 s59 s60 s61 s62 s63 s64 s65 s66 s67 s68 s69 s70 s71 s72 b2 b3 b4 b5 b6 b7 b8 b9 b10 b11 b12 x3 x5 R9 x10 X12 G CP pp w hS hp hg hbox hR hBz hst ho1 ho2 hLn hex hx3 hx5 hR9 hx10 hX12
  · obtain rfl : rq5o2 = o := Option.some.inj ho
    obtain rfl : b2 = false := h0
    obtain rfl : b3 = false := by
      cases b3 with
      | false => rfl
      | true => exact Bool.noConfusion (show false = true from hC 3 rq5o3 rfl rfl ⟨2, .data⟩ (by simp [rq5o3]) rfl)
    obtain rfl : b5 = false := by
      cases b5 with
      | false => rfl
      | true => exact Bool.noConfusion (show false = true from hC 5 rq5o5 rfl rfl ⟨3, .chain⟩ (by simp [rq5o5]) rfl)
    obtain rfl : b6 = false := by
      cases b6 with
      | false => rfl
      | true => exact Bool.noConfusion (show false = true from hC 6 rq5o6 rfl rfl ⟨3, .data⟩ (by simp [rq5o6]) rfl)
    obtain rfl : b9 = false := by
      cases b9 with
      | false => rfl
      | true => exact Bool.noConfusion (show false = true from hC 9 rq5o9 rfl rfl ⟨5, .chain⟩ (by simp [rq5o9]) rfl)
    obtain rfl : b10 = false := by
      cases b10 with
      | false => rfl
      | true => exact Bool.noConfusion (show false = true from hC 10 rq5o10 rfl rfl ⟨9, .chain⟩ (by simp [rq5o10]) rfl)
    obtain rfl : b11 = false := by
      cases b11 with
      | false => rfl
      | true => exact Bool.noConfusion (show false = true from hC 11 rq5o11 rfl rfl ⟨6, .data⟩ (by simp [rq5o11]) rfl)
    obtain rfl : b12 = false := by
      cases b12 with
      | false => rfl
      | true => exact Bool.noConfusion (show false = true from hC 12 rq5o12 rfl rfl ⟨11, .data⟩ (by simp [rq5o12]) rfl)
    obtain rfl : b13 = false := by
      cases b13 with
      | false => rfl
      | true => exact Bool.noConfusion (show false = true from hC 13 rq5o13 rfl rfl ⟨10, .chain⟩ (by simp [rq5o13]) rfl)
    obtain rfl : b14 = false := by
      cases b14 with
      | false => rfl
      | true => exact Bool.noConfusion (show false = true from hC 14 rq5o14 rfl rfl ⟨2, .phase⟩ (by simp [rq5o14]) rfl)
    obtain rfl : b15 = false := by
      cases b15 with
      | false => rfl
      | true => exact Bool.noConfusion (show false = true from hC 15 rq5o15 rfl rfl ⟨2, .phase⟩ (by simp [rq5o15]) rfl)
    exact rq5_s2 W0 w0 c a len cap p XR XB B zr y0 y1 y3 y4 aL cL L kk s1 s5 s6 s7 s8 s9 s10 s11 s12 s13 s14 s15 s16 s17 s18 s19 s20 s21 s22 s23 s24 s25 s26 s27 s28 s29 s30 s31 s32 s33 s34 s35 s36 s37 s38 s39 s40 s41 s42 s43 s44 s45 s46 s47 s48 s49 s50 s51 s52 s53 s54 s55 s56 s57 s58 s59 s60 s61 s62 s63 s64 s65 s66 s67 s68 s69 s70 s71 s72 b0 b1 b4 b7 b8 x3 x5 R9 x10 X12 G CP pp w hS hp hg hbox hR hBz hst ho1 ho2 hLn hex hx3 hx5 hR9 hx10 hX12
  · obtain rfl : rq5o3 = o := Option.some.inj ho
    obtain rfl : b3 = false := h0
    obtain rfl : b2 = true := h1 ⟨2, .data⟩ (by simp [rq5o3]) rfl
    obtain rfl : b5 = false := by
      cases b5 with
      | false => rfl
      | true => exact Bool.noConfusion (show false = true from hC 5 rq5o5 rfl rfl ⟨3, .chain⟩ (by simp [rq5o5]) rfl)
    obtain rfl : b6 = false := by
      cases b6 with
      | false => rfl
      | true => exact Bool.noConfusion (show false = true from hC 6 rq5o6 rfl rfl ⟨3, .data⟩ (by simp [rq5o6]) rfl)
    obtain rfl : b9 = false := by
      cases b9 with
      | false => rfl
      | true => exact Bool.noConfusion (show false = true from hC 9 rq5o9 rfl rfl ⟨5, .chain⟩ (by simp [rq5o9]) rfl)
    obtain rfl : b10 = false := by
      cases b10 with
      | false => rfl
      | true => exact Bool.noConfusion (show false = true from hC 10 rq5o10 rfl rfl ⟨9, .chain⟩ (by simp [rq5o10]) rfl)
    obtain rfl : b11 = false := by
      cases b11 with
      | false => rfl
      | true => exact Bool.noConfusion (show false = true from hC 11 rq5o11 rfl rfl ⟨6, .data⟩ (by simp [rq5o11]) rfl)
    obtain rfl : b12 = false := by
      cases b12 with
      | false => rfl
      | true => exact Bool.noConfusion (show false = true from hC 12 rq5o12 rfl rfl ⟨11, .data⟩ (by simp [rq5o12]) rfl)
    obtain rfl : b13 = false := by
      cases b13 with
      | false => rfl
      | true => exact Bool.noConfusion (show false = true from hC 13 rq5o13 rfl rfl ⟨10, .chain⟩ (by simp [rq5o13]) rfl)
    obtain rfl : b14 = false := by
      cases b14 with
      | false => rfl
      | true => exact Bool.noConfusion (show false = true from hC 14 rq5o14 rfl rfl ⟨3, .phase⟩ (by simp [rq5o14]) rfl)
    obtain rfl : b15 = false := by
      cases b15 with
      | false => rfl
      | true => exact Bool.noConfusion (show false = true from hC 15 rq5o15 rfl rfl ⟨3, .phase⟩ (by simp [rq5o15]) rfl)
    exact rq5_s3 W0 w0 c a len cap p XR XB B zr y0 y1 y3 y4 aL cL L kk s1 s5 s6 s7 s8 s9 s10 s11 s12 s13 s14 s15 s16 s17 s18 s19 s20 s21 s22 s23 s24 s25 s26 s27 s28 s29 s30 s31 s32 s33 s34 s35 s36 s37 s38 s39 s40 s41 s42 s43 s44 s45 s46 s47 s48 s49 s50 s51 s52 s53 s54 s55 s56 s57 s58 s59 s60 s61 s62 s63 s64 s65 s66 s67 s68 s69 s70 s71 s72 b0 b1 b4 b7 b8 x3 x5 R9 x10 X12 G CP pp w hS hp hg hbox hR hBz hst ho1 ho2 hLn hex hx3 hx5 hR9 hx10 hX12
  · obtain rfl : rq5o4 = o := Option.some.inj ho
    obtain rfl : b4 = false := h0
    obtain rfl : b5 = false := by
      cases b5 with
      | false => rfl
      | true => exact Bool.noConfusion (show false = true from hC 5 rq5o5 rfl rfl ⟨4, .data⟩ (by simp [rq5o5]) rfl)
    obtain rfl : b6 = false := by
      cases b6 with
      | false => rfl
      | true => exact Bool.noConfusion (show false = true from hC 6 rq5o6 rfl rfl ⟨5, .data⟩ (by simp [rq5o6]) rfl)
    obtain rfl : b9 = false := by
      cases b9 with
      | false => rfl
      | true => exact Bool.noConfusion (show false = true from hC 9 rq5o9 rfl rfl ⟨5, .chain⟩ (by simp [rq5o9]) rfl)
    obtain rfl : b10 = false := by
      cases b10 with
      | false => rfl
      | true => exact Bool.noConfusion (show false = true from hC 10 rq5o10 rfl rfl ⟨9, .chain⟩ (by simp [rq5o10]) rfl)
    obtain rfl : b11 = false := by
      cases b11 with
      | false => rfl
      | true => exact Bool.noConfusion (show false = true from hC 11 rq5o11 rfl rfl ⟨6, .data⟩ (by simp [rq5o11]) rfl)
    obtain rfl : b12 = false := by
      cases b12 with
      | false => rfl
      | true => exact Bool.noConfusion (show false = true from hC 12 rq5o12 rfl rfl ⟨11, .data⟩ (by simp [rq5o12]) rfl)
    obtain rfl : b13 = false := by
      cases b13 with
      | false => rfl
      | true => exact Bool.noConfusion (show false = true from hC 13 rq5o13 rfl rfl ⟨10, .chain⟩ (by simp [rq5o13]) rfl)
    obtain rfl : b14 = false := by
      cases b14 with
      | false => rfl
      | true => exact Bool.noConfusion (show false = true from hC 14 rq5o14 rfl rfl ⟨4, .phase⟩ (by simp [rq5o14]) rfl)
    obtain rfl : b15 = false := by
      cases b15 with
      | false => rfl
      | true => exact Bool.noConfusion (show false = true from hC 15 rq5o15 rfl rfl ⟨4, .phase⟩ (by simp [rq5o15]) rfl)
    exact rq5_s4 W0 w0 c a len cap p XR XB B zr y0 y1 y3 y4 aL cL L kk s1 s5 s6 s7 s8 s9 s10 s11 s12 s13 s14 s15 s16 s17 s18 s19 s20 s21 s22 s23 s24 s25 s26 s27 s28 s29 s30 s31 s32 s33 s34 s35 s36 s37 s38 s39 s40 s41 s42 s43 s44 s45 s46 s47 s48 s49 s50 s51 s52 s53 s54 s55 s56 s57 s58 s59 s60 s61 s62 s63 s64 s65 s66 s67 s68 s69 s70 s71 s72 b0 b1 b2 b3 b7 b8 x3 x5 R9 x10 X12 G CP pp w hS hp hg hbox hR hBz hst ho1 ho2 hLn hex hx3 hx5 hR9 hx10 hX12
  · obtain rfl : rq5o5 = o := Option.some.inj ho
    obtain rfl : b5 = false := h0
    obtain rfl : b4 = true := h1 ⟨4, .data⟩ (by simp [rq5o5]) rfl
    obtain rfl : b3 = true := h1 ⟨3, .chain⟩ (by simp [rq5o5]) rfl
    obtain rfl : b2 = true := hC 3 rq5o3 rfl rfl ⟨2, .data⟩ (by simp [rq5o3]) rfl
    obtain rfl : b6 = false := by
      cases b6 with
      | false => rfl
      | true => exact Bool.noConfusion (show false = true from hC 6 rq5o6 rfl rfl ⟨5, .data⟩ (by simp [rq5o6]) rfl)
    obtain rfl : b9 = false := by
      cases b9 with
      | false => rfl
      | true => exact Bool.noConfusion (show false = true from hC 9 rq5o9 rfl rfl ⟨5, .chain⟩ (by simp [rq5o9]) rfl)
    obtain rfl : b10 = false := by
      cases b10 with
      | false => rfl
      | true => exact Bool.noConfusion (show false = true from hC 10 rq5o10 rfl rfl ⟨9, .chain⟩ (by simp [rq5o10]) rfl)
    obtain rfl : b11 = false := by
      cases b11 with
      | false => rfl
      | true => exact Bool.noConfusion (show false = true from hC 11 rq5o11 rfl rfl ⟨6, .data⟩ (by simp [rq5o11]) rfl)
    obtain rfl : b12 = false := by
      cases b12 with
      | false => rfl
      | true => exact Bool.noConfusion (show false = true from hC 12 rq5o12 rfl rfl ⟨11, .data⟩ (by simp [rq5o12]) rfl)
    obtain rfl : b13 = false := by
      cases b13 with
      | false => rfl
      | true => exact Bool.noConfusion (show false = true from hC 13 rq5o13 rfl rfl ⟨10, .chain⟩ (by simp [rq5o13]) rfl)
    obtain rfl : b14 = false := by
      cases b14 with
      | false => rfl
      | true => exact Bool.noConfusion (show false = true from hC 14 rq5o14 rfl rfl ⟨5, .phase⟩ (by simp [rq5o14]) rfl)
    obtain rfl : b15 = false := by
      cases b15 with
      | false => rfl
      | true => exact Bool.noConfusion (show false = true from hC 15 rq5o15 rfl rfl ⟨5, .phase⟩ (by simp [rq5o15]) rfl)
    exact rq5_s5 W0 w0 c a len cap p XR XB B zr y0 y1 y3 y4 aL cL L kk s1 s5 s6 s7 s8 s9 s10 s11 s12 s13 s14 s15 s16 s17 s18 s19 s20 s21 s22 s23 s24 s25 s26 s27 s28 s29 s30 s31 s32 s33 s34 s35 s36 s37 s38 s39 s40 s41 s42 s43 s44 s45 s46 s47 s48 s49 s50 s51 s52 s53 s54 s55 s56 s57 s58 s59 s60 s61 s62 s63 s64 s65 s66 s67 s68 s69 s70 s71 s72 b0 b1 b7 b8 x3 x5 R9 x10 X12 G CP pp w hS hp hg hbox hR hBz hst ho1 ho2 hLn hex hx3 hx5 hR9 hx10 hX12
  · obtain rfl : rq5o6 = o := Option.some.inj ho
    obtain rfl : b6 = false := h0
    obtain rfl : b5 = true := h1 ⟨5, .data⟩ (by simp [rq5o6]) rfl
    obtain rfl : b3 = true := h1 ⟨3, .data⟩ (by simp [rq5o6]) rfl
    obtain rfl : b4 = true := hC 5 rq5o5 rfl rfl ⟨4, .data⟩ (by simp [rq5o5]) rfl
    obtain rfl : b2 = true := hC 3 rq5o3 rfl rfl ⟨2, .data⟩ (by simp [rq5o3]) rfl
    obtain rfl : b11 = false := by
      cases b11 with
      | false => rfl
      | true => exact Bool.noConfusion (show false = true from hC 11 rq5o11 rfl rfl ⟨6, .data⟩ (by simp [rq5o11]) rfl)
    obtain rfl : b12 = false := by
      cases b12 with
      | false => rfl
      | true => exact Bool.noConfusion (show false = true from hC 12 rq5o12 rfl rfl ⟨11, .data⟩ (by simp [rq5o12]) rfl)
    obtain rfl : b13 = false := by
      cases b13 with
      | false => rfl
      | true => exact Bool.noConfusion (show false = true from hC 13 rq5o13 rfl rfl ⟨12, .data⟩ (by simp [rq5o13]) rfl)
    obtain rfl : b14 = false := by
      cases b14 with
      | false => rfl
      | true => exact Bool.noConfusion (show false = true from hC 14 rq5o14 rfl rfl ⟨6, .phase⟩ (by simp [rq5o14]) rfl)
    obtain rfl : b15 = false := by
      cases b15 with
      | false => rfl
      | true => exact Bool.noConfusion (show false = true from hC 15 rq5o15 rfl rfl ⟨6, .phase⟩ (by simp [rq5o15]) rfl)
    exact rq5_s6 W0 w0 c a len cap p XR XB B zr y0 y1 y3 y4 aL cL L kk s1 s5 s6 s7 s8 s9 s10 s11 s12 s13 s14 s15 s16 s17 s18 s19 s20 s21 s22 s23 s24 s25 s26 s27 s28 s29 s30 s31 s32 s33 s34 s35 s36 s37 s38 s39 s40 s41 s42 s43 s44 s45 s46 s47 s48 s49 s50 s51 s52 s53 s54 s55 s56 s57 s58 s59 s60 s61 s62 s63 s64 s65 s66 s67 s68 s69 s70 s71 s72 b0 b1 b7 b8 b9 b10 x3 x5 R9 x10 X12 G CP pp w hS hp hg hbox hR hBz hst ho1 ho2 hLn hex hx3 hx5 hR9 hx10 hX12
  · obtain rfl : rq5o7 = o := Option.some.inj ho
    obtain rfl : b7 = false := h0
    obtain rfl : b10 = false := by
      cases b10 with
      | false => rfl
      | true => exact Bool.noConfusion (show false = true from hC 10 rq5o10 rfl rfl ⟨7, .data⟩ (by simp [rq5o10]) rfl)
    obtain rfl : b11 = false := by
      cases b11 with
      | false => rfl
      | true => exact Bool.noConfusion (show false = true from hC 11 rq5o11 rfl rfl ⟨10, .data⟩ (by simp [rq5o11]) rfl)
    obtain rfl : b12 = false := by
      cases b12 with
      | false => rfl
      | true => exact Bool.noConfusion (show false = true from hC 12 rq5o12 rfl rfl ⟨11, .data⟩ (by simp [rq5o12]) rfl)
    obtain rfl : b13 = false := by
      cases b13 with
      | false => rfl
      | true => exact Bool.noConfusion (show false = true from hC 13 rq5o13 rfl rfl ⟨10, .chain⟩ (by simp [rq5o13]) rfl)
    obtain rfl : b14 = false := by
      cases b14 with
      | false => rfl
      | true => exact Bool.noConfusion (show false = true from hC 14 rq5o14 rfl rfl ⟨7, .phase⟩ (by simp [rq5o14]) rfl)
    obtain rfl : b15 = false := by
      cases b15 with
      | false => rfl
      | true => exact Bool.noConfusion (show false = true from hC 15 rq5o15 rfl rfl ⟨7, .phase⟩ (by simp [rq5o15]) rfl)
    exact rq5_s7 W0 w0 c a len cap p XR XB B zr y0 y1 y3 y4 aL cL L kk s1 s5 s6 s7 s8 s9 s10 s11 s12 s13 s14 s15 s16 s17 s18 s19 s20 s21 s22 s23 s24 s25 s26 s27 s28 s29 s30 s31 s32 s33 s34 s35 s36 s37 s38 s39 s40 s41 s42 s43 s44 s45 s46 s47 s48 s49 s50 s51 s52 s53 s54 s55 s56 s57 s58 s59 s60 s61 s62 s63 s64 s65 s66 s67 s68 s69 s70 s71 s72 b0 b1 b2 b3 b4 b5 b6 b8 b9 x3 x5 R9 x10 X12 G CP pp w hS hp hg hbox hR hBz hst ho1 ho2 hLn hex hx3 hx5 hR9 hx10 hX12
  · obtain rfl : rq5o8 = o := Option.some.inj ho
    obtain rfl : b8 = false := h0
    obtain rfl : b9 = false := by
      cases b9 with
      | false => rfl
      | true => exact Bool.noConfusion (show false = true from hC 9 rq5o9 rfl rfl ⟨8, .data⟩ (by simp [rq5o9]) rfl)
    obtain rfl : b10 = false := by
      cases b10 with
      | false => rfl
      | true => exact Bool.noConfusion (show false = true from hC 10 rq5o10 rfl rfl ⟨9, .chain⟩ (by simp [rq5o10]) rfl)
    obtain rfl : b11 = false := by
      cases b11 with
      | false => rfl
      | true => exact Bool.noConfusion (show false = true from hC 11 rq5o11 rfl rfl ⟨10, .data⟩ (by simp [rq5o11]) rfl)
    obtain rfl : b12 = false := by
      cases b12 with
      | false => rfl
      | true => exact Bool.noConfusion (show false = true from hC 12 rq5o12 rfl rfl ⟨11, .data⟩ (by simp [rq5o12]) rfl)
    obtain rfl : b13 = false := by
      cases b13 with
      | false => rfl
      | true => exact Bool.noConfusion (show false = true from hC 13 rq5o13 rfl rfl ⟨10, .chain⟩ (by simp [rq5o13]) rfl)
    obtain rfl : b14 = false := by
      cases b14 with
      | false => rfl
      | true => exact Bool.noConfusion (show false = true from hC 14 rq5o14 rfl rfl ⟨8, .phase⟩ (by simp [rq5o14]) rfl)
    obtain rfl : b15 = false := by
      cases b15 with
      | false => rfl
      | true => exact Bool.noConfusion (show false = true from hC 15 rq5o15 rfl rfl ⟨8, .phase⟩ (by simp [rq5o15]) rfl)
    exact rq5_s8 W0 w0 c a len cap p XR XB B zr y0 y1 y3 y4 aL cL L kk s1 s5 s6 s7 s8 s9 s10 s11 s12 s13 s14 s15 s16 s17 s18 s19 s20 s21 s22 s23 s24 s25 s26 s27 s28 s29 s30 s31 s32 s33 s34 s35 s36 s37 s38 s39 s40 s41 s42 s43 s44 s45 s46 s47 s48 s49 s50 s51 s52 s53 s54 s55 s56 s57 s58 s59 s60 s61 s62 s63 s64 s65 s66 s67 s68 s69 s70 s71 s72 b0 b1 b2 b3 b4 b5 b6 b7 x3 x5 R9 x10 X12 G CP pp w hS hp hg hbox hR hBz hst ho1 ho2 hLn hex hx3 hx5 hR9 hx10 hX12
  · obtain rfl : rq5o9 = o := Option.some.inj ho
    obtain rfl : b9 = false := h0
    obtain rfl : b8 = true := h1 ⟨8, .data⟩ (by simp [rq5o9]) rfl
    obtain rfl : b5 = true := h1 ⟨5, .chain⟩ (by simp [rq5o9]) rfl
    obtain rfl : b3 = true := hC 5 rq5o5 rfl rfl ⟨3, .chain⟩ (by simp [rq5o5]) rfl
    obtain rfl : b4 = true := hC 5 rq5o5 rfl rfl ⟨4, .data⟩ (by simp [rq5o5]) rfl
    obtain rfl : b2 = true := hC 3 rq5o3 rfl rfl ⟨2, .data⟩ (by simp [rq5o3]) rfl
    obtain rfl : b10 = false := by
      cases b10 with
      | false => rfl
      | true => exact Bool.noConfusion (show false = true from hC 10 rq5o10 rfl rfl ⟨9, .chain⟩ (by simp [rq5o10]) rfl)
    obtain rfl : b11 = false := by
      cases b11 with
      | false => rfl
      | true => exact Bool.noConfusion (show false = true from hC 11 rq5o11 rfl rfl ⟨10, .data⟩ (by simp [rq5o11]) rfl)
    obtain rfl : b12 = false := by
      cases b12 with
      | false => rfl
      | true => exact Bool.noConfusion (show false = true from hC 12 rq5o12 rfl rfl ⟨11, .data⟩ (by simp [rq5o12]) rfl)
    obtain rfl : b13 = false := by
      cases b13 with
      | false => rfl
      | true => exact Bool.noConfusion (show false = true from hC 13 rq5o13 rfl rfl ⟨10, .chain⟩ (by simp [rq5o13]) rfl)
    obtain rfl : b14 = false := by
      cases b14 with
      | false => rfl
      | true => exact Bool.noConfusion (show false = true from hC 14 rq5o14 rfl rfl ⟨9, .phase⟩ (by simp [rq5o14]) rfl)
    obtain rfl : b15 = false := by
      cases b15 with
      | false => rfl
      | true => exact Bool.noConfusion (show false = true from hC 15 rq5o15 rfl rfl ⟨9, .phase⟩ (by simp [rq5o15]) rfl)
    exact rq5_s9 W0 w0 c a len cap p XR XB B zr y0 y1 y3 y4 aL cL L kk s1 s5 s6 s7 s8 s9 s10 s11 s12 s13 s14 s15 s16 s17 s18 s19 s20 s21 s22 s23 s24 s25 s26 s27 s28 s29 s30 s31 s32 s33 s34 s35 s36 s37 s38 s39 s40 s41 s42 s43 s44 s45 s46 s47 s48 s49 s50 s51 s52 s53 s54 s55 s56 s57 s58 s59 s60 s61 s62 s63 s64 s65 s66 s67 s68 s69 s70 s71 s72 b0 b1 b6 b7 x3 x5 R9 x10 X12 G CP pp w hS hp hg hbox hR hBz hst ho1 ho2 hLn hex hx3 hx5 hR9 hx10 hX12
  · obtain rfl : rq5o10 = o := Option.some.inj ho
    obtain rfl : b10 = false := h0
    obtain rfl : b9 = true := h1 ⟨9, .chain⟩ (by simp [rq5o10]) rfl
    obtain rfl : b7 = true := h1 ⟨7, .data⟩ (by simp [rq5o10]) rfl
    obtain rfl : b5 = true := hC 9 rq5o9 rfl rfl ⟨5, .chain⟩ (by simp [rq5o9]) rfl
    obtain rfl : b8 = true := hC 9 rq5o9 rfl rfl ⟨8, .data⟩ (by simp [rq5o9]) rfl
    obtain rfl : b3 = true := hC 5 rq5o5 rfl rfl ⟨3, .chain⟩ (by simp [rq5o5]) rfl
    obtain rfl : b4 = true := hC 5 rq5o5 rfl rfl ⟨4, .data⟩ (by simp [rq5o5]) rfl
    obtain rfl : b2 = true := hC 3 rq5o3 rfl rfl ⟨2, .data⟩ (by simp [rq5o3]) rfl
    obtain rfl : b11 = false := by
      cases b11 with
      | false => rfl
      | true => exact Bool.noConfusion (show false = true from hC 11 rq5o11 rfl rfl ⟨10, .data⟩ (by simp [rq5o11]) rfl)
    obtain rfl : b12 = false := by
      cases b12 with
      | false => rfl
      | true => exact Bool.noConfusion (show false = true from hC 12 rq5o12 rfl rfl ⟨11, .data⟩ (by simp [rq5o12]) rfl)
    obtain rfl : b13 = false := by
      cases b13 with
      | false => rfl
      | true => exact Bool.noConfusion (show false = true from hC 13 rq5o13 rfl rfl ⟨10, .chain⟩ (by simp [rq5o13]) rfl)
    obtain rfl : b14 = false := by
      cases b14 with
      | false => rfl
      | true => exact Bool.noConfusion (show false = true from hC 14 rq5o14 rfl rfl ⟨10, .phase⟩ (by simp [rq5o14]) rfl)
    obtain rfl : b15 = false := by
      cases b15 with
      | false => rfl
      | true => exact Bool.noConfusion (show false = true from hC 15 rq5o15 rfl rfl ⟨10, .phase⟩ (by simp [rq5o15]) rfl)
    exact rq5_s10 W0 w0 c a len cap p XR XB B zr y0 y1 y3 y4 aL cL L kk s1 s5 s6 s7 s8 s9 s10 s11 s12 s13 s14 s15 s16 s17 s18 s19 s20 s21 s22 s23 s24 s25 s26 s27 s28 s29 s30 s31 s32 s33 s34 s35 s36 s37 s38 s39 s40 s41 s42 s43 s44 s45 s46 s47 s48 s49 s50 s51 s52 s53 s54 s55 s56 s57 s58 s59 s60 s61 s62 s63 s64 s65 s66 s67 s68 s69 s70 s71 s72 b0 b1 b6 x3 x5 R9 x10 X12 G CP pp w hS hp hg hbox hR hBz hst ho1 ho2 hLn hex hx3 hx5 hR9 hx10 hX12
  · obtain rfl : rq5o11 = o := Option.some.inj ho
    obtain rfl : b11 = false := h0
    obtain rfl : b10 = true := h1 ⟨10, .data⟩ (by simp [rq5o11]) rfl
    obtain rfl : b6 = true := h1 ⟨6, .data⟩ (by simp [rq5o11]) rfl
    obtain rfl : b7 = true := hC 10 rq5o10 rfl rfl ⟨7, .data⟩ (by simp [rq5o10]) rfl
    obtain rfl : b9 = true := hC 10 rq5o10 rfl rfl ⟨9, .chain⟩ (by simp [rq5o10]) rfl
    obtain rfl : b5 = true := hC 9 rq5o9 rfl rfl ⟨5, .chain⟩ (by simp [rq5o9]) rfl
    obtain rfl : b8 = true := hC 9 rq5o9 rfl rfl ⟨8, .data⟩ (by simp [rq5o9]) rfl
    obtain rfl : b3 = true := hC 6 rq5o6 rfl rfl ⟨3, .data⟩ (by simp [rq5o6]) rfl
    obtain rfl : b4 = true := hC 5 rq5o5 rfl rfl ⟨4, .data⟩ (by simp [rq5o5]) rfl
    obtain rfl : b2 = true := hC 3 rq5o3 rfl rfl ⟨2, .data⟩ (by simp [rq5o3]) rfl
    obtain rfl : b12 = false := by
      cases b12 with
      | false => rfl
      | true => exact Bool.noConfusion (show false = true from hC 12 rq5o12 rfl rfl ⟨11, .data⟩ (by simp [rq5o12]) rfl)
    obtain rfl : b13 = false := by
      cases b13 with
      | false => rfl
      | true => exact Bool.noConfusion (show false = true from hC 13 rq5o13 rfl rfl ⟨12, .data⟩ (by simp [rq5o13]) rfl)
    obtain rfl : b14 = false := by
      cases b14 with
      | false => rfl
      | true => exact Bool.noConfusion (show false = true from hC 14 rq5o14 rfl rfl ⟨11, .phase⟩ (by simp [rq5o14]) rfl)
    obtain rfl : b15 = false := by
      cases b15 with
      | false => rfl
      | true => exact Bool.noConfusion (show false = true from hC 15 rq5o15 rfl rfl ⟨11, .phase⟩ (by simp [rq5o15]) rfl)
    exact rq5_s11 W0 w0 c a len cap p XR XB B zr y0 y1 y3 y4 aL cL L kk s1 s5 s6 s7 s8 s9 s10 s11 s12 s13 s14 s15 s16 s17 s18 s19 s20 s21 s22 s23 s24 s25 s26 s27 s28 s29 s30 s31 s32 s33 s34 s35 s36 s37 s38 s39 s40 s41 s42 s43 s44 s45 s46 s47 s48 s49 s50 s51 s52 s53 s54 s55 s56 s57 s58 s59 s60 s61 s62 s63 s64 s65 s66 s67 s68 s69 s70 s71 s72 b0 b1 x3 x5 R9 x10 X12 G CP pp w hS hp hg hbox hR hBz hst ho1 ho2 hLn hex hx3 hx5 hR9 hx10 hX12
  · obtain rfl : rq5o12 = o := Option.some.inj ho
    obtain rfl : b12 = false := h0
    obtain rfl : b11 = true := h1 ⟨11, .data⟩ (by simp [rq5o12]) rfl
    obtain rfl : b6 = true := hC 11 rq5o11 rfl rfl ⟨6, .data⟩ (by simp [rq5o11]) rfl
    obtain rfl : b10 = true := hC 11 rq5o11 rfl rfl ⟨10, .data⟩ (by simp [rq5o11]) rfl
    obtain rfl : b7 = true := hC 10 rq5o10 rfl rfl ⟨7, .data⟩ (by simp [rq5o10]) rfl
    obtain rfl : b9 = true := hC 10 rq5o10 rfl rfl ⟨9, .chain⟩ (by simp [rq5o10]) rfl
    obtain rfl : b5 = true := hC 9 rq5o9 rfl rfl ⟨5, .chain⟩ (by simp [rq5o9]) rfl
    obtain rfl : b8 = true := hC 9 rq5o9 rfl rfl ⟨8, .data⟩ (by simp [rq5o9]) rfl
    obtain rfl : b3 = true := hC 6 rq5o6 rfl rfl ⟨3, .data⟩ (by simp [rq5o6]) rfl
    obtain rfl : b4 = true := hC 5 rq5o5 rfl rfl ⟨4, .data⟩ (by simp [rq5o5]) rfl
    obtain rfl : b2 = true := hC 3 rq5o3 rfl rfl ⟨2, .data⟩ (by simp [rq5o3]) rfl
    obtain rfl : b13 = false := by
      cases b13 with
      | false => rfl
      | true => exact Bool.noConfusion (show false = true from hC 13 rq5o13 rfl rfl ⟨12, .data⟩ (by simp [rq5o13]) rfl)
    obtain rfl : b14 = false := by
      cases b14 with
      | false => rfl
      | true => exact Bool.noConfusion (show false = true from hC 14 rq5o14 rfl rfl ⟨12, .phase⟩ (by simp [rq5o14]) rfl)
    obtain rfl : b15 = false := by
      cases b15 with
      | false => rfl
      | true => exact Bool.noConfusion (show false = true from hC 15 rq5o15 rfl rfl ⟨12, .phase⟩ (by simp [rq5o15]) rfl)
    exact rq5_s12 W0 w0 c a len cap p XR XB B zr y0 y1 y3 y4 aL cL L kk s1 s5 s6 s7 s8 s9 s10 s11 s12 s13 s14 s15 s16 s17 s18 s19 s20 s21 s22 s23 s24 s25 s26 s27 s28 s29 s30 s31 s32 s33 s34 s35 s36 s37 s38 s39 s40 s41 s42 s43 s44 s45 s46 s47 s48 s49 s50 s51 s52 s53 s54 s55 s56 s57 s58 s59 s60 s61 s62 s63 s64 s65 s66 s67 s68 s69 s70 s71 s72 b0 b1 x3 x5 R9 x10 X12 G CP pp w hS hp hg hbox hR hBz hst ho1 ho2 hLn hex hx3 hx5 hR9 hx10 hX12
  · obtain rfl : rq5o13 = o := Option.some.inj ho
    obtain rfl : b13 = false := h0
    obtain rfl : b12 = true := h1 ⟨12, .data⟩ (by simp [rq5o13]) rfl
    obtain rfl : b10 = true := h1 ⟨10, .chain⟩ (by simp [rq5o13]) rfl
    obtain rfl : b1 = true := h1 ⟨1, .data⟩ (by simp [rq5o13]) rfl
    obtain rfl : b11 = true := hC 12 rq5o12 rfl rfl ⟨11, .data⟩ (by simp [rq5o12]) rfl
    obtain rfl : b6 = true := hC 11 rq5o11 rfl rfl ⟨6, .data⟩ (by simp [rq5o11]) rfl
    obtain rfl : b7 = true := hC 10 rq5o10 rfl rfl ⟨7, .data⟩ (by simp [rq5o10]) rfl
    obtain rfl : b9 = true := hC 10 rq5o10 rfl rfl ⟨9, .chain⟩ (by simp [rq5o10]) rfl
    obtain rfl : b5 = true := hC 9 rq5o9 rfl rfl ⟨5, .chain⟩ (by simp [rq5o9]) rfl
    obtain rfl : b8 = true := hC 9 rq5o9 rfl rfl ⟨8, .data⟩ (by simp [rq5o9]) rfl
    obtain rfl : b3 = true := hC 6 rq5o6 rfl rfl ⟨3, .data⟩ (by simp [rq5o6]) rfl
    obtain rfl : b4 = true := hC 5 rq5o5 rfl rfl ⟨4, .data⟩ (by simp [rq5o5]) rfl
    obtain rfl : b2 = true := hC 3 rq5o3 rfl rfl ⟨2, .data⟩ (by simp [rq5o3]) rfl
    obtain rfl : b0 = true := hC 1 rq5o1 rfl rfl ⟨0, .data⟩ (by simp [rq5o1]) rfl
    obtain rfl : b14 = false := by
      cases b14 with
      | false => rfl
      | true => exact Bool.noConfusion (show false = true from hC 14 rq5o14 rfl rfl ⟨13, .phase⟩ (by simp [rq5o14]) rfl)
    obtain rfl : b15 = false := by
      cases b15 with
      | false => rfl
      | true => exact Bool.noConfusion (show false = true from hC 15 rq5o15 rfl rfl ⟨13, .chain⟩ (by simp [rq5o15]) rfl)
    exact rq5_s13 W0 w0 c a len cap p XR XB B zr y0 y1 y3 y4 aL cL L kk s1 s5 s6 s7 s8 s9 s10 s11 s12 s13 s14 s15 s16 s17 s18 s19 s20 s21 s22 s23 s24 s25 s26 s27 s28 s29 s30 s31 s32 s33 s34 s35 s36 s37 s38 s39 s40 s41 s42 s43 s44 s45 s46 s47 s48 s49 s50 s51 s52 s53 s54 s55 s56 s57 s58 s59 s60 s61 s62 s63 s64 s65 s66 s67 s68 s69 s70 s71 s72  x3 x5 R9 x10 X12 G CP pp w hS hp hg hbox hR hBz hst ho1 ho2 hLn hex hx3 hx5 hR9 hx10 hX12
  · obtain rfl : rq5o14 = o := Option.some.inj ho
    obtain rfl : b14 = false := h0
    obtain rfl : b13 = true := h1 ⟨13, .phase⟩ (by simp [rq5o14]) rfl
    obtain rfl : b12 = true := h1 ⟨12, .phase⟩ (by simp [rq5o14]) rfl
    obtain rfl : b11 = true := h1 ⟨11, .phase⟩ (by simp [rq5o14]) rfl
    obtain rfl : b10 = true := h1 ⟨10, .phase⟩ (by simp [rq5o14]) rfl
    obtain rfl : b9 = true := h1 ⟨9, .phase⟩ (by simp [rq5o14]) rfl
    obtain rfl : b8 = true := h1 ⟨8, .phase⟩ (by simp [rq5o14]) rfl
    obtain rfl : b7 = true := h1 ⟨7, .phase⟩ (by simp [rq5o14]) rfl
    obtain rfl : b6 = true := h1 ⟨6, .phase⟩ (by simp [rq5o14]) rfl
    obtain rfl : b5 = true := h1 ⟨5, .phase⟩ (by simp [rq5o14]) rfl
    obtain rfl : b4 = true := h1 ⟨4, .phase⟩ (by simp [rq5o14]) rfl
    obtain rfl : b3 = true := h1 ⟨3, .phase⟩ (by simp [rq5o14]) rfl
    obtain rfl : b2 = true := h1 ⟨2, .phase⟩ (by simp [rq5o14]) rfl
    obtain rfl : b1 = true := h1 ⟨1, .phase⟩ (by simp [rq5o14]) rfl
    obtain rfl : b0 = true := h1 ⟨0, .phase⟩ (by simp [rq5o14]) rfl
    obtain rfl : b15 = false := by
      cases b15 with
      | false => rfl
      | true => exact Bool.noConfusion (show false = true from hC 15 rq5o15 rfl rfl ⟨14, .data⟩ (by simp [rq5o15]) rfl)
    exact rq5_s14 W0 w0 c a len cap p XR XB B zr y0 y1 y3 y4 aL cL L kk s1 s5 s6 s7 s8 s9 s10 s11 s12 s13 s14 s15 s16 s17 s18 s19 s20 s21 s22 s23 s24 s25 s26 s27 s28 s29 s30 s31 s32 s33 s34 s35 s36 s37 s38 s39 s40 s41 s42 s43 s44 s45 s46 s47 s48 s49 s50 s51 s52 s53 s54 s55 s56 s57 s58 s59 s60 s61 s62 s63 s64 s65 s66 s67 s68 s69 s70 s71 s72  x3 x5 R9 x10 X12 G CP pp w hS hp hg hbox hR hBz hst ho1 ho2 hLn hex hx3 hx5 hR9 hx10 hX12
  · obtain rfl : rq5o15 = o := Option.some.inj ho
    obtain rfl : b15 = false := h0
    obtain rfl : b14 = true := h1 ⟨14, .data⟩ (by simp [rq5o15]) rfl
    obtain rfl : b13 = true := h1 ⟨13, .chain⟩ (by simp [rq5o15]) rfl
    obtain rfl : b12 = true := h1 ⟨12, .phase⟩ (by simp [rq5o15]) rfl
    obtain rfl : b11 = true := h1 ⟨11, .phase⟩ (by simp [rq5o15]) rfl
    obtain rfl : b10 = true := h1 ⟨10, .phase⟩ (by simp [rq5o15]) rfl
    obtain rfl : b9 = true := h1 ⟨9, .phase⟩ (by simp [rq5o15]) rfl
    obtain rfl : b8 = true := h1 ⟨8, .phase⟩ (by simp [rq5o15]) rfl
    obtain rfl : b7 = true := h1 ⟨7, .phase⟩ (by simp [rq5o15]) rfl
    obtain rfl : b6 = true := h1 ⟨6, .phase⟩ (by simp [rq5o15]) rfl
    obtain rfl : b5 = true := h1 ⟨5, .phase⟩ (by simp [rq5o15]) rfl
    obtain rfl : b4 = true := h1 ⟨4, .phase⟩ (by simp [rq5o15]) rfl
    obtain rfl : b3 = true := h1 ⟨3, .phase⟩ (by simp [rq5o15]) rfl
    obtain rfl : b2 = true := h1 ⟨2, .phase⟩ (by simp [rq5o15]) rfl
    obtain rfl : b1 = true := h1 ⟨1, .phase⟩ (by simp [rq5o15]) rfl
    obtain rfl : b0 = true := h1 ⟨0, .phase⟩ (by simp [rq5o15]) rfl
    exact rq5_s15 W0 w0 c a len cap p XR XB B zr y0 y1 y3 y4 aL cL L kk s1 s5 s6 s7 s8 s9 s10 s11 s12 s13 s14 s15 s16 s17 s18 s19 s20 s21 s22 s23 s24 s25 s26 s27 s28 s29 s30 s31 s32 s33 s34 s35 s36 s37 s38 s39 s40 s41 s42 s43 s44 s45 s46 s47 s48 s49 s50 s51 s52 s53 s54 s55 s56 s57 s58 s59 s60 s61 s62 s63 s64 s65 s66 s67 s68 s69 s70 s71 s72  x3 x5 R9 x10 X12 G CP pp w hS hp hg hbox hR hBz hst ho1 ho2 hLn hex hx3 hx5 hR9 hx10 hX12
set_option maxRecDepth 20000 in
set_option maxHeartbeats 4000000 in
theorem rq5_wp {Q : Exit → Act → World → Prop} {id : Nat} (W0 w0 : World) (c : Nat) (a : Option Addr) (len cap p XR XB B : Nat) (zr : Array Value) (y0 y1 y3 y4 : Value) (aL : Option Addr) (cL : Nat) (L : List Hp) (kk : Nat) {s1 s5 s6 s7 s8 s9 s10 s11 s12 s13 s14 s15 s16 s17 s18 s19 s20 s21 s22 s23 s24 s25 s26 s27 s28 s29 s30 s31 s32 s33 s34 s35 s36 s37 s38 s39 s40 s41 s42 s43 s44 s45 s46 s47 s48 s49 s50 s51 s52 s53 s54 s55 s56 s57 s58 s59 s60 s61 s62 s63 s64 s65 s66 s67 s68 s69 s70 s71 s72 : Value} (w : World) (hS : Src W0 w c a len cap p) (hg : w0.grownBy w (some c)) (hbox : RowAt w XB 25 #[y0, y1, .slice aL L.length cL, y3, y4]) (hR : RowAt w XR 25 zr) (hBz : B ≤ w.heap.size) (hst : c < XB ∧ c < B ∧ w0.heap.size ≤ B ∧ XR ≠ XB ∧ w0.heap.size ≤ XB ∧ W0.heap.size ≤ c ∧ p ≤ 900000 ∧ c ≠ XR) (ho1 : OwnHp w B (.slice aL L.length cL) L) (hLn : L.length ≤ 1000) (hex : kk < 50)
    (fin : ∀ (x3 : ByteArray) (x5 : ByteArray) (R9 : Nat) (x10 : ByteArray) (X12 : Nat) (G : Nat) (CP : Nat) (pp : Nat) (w' : World), (Src W0 w' c a len cap pp) → (pp ≤ p + 40 * (1 + 1 + 1)) → (w0.grownBy w' (some c)) → (RowAt w' XB 25 #[y0, y1, .slice (some ⟨G, 0, none⟩) (L.length + 1) CP, y3, y4]) → (RowAt w' XR 25 zr) → (B ≤ w'.heap.size) → (c < XB ∧ c < B ∧ w0.heap.size ≤ B ∧ XR ≠ XB ∧ w0.heap.size ≤ XB ∧ W0.heap.size ≤ c ∧ p ≤ 900000 ∧ c ≠ XR) → (OwnHp w' B (.slice (some ⟨G, 0, none⟩) (L.length + 1) CP) (L ++ [(⟨(x3 ++ x5), x10⟩ : Hp)])) → (L.length ≤ 1000) → (kk < 50) → (x3.size ≤ 6) → (x5.size ≤ 2) → (R9 < 6) → (x10.size ≤ 6) → Q .normal { tmps := #[.pointer (some ⟨c, 0, none⟩), s1, .pointer (some ⟨XR, 0, none⟩), .pointer (some ⟨XB, 0, none⟩), .int .i64 (kk : Int), s5, s6, s7, s8, s9, s10, s11, s12, s13, s14, s15, s16, s17, s18, s19, s20, s21, s22, s23, s24, s25, s26, .pointer (some ⟨XB, 2, none⟩), .slice aL L.length cL, .pointer (some ⟨c, 0, none⟩), .string x3, .int .i64 (kk : Int), .string x5, .string (x3 ++ x5), .pointer (some ⟨c, 0, none⟩), .pointer (some ⟨c, 0, none⟩), .int .i64 (R9 : Int), .string x10, .agg #[.string (x3 ++ x5), .string x10], .slice (some ⟨X12, 0, none⟩) 1 1, .slice (some ⟨G, 0, none⟩) (L.length + 1) CP, .pointer (some ⟨XB, 2, none⟩), s42, s43, s44, s45, s46, s47, s48, s49, s50, s51, s52, s53, s54, s55, s56, s57, s58, s59, s60, s61, s62, s63, s64, s65, s66, s67, s68, s69, s70, s71, s72], defers := [] } w') :
    (Code.region id rq5O true).wp Tryz.prog Q { tmps := #[.pointer (some ⟨c, 0, none⟩), s1, .pointer (some ⟨XR, 0, none⟩), .pointer (some ⟨XB, 0, none⟩), .int .i64 (kk : Int), s5, s6, s7, s8, s9, s10, s11, s12, s13, s14, s15, s16, s17, s18, s19, s20, s21, s22, s23, s24, s25, s26, s27, s28, s29, s30, s31, s32, s33, s34, s35, s36, s37, s38, s39, s40, s41, s42, s43, s44, s45, s46, s47, s48, s49, s50, s51, s52, s53, s54, s55, s56, s57, s58, s59, s60, s61, s62, s63, s64, s65, s66, s67, s68, s69, s70, s71, s72], defers := [] } w := by
  refine wp_region_inv (ops := rq5O) (rq5I W0 w0 c a len cap p XR XB B zr y0 y1 y3 y4 aL cL L kk s1 s5 s6 s7 s8 s9 s10 s11 s12 s13 s14 s15 s16 s17 s18 s19 s20 s21 s22 s23 s24 s25 s26 s27 s28 s29 s30 s31 s32 s33 s34 s35 s36 s37 s38 s39 s40 s41 s42 s43 s44 s45 s46 s47 s48 s49 s50 s51 s52 s53 s54 s55 s56 s57 s58 s59 s60 s61 s62 s63 s64 s65 s66 s67 s68 s69 s70 s71 s72) (by kernel_rfl) (by kernel_rfl) (fun l f v hI => ?_) (fun l f v hC hI i h0 o ho h1 => rq5_step W0 w0 c a len cap p XR XB B zr y0 y1 y3 y4 aL cL L kk s1 s5 s6 s7 s8 s9 s10 s11 s12 s13 s14 s15 s16 s17 s18 s19 s20 s21 s22 s23 s24 s25 s26 s27 s28 s29 s30 s31 s32 s33 s34 s35 s36 s37 s38 s39 s40 s41 s42 s43 s44 s45 s46 s47 s48 s49 s50 s51 s52 s53 s54 s55 s56 s57 s58 s59 s60 s61 s62 s63 s64 s65 s66 s67 s68 s69 s70 s71 s72 l f v hC hI i h0 o ho h1) (fun l f v hI hall => ?_) ?_
  · obtain ⟨_, _, _, _, _, _, _, _, _, _, _, _, _, _, _, _, _, _, _, _, _, _, _, _, rfl, _⟩ := hI; rfl
  · obtain ⟨b0, b1, b2, b3, b4, b5, b6, b7, b8, b9, b10, b11, b12, b13, b14, b15, x3, x5, R9, x10, X12, G, CP, pp, rfl, rfl, hS, hp, hg, hbox, hR, hBz, hst, ho1, ho2, hLn, hex, hx3, hx5, hR9, hx10, hX12⟩ := hI
    obtain rfl : b0 = true := hall 0 (by simp)
    obtain rfl : b1 = true := hall 1 (by simp)
    obtain rfl : b2 = true := hall 2 (by simp)
    obtain rfl : b3 = true := hall 3 (by simp)
    obtain rfl : b4 = true := hall 4 (by simp)
    obtain rfl : b5 = true := hall 5 (by simp)
    obtain rfl : b6 = true := hall 6 (by simp)
    obtain rfl : b7 = true := hall 7 (by simp)
    obtain rfl : b8 = true := hall 8 (by simp)
    obtain rfl : b9 = true := hall 9 (by simp)
    obtain rfl : b10 = true := hall 10 (by simp)
    obtain rfl : b11 = true := hall 11 (by simp)
    obtain rfl : b12 = true := hall 12 (by simp)
    obtain rfl : b13 = true := hall 13 (by simp)
    obtain rfl : b14 = true := hall 14 (by simp)
    obtain rfl : b15 = true := hall 15 (by simp)
    exact fin x3 x5 R9 x10 X12 G CP pp v hS hp hg hbox hR hBz hst (ho2 rfl) hLn hex (hx3 rfl) (hx5 rfl) (hR9 rfl) (hx10 rfl)
  · exact ⟨false, false, false, false, false, false, false, false, false, false, false, false, false, false, false, false, ⟨#[]⟩, ⟨#[]⟩, 0, ⟨#[]⟩, 0, 0, 0, p, rfl, rfl, hS.drew, by omega, grown_trans hg (grown_drewS _ _), hbox.drew, hR.drew, hBz, hst, fun _ => World.ownsRow.drew ho1, fun h => Bool.noConfusion h, hLn, hex, fun h => Bool.noConfusion h, fun h => Bool.noConfusion h, fun h => Bool.noConfusion h, fun h => Bool.noConfusion h, fun h => Bool.noConfusion h⟩
end Go.Proofs.YtgoplcjjoiiagaaGreatDoor
