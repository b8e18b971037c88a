import Derived.Test.YtcfahbcpfjhajaaGreatDoorSgKit
import Derived.Test.YtcfahbcpfjhajaaGreatDoorC1
import Derived.OwnWalk
namespace Go.Proofs.YtcfahbcpfjhajaaGreatDoor
open Go.RowKit
set_option linter.unusedVariables false
/-! The program's clonePairs (by genclone.py). -/
theorem make_hps {P : Program} (base : Nat) (w : World) {ops : Array Oper} {rest : List Oper} {o : Oper} {a : Act} {Q : Exit → Act → World → Prop}
    (hg : o.guard = none) (l c : Operand) (t : TypeId) (hop : o.op = Op.makeSlice t l c)
    (ht : P.underlying t = some (.slice 66)) (hinfo : (P.info? 66).map (fun i => (i.zero, i.size, i.bytes)) = some (some hz2, 2, 32))
    (kl kc : IntKind) (C : Int) (n : Nat) (hl : a.eval l = .int kl 0) (hc : a.eval c = .int kc C) (hC : C = (n : Int)) (hn : n ≤ 1048576) (hb : base ≤ w.heap.size)
    (hK : ∀ w', OwnHp w' base (.slice (some ⟨w.heap.size, 0, none⟩) 0 n) [] → w.grownBy w' none → wpList P ops Q rest (a.put o.dst (.slice (some ⟨w.heap.size, 0, none⟩) 0 n)) w') :
    wpList P ops Q (o :: rest) a w := by
  obtain ⟨i0, hi, hz0, hz1, hz2⟩ := info_parts hinfo
  refine wpList_make_own w hg l c t hop base 66 i0 _ 2 ht hi hz0 hz1 kl kc C n hl hc hC ?_ (by unfold maxLen; omega) hb ?_
  · rw [hz2]; omega
  · intro w' h1 h2
    exact hK w' h1 h2
def clpo0 : Oper := { dst := some 15, op := Op.move (Operand.tmp 3), type := 23, pos := "l10_request.go:374", after := #[], guard := none }
def clpo1 : Oper := { dst := some 16, op := Op.fieldAddr 66 (Operand.tmp 5) 0, type := 0, pos := "l10_request.go:374", after := #[], guard := none }
def clpo2 : Oper := { dst := some 17, op := Op.load 9 (Operand.tmp 16), type := 9, pos := "l10_request.go:374", after := #[{ on := 1, ground := Ground.data }], guard := none }
def clpo3 : Oper := { dst := some 18, op := Op.call { callee := Callee.value (Operand.func 57), args := #[Operand.tmp 17], argTypes := #[9] }, type := 9, pos := "l10_request.go:374", after := #[{ on := 2, ground := Ground.data }], guard := none }
def clpo4 : Oper := { dst := some 19, op := Op.fieldAddr 66 (Operand.tmp 5) 1, type := 0, pos := "l10_request.go:374", after := #[], guard := none }
def clpo5 : Oper := { dst := some 20, op := Op.load 9 (Operand.tmp 19), type := 9, pos := "l10_request.go:374", after := #[{ on := 4, ground := Ground.data }], guard := none }
def clpo6 : Oper := { dst := some 21, op := Op.call { callee := Callee.value (Operand.func 57), args := #[Operand.tmp 20], argTypes := #[9] }, type := 9, pos := "l10_request.go:374", after := #[{ on := 5, ground := Ground.data }, { on := 3, ground := Ground.chain }], guard := none }
def clpo7 : Oper := { dst := some 22, op := Op.build 66 #[(0, Operand.tmp 18), (1, Operand.tmp 21)], type := 66, pos := "l10_request.go:374", after := #[{ on := 3, ground := Ground.data }, { on := 6, ground := Ground.data }], guard := none }
def clpo8 : Oper := { dst := some 23, op := Op.buildSlice 23 1 #[(0, Operand.tmp 22)], type := 23, pos := "l10_request.go:374", after := #[{ on := 7, ground := Ground.data }], guard := none }
def clpo9 : Oper := { dst := some 24, op := Op.call { callee := Callee.builtin Builtin.append, args := #[Operand.tmp 15, Operand.tmp 23], argTypes := #[23, 23] }, type := 23, pos := "l10_request.go:374", after := #[{ on := 0, ground := Ground.data }, { on := 8, ground := Ground.data }, { on := 6, ground := Ground.chain }], guard := none }
def clpo10 : Oper := { dst := some 3, op := Op.assign (Operand.tmp 24), type := 23, pos := "l10_request.go:374", after := #[{ on := 9, ground := Ground.data }, { on := 9, ground := Ground.chain }, { on := 0, ground := Ground.phase }, { on := 1, ground := Ground.phase }, { on := 2, ground := Ground.phase }, { on := 3, ground := Ground.phase }, { on := 4, ground := Ground.phase }, { on := 5, ground := Ground.phase }, { on := 6, ground := Ground.phase }, { on := 7, ground := Ground.phase }, { on := 8, ground := Ground.phase }, { on := 9, ground := Ground.phase }], guard := none }
def clpO : Array Oper := #[clpo0, clpo1, clpo2, clpo3, clpo4, clpo5, clpo6, clpo7, clpo8, clpo9, clpo10]
def clpI (w0 : World) (B XP : Nat) (nm vl : ByteArray) (aL : Option Addr) (cL : Nat) (L : List Hp) (s0 s1 s2 s4 s6 s7 s8 s9 s10 s11 s12 s13 s14 s15 s16 s17 s18 s19 s20 s21 s22 s23 s24 s25 s26 : Value) (l : Array Bool) (f : Act) (w : World) : Prop :=
  ∃ (b0 b1 b2 b3 b4 b5 b6 b7 b8 b9 b10 : Bool) (XS : Nat) (G : Nat) (CP : Nat), l = #[b0, b1, b2, b3, b4, b5, b6, b7, b8, b9, b10] ∧ f = { tmps := #[s0, s1, s2, selS b10 (.slice (some ⟨G, 0, none⟩) (L.length + 1) CP) (.slice aL L.length cL), s4, .pointer (some ⟨XP, 0, none⟩), s6, s7, s8, s9, s10, s11, s12, s13, s14, selS b0 (.slice aL L.length cL) (s15), selS b1 (.pointer (some ⟨XP, 0, none⟩)) (s16), selS b2 (.string nm) (s17), selS b3 (.string nm) (s18), selS b4 (.pointer (some ⟨XP, 1, none⟩)) (s19), selS b5 (.string vl) (s20), selS b6 (.string vl) (s21), selS b7 (.agg #[.string nm, .string vl]) (s22), selS b8 (.slice (some ⟨XS, 0, none⟩) 1 1) (s23), selS b9 (.slice (some ⟨G, 0, none⟩) (L.length + 1) CP) (s24), s25, s26], defers := [] } ∧ (Below w0.heap.size w0 w) ∧ (b9 = false → RowAt w XP 66 #[.string nm, .string vl]) ∧ (b9 = false → OwnHp w B (.slice aL L.length cL) L) ∧ (b9 = true → OwnHp w B (.slice (some ⟨G, 0, none⟩) (L.length + 1) CP) (L ++ [(⟨nm, vl⟩ : Hp)])) ∧ (b8 = true → b9 = false → RowAt w XS 66 (hpL [(⟨nm, vl⟩ : Hp)]).toArray) ∧ (B ≤ w.heap.size) ∧ (L.length ≤ 1000000) ∧ (w0.heap.size ≤ B) ∧ (∀ wx, Calls Tryz.prog 57 #[.string nm] wx fun e w' => e = .returned (.string nm) ∧ Below wx.heap.size wx w') ∧ (∀ wx, Calls Tryz.prog 57 #[.string vl] wx fun e w' => e = .returned (.string vl) ∧ Below wx.heap.size wx w')
set_option maxRecDepth 20000 in
set_option maxHeartbeats 1000000 in
theorem clp_s0 {Q : Exit → Act → World → Prop} (w0 : World) (B XP : Nat) (nm vl : ByteArray) (aL : Option Addr) (cL : Nat) (L : List Hp) (s0 s1 s2 s4 s6 s7 s8 s9 s10 s11 s12 s13 s14 s15 s16 s17 s18 s19 s20 s21 s22 s23 s24 s25 s26 : Value) (b1 b2 b3 b4 b5 b6 b7 b8 : Bool) (XS : Nat) (G : Nat) (CP : Nat) (w : World) (hB : Below w0.heap.size w0 w) (hxp : false = false → RowAt w XP 66 #[.string nm, .string vl]) (ho1 : false = false → OwnHp w B (.slice aL L.length cL) L) (ho2 : false = true → OwnHp w B (.slice (some ⟨G, 0, none⟩) (L.length + 1) CP) (L ++ [(⟨nm, vl⟩ : Hp)])) (hXS : b8 = true → false = false → RowAt w XS 66 (hpL [(⟨nm, vl⟩ : Hp)]).toArray) (hBz : B ≤ w.heap.size) (hLn : L.length ≤ 1000000) (hst : w0.heap.size ≤ B) (hkn : ∀ wx, Calls Tryz.prog 57 #[.string nm] wx fun e w' => e = .returned (.string nm) ∧ Below wx.heap.size wx w') (hkv : ∀ wx, Calls Tryz.prog 57 #[.string vl] wx fun e w' => e = .returned (.string vl) ∧ Below wx.heap.size wx w') :
    wpOp Tryz.prog clpO Q 0 (clpI w0 B XP nm vl aL cL L s0 s1 s2 s4 s6 s7 s8 s9 s10 s11 s12 s13 s14 s15 s16 s17 s18 s19 s20 s21 s22 s23 s24 s25 s26 #[true, b1, b2, b3, b4, b5, b6, b7, b8, false, false]) { tmps := #[s0, s1, s2, .slice aL L.length cL, s4, .pointer (some ⟨XP, 0, none⟩), s6, s7, s8, s9, s10, s11, s12, s13, s14, s15, selS b1 (.pointer (some ⟨XP, 0, none⟩)) (s16), selS b2 (.string nm) (s17), selS b3 (.string nm) (s18), selS b4 (.pointer (some ⟨XP, 1, none⟩)) (s19), selS b5 (.string vl) (s20), selS b6 (.string vl) (s21), selS b7 (.agg #[.string nm, .string vl]) (s22), selS b8 (.slice (some ⟨XS, 0, none⟩) 1 1) (s23), s24, s25, s26], defers := [] } w := by
  refine wpOp_step (o := { dst := some 15, op := Op.move (Operand.tmp 3), type := 23, pos := "l10_request.go:374", after := #[], guard := none }) rfl (fun K hK => ?_)
  replace hK := hid hK
  go_simp
  exact hK.out _ _ ⟨true, b1, b2, b3, b4, b5, b6, b7, b8, false, false, XS, G, CP, rfl, rfl, hB, hxp, ho1, ho2, hXS, hBz, hLn, hst, hkn, hkv⟩
set_option maxRecDepth 20000 in
set_option maxHeartbeats 1000000 in
theorem clp_s1 {Q : Exit → Act → World → Prop} (w0 : World) (B XP : Nat) (nm vl : ByteArray) (aL : Option Addr) (cL : Nat) (L : List Hp) (s0 s1 s2 s4 s6 s7 s8 s9 s10 s11 s12 s13 s14 s15 s16 s17 s18 s19 s20 s21 s22 s23 s24 s25 s26 : Value) (b0 b4 b5 : Bool) (XS : Nat) (G : Nat) (CP : Nat) (w : World) (hB : Below w0.heap.size w0 w) (hxp : false = false → RowAt w XP 66 #[.string nm, .string vl]) (ho1 : false = false → OwnHp w B (.slice aL L.length cL) L) (ho2 : false = true → OwnHp w B (.slice (some ⟨G, 0, none⟩) (L.length + 1) CP) (L ++ [(⟨nm, vl⟩ : Hp)])) (hXS : false = true → false = false → RowAt w XS 66 (hpL [(⟨nm, vl⟩ : Hp)]).toArray) (hBz : B ≤ w.heap.size) (hLn : L.length ≤ 1000000) (hst : w0.heap.size ≤ B) (hkn : ∀ wx, Calls Tryz.prog 57 #[.string nm] wx fun e w' => e = .returned (.string nm) ∧ Below wx.heap.size wx w') (hkv : ∀ wx, Calls Tryz.prog 57 #[.string vl] wx fun e w' => e = .returned (.string vl) ∧ Below wx.heap.size wx w') :
    wpOp Tryz.prog clpO Q 1 (clpI w0 B XP nm vl aL cL L s0 s1 s2 s4 s6 s7 s8 s9 s10 s11 s12 s13 s14 s15 s16 s17 s18 s19 s20 s21 s22 s23 s24 s25 s26 #[b0, true, false, false, b4, b5, false, false, false, false, false]) { tmps := #[s0, s1, s2, .slice aL L.length cL, s4, .pointer (some ⟨XP, 0, none⟩), s6, s7, s8, s9, s10, s11, s12, s13, s14, selS b0 (.slice aL L.length cL) (s15), s16, s17, s18, selS b4 (.pointer (some ⟨XP, 1, none⟩)) (s19), selS b5 (.string vl) (s20), s21, s22, s23, s24, s25, s26], defers := [] } w := by
  refine wpOp_step (o := { dst := some 16, op := Op.fieldAddr 66 (Operand.tmp 5) 0, type := 0, pos := "l10_request.go:374", after := #[], guard := none }) rfl (fun K hK => ?_)
  replace hK := hid hK
  go_simp
  exact hK.out _ _ ⟨b0, true, false, false, b4, b5, false, false, false, false, false, XS, G, CP, rfl, rfl, hB, hxp, ho1, ho2, hXS, hBz, hLn, hst, hkn, hkv⟩
set_option maxRecDepth 20000 in
set_option maxHeartbeats 1000000 in
theorem clp_s2 {Q : Exit → Act → World → Prop} (w0 : World) (B XP : Nat) (nm vl : ByteArray) (aL : Option Addr) (cL : Nat) (L : List Hp) (s0 s1 s2 s4 s6 s7 s8 s9 s10 s11 s12 s13 s14 s15 s16 s17 s18 s19 s20 s21 s22 s23 s24 s25 s26 : Value) (b0 b4 b5 : Bool) (XS : Nat) (G : Nat) (CP : Nat) (w : World) (hB : Below w0.heap.size w0 w) (hxp : false = false → RowAt w XP 66 #[.string nm, .string vl]) (ho1 : false = false → OwnHp w B (.slice aL L.length cL) L) (ho2 : false = true → OwnHp w B (.slice (some ⟨G, 0, none⟩) (L.length + 1) CP) (L ++ [(⟨nm, vl⟩ : Hp)])) (hXS : false = true → false = false → RowAt w XS 66 (hpL [(⟨nm, vl⟩ : Hp)]).toArray) (hBz : B ≤ w.heap.size) (hLn : L.length ≤ 1000000) (hst : w0.heap.size ≤ B) (hkn : ∀ wx, Calls Tryz.prog 57 #[.string nm] wx fun e w' => e = .returned (.string nm) ∧ Below wx.heap.size wx w') (hkv : ∀ wx, Calls Tryz.prog 57 #[.string vl] wx fun e w' => e = .returned (.string vl) ∧ Below wx.heap.size wx w') :
    wpOp Tryz.prog clpO Q 2 (clpI w0 B XP nm vl aL cL L s0 s1 s2 s4 s6 s7 s8 s9 s10 s11 s12 s13 s14 s15 s16 s17 s18 s19 s20 s21 s22 s23 s24 s25 s26 #[b0, true, true, false, b4, b5, false, false, false, false, false]) { tmps := #[s0, s1, s2, .slice aL L.length cL, s4, .pointer (some ⟨XP, 0, none⟩), s6, s7, s8, s9, s10, s11, s12, s13, s14, selS b0 (.slice aL L.length cL) (s15), .pointer (some ⟨XP, 0, none⟩), s17, s18, selS b4 (.pointer (some ⟨XP, 1, none⟩)) (s19), selS b5 (.string vl) (s20), s21, s22, s23, s24, s25, s26], defers := [] } w := by
  have q0 := (hxp rfl).cell 0
  have q1 := (hxp rfl).cell 1
  refine wpOp_step (o := { dst := some 17, op := Op.load 9 (Operand.tmp 16), type := 9, pos := "l10_request.go:374", after := #[{ on := 1, ground := Ground.data }], guard := none }) rfl (fun K hK => ?_)
  replace hK := hid hK
  go_simp
  exact hK.out _ _ ⟨b0, true, true, false, b4, b5, false, false, false, false, false, XS, G, CP, rfl, rfl, hB, hxp, ho1, ho2, hXS, hBz, hLn, hst, hkn, hkv⟩
set_option maxRecDepth 20000 in
set_option maxHeartbeats 1000000 in
theorem clp_s3 {Q : Exit → Act → World → Prop} (w0 : World) (B XP : Nat) (nm vl : ByteArray) (aL : Option Addr) (cL : Nat) (L : List Hp) (s0 s1 s2 s4 s6 s7 s8 s9 s10 s11 s12 s13 s14 s15 s16 s17 s18 s19 s20 s21 s22 s23 s24 s25 s26 : Value) (b0 b4 b5 : Bool) (XS : Nat) (G : Nat) (CP : Nat) (w : World) (hB : Below w0.heap.size w0 w) (hxp : false = false → RowAt w XP 66 #[.string nm, .string vl]) (ho1 : false = false → OwnHp w B (.slice aL L.length cL) L) (ho2 : false = true → OwnHp w B (.slice (some ⟨G, 0, none⟩) (L.length + 1) CP) (L ++ [(⟨nm, vl⟩ : Hp)])) (hXS : false = true → false = false → RowAt w XS 66 (hpL [(⟨nm, vl⟩ : Hp)]).toArray) (hBz : B ≤ w.heap.size) (hLn : L.length ≤ 1000000) (hst : w0.heap.size ≤ B) (hkn : ∀ wx, Calls Tryz.prog 57 #[.string nm] wx fun e w' => e = .returned (.string nm) ∧ Below wx.heap.size wx w') (hkv : ∀ wx, Calls Tryz.prog 57 #[.string vl] wx fun e w' => e = .returned (.string vl) ∧ Below wx.heap.size wx w') :
    wpOp Tryz.prog clpO Q 3 (clpI w0 B XP nm vl aL cL L s0 s1 s2 s4 s6 s7 s8 s9 s10 s11 s12 s13 s14 s15 s16 s17 s18 s19 s20 s21 s22 s23 s24 s25 s26 #[b0, true, true, true, b4, b5, false, false, false, false, false]) { tmps := #[s0, s1, s2, .slice aL L.length cL, s4, .pointer (some ⟨XP, 0, none⟩), s6, s7, s8, s9, s10, s11, s12, s13, s14, selS b0 (.slice aL L.length cL) (s15), .pointer (some ⟨XP, 0, none⟩), .string nm, s18, selS b4 (.pointer (some ⟨XP, 1, none⟩)) (s19), selS b5 (.string vl) (s20), s21, s22, s23, s24, s25, s26], defers := [] } w := by
  refine wpOp_step (o := { dst := some 18, op := Op.call { callee := Callee.value (Operand.func 57), args := #[Operand.tmp 17], argTypes := #[9] }, type := 9, pos := "l10_request.go:374", after := #[{ on := 2, ground := Ground.data }], guard := none }) rfl (fun K hK => ?_)
  replace hK := hid hK
  go_simp
  refine (hkn _).mono ?_
  rintro e w2 ⟨rfl, hb2⟩
  dsimp only
  exact hK.out _ _ ⟨b0, true, true, true, b4, b5, false, false, false, false, false, XS, G, CP, rfl, rfl, hB.trans (hb2.mono hB.size), fun h => RowAt.nxS hb2 (hxp h), fun h => OwnHp.next hb2 (ho1 h), fun h => Bool.noConfusion h, fun h => Bool.noConfusion h, Nat.le_trans hBz hb2.size, hLn, hst, hkn, hkv⟩
set_option maxRecDepth 20000 in
set_option maxHeartbeats 1000000 in
theorem clp_s4 {Q : Exit → Act → World → Prop} (w0 : World) (B XP : Nat) (nm vl : ByteArray) (aL : Option Addr) (cL : Nat) (L : List Hp) (s0 s1 s2 s4 s6 s7 s8 s9 s10 s11 s12 s13 s14 s15 s16 s17 s18 s19 s20 s21 s22 s23 s24 s25 s26 : Value) (b0 b1 b2 b3 : Bool) (XS : Nat) (G : Nat) (CP : Nat) (w : World) (hB : Below w0.heap.size w0 w) (hxp : false = false → RowAt w XP 66 #[.string nm, .string vl]) (ho1 : false = false → OwnHp w B (.slice aL L.length cL) L) (ho2 : false = true → OwnHp w B (.slice (some ⟨G, 0, none⟩) (L.length + 1) CP) (L ++ [(⟨nm, vl⟩ : Hp)])) (hXS : false = true → false = false → RowAt w XS 66 (hpL [(⟨nm, vl⟩ : Hp)]).toArray) (hBz : B ≤ w.heap.size) (hLn : L.length ≤ 1000000) (hst : w0.heap.size ≤ B) (hkn : ∀ wx, Calls Tryz.prog 57 #[.string nm] wx fun e w' => e = .returned (.string nm) ∧ Below wx.heap.size wx w') (hkv : ∀ wx, Calls Tryz.prog 57 #[.string vl] wx fun e w' => e = .returned (.string vl) ∧ Below wx.heap.size wx w') :
    wpOp Tryz.prog clpO Q 4 (clpI w0 B XP nm vl aL cL L s0 s1 s2 s4 s6 s7 s8 s9 s10 s11 s12 s13 s14 s15 s16 s17 s18 s19 s20 s21 s22 s23 s24 s25 s26 #[b0, b1, b2, b3, true, false, false, false, false, false, false]) { tmps := #[s0, s1, s2, .slice aL L.length cL, s4, .pointer (some ⟨XP, 0, none⟩), s6, s7, s8, s9, s10, s11, s12, s13, s14, selS b0 (.slice aL L.length cL) (s15), selS b1 (.pointer (some ⟨XP, 0, none⟩)) (s16), selS b2 (.string nm) (s17), selS b3 (.string nm) (s18), s19, s20, s21, s22, s23, s24, s25, s26], defers := [] } w := by
  refine wpOp_step (o := { dst := some 19, op := Op.fieldAddr 66 (Operand.tmp 5) 1, type := 0, pos := "l10_request.go:374", after := #[], guard := none }) rfl (fun K hK => ?_)
  replace hK := hid hK
  go_simp
  exact hK.out _ _ ⟨b0, b1, b2, b3, true, false, false, false, false, false, false, XS, G, CP, rfl, rfl, hB, hxp, ho1, ho2, hXS, hBz, hLn, hst, hkn, hkv⟩
set_option maxRecDepth 20000 in
set_option maxHeartbeats 1000000 in
theorem clp_s5 {Q : Exit → Act → World → Prop} (w0 : World) (B XP : Nat) (nm vl : ByteArray) (aL : Option Addr) (cL : Nat) (L : List Hp) (s0 s1 s2 s4 s6 s7 s8 s9 s10 s11 s12 s13 s14 s15 s16 s17 s18 s19 s20 s21 s22 s23 s24 s25 s26 : Value) (b0 b1 b2 b3 : Bool) (XS : Nat) (G : Nat) (CP : Nat) (w : World) (hB : Below w0.heap.size w0 w) (hxp : false = false → RowAt w XP 66 #[.string nm, .string vl]) (ho1 : false = false → OwnHp w B (.slice aL L.length cL) L) (ho2 : false = true → OwnHp w B (.slice (some ⟨G, 0, none⟩) (L.length + 1) CP) (L ++ [(⟨nm, vl⟩ : Hp)])) (hXS : false = true → false = false → RowAt w XS 66 (hpL [(⟨nm, vl⟩ : Hp)]).toArray) (hBz : B ≤ w.heap.size) (hLn : L.length ≤ 1000000) (hst : w0.heap.size ≤ B) (hkn : ∀ wx, Calls Tryz.prog 57 #[.string nm] wx fun e w' => e = .returned (.string nm) ∧ Below wx.heap.size wx w') (hkv : ∀ wx, Calls Tryz.prog 57 #[.string vl] wx fun e w' => e = .returned (.string vl) ∧ Below wx.heap.size wx w') :
    wpOp Tryz.prog clpO Q 5 (clpI w0 B XP nm vl aL cL L s0 s1 s2 s4 s6 s7 s8 s9 s10 s11 s12 s13 s14 s15 s16 s17 s18 s19 s20 s21 s22 s23 s24 s25 s26 #[b0, b1, b2, b3, true, true, false, false, false, false, false]) { tmps := #[s0, s1, s2, .slice aL L.length cL, s4, .pointer (some ⟨XP, 0, none⟩), s6, s7, s8, s9, s10, s11, s12, s13, s14, selS b0 (.slice aL L.length cL) (s15), selS b1 (.pointer (some ⟨XP, 0, none⟩)) (s16), selS b2 (.string nm) (s17), selS b3 (.string nm) (s18), .pointer (some ⟨XP, 1, none⟩), s20, s21, s22, s23, s24, s25, s26], defers := [] } w := by
  have q0 := (hxp rfl).cell 0
  have q1 := (hxp rfl).cell 1
  refine wpOp_step (o := { dst := some 20, op := Op.load 9 (Operand.tmp 19), type := 9, pos := "l10_request.go:374", after := #[{ on := 4, ground := Ground.data }], guard := none }) rfl (fun K hK => ?_)
  replace hK := hid hK
  go_simp
  exact hK.out _ _ ⟨b0, b1, b2, b3, true, true, false, false, false, false, false, XS, G, CP, rfl, rfl, hB, hxp, ho1, ho2, hXS, hBz, hLn, hst, hkn, hkv⟩
set_option maxRecDepth 20000 in
set_option maxHeartbeats 1000000 in
theorem clp_s6 {Q : Exit → Act → World → Prop} (w0 : World) (B XP : Nat) (nm vl : ByteArray) (aL : Option Addr) (cL : Nat) (L : List Hp) (s0 s1 s2 s4 s6 s7 s8 s9 s10 s11 s12 s13 s14 s15 s16 s17 s18 s19 s20 s21 s22 s23 s24 s25 s26 : Value) (b0 : Bool) (XS : Nat) (G : Nat) (CP : Nat) (w : World) (hB : Below w0.heap.size w0 w) (hxp : false = false → RowAt w XP 66 #[.string nm, .string vl]) (ho1 : false = false → OwnHp w B (.slice aL L.length cL) L) (ho2 : false = true → OwnHp w B (.slice (some ⟨G, 0, none⟩) (L.length + 1) CP) (L ++ [(⟨nm, vl⟩ : Hp)])) (hXS : false = true → false = false → RowAt w XS 66 (hpL [(⟨nm, vl⟩ : Hp)]).toArray) (hBz : B ≤ w.heap.size) (hLn : L.length ≤ 1000000) (hst : w0.heap.size ≤ B) (hkn : ∀ wx, Calls Tryz.prog 57 #[.string nm] wx fun e w' => e = .returned (.string nm) ∧ Below wx.heap.size wx w') (hkv : ∀ wx, Calls Tryz.prog 57 #[.string vl] wx fun e w' => e = .returned (.string vl) ∧ Below wx.heap.size wx w') :
    wpOp Tryz.prog clpO Q 6 (clpI w0 B XP nm vl aL cL L s0 s1 s2 s4 s6 s7 s8 s9 s10 s11 s12 s13 s14 s15 s16 s17 s18 s19 s20 s21 s22 s23 s24 s25 s26 #[b0, true, true, true, true, true, true, false, false, false, false]) { tmps := #[s0, s1, s2, .slice aL L.length cL, s4, .pointer (some ⟨XP, 0, none⟩), s6, s7, s8, s9, s10, s11, s12, s13, s14, selS b0 (.slice aL L.length cL) (s15), .pointer (some ⟨XP, 0, none⟩), .string nm, .string nm, .pointer (some ⟨XP, 1, none⟩), .string vl, s21, s22, s23, s24, s25, s26], defers := [] } w := by
  refine wpOp_step (o := { dst := some 21, op := Op.call { callee := Callee.value (Operand.func 57), args := #[Operand.tmp 20], argTypes := #[9] }, type := 9, pos := "l10_request.go:374", after := #[{ on := 5, ground := Ground.data }, { on := 3, ground := Ground.chain }], guard := none }) rfl (fun K hK => ?_)
  replace hK := hid hK
  go_simp
  refine (hkv _).mono ?_
  rintro e w2 ⟨rfl, hb2⟩
  dsimp only
  exact hK.out _ _ ⟨b0, true, true, true, true, true, true, false, false, false, false, XS, G, CP, rfl, rfl, hB.trans (hb2.mono hB.size), fun h => RowAt.nxS hb2 (hxp h), fun h => OwnHp.next hb2 (ho1 h), fun h => Bool.noConfusion h, fun h => Bool.noConfusion h, Nat.le_trans hBz hb2.size, hLn, hst, hkn, hkv⟩
set_option maxRecDepth 20000 in
set_option maxHeartbeats 1000000 in
theorem clp_s7 {Q : Exit → Act → World → Prop} (w0 : World) (B XP : Nat) (nm vl : ByteArray) (aL : Option Addr) (cL : Nat) (L : List Hp) (s0 s1 s2 s4 s6 s7 s8 s9 s10 s11 s12 s13 s14 s15 s16 s17 s18 s19 s20 s21 s22 s23 s24 s25 s26 : Value) (b0 : Bool) (XS : Nat) (G : Nat) (CP : Nat) (w : World) (hB : Below w0.heap.size w0 w) (hxp : false = false → RowAt w XP 66 #[.string nm, .string vl]) (ho1 : false = false → OwnHp w B (.slice aL L.length cL) L) (ho2 : false = true → OwnHp w B (.slice (some ⟨G, 0, none⟩) (L.length + 1) CP) (L ++ [(⟨nm, vl⟩ : Hp)])) (hXS : false = true → false = false → RowAt w XS 66 (hpL [(⟨nm, vl⟩ : Hp)]).toArray) (hBz : B ≤ w.heap.size) (hLn : L.length ≤ 1000000) (hst : w0.heap.size ≤ B) (hkn : ∀ wx, Calls Tryz.prog 57 #[.string nm] wx fun e w' => e = .returned (.string nm) ∧ Below wx.heap.size wx w') (hkv : ∀ wx, Calls Tryz.prog 57 #[.string vl] wx fun e w' => e = .returned (.string vl) ∧ Below wx.heap.size wx w') :
    wpOp Tryz.prog clpO Q 7 (clpI w0 B XP nm vl aL cL L s0 s1 s2 s4 s6 s7 s8 s9 s10 s11 s12 s13 s14 s15 s16 s17 s18 s19 s20 s21 s22 s23 s24 s25 s26 #[b0, true, true, true, true, true, true, true, false, false, false]) { tmps := #[s0, s1, s2, .slice aL L.length cL, s4, .pointer (some ⟨XP, 0, none⟩), s6, s7, s8, s9, s10, s11, s12, s13, s14, selS b0 (.slice aL L.length cL) (s15), .pointer (some ⟨XP, 0, none⟩), .string nm, .string nm, .pointer (some ⟨XP, 1, none⟩), .string vl, .string vl, s22, s23, s24, s25, s26], defers := [] } w := by
  refine wpOp_step (o := { dst := some 22, op := Op.build 66 #[(0, Operand.tmp 18), (1, Operand.tmp 21)], type := 66, pos := "l10_request.go:374", after := #[{ on := 3, ground := Ground.data }, { on := 6, ground := Ground.data }], guard := none }) rfl (fun K hK => ?_)
  replace hK := hid hK
  go_simp
  exact hK.out _ _ ⟨b0, true, true, true, true, true, true, true, false, false, false, XS, G, CP, rfl, rfl, hB, hxp, ho1, ho2, hXS, hBz, hLn, hst, hkn, hkv⟩
set_option maxRecDepth 20000 in
set_option maxHeartbeats 1000000 in
theorem clp_s8 {Q : Exit → Act → World → Prop} (w0 : World) (B XP : Nat) (nm vl : ByteArray) (aL : Option Addr) (cL : Nat) (L : List Hp) (s0 s1 s2 s4 s6 s7 s8 s9 s10 s11 s12 s13 s14 s15 s16 s17 s18 s19 s20 s21 s22 s23 s24 s25 s26 : Value) (b0 : Bool) (XS : Nat) (G : Nat) (CP : Nat) (w : World) (hB : Below w0.heap.size w0 w) (hxp : false = false → RowAt w XP 66 #[.string nm, .string vl]) (ho1 : false = false → OwnHp w B (.slice aL L.length cL) L) (ho2 : false = true → OwnHp w B (.slice (some ⟨G, 0, none⟩) (L.length + 1) CP) (L ++ [(⟨nm, vl⟩ : Hp)])) (hXS : false = true → false = false → RowAt w XS 66 (hpL [(⟨nm, vl⟩ : Hp)]).toArray) (hBz : B ≤ w.heap.size) (hLn : L.length ≤ 1000000) (hst : w0.heap.size ≤ B) (hkn : ∀ wx, Calls Tryz.prog 57 #[.string nm] wx fun e w' => e = .returned (.string nm) ∧ Below wx.heap.size wx w') (hkv : ∀ wx, Calls Tryz.prog 57 #[.string vl] wx fun e w' => e = .returned (.string vl) ∧ Below wx.heap.size wx w') :
    wpOp Tryz.prog clpO Q 8 (clpI w0 B XP nm vl aL cL L s0 s1 s2 s4 s6 s7 s8 s9 s10 s11 s12 s13 s14 s15 s16 s17 s18 s19 s20 s21 s22 s23 s24 s25 s26 #[b0, true, true, true, true, true, true, true, true, false, false]) { tmps := #[s0, s1, s2, .slice aL L.length cL, s4, .pointer (some ⟨XP, 0, none⟩), s6, s7, s8, s9, s10, s11, s12, s13, s14, selS b0 (.slice aL L.length cL) (s15), .pointer (some ⟨XP, 0, none⟩), .string nm, .string nm, .pointer (some ⟨XP, 1, none⟩), .string vl, .string vl, .agg #[.string nm, .string vl], s23, s24, s25, s26], defers := [] } w := by
  refine wpOp_step (o := { dst := some 23, op := Op.buildSlice 23 1 #[(0, Operand.tmp 22)], type := 23, pos := "l10_request.go:374", after := #[{ on := 7, ground := Ground.data }], guard := none }) rfl (fun K hK => ?_)
  replace hK := hid hK
  go_simp
  exact hK.out _ _ ⟨b0, true, true, true, true, true, true, true, true, false, false, w.heap.size, G, CP, rfl, rfl, hB.alloc hB.size _, fun h => (hxp h).alloc _, fun h => World.ownsRow.alloc (ho1 h) _, fun h => Bool.noConfusion h, fun _ _ => RowAt.new w _ _, by simp only [World.size_alloc]; omega, hLn, hst, hkn, hkv⟩
set_option maxRecDepth 20000 in
set_option maxHeartbeats 1000000 in
theorem clp_s9 {Q : Exit → Act → World → Prop} (w0 : World) (B XP : Nat) (nm vl : ByteArray) (aL : Option Addr) (cL : Nat) (L : List Hp) (s0 s1 s2 s4 s6 s7 s8 s9 s10 s11 s12 s13 s14 s15 s16 s17 s18 s19 s20 s21 s22 s23 s24 s25 s26 : Value) (XS : Nat) (G : Nat) (CP : Nat) (w : World) (hB : Below w0.heap.size w0 w) (hxp : false = false → RowAt w XP 66 #[.string nm, .string vl]) (ho1 : false = false → OwnHp w B (.slice aL L.length cL) L) (ho2 : false = true → OwnHp w B (.slice (some ⟨G, 0, none⟩) (L.length + 1) CP) (L ++ [(⟨nm, vl⟩ : Hp)])) (hXS : true = true → false = false → RowAt w XS 66 (hpL [(⟨nm, vl⟩ : Hp)]).toArray) (hBz : B ≤ w.heap.size) (hLn : L.length ≤ 1000000) (hst : w0.heap.size ≤ B) (hkn : ∀ wx, Calls Tryz.prog 57 #[.string nm] wx fun e w' => e = .returned (.string nm) ∧ Below wx.heap.size wx w') (hkv : ∀ wx, Calls Tryz.prog 57 #[.string vl] wx fun e w' => e = .returned (.string vl) ∧ Below wx.heap.size wx w') :
    wpOp Tryz.prog clpO Q 9 (clpI w0 B XP nm vl aL cL L s0 s1 s2 s4 s6 s7 s8 s9 s10 s11 s12 s13 s14 s15 s16 s17 s18 s19 s20 s21 s22 s23 s24 s25 s26 #[true, true, true, true, true, true, true, true, true, true, false]) { tmps := #[s0, s1, s2, .slice aL L.length cL, s4, .pointer (some ⟨XP, 0, none⟩), s6, s7, s8, s9, s10, s11, s12, s13, s14, .slice aL L.length cL, .pointer (some ⟨XP, 0, none⟩), .string nm, .string nm, .pointer (some ⟨XP, 1, none⟩), .string vl, .string vl, .agg #[.string nm, .string vl], .slice (some ⟨XS, 0, none⟩) 1 1, s24, s25, s26], defers := [] } w := by
  refine wpOp_step (o := { dst := some 24, op := Op.call { callee := Callee.builtin Builtin.append, args := #[Operand.tmp 15, Operand.tmp 23], argTypes := #[23, 23] }, type := 23, pos := "l10_request.go:374", after := #[{ on := 0, ground := Ground.data }, { on := 8, ground := Ground.data }, { on := 6, ground := Ground.chain }], guard := none }) rfl (fun K hK => ?_)
  replace hK := hid hK
  have hO := ho1 rfl
  refine step_append_hps B _ (by rfl) _ _ 23 (by rfl) Tryz.underlying23 Tryz.infoHpG _ L [(⟨nm, vl⟩ : Hp)] (by simp) (by rfl) hO hBz XS (hXS rfl rfl) 1 rfl (by rfl) (by simp; omega) ?_
  intro g3 c3 w3 hO3 hg3 hl3
  exact hK.out _ _ ⟨true, true, true, true, true, true, true, true, true, true, false, XS, g3, c3, rfl, rfl, hB.grown hg3 hB.size (fun g hg => by have := (World.ownsRow.lt hO _ hg).1; omega), fun h => Bool.noConfusion h, fun h => Bool.noConfusion h, fun _ => hO3, fun h e => Bool.noConfusion e, Nat.le_trans hBz hg3.size, hLn, hst, hkn, hkv⟩
set_option maxRecDepth 20000 in
set_option maxHeartbeats 1000000 in
theorem clp_s10 {Q : Exit → Act → World → Prop} (w0 : World) (B XP : Nat) (nm vl : ByteArray) (aL : Option Addr) (cL : Nat) (L : List Hp) (s0 s1 s2 s4 s6 s7 s8 s9 s10 s11 s12 s13 s14 s15 s16 s17 s18 s19 s20 s21 s22 s23 s24 s25 s26 : Value) (XS : Nat) (G : Nat) (CP : Nat) (w : World) (hB : Below w0.heap.size w0 w) (hxp : true = false → RowAt w XP 66 #[.string nm, .string vl]) (ho1 : true = false → OwnHp w B (.slice aL L.length cL) L) (ho2 : true = true → OwnHp w B (.slice (some ⟨G, 0, none⟩) (L.length + 1) CP) (L ++ [(⟨nm, vl⟩ : Hp)])) (hXS : true = true → true = false → RowAt w XS 66 (hpL [(⟨nm, vl⟩ : Hp)]).toArray) (hBz : B ≤ w.heap.size) (hLn : L.length ≤ 1000000) (hst : w0.heap.size ≤ B) (hkn : ∀ wx, Calls Tryz.prog 57 #[.string nm] wx fun e w' => e = .returned (.string nm) ∧ Below wx.heap.size wx w') (hkv : ∀ wx, Calls Tryz.prog 57 #[.string vl] wx fun e w' => e = .returned (.string vl) ∧ Below wx.heap.size wx w') :
    wpOp Tryz.prog clpO Q 10 (clpI w0 B XP nm vl aL cL L s0 s1 s2 s4 s6 s7 s8 s9 s10 s11 s12 s13 s14 s15 s16 s17 s18 s19 s20 s21 s22 s23 s24 s25 s26 #[true, true, true, true, true, true, true, true, true, true, true]) { tmps := #[s0, s1, s2, .slice aL L.length cL, s4, .pointer (some ⟨XP, 0, none⟩), s6, s7, s8, s9, s10, s11, s12, s13, s14, .slice aL L.length cL, .pointer (some ⟨XP, 0, none⟩), .string nm, .string nm, .pointer (some ⟨XP, 1, none⟩), .string vl, .string vl, .agg #[.string nm, .string vl], .slice (some ⟨XS, 0, none⟩) 1 1, .slice (some ⟨G, 0, none⟩) (L.length + 1) CP, s25, s26], defers := [] } w := by
  refine wpOp_step (o := { dst := some 3, op := Op.assign (Operand.tmp 24), type := 23, pos := "l10_request.go:374", after := #[{ on := 9, ground := Ground.data }, { on := 9, ground := Ground.chain }, { on := 0, ground := Ground.phase }, { on := 1, ground := Ground.phase }, { on := 2, ground := Ground.phase }, { on := 3, ground := Ground.phase }, { on := 4, ground := Ground.phase }, { on := 5, ground := Ground.phase }, { on := 6, ground := Ground.phase }, { on := 7, ground := Ground.phase }, { on := 8, ground := Ground.phase }, { on := 9, ground := Ground.phase }], guard := none }) rfl (fun K hK => ?_)
  replace hK := hid hK
  go_simp
  exact hK.out _ _ ⟨true, true, true, true, true, true, true, true, true, true, true, XS, G, CP, rfl, rfl, hB, hxp, ho1, ho2, hXS, hBz, hLn, hst, hkn, hkv⟩
set_option maxRecDepth 20000 in
set_option maxHeartbeats 2000000 in
theorem clp_step {Q : Exit → Act → World → Prop} (w0 : World) (B XP : Nat) (nm vl : ByteArray) (aL : Option Addr) (cL : Nat) (L : List Hp) (s0 s1 s2 s4 s6 s7 s8 s9 s10 s11 s12 s13 s14 s15 s16 s17 s18 s19 s20 s21 s22 s23 s24 s25 s26 : Value) (l : Array Bool) (f : Act) (w : World) (hC : Closed clpO l) (hI : clpI w0 B XP nm vl aL cL L s0 s1 s2 s4 s6 s7 s8 s9 s10 s11 s12 s13 s14 s15 s16 s17 s18 s19 s20 s21 s22 s23 s24 s25 s26 l f w) (i : Nat) (h0 : l.getD i true = false) (o : Oper) (ho : clpO[i]? = some o) (h1 : ∀ e ∈ o.after, Region.binds .any e = true → l.getD e.on false = true) : wpOp Tryz.prog clpO Q i (clpI w0 B XP nm vl aL cL L s0 s1 s2 s4 s6 s7 s8 s9 s10 s11 s12 s13 s14 s15 s16 s17 s18 s19 s20 s21 s22 s23 s24 s25 s26 (l.setIfInBounds i true)) f w := by
  obtain ⟨b0, b1, b2, b3, b4, b5, b6, b7, b8, b9, b10, XS, G, CP, rfl, rfl, hB, hxp, ho1, ho2, hXS, hBz, hLn, hst, hkn, hkv⟩ := hI
  have hi : i < 11 := by
    rcases Nat.lt_or_ge i 11 with h | h
    · exact h
    · rw [show clpO[i]? = none from Array.getElem?_eq_none h] at ho; cases ho
  rcases (by omega : i = 0 ∨ i = 1 ∨ i = 2 ∨ i = 3 ∨ i = 4 ∨ i = 5 ∨ i = 6 ∨ i = 7 ∨ i = 8 ∨ i = 9 ∨ i = 10) with rfl | rfl | rfl | rfl | rfl | rfl | rfl | rfl | rfl | rfl | rfl
  · obtain rfl : clpo0 = o := Option.some.inj ho
    obtain rfl : b0 = false := h0
    obtain rfl : b9 = false := by
      cases b9 with
      | false => rfl
      | true => exact Bool.noConfusion (show false = true from hC 9 clpo9 rfl rfl ⟨0, .data⟩ (by simp [clpo9]) rfl)
    obtain rfl : b10 = false := by
      cases b10 with
      | false => rfl
      | true => exact Bool.noConfusion (show false = true from hC 10 clpo10 rfl rfl ⟨0, .phase⟩ (by simp [clpo10]) rfl)
    exact clp_s0 w0 B XP nm vl aL cL L s0 s1 s2 s4 s6 s7 s8 s9 s10 s11 s12 s13 s14 s15 s16 s17 s18 s19 s20 s21 s22 s23 s24 s25 s26 b1 b2 b3 b4 b5 b6 b7 b8 XS G CP w hB hxp ho1 ho2 hXS hBz hLn hst hkn hkv
  · obtain rfl : clpo1 = o := Option.some.inj ho
    obtain rfl : b1 = false := h0
    obtain rfl : b2 = false := by
      cases b2 with
      | false => rfl
      | true => exact Bool.noConfusion (show false = true from hC 2 clpo2 rfl rfl ⟨1, .data⟩ (by simp [clpo2]) rfl)
    obtain rfl : b3 = false := by
      cases b3 with
      | false => rfl
      | true => exact Bool.noConfusion (show false = true from hC 3 clpo3 rfl rfl ⟨2, .data⟩ (by simp [clpo3]) rfl)
    obtain rfl : b6 = false := by
      cases b6 with
      | false => rfl
      | true => exact Bool.noConfusion (show false = true from hC 6 clpo6 rfl rfl ⟨3, .chain⟩ (by simp [clpo6]) rfl)
    obtain rfl : b7 = false := by
      cases b7 with
      | false => rfl
      | true => exact Bool.noConfusion (show false = true from hC 7 clpo7 rfl rfl ⟨3, .data⟩ (by simp [clpo7]) rfl)
    obtain rfl : b8 = false := by
      cases b8 with
      | false => rfl
      | true => exact Bool.noConfusion (show false = true from hC 8 clpo8 rfl rfl ⟨7, .data⟩ (by simp [clpo8]) rfl)
    obtain rfl : b9 = false := by
      cases b9 with
      | false => rfl
      | true => exact Bool.noConfusion (show false = true from hC 9 clpo9 rfl rfl ⟨6, .chain⟩ (by simp [clpo9]) rfl)
    obtain rfl : b10 = false := by
      cases b10 with
      | false => rfl
      | true => exact Bool.noConfusion (show false = true from hC 10 clpo10 rfl rfl ⟨1, .phase⟩ (by simp [clpo10]) rfl)
    exact clp_s1 w0 B XP nm vl aL cL L s0 s1 s2 s4 s6 s7 s8 s9 s10 s11 s12 s13 s14 s15 s16 s17 s18 s19 s20 s21 s22 s23 s24 s25 s26 b0 b4 b5 XS G CP w hB hxp ho1 ho2 hXS hBz hLn hst hkn hkv
  · obtain rfl : clpo2 = o := Option.some.inj ho
    obtain rfl : b2 = false := h0
    obtain rfl : b1 = true := h1 ⟨1, .data⟩ (by simp [clpo2]) rfl
    obtain rfl : b3 = false := by
      cases b3 with
      | false => rfl
      | true => exact Bool.noConfusion (show false = true from hC 3 clpo3 rfl rfl ⟨2, .data⟩ (by simp [clpo3]) rfl)
    obtain rfl : b6 = false := by
      cases b6 with
      | false => rfl
      | true => exact Bool.noConfusion (show false = true from hC 6 clpo6 rfl rfl ⟨3, .chain⟩ (by simp [clpo6]) rfl)
    obtain rfl : b7 = false := by
      cases b7 with
      | false => rfl
      | true => exact Bool.noConfusion (show false = true from hC 7 clpo7 rfl rfl ⟨3, .data⟩ (by simp [clpo7]) rfl)
    obtain rfl : b8 = false := by
      cases b8 with
      | false => rfl
      | true => exact Bool.noConfusion (show false = true from hC 8 clpo8 rfl rfl ⟨7, .data⟩ (by simp [clpo8]) rfl)
    obtain rfl : b9 = false := by
      cases b9 with
      | false => rfl
      | true => exact Bool.noConfusion (show false = true from hC 9 clpo9 rfl rfl ⟨6, .chain⟩ (by simp [clpo9]) rfl)
    obtain rfl : b10 = false := by
      cases b10 with
      | false => rfl
      | true => exact Bool.noConfusion (show false = true from hC 10 clpo10 rfl rfl ⟨2, .phase⟩ (by simp [clpo10]) rfl)
    exact clp_s2 w0 B XP nm vl aL cL L s0 s1 s2 s4 s6 s7 s8 s9 s10 s11 s12 s13 s14 s15 s16 s17 s18 s19 s20 s21 s22 s23 s24 s25 s26 b0 b4 b5 XS G CP w hB hxp ho1 ho2 hXS hBz hLn hst hkn hkv
  · obtain rfl : clpo3 = o := Option.some.inj ho
    obtain rfl : b3 = false := h0
    obtain rfl : b2 = true := h1 ⟨2, .data⟩ (by simp [clpo3]) rfl
    obtain rfl : b1 = true := hC 2 clpo2 rfl rfl ⟨1, .data⟩ (by simp [clpo2]) rfl
    obtain rfl : b6 = false := by
      cases b6 with
      | false => rfl
      | true => exact Bool.noConfusion (show false = true from hC 6 clpo6 rfl rfl ⟨3, .chain⟩ (by simp [clpo6]) rfl)
    obtain rfl : b7 = false := by
      cases b7 with
      | false => rfl
      | true => exact Bool.noConfusion (show false = true from hC 7 clpo7 rfl rfl ⟨3, .data⟩ (by simp [clpo7]) rfl)
    obtain rfl : b8 = false := by
      cases b8 with
      | false => rfl
      | true => exact Bool.noConfusion (show false = true from hC 8 clpo8 rfl rfl ⟨7, .data⟩ (by simp [clpo8]) rfl)
    obtain rfl : b9 = false := by
      cases b9 with
      | false => rfl
      | true => exact Bool.noConfusion (show false = true from hC 9 clpo9 rfl rfl ⟨6, .chain⟩ (by simp [clpo9]) rfl)
    obtain rfl : b10 = false := by
      cases b10 with
      | false => rfl
      | true => exact Bool.noConfusion (show false = true from hC 10 clpo10 rfl rfl ⟨3, .phase⟩ (by simp [clpo10]) rfl)
    exact clp_s3 w0 B XP nm vl aL cL L s0 s1 s2 s4 s6 s7 s8 s9 s10 s11 s12 s13 s14 s15 s16 s17 s18 s19 s20 s21 s22 s23 s24 s25 s26 b0 b4 b5 XS G CP w hB hxp ho1 ho2 hXS hBz hLn hst hkn hkv
  · obtain rfl : clpo4 = o := Option.some.inj ho
    obtain rfl : b4 = false := h0
    obtain rfl : b5 = false := by
      cases b5 with
      | false => rfl
      | true => exact Bool.noConfusion (show false = true from hC 5 clpo5 rfl rfl ⟨4, .data⟩ (by simp [clpo5]) rfl)
    obtain rfl : b6 = false := by
      cases b6 with
      | false => rfl
      | true => exact Bool.noConfusion (show false = true from hC 6 clpo6 rfl rfl ⟨5, .data⟩ (by simp [clpo6]) rfl)
    obtain rfl : b7 = false := by
      cases b7 with
      | false => rfl
      | true => exact Bool.noConfusion (show false = true from hC 7 clpo7 rfl rfl ⟨6, .data⟩ (by simp [clpo7]) rfl)
    obtain rfl : b8 = false := by
      cases b8 with
      | false => rfl
      | true => exact Bool.noConfusion (show false = true from hC 8 clpo8 rfl rfl ⟨7, .data⟩ (by simp [clpo8]) rfl)
    obtain rfl : b9 = false := by
      cases b9 with
      | false => rfl
      | true => exact Bool.noConfusion (show false = true from hC 9 clpo9 rfl rfl ⟨6, .chain⟩ (by simp [clpo9]) rfl)
    obtain rfl : b10 = false := by
      cases b10 with
      | false => rfl
      | true => exact Bool.noConfusion (show false = true from hC 10 clpo10 rfl rfl ⟨4, .phase⟩ (by simp [clpo10]) rfl)
    exact clp_s4 w0 B XP nm vl aL cL L s0 s1 s2 s4 s6 s7 s8 s9 s10 s11 s12 s13 s14 s15 s16 s17 s18 s19 s20 s21 s22 s23 s24 s25 s26 b0 b1 b2 b3 XS G CP w hB hxp ho1 ho2 hXS hBz hLn hst hkn hkv
  · obtain rfl : clpo5 = o := Option.some.inj ho
    obtain rfl : b5 = false := h0
    obtain rfl : b4 = true := h1 ⟨4, .data⟩ (by simp [clpo5]) rfl
    obtain rfl : b6 = false := by
      cases b6 with
      | false => rfl
      | true => exact Bool.noConfusion (show false = true from hC 6 clpo6 rfl rfl ⟨5, .data⟩ (by simp [clpo6]) rfl)
    obtain rfl : b7 = false := by
      cases b7 with
      | false => rfl
      | true => exact Bool.noConfusion (show false = true from hC 7 clpo7 rfl rfl ⟨6, .data⟩ (by simp [clpo7]) rfl)
    obtain rfl : b8 = false := by
      cases b8 with
      | false => rfl
      | true => exact Bool.noConfusion (show false = true from hC 8 clpo8 rfl rfl ⟨7, .data⟩ (by simp [clpo8]) rfl)
    obtain rfl : b9 = false := by
      cases b9 with
      | false => rfl
      | true => exact Bool.noConfusion (show false = true from hC 9 clpo9 rfl rfl ⟨6, .chain⟩ (by simp [clpo9]) rfl)
    obtain rfl : b10 = false := by
      cases b10 with
      | false => rfl
      | true => exact Bool.noConfusion (show false = true from hC 10 clpo10 rfl rfl ⟨5, .phase⟩ (by simp [clpo10]) rfl)
    exact clp_s5 w0 B XP nm vl aL cL L s0 s1 s2 s4 s6 s7 s8 s9 s10 s11 s12 s13 s14 s15 s16 s17 s18 s19 s20 s21 s22 s23 s24 s25 s26 b0 b1 b2 b3 XS G CP w hB hxp ho1 ho2 hXS hBz hLn hst hkn hkv
  · obtain rfl : clpo6 = o := Option.some.inj ho
    obtain rfl : b6 = false := h0
    obtain rfl : b5 = true := h1 ⟨5, .data⟩ (by simp [clpo6]) rfl
    obtain rfl : b3 = true := h1 ⟨3, .chain⟩ (by simp [clpo6]) rfl
    obtain rfl : b4 = true := hC 5 clpo5 rfl rfl ⟨4, .data⟩ (by simp [clpo5]) rfl
    obtain rfl : b2 = true := hC 3 clpo3 rfl rfl ⟨2, .data⟩ (by simp [clpo3]) rfl
    obtain rfl : b1 = true := hC 2 clpo2 rfl rfl ⟨1, .data⟩ (by simp [clpo2]) rfl
    obtain rfl : b7 = false := by
      cases b7 with
      | false => rfl
      | true => exact Bool.noConfusion (show false = true from hC 7 clpo7 rfl rfl ⟨6, .data⟩ (by simp [clpo7]) rfl)
    obtain rfl : b8 = false := by
      cases b8 with
      | false => rfl
      | true => exact Bool.noConfusion (show false = true from hC 8 clpo8 rfl rfl ⟨7, .data⟩ (by simp [clpo8]) rfl)
    obtain rfl : b9 = false := by
      cases b9 with
      | false => rfl
      | true => exact Bool.noConfusion (show false = true from hC 9 clpo9 rfl rfl ⟨6, .chain⟩ (by simp [clpo9]) rfl)
    obtain rfl : b10 = false := by
      cases b10 with
      | false => rfl
      | true => exact Bool.noConfusion (show false = true from hC 10 clpo10 rfl rfl ⟨6, .phase⟩ (by simp [clpo10]) rfl)
    exact clp_s6 w0 B XP nm vl aL cL L s0 s1 s2 s4 s6 s7 s8 s9 s10 s11 s12 s13 s14 s15 s16 s17 s18 s19 s20 s21 s22 s23 s24 s25 s26 b0 XS G CP w hB hxp ho1 ho2 hXS hBz hLn hst hkn hkv
  · obtain rfl : clpo7 = o := Option.some.inj ho
    obtain rfl : b7 = false := h0
    obtain rfl : b6 = true := h1 ⟨6, .data⟩ (by simp [clpo7]) rfl
    obtain rfl : b3 = true := h1 ⟨3, .data⟩ (by simp [clpo7]) rfl
    obtain rfl : b5 = true := hC 6 clpo6 rfl rfl ⟨5, .data⟩ (by simp [clpo6]) rfl
    obtain rfl : b4 = true := hC 5 clpo5 rfl rfl ⟨4, .data⟩ (by simp [clpo5]) rfl
    obtain rfl : b2 = true := hC 3 clpo3 rfl rfl ⟨2, .data⟩ (by simp [clpo3]) rfl
    obtain rfl : b1 = true := hC 2 clpo2 rfl rfl ⟨1, .data⟩ (by simp [clpo2]) rfl
    obtain rfl : b8 = false := by
      cases b8 with
      | false => rfl
      | true => exact Bool.noConfusion (show false = true from hC 8 clpo8 rfl rfl ⟨7, .data⟩ (by simp [clpo8]) rfl)
    obtain rfl : b9 = false := by
      cases b9 with
      | false => rfl
      | true => exact Bool.noConfusion (show false = true from hC 9 clpo9 rfl rfl ⟨8, .data⟩ (by simp [clpo9]) rfl)
    obtain rfl : b10 = false := by
      cases b10 with
      | false => rfl
      | true => exact Bool.noConfusion (show false = true from hC 10 clpo10 rfl rfl ⟨7, .phase⟩ (by simp [clpo10]) rfl)
    exact clp_s7 w0 B XP nm vl aL cL L s0 s1 s2 s4 s6 s7 s8 s9 s10 s11 s12 s13 s14 s15 s16 s17 s18 s19 s20 s21 s22 s23 s24 s25 s26 b0 XS G CP w hB hxp ho1 ho2 hXS hBz hLn hst hkn hkv
  · obtain rfl : clpo8 = o := Option.some.inj ho
    obtain rfl : b8 = false := h0
    obtain rfl : b7 = true := h1 ⟨7, .data⟩ (by simp [clpo8]) rfl
    obtain rfl : b3 = true := hC 7 clpo7 rfl rfl ⟨3, .data⟩ (by simp [clpo7]) rfl
    obtain rfl : b6 = true := hC 7 clpo7 rfl rfl ⟨6, .data⟩ (by simp [clpo7]) rfl
    obtain rfl : b5 = true := hC 6 clpo6 rfl rfl ⟨5, .data⟩ (by simp [clpo6]) rfl
    obtain rfl : b4 = true := hC 5 clpo5 rfl rfl ⟨4, .data⟩ (by simp [clpo5]) rfl
    obtain rfl : b2 = true := hC 3 clpo3 rfl rfl ⟨2, .data⟩ (by simp [clpo3]) rfl
    obtain rfl : b1 = true := hC 2 clpo2 rfl rfl ⟨1, .data⟩ (by simp [clpo2]) rfl
    obtain rfl : b9 = false := by
      cases b9 with
      | false => rfl
      | true => exact Bool.noConfusion (show false = true from hC 9 clpo9 rfl rfl ⟨8, .data⟩ (by simp [clpo9]) rfl)
    obtain rfl : b10 = false := by
      cases b10 with
      | false => rfl
      | true => exact Bool.noConfusion (show false = true from hC 10 clpo10 rfl rfl ⟨8, .phase⟩ (by simp [clpo10]) rfl)
    exact clp_s8 w0 B XP nm vl aL cL L s0 s1 s2 s4 s6 s7 s8 s9 s10 s11 s12 s13 s14 s15 s16 s17 s18 s19 s20 s21 s22 s23 s24 s25 s26 b0 XS G CP w hB hxp ho1 ho2 hXS hBz hLn hst hkn hkv
  · obtain rfl : clpo9 = o := Option.some.inj ho
    obtain rfl : b9 = false := h0
    obtain rfl : b8 = true := h1 ⟨8, .data⟩ (by simp [clpo9]) rfl
    obtain rfl : b6 = true := h1 ⟨6, .chain⟩ (by simp [clpo9]) rfl
    obtain rfl : b0 = true := h1 ⟨0, .data⟩ (by simp [clpo9]) rfl
    obtain rfl : b7 = true := hC 8 clpo8 rfl rfl ⟨7, .data⟩ (by simp [clpo8]) rfl
    obtain rfl : b3 = true := hC 7 clpo7 rfl rfl ⟨3, .data⟩ (by simp [clpo7]) rfl
    obtain rfl : b5 = true := hC 6 clpo6 rfl rfl ⟨5, .data⟩ (by simp [clpo6]) rfl
    obtain rfl : b4 = true := hC 5 clpo5 rfl rfl ⟨4, .data⟩ (by simp [clpo5]) rfl
    obtain rfl : b2 = true := hC 3 clpo3 rfl rfl ⟨2, .data⟩ (by simp [clpo3]) rfl
    obtain rfl : b1 = true := hC 2 clpo2 rfl rfl ⟨1, .data⟩ (by simp [clpo2]) rfl
    obtain rfl : b10 = false := by
      cases b10 with
      | false => rfl
      | true => exact Bool.noConfusion (show false = true from hC 10 clpo10 rfl rfl ⟨9, .chain⟩ (by simp [clpo10]) rfl)
    exact clp_s9 w0 B XP nm vl aL cL L s0 s1 s2 s4 s6 s7 s8 s9 s10 s11 s12 s13 s14 s15 s16 s17 s18 s19 s20 s21 s22 s23 s24 s25 s26  XS G CP w hB hxp ho1 ho2 hXS hBz hLn hst hkn hkv
  · obtain rfl : clpo10 = o := Option.some.inj ho
    obtain rfl : b10 = false := h0
    obtain rfl : b9 = true := h1 ⟨9, .chain⟩ (by simp [clpo10]) rfl
    obtain rfl : b8 = true := h1 ⟨8, .phase⟩ (by simp [clpo10]) rfl
    obtain rfl : b7 = true := h1 ⟨7, .phase⟩ (by simp [clpo10]) rfl
    obtain rfl : b6 = true := h1 ⟨6, .phase⟩ (by simp [clpo10]) rfl
    obtain rfl : b5 = true := h1 ⟨5, .phase⟩ (by simp [clpo10]) rfl
    obtain rfl : b4 = true := h1 ⟨4, .phase⟩ (by simp [clpo10]) rfl
    obtain rfl : b3 = true := h1 ⟨3, .phase⟩ (by simp [clpo10]) rfl
    obtain rfl : b2 = true := h1 ⟨2, .phase⟩ (by simp [clpo10]) rfl
    obtain rfl : b1 = true := h1 ⟨1, .phase⟩ (by simp [clpo10]) rfl
    obtain rfl : b0 = true := h1 ⟨0, .phase⟩ (by simp [clpo10]) rfl
    exact clp_s10 w0 B XP nm vl aL cL L s0 s1 s2 s4 s6 s7 s8 s9 s10 s11 s12 s13 s14 s15 s16 s17 s18 s19 s20 s21 s22 s23 s24 s25 s26  XS G CP w hB hxp ho1 ho2 hXS hBz hLn hst hkn hkv
set_option maxRecDepth 20000 in
set_option maxHeartbeats 4000000 in
theorem clp_wp {Q : Exit → Act → World → Prop} {rid : Nat} (w0 : World) (B XP : Nat) (nm vl : ByteArray) (aL : Option Addr) (cL : Nat) (L : List Hp) {s0 s1 s2 s4 s6 s7 s8 s9 s10 s11 s12 s13 s14 s15 s16 s17 s18 s19 s20 s21 s22 s23 s24 s25 s26 : Value} (w : World) (hB : Below w0.heap.size w0 w) (hxp : RowAt w XP 66 #[.string nm, .string vl]) (ho1 : OwnHp w B (.slice aL L.length cL) L) (hBz : B ≤ w.heap.size) (hLn : L.length ≤ 1000000) (hst : w0.heap.size ≤ B) (hkn : ∀ wx, Calls Tryz.prog 57 #[.string nm] wx fun e w' => e = .returned (.string nm) ∧ Below wx.heap.size wx w') (hkv : ∀ wx, Calls Tryz.prog 57 #[.string vl] wx fun e w' => e = .returned (.string vl) ∧ Below wx.heap.size wx w')
    (fin : ∀ (XS : Nat) (G : Nat) (CP : Nat) (w' : World), (Below w0.heap.size w0 w') → (OwnHp w' B (.slice (some ⟨G, 0, none⟩) (L.length + 1) CP) (L ++ [(⟨nm, vl⟩ : Hp)])) → (B ≤ w'.heap.size) → (L.length ≤ 1000000) → (w0.heap.size ≤ B) → (∀ wx, Calls Tryz.prog 57 #[.string nm] wx fun e w' => e = .returned (.string nm) ∧ Below wx.heap.size wx w') → (∀ wx, Calls Tryz.prog 57 #[.string vl] wx fun e w' => e = .returned (.string vl) ∧ Below wx.heap.size wx w') → Q .normal { tmps := #[s0, s1, s2, .slice (some ⟨G, 0, none⟩) (L.length + 1) CP, s4, .pointer (some ⟨XP, 0, none⟩), s6, s7, s8, s9, s10, s11, s12, s13, s14, .slice aL L.length cL, .pointer (some ⟨XP, 0, none⟩), .string nm, .string nm, .pointer (some ⟨XP, 1, none⟩), .string vl, .string vl, .agg #[.string nm, .string vl], .slice (some ⟨XS, 0, none⟩) 1 1, .slice (some ⟨G, 0, none⟩) (L.length + 1) CP, s25, s26], defers := [] } w') :
    (Code.region rid clpO true).wp Tryz.prog Q { tmps := #[s0, s1, s2, .slice aL L.length cL, s4, .pointer (some ⟨XP, 0, none⟩), s6, s7, s8, s9, s10, s11, s12, s13, s14, s15, s16, s17, s18, s19, s20, s21, s22, s23, s24, s25, s26], defers := [] } w := by
  refine wp_region_inv (ops := clpO) (clpI w0 B XP nm vl aL cL L s0 s1 s2 s4 s6 s7 s8 s9 s10 s11 s12 s13 s14 s15 s16 s17 s18 s19 s20 s21 s22 s23 s24 s25 s26) (by kernel_rfl) (by kernel_rfl) (fun l f v hI => ?_) (fun l f v hC hI i h0 o ho h1 => clp_step w0 B XP nm vl aL cL L s0 s1 s2 s4 s6 s7 s8 s9 s10 s11 s12 s13 s14 s15 s16 s17 s18 s19 s20 s21 s22 s23 s24 s25 s26 l f v hC hI i h0 o ho h1) (fun l f v hI hall => ?_) ?_
  · obtain ⟨_, _, _, _, _, _, _, _, _, _, _, _, _, _, rfl, _⟩ := hI; rfl
  · obtain ⟨b0, b1, b2, b3, b4, b5, b6, b7, b8, b9, b10, XS, G, CP, rfl, rfl, hB, hxp, ho1, ho2, hXS, hBz, hLn, hst, hkn, hkv⟩ := hI
    obtain rfl : b0 = true := hall 0 (by simp)
    obtain rfl : b1 = true := hall 1 (by simp)
    obtain rfl : b2 = true := hall 2 (by simp)
    obtain rfl : b3 = true := hall 3 (by simp)
    obtain rfl : b4 = true := hall 4 (by simp)
    obtain rfl : b5 = true := hall 5 (by simp)
    obtain rfl : b6 = true := hall 6 (by simp)
    obtain rfl : b7 = true := hall 7 (by simp)
    obtain rfl : b8 = true := hall 8 (by simp)
    obtain rfl : b9 = true := hall 9 (by simp)
    obtain rfl : b10 = true := hall 10 (by simp)
    exact fin XS G CP v hB (ho2 rfl) hBz hLn hst hkn hkv
  · exact ⟨false, false, false, false, false, false, false, false, false, false, false, 0, 0, 0, rfl, rfl, hB.drew, fun _ => hxp.drew, fun _ => World.ownsRow.drew ho1, fun h => Bool.noConfusion h, fun h => Bool.noConfusion h, hBz, hLn, hst, hkn, hkv⟩
set_option maxRecDepth 20000 in
set_option maxHeartbeats 4000000 in
theorem iClonePairs (a : Option Addr) (n cap : Nat) (o : Nat → Hp) (hn : n ≤ 1000000) (hs : ∀ i, i < n → (o i).nm.size ≤ 1048576 ∧ (o i).vl.size ≤ 1048576) (w : World) (h : Hps w a n cap o) :
    Calls Tryz.prog 42 #[.slice a n cap] w fun e w' => (∃ a' c', e = .returned (.slice a' n c') ∧ OwnHp w' w.heap.size (.slice a' n c') (hpList o n)) ∧ Below w.heap.size w w' := by
  have HH := hid h
  have HS := hid hs
  clear h hs
  go_enter Tryz.func42, Tryz.ntmps42
  go_wp2_with (refine make_hps w.heap.size w rfl _ (.tmp 7) 23 rfl Tryz.underlying23 Tryz.infoHpG .i64 .i64 (n : Int) n rfl rfl rfl (by omega) (Nat.le_refl _) ?_; intro w1 hO1 hg1)
  have B1 := hid ((Below.refl _ w).grown hg1 (Nat.le_refl _) (fun g hg => by cases hg))
  have O1 := hid hO1
  have s1 : w.heap.size ≤ w1.heap.size := hg1.size
  clear hO1 hg1
  go_loopw [11, 3] (fun q v wr => ∃ (k : Nat) (aL : Option Addr) (cL : Nat) (L : List Hp), k ≤ n ∧ q = .int .i64 (k : Int) ∧ L = hpList o k ∧ v = .slice aL L.length cL ∧ OwnHp wr w.heap.size (.slice aL L.length cL) L ∧ w.heap.size ≤ wr.heap.size ∧ Below w.heap.size w wr) (fun q _ _ => n - (intOf q).toNat)
  case atStart => exact ⟨0, _, _, [], Nat.zero_le _, rfl, rfl, rfl, O1.out, s1, B1.out⟩
  case round =>
    clear O1 B1
    obtain ⟨k, aL, cL, L, hk, rfl, hL, rfl, hO, hz, hB⟩ := hrel
    have HL := hid hL
    have HO := hid hO
    have HB := hid hB
    have lL : L.length ≤ 1000000 := by rw [hL, hpList_len]; omega
    clear hL hO hB
    by_cases hlt : k < n
    · have d1 : (k : Int) < (n : Int) := by omega
      have k0 : (0 : Int) ≤ (k : Int) := by omega
      rcases (HH.out.below HB.out).2 with q0 | ⟨b, off, rfl, hbl, hc⟩
      · omega
      obtain ⟨y0, y1⟩ := hc k hlt
      obtain ⟨z1, z2⟩ := HS.out k hlt
      have NX : Hid (hpList o (k + 1) = L ++ [o k]) := by show _ = _; rw [HL.out]; unfold hpList; rw [List.range_succ, List.map_append]; rfl
      clear hc
      generalize o k = T at y0 y1 z1 z2 NX
      obtain ⟨nm, vl⟩ := T
      dsimp only at y0 y1 z1 z2
      obtain ⟨W2, hW2⟩ : ∃ W, W = wr.alloc (.cells #[.string nm, .string vl] 66) := ⟨_, rfl⟩
      obtain ⟨XP, hXP⟩ : ∃ X, X = wr.heap.size := ⟨_, rfl⟩
      have RP : Hid (RowAt W2 XP 66 #[.string nm, .string vl]) := by rw [hW2, hXP]; exact RowAt.new _ _ _
      have O2 : Hid (OwnHp W2 w.heap.size (.slice aL L.length cL) L) := by rw [hW2]; exact World.ownsRow.alloc HO.out _
      have B2 : Hid (Below w.heap.size w W2) := by rw [hW2]; exact HB.out.alloc HB.out.size _
      have s2 : w.heap.size ≤ W2.heap.size := by rw [hW2]; simp; omega
      have HW2 := hid hW2
      have HXP := hid hXP
      clear hW2 hXP
      go_upto_region 5 with ((refine wpList_store_row rfl 66 (.tmp 5) (.tmp 14) rfl wr.heap.size #[.string nm, .string vl] rfl rfl _ _ (RowAt.new wr _ _) (by kernel_rfl) rfl (by simp [Value.oneCell']) ?_); rw [World.setRow_alloc_new])
      rw [← HW2.out, ← HXP.out]
      clear HW2 HXP y0 y1
      refine clp_wp w w.heap.size XP nm vl aL cL L W2 B2.out RP.out O2.out s2 lL (Nat.le_refl _) (fun wx => clone_any nm wx (by omega)) (fun wx => clone_any vl wx (by omega)) ?_
      intro XS G CP w3 hB3 ho2 hz3 _ _ _ _
      have B3 := hid hB3
      have O3 := hid ho2
      clear hB3 ho2 RP O2 B2 HO HB
      go_wp2
      go_roundw
      case rel => exact ⟨k + 1, some ⟨G, 0, none⟩, CP, L ++ [⟨nm, vl⟩], by omega, by go_num, NX.out.symm, by simp, by simpa using O3.out, hz3, B3.out⟩
      case measure => simp [intOf]; omega
    · have d1 : ¬ (k : Int) < (n : Int) := by omega
      have hkn : k = n := by omega
      subst hkn
      have lk : L.length = k := by rw [HL.out]; exact hpList_len _ _
      have FN : Hid ((∃ a' c', Ending.returned (Value.slice aL L.length cL) = .returned (.slice a' k c') ∧ OwnHp wr w.heap.size (.slice a' k c') (hpList o k)) ∧ Below w.heap.size w wr) := by
        refine ⟨⟨aL, cL, by rw [lk], ?_⟩, HB.out⟩
        have := HO.out
        rw [lk, HL.out] at this
        exact this
      clear lk
      go_wp2
      go_ret
      exact FN.out
end Go.Proofs.YtcfahbcpfjhajaaGreatDoor
