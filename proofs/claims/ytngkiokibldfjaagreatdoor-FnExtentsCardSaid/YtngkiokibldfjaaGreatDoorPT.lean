import Derived.Shelf.Strings.OnBuilder
import Derived.Shelf.Strings.BuilderF
import Derived.Shelf.Strings.BuilderK
import Derived.Test.YtngkiokibldfjaaGreatDoorPA
import Derived.Test.YtngkiokibldfjaaGreatDoorIStl
import Derived.Test.YtngkiokibldfjaaGreatDoorPS
import Derived.Test.YtngkiokibldfjaaGreatDoorPH
import Derived.Deep.CutBlock
import Derived.Deep.RegionHeld3
import Derived.Test.YtngkiokibldfjaaGreatDoorPR
import Derived.Lib.MinMax
namespace Go.Proofs.YtngkiokibldfjaaGreatDoor
open Go.RowKit Go.Shelf
/-! strings.Builder off the shelf: WriteString, String and Len, beside rows that must stand. -/
def blRen : Ren := ⟨fun x => if x = 166 then 77 else if x = 169 then 79 else if x = 170 then 78 else if x = 240 then 96 else if x = 276 then 108 else x, fun x => if x = 0 then 0 else if x = 3 then 3 else if x = 4 then 4 else if x = 5 then 5 else if x = 9 then 9 else if x = 20 then 20 else if x = 37 then 22 else if x = 70 then 123 else if x = 72 then 125 else if x = 75 then 127 else if x = 76 then 128 else if x = 80 then 99 else if x = 127 then 131 else if x = 164 then 160 else x, fun x => x⟩
theorem bl_Lays_n166 : Lays.n166 Tryz.prog blRen := { mixed := by kernel_rfl, f166 := by kernel_rfl, f240 := by kernel_rfl, f276 := by kernel_rfl, t0 := by kernel_rfl, a0 := fun _ => by kernel_rfl, z0 := fun _ => by kernel_rfl, v0 := fun _ => by kernel_rfl, t3 := by kernel_rfl, a3 := fun _ => by kernel_rfl, z3 := fun _ => by kernel_rfl, v3 := fun _ => by kernel_rfl, t4 := by kernel_rfl, a4 := fun _ => by kernel_rfl, z4 := fun _ => by kernel_rfl, v4 := fun _ => by kernel_rfl, t9 := by kernel_rfl, a9 := fun _ => by kernel_rfl, z9 := fun _ => by kernel_rfl, v9 := fun _ => by kernel_rfl, t20 := by kernel_rfl, a20 := fun _ => by kernel_rfl, z20 := fun _ => by kernel_rfl, v20 := fun _ => by kernel_rfl, t37 := by kernel_rfl, a37 := fun _ => by kernel_rfl, z37 := fun _ => by kernel_rfl, v37 := fun _ => by kernel_rfl, t70 := by kernel_rfl, a70 := fun _ => by kernel_rfl, z70 := fun _ => by kernel_rfl, v70 := fun _ => by kernel_rfl, t72 := by kernel_rfl, a72 := fun _ => by kernel_rfl, z72 := fun _ => by kernel_rfl, v72 := fun _ => by kernel_rfl, t75 := by kernel_rfl, a75 := fun _ => by kernel_rfl, z75 := fun _ => by kernel_rfl, v75 := fun _ => by kernel_rfl, t164 := by kernel_rfl, a164 := fun _ => by kernel_rfl, z164 := fun _ => by kernel_rfl, v164 := fun _ => by kernel_rfl }
theorem bl_Lays_n169 : Lays.n169 Tryz.prog blRen := { mixed := by kernel_rfl, f169 := by kernel_rfl, t0 := by kernel_rfl, a0 := fun _ => by kernel_rfl, z0 := fun _ => by kernel_rfl, v0 := fun _ => by kernel_rfl, t3 := by kernel_rfl, a3 := fun _ => by kernel_rfl, z3 := fun _ => by kernel_rfl, v3 := fun _ => by kernel_rfl, t9 := by kernel_rfl, a9 := fun _ => by kernel_rfl, z9 := fun _ => by kernel_rfl, v9 := fun _ => by kernel_rfl, t37 := by kernel_rfl, a37 := fun _ => by kernel_rfl, z37 := fun _ => by kernel_rfl, v37 := fun _ => by kernel_rfl, t70 := by kernel_rfl, a70 := fun _ => by kernel_rfl, z70 := fun _ => by kernel_rfl, v70 := fun _ => by kernel_rfl, t72 := by kernel_rfl, a72 := fun _ => by kernel_rfl, z72 := fun _ => by kernel_rfl, v72 := fun _ => by kernel_rfl, t127 := by kernel_rfl, a127 := fun _ => by kernel_rfl, z127 := fun _ => by kernel_rfl, v127 := fun _ => by kernel_rfl }
theorem bl_Lays_n170 : Lays.n170 Tryz.prog blRen := { mixed := by kernel_rfl, f170 := by kernel_rfl, t0 := by kernel_rfl, a0 := fun _ => by kernel_rfl, z0 := fun _ => by kernel_rfl, v0 := fun _ => by kernel_rfl, t3 := by kernel_rfl, a3 := fun _ => by kernel_rfl, z3 := fun _ => by kernel_rfl, v3 := fun _ => by kernel_rfl, t37 := by kernel_rfl, a37 := fun _ => by kernel_rfl, z37 := fun _ => by kernel_rfl, v37 := fun _ => by kernel_rfl, t70 := by kernel_rfl, a70 := fun _ => by kernel_rfl, z70 := fun _ => by kernel_rfl, v70 := fun _ => by kernel_rfl, t72 := by kernel_rfl, a72 := fun _ => by kernel_rfl, z72 := fun _ => by kernel_rfl, v72 := fun _ => by kernel_rfl }
theorem blExtra : Builder.Extra Tryz.prog blRen := { sizeBuilder := by kernel_rfl, liesBuilder := by kernel_rfl, t5 := by kernel_rfl, a5 := fun _ => by kernel_rfl, z5 := fun _ => by kernel_rfl, v5 := fun _ => by kernel_rfl, infoByte := by kernel_rfl, cellsByte := by kernel_rfl, sizeByte := by kernel_rfl, neB5 := by decide }
/-- a builder of the call's own, holding bytes -/
def Bld (B b : Nat) (l : List UInt8) (w : World) : Prop := Lib.IsBuilder (blRen.t 72) (blRen.t 5) B b (Lib.byteCells l) w
theorem bAt_below {T e : TypeId} {B b : Nat} {p : Value} {bs : List Value} {w w' : World} (h : Lib.BuilderAt T e B b p bs w) (hb : Below w.heap.size w w') : Lib.BuilderAt T e B b p bs w' := by
  have hlt := h.lt
  obtain ⟨h1, v, hc, ho, hn⟩ := h
  refine ⟨h1, v, (hb.block b hlt).trans hc, ⟨ho.1, ?_⟩, hn⟩
  rcases ho.2 with h0 | ⟨g, cap, cur, he, hbg, hr, r⟩
  · exact Or.inl h0
  · exact Or.inr ⟨g, cap, cur, he, hbg, (hb.block g (show RowAt w g e cur from hr).lt).trans hr, r⟩
theorem Bld.below {B b : Nat} {l : List UInt8} {w w' : World} (h : Bld B b l w) (hb : Below w.heap.size w w') : Bld B b l w' := h.imp (fun h => bAt_below h hb) (fun h => bAt_below h hb)
theorem bldWrite (B b : Nat) (l : List UInt8) (s : ByteArray) (w : World) (h : Bld B b l w) (hl : l.length + s.size ≤ 140737488355328) (hB : B ≤ w.heap.size) :
    Calls Tryz.prog 77 #[.pointer (some ⟨b, 0, none⟩), .string s] w fun e w' => e = .returned (.tuple #[.int .i64 s.size, .nilIface]) ∧ Bld B b (l ++ s.data.toList) w' ∧ Below B w w' := by
  refine (Any.Builder_WriteString bl_Lays_n166 blExtra B b _ s w h (by rw [Lib.byteCells_length]; exact hl) hB).mono ?_
  rintro e w' ⟨rfl, h1, h2⟩
  refine ⟨rfl, ?_, h2⟩
  have e1 : Lib.byteCells (l ++ s.data.toList) = Lib.byteCells l ++ Lib.strCells s := by unfold Lib.byteCells Lib.strCells; simp
  unfold Bld
  rw [e1]
  exact Or.inr h1
theorem bldStr (B b : Nat) (l : List UInt8) (w : World) (h : Bld B b l w) (hB : B ≤ w.heap.size) :
    Calls Tryz.prog 79 #[.pointer (some ⟨b, 0, none⟩)] w fun e w' => e = .returned (.string (ofL l)) ∧ Below B w w' :=
  Any.Builder_String_any bl_Lays_n169 blExtra B b l w h hB
theorem bldNew (w : World) : Bld w.heap.size w.heap.size [] (w.alloc (.cells #[.pointer none, .slice none 0 0] 125)) := Lib.fresh_isBuilder _ _ w
/-- a builder of the call's own, beside which a map stays as it is -/
def BldF (B b : Nat) (l : List UInt8) (w : World) : Prop := Lib.IsBuilderF (blRen.t 72) (blRen.t 5) B b (Lib.byteCells l) w
theorem BldF.of {B b : Nat} {l : List UInt8} {w : World} (h : Bld B b l w) : BldF B b l w := Lib.IsBuilderF.of h
theorem bAtF_below {T e : TypeId} {B b : Nat} {p : Value} {bs : List Value} {w w' : World} (h : Lib.BuilderAtF T e B b p bs w) (hb : Below w.heap.size w w') : Lib.BuilderAtF T e B b p bs w' := by
  have hlt := h.lt
  obtain ⟨h1, v, hc, ho, hn⟩ := h
  exact ⟨h1, v, (hb.block b hlt).trans hc, World.ownsRowF.kept ho (below_grown hb none) (Classical.em _), hn⟩
theorem BldF.below {B b : Nat} {l : List UInt8} {w w' : World} (h : BldF B b l w) (hb : Below w.heap.size w w') : BldF B b l w' := h.imp (fun h => bAtF_below h hb) (fun h => bAtF_below h hb)
theorem bldWriteK (B b : Nat) (l : List UInt8) (s : ByteArray) (w : World) (h : BldF B b l w) (hl : l.length + s.size ≤ 140737488355328) (hB : B ≤ w.heap.size) :
    Calls Tryz.prog 77 #[.pointer (some ⟨b, 0, none⟩), .string s] w fun e w' => e = .returned (.tuple #[.int .i64 s.size, .nilIface]) ∧ BldF B b (l ++ s.data.toList) w' ∧ Below B w w' ∧ Lib.OthersKept (blRen.t 5) (some b) w w' := by
  refine (Any.Builder_WriteString_k bl_Lays_n166 blExtra B b _ s w h (by rw [Lib.byteCells_length]; exact hl) hB).mono ?_
  rintro e w' ⟨rfl, h1, h2, h3⟩
  refine ⟨rfl, ?_, h2, h3⟩
  have e1 : Lib.byteCells (l ++ s.data.toList) = Lib.byteCells l ++ Lib.strCells s := by unfold Lib.byteCells Lib.strCells; simp
  unfold BldF
  rw [e1]
  exact Or.inr h1
theorem bldStrK (B b : Nat) (l : List UInt8) (w : World) (h : BldF B b l w) (hB : B ≤ w.heap.size) :
    Calls Tryz.prog 79 #[.pointer (some ⟨b, 0, none⟩)] w fun e w' => e = .returned (.string (ofL l)) ∧ Below B w w' ∧ Lib.OthersKept (blRen.t 5) (some b) w w' := by
  refine (Any.Builder_String_any_k bl_Lays_n169 blExtra B b l w h hB).mono ?_
  rintro e w' ⟨rfl, _, h2, h3⟩
  exact ⟨rfl, h2, h3⟩
theorem bldLen (B b : Nat) (l : List UInt8) (w : World) (h : BldF B b l w) :
    Calls Tryz.prog 78 #[.pointer (some ⟨b, 0, none⟩)] w fun e w' => e = .returned (.int .i64 (l.length : Int)) ∧ w' = w := by
  refine (Any.Builder_Len_f bl_Lays_n170 B b _ w h).mono ?_
  rintro e w' ⟨rfl, h1⟩
  exact ⟨by rw [Lib.byteCells_length], h1⟩
end Go.Proofs.YtngkiokibldfjaaGreatDoor
namespace Go.Proofs.YtngkiokibldfjaaGreatDoor
open Go.RowKit
set_option linter.unusedVariables false
/-! All right records of a range: the program's readAll. -/
abbrev fra (a b : Int) (c : Bool) (x y z u : Int) : Array Value := #[.int .i64 a, .int .i64 b, .bool c, .int .i64 x, .int .i64 y, .int .i64 z, .int .i64 u]
theorem RowAt.set7 {w : World} {g : Nat} {t : TypeId} {u0 u1 u2 u3 u4 u5 u6 : Value} (h : RowAt w g t #[u0, u1, u2, u3, u4, u5, u6]) (v0 v1 v2 v3 v4 v5 v6 : Value) :
    RowAt (((((((w.setCell ⟨g, 0, none⟩ v0).setCell ⟨g, 1, none⟩ v1).setCell ⟨g, 2, none⟩ v2).setCell ⟨g, 3, none⟩ v3).setCell ⟨g, 4, none⟩ v4).setCell ⟨g, 5, none⟩ v5).setCell ⟨g, 6, none⟩ v6) g t #[v0, v1, v2, v3, v4, v5, v6] := by
  have h0 : RowAt (w.setCell ⟨g, 0, none⟩ v0) g t #[v0, u1, u2, u3, u4, u5, u6] := h.set 0 v0
  have h1 : RowAt ((w.setCell ⟨g, 0, none⟩ v0).setCell ⟨g, 1, none⟩ v1) g t #[v0, v1, u2, u3, u4, u5, u6] := h0.set 1 v1
  generalize (w.setCell ⟨g, 0, none⟩ v0).setCell ⟨g, 1, none⟩ v1 = w1 at h1 ⊢
  have h2 : RowAt (w1.setCell ⟨g, 2, none⟩ v2) g t #[v0, v1, v2, u3, u4, u5, u6] := h1.set 2 v2
  have h3 : RowAt ((w1.setCell ⟨g, 2, none⟩ v2).setCell ⟨g, 3, none⟩ v3) g t #[v0, v1, v2, v3, u4, u5, u6] := h2.set 3 v3
  generalize (w1.setCell ⟨g, 2, none⟩ v2).setCell ⟨g, 3, none⟩ v3 = w3 at h3 ⊢
  have h4 : RowAt (w3.setCell ⟨g, 4, none⟩ v4) g t #[v0, v1, v2, v3, v4, u5, u6] := h3.set 4 v4
  have h5 : RowAt ((w3.setCell ⟨g, 4, none⟩ v4).setCell ⟨g, 5, none⟩ v5) g t #[v0, v1, v2, v3, v4, v5, u6] := h4.set 5 v5
  generalize (w3.setCell ⟨g, 4, none⟩ v4).setCell ⟨g, 5, none⟩ v5 = w5 at h5 ⊢
  exact h5.set 6 v6
/-- eight facts: a frame in its box, and the data -/
def SevD (w : World) (bx X : Nat) (d : ByteArray) (a b : Int) (c : Bool) (x y z u : Int) : Prop :=
  w.cell? ⟨bx, 0, none⟩ = some (.int .i64 a) ∧ w.cell? ⟨bx, 1, none⟩ = some (.int .i64 b) ∧ w.cell? ⟨bx, 2, none⟩ = some (.bool c) ∧ w.cell? ⟨bx, 3, none⟩ = some (.int .i64 x) ∧ w.cell? ⟨bx, 4, none⟩ = some (.int .i64 y) ∧ w.cell? ⟨bx, 5, none⟩ = some (.int .i64 z) ∧ w.cell? ⟨bx, 6, none⟩ = some (.int .i64 u) ∧ w.cell? ⟨X, 0, none⟩ = some (.string d)
theorem SevD.mk {w : World} {bx X : Nat} {d : ByteArray} {a b x y z u : Int} {c : Bool} {t : TypeId} {cs : Array Value} (h : RowAt w bx 110 (fra a b c x y z u)) (hX : RowAt w X t cs) (h0 : cs[0]? = some (.string d)) : SevD w bx X d a b c x y z u :=
  ⟨h.cell 0, h.cell 1, h.cell 2, h.cell 3, h.cell 4, h.cell 5, h.cell 6, (hX.cell 0).trans h0⟩
def lenV' : Value → Nat | .slice _ n _ => n | _ => 0
/-- what stands while readAll is under way -/
structure RaS (ea eb : Addr) (ex : Sx) (X mb : Nat) (d : ByteArray) (NK : List ByteArray) (w W : World) (v : Value) (P : List (Fr × Nat)) (NK' : List ByteArray) (hv pv : Value) (n m : Nat) : Prop where
  tb : Tbl ex (X + 1) X d W hv pv n m
  nm : NumsAt W mb NK'
  er : Errs W ea eb
  ow : OwnFl W w.heap.size v P
  nl : P = [] → v = .slice none 0 0
  fk : FlK d NK' P
  xt : Ext NK NK'
  ln : NK'.length ≤ NK.length + P.length
  tg : TG [72, 2] true X w W
def RaQ (ea eb : Addr) (ex : Sx) (X mb : Nat) (d : ByteArray) (NK : List ByteArray) (p e : Nat) (w : World) (r : Ending) (w' : World) : Prop :=
  ∃ v P NK' hv pv n m, r = .returned v ∧ RaS ea eb ex X mb d NK w w' v P NK' hv pv n m ∧ P.map Prod.fst = rg d (e - p) p
theorem RaS.below {ea eb : Addr} {ex : Sx} {X mb : Nat} {d : ByteArray} {NK NK' : List ByteArray} {w W W' : World} {v : Value} {P : List (Fr × Nat)} {hv pv : Value} {n m : Nat} (h : RaS ea eb ex X mb d NK w W v P NK' hv pv n m) (hX : X ≤ w.heap.size) (hb : Below W.heap.size W W') : RaS ea eb ex X mb d NK w W' v P NK' hv pv n m :=
  ⟨h.tb.far hb, h.nm.below hb, h.er.below hb, OwnFl.belowA h.ow hb, h.nl, h.fk, h.xt, h.ln, h.tg.trans (TG.of_below _ _ hb (Nat.le_trans hX h.tg.size))⟩
/-- .. ahead of the append of a record that has its number -/
structure RaM (ea eb : Addr) (ex : Sx) (X mb : Nat) (d : ByteArray) (NK : List ByteArray) (w W : World) (v : Value) (P : List (Fr × Nat)) (NK' : List ByteArray) (hv pv : Value) (n m : Nat) : Prop where
  tb : Tbl ex (X + 1) X d W hv pv n m
  nm : NumsAt W mb NK'
  er : Errs W ea eb
  ow : OwnFl W w.heap.size v P
  fk : FlK d NK' P
  xt : Ext NK NK'
  ln : NK'.length ≤ NK.length + (P.length + 1)
  tg : TG [72, 2] true X w W
theorem RaS.num {ea eb : Addr} {ex : Sx} {X mb : Nat} {d : ByteArray} {NK NK' NK2 : List ByteArray} {w W W' : World} {v : Value} {P : List (Fr × Nat)} {hv pv : Value} {n m : Nat} (h : RaS ea eb ex X mb d NK w W v P NK' hv pv n m) (hX : X ≤ w.heap.size) (hm : X ≤ mb + 1) (hl : ErrsLo (X - 1) ea eb) (hN : NumsAt W' mb NK2) (hx : Ext NK' NK2) (hn : NK2.length ≤ NK'.length + 1) (hg : W.grownBy W' (some mb)) : RaM ea eb ex X mb d NK w W' v P NK2 hv pv n m := by
  have sz := Nat.le_trans hX h.tg.size
  have g : TG [] true X W W' := TG.mapped [] hg h.nm sz hm
  exact ⟨h.tb.tg g (by simp) (by simp), hN, g.errs h.er hl sz, g.own h.ow (by simp), h.fk.ext hx, h.xt.trans hx, by have := h.ln; omega, h.tg.trans (g.weak (by simp) (by simp))⟩
theorem RaM.below {ea eb : Addr} {ex : Sx} {X mb : Nat} {d : ByteArray} {NK NK' : List ByteArray} {w W W' : World} {v : Value} {P : List (Fr × Nat)} {hv pv : Value} {n m : Nat} (h : RaM ea eb ex X mb d NK w W v P NK' hv pv n m) (hX : X ≤ w.heap.size) (hb : Below W.heap.size W W') : RaM ea eb ex X mb d NK w W' v P NK' hv pv n m :=
  ⟨h.tb.far hb, h.nm.below hb, h.er.below hb, OwnFl.belowA h.ow hb, h.fk, h.xt, h.ln, h.tg.trans (TG.of_below _ _ hb (Nat.le_trans hX h.tg.size))⟩
theorem RaM.app {ea eb : Addr} {ex : Sx} {X mb : Nat} {d : ByteArray} {NK NK' : List ByteArray} {w W W' : World} {v v' : Value} {P : List (Fr × Nat)} {y : Fr × Nat} {hv pv : Value} {n m : Nat} (h : RaM ea eb ex X mb d NK w W v P NK' hv pv n m) (hX : X ≤ w.heap.size) (hl : ErrsLo (X - 1) ea eb) (hy : NK'[y.2]? = some (rcK d (some y.1))) (hg : W.grownBy W' v.ownBlock) (ho : OwnFl W' w.heap.size v' (P ++ [y])) : RaS ea eb ex X mb d NK w W' v' (P ++ [y]) NK' hv pv n m := by
  have sz := Nat.le_trans hX h.tg.size
  have g : TG [112] false X W W' := TG.grown false hg sz fun k hk => by
    obtain ⟨q1, _, cs, hr⟩ := orRow h.ow hk
    exact ⟨by omega, _, cs, hr, by simp⟩
  refine ⟨h.tb.tg g (by decide) (by decide), g.nums h.nm, g.errs h.er hl sz, ho, fun e => ?_, h.fk.snoc hy, h.xt, ?_, h.tg.fresh hX hg fun k hk => (orRow h.ow hk).1⟩
  · have := congrArg List.length e
    simp at this
  · have := h.ln
    rw [List.length_append]
    simpa using this
/-- a box that is no part of it has turned -/
theorem RaS.box {ea eb : Addr} {ex : Sx} {X mb b : Nat} {d : ByteArray} {NK NK' : List ByteArray} {w W W' : World} {v : Value} {P : List (Fr × Nat)} {hv pv : Value} {n m : Nat} {t : TypeId} {cs : Array Value} (h : RaS ea eb ex X mb d NK w W v P NK' hv pv n m) (hX : X ≤ w.heap.size) (hl : ErrsLo (X - 1) ea eb) (hr : RowAt W b t cs) (hb : w.heap.size ≤ b) (h1 : t ≠ 72) (h2 : t ≠ 2) (h3 : t ≠ 112) (hg : W.grownBy W' (some b)) : RaS ea eb ex X mb d NK w W' v P NK' hv pv n m := by
  have sz := Nat.le_trans hX h.tg.size
  have g : TG [t] false X W W' := TG.grown false hg sz fun k hk => by
    obtain rfl := Option.some.inj hk
    exact ⟨by omega, _, cs, hr, by simp⟩
  exact ⟨h.tb.tg g (by simpa using h1.symm) (by simpa using h2.symm), g.nums h.nm, g.errs h.er hl sz, g.own h.ow (by simpa using h3.symm), h.nl, h.fk, h.xt, h.ln, h.tg.fresh hX hg fun k hk => by have := Option.some.inj hk; omega⟩
set_option maxRecDepth 20000 in
set_option maxHeartbeats 4000000 in
theorem iReadAll (ea eb : Addr) (ex : Sx) (X mb : Nat) (d : ByteArray) (NK : List ByteArray) (p e : Nat) (hpe : p ≤ e) (he : e ≤ d.size) (hs : d.size ≤ 300000) (hlo : ErrsLo (X - 1) ea eb) (hv pv : Value) (n m : Nat) (w : World) (hE : Errs w ea eb) (T : Tbl ex (X + 1) X d w hv pv n m) (hc : ex.c = .map (some mb)) (hM : NumsAt w mb NK) (hmb : X ≤ mb + 1) (hNK : NK.length ≤ 1000000000) :
    Calls Tryz.prog 68 #[.pointer (some ⟨X, 0, none⟩), .int .i64 (p : Nat), .int .i64 (e : Nat)] w fun r w' => RaQ ea eb ex X mb d NK p e w r w' := by
  have KF := fun (q : Nat) (hq : q ≤ e) hv pv n m W hE T => hid (find_all ex (X + 1) X d q e hq he (by omega) ea eb (hlo.up (by omega)) hv pv n m W hE T)
  have XW : Hid (X ≤ w.heap.size) := Nat.le_of_lt T.blk.lt
  have I0 : Hid (RaS ea eb ex X mb d NK w w (.slice none 0 0) [] NK hv pv n m) := ⟨T, hM, hE, OwnFl.nil _ _, fun _ => rfl, (fun p hp => by cases hp), Ext.refl _, by simp, TG.refl _ _ _ _⟩
  have HLO := hid hlo
  have HS := hid hs
  have HE := hid he
  have HC := hid hc
  have HMB := hid hmb
  have HNK := hid hNK
  have HPE := hid hpe
  clear hE T hc hM hmb hNK hlo hs he hpe
  go_enter Tryz.func68, Tryz.ntmps68
  go_wp2_with fail
  refine (KF p HPE.out _ _ _ _ w I0.out.er I0.out.tb).out.mono ?_
  rintro r w1 ⟨hF, hv1, pv1, n1, m1, T1, S1⟩
  obtain ⟨a, b, c, x, y, z, u, ok, rfl, hN⟩ := hF.next
  have g1 := I0.out.tb.step_tg S1 true
  have I1 : Hid (RaS ea eb ex X mb d NK w w1 (.slice none 0 0) [] NK hv1 pv1 n1 m1) := ⟨T1, (I0.out.tb.step_tg S1 false).nums I0.out.nm, g1.errs I0.out.er HLO.out XW.out, OwnFl.nil _ _, fun _ => rfl, (fun p hp => by cases hp), Ext.refl _, by simp, g1⟩
  have HN := hid hN
  clear hF T1 S1 g1 hN I0
  obtain ⟨W2, hW2⟩ : ∃ W, W = w1.alloc (.cells (fra a b c x y z u) 110) := ⟨_, rfl⟩
  have B2 : Hid (RowAt W2 w1.heap.size 110 (fra a b c x y z u)) := by rw [hW2]; exact RowAt.new _ _ _
  have I2 := hid (I1.out.below XW.out (show Below w1.heap.size w1 W2 by rw [hW2]; exact (Below.refl _ _).alloc (Nat.le_refl _) _))
  have L2 : Hid (w.heap.size ≤ w1.heap.size) := I1.out.tg.size
  unfold fra at hW2
  go_upto_region 3 with fail
  rw [← hW2]
  clear hW2 I1
  go_loopw [7, 8, 9] (fun vl vb vo wr => ∃ (vL : Value) (q bx : Nat) (a b : Int) (c : Bool) (x y z u : Int) (ok : Bool) (P : List (Fr × Nat)) (NK' : List ByteArray) (hv pv : Value) (n m : Nat), vL = vl ∧ vb = .pointer (some ⟨bx, 0, none⟩) ∧ vo = .bool ok ∧ p ≤ q ∧ q ≤ e ∧ w.heap.size ≤ bx ∧ RowAt wr bx 110 (fra a b c x y z u) ∧ NextF d q e a b c x y z u ok ∧ P.map Prod.fst = rg d (q - p) p ∧ RaS ea eb ex X mb d NK w wr vL P NK' hv pv n m) (fun vl _ _ _ => e - p + 1 - lenV' vl)
  case atStart => exact ⟨_, p, w1.heap.size, a, b, c, x, y, z, u, ok, [], NK, hv1, pv1, n1, m1, rfl, rfl, rfl, Nat.le_refl _, HPE.out, L2.out, B2.out, HN.out, by rw [Nat.sub_self]; rfl, I2.out⟩
  case round =>
    clear B2 HN I2 L2
    obtain ⟨vL, q, bx, a, b, c, x, y, z, u, ok, P, NK', hv2, pv2, n2, m2, rfl, rfl, rfl, hpq, hqe, hbx, hB, hN, hP, hI⟩ := hrel
    rcases hN with ⟨rfl, f, hf, hq, hfe, hno, rfl, rfl, rfl, rfl, rfl, rfl, rfl⟩ | ⟨rfl, hno⟩
    · have hin := getRec_in d f.at' f hf
      have hPQ := hid (And.intro hpq (And.intro hqe (And.intro hq hfe)))
      have P2 : Hid (P.map Prod.fst ++ [f] = rg d (f.at' + 1 - p) p) := by show _ = _; rw [hP, rg_snoc d p q f hpq hf hq hno]
      have PL : Hid (P.length + 1 ≤ e - p) := by
        have := congrArg List.length P2.out
        have h2 := rg_len d (f.at' + 1 - p) p
        simp only [List.length_append, List.length_map, List.length_cons, List.length_nil] at this
        show _ ≤ _
        omega
      have PB : Hid (P.length + 1 ≤ 300000) := by have := PL.out; have := HE.out; have := HS.out; show _ ≤ _; omega
      have IN : Hid (f.kat + f.ksz ≤ d.size ∧ f.ksz ≤ 1048576) := by have := hin; have := HS.out; show _ ∧ _; omega
      have B0 := hid hB
      have I0 := hid hI
      have BX := hid hbx
      have S0 : Hid (SevD wr bx X d (f.kat : Nat) (f.ksz : Nat) f.gone (f.bat : Nat) (f.bsz : Nat) (f.at' : Nat) (f.next : Nat)) := SevD.mk hB hI.tb.blk rfl
      have KO := fun W => hid (iOf d f.kat f.ksz (by have := HS.out; omega) IN.out.1 W)
      have KEY : Hid (d.extract f.kat (f.kat + f.ksz) = rcK d (some f)) := rfl
      obtain ⟨key, hkey⟩ : ∃ k, k = d.extract f.kat (f.kat + f.ksz) := ⟨_, rfl⟩
      rw [← hkey] at KO KEY
      have KZ : Hid (key.size ≤ 1048576) := by rw [hkey]; show _ ≤ _; rw [ByteArray.size_extract]; have := HS.out; omega
      have KN : ∀ W, RaS ea eb ex X mb d NK w W vL P NK' hv2 pv2 n2 m2 → RowAt W bx 110 (fra (f.kat : Nat) (f.ksz : Nat) f.gone (f.bat : Nat) (f.bsz : Nat) (f.at' : Nat) (f.next : Nat)) → Hid (Calls Tryz.prog 88 #[.pointer (some ⟨X, 0, none⟩), .string key] W fun e6 w6 => ∃ (j : Nat) (NK2 : List ByteArray), e6 = .returned (.int .i64 (j : Int)) ∧ NK2[j]? = some key ∧ RaM ea eb ex X mb d NK w w6 vL P NK2 hv2 pv2 n2 m2 ∧ RowAt w6 bx 110 (fra (f.kat : Nat) (f.ksz : Nat) f.gone (f.bat : Nat) (f.bsz : Nat) (f.at' : Nat) (f.next : Nat))) := fun W hI hB =>
        hid ((iNum X mb #[.string d, hv2, pv2, ex.a, ex.b, ex.c, ex.d, ex.e] NK' key KZ.out (by have := I0.out.ln; have := HNK.out; have := PB.out; omega) W hI.tb.blk (by show some ex.c = _; rw [HC.out]) hI.nm).mono (by
          rintro e6 w6 ⟨j, NK2, rfl, hj, hN2, hx2, hl2, hg6⟩
          exact ⟨j, NK2, rfl, hj, hI.num XW.out HMB.out HLO.out hN2 hx2 hl2 hg6, (hg6.block bx hB.lt (fun e => hI.nm.ne hB (Option.some.inj e))).trans hB⟩))
      obtain ⟨aL, cL, hvL⟩ := orSlice I0.out.ow
      obtain ⟨nL, hnL⟩ : ∃ n, n = P.length := ⟨_, rfl⟩
      rw [← hnL] at hvL
      have HNL := hid hnL
      subst hvL
      clear hnL
      have FH := hid hf
      clear hkey hin hpq hqe hbx hB hP hI hno hq hfe hf
      obtain ⟨ka, ks, gn, ba, bs, fa, fx⟩ := f
      dsimp only at S0 KO FH KN B0 hPQ IN P2 KEY
      obtain ⟨y0, y1, y2, y3, y4, y5, y6, x0⟩ := S0.out
      go_upto_region 5 with fail
      go_region_held3 (fun wx => wx.cell? ⟨bx, 0, none⟩ = some (.int .i64 (ka : Nat)) ∧ wx.cell? ⟨bx, 1, none⟩ = some (.int .i64 (ks : Nat)) ∧ wx.cell? ⟨bx, 2, none⟩ = some (.bool gn) ∧ wx.cell? ⟨bx, 3, none⟩ = some (.int .i64 (ba : Nat)) ∧ wx.cell? ⟨bx, 4, none⟩ = some (.int .i64 (bs : Nat)) ∧ wx.cell? ⟨bx, 5, none⟩ = some (.int .i64 (fa : Nat)) ∧ wx.cell? ⟨bx, 6, none⟩ = some (.int .i64 (fx : Nat)) ∧ wx.cell? ⟨X, 0, none⟩ = some (.string d)) (first | exact S0.out | exact S5.out | exact S6.out | exact S9.out | exact S7.out | (go_keep; done))
        (first
          | (go_at_call 74; refine (KO _).out.mono ?_; rintro e5 w5 ⟨rfl, hb5⟩; have b5 : Hid (Below wr.heap.size wr w5) := (by first | exact hb5 | exact (Below.refl _ _).drew.trans hb5); have I5 := hid (I0.out.below XW.out b5.out); have B5 := hid (B0.out.below b5.out B0.out.lt); have S5 := hid (SevD.mk B5.out I5.out.tb.blk rfl); clear hb5)
          | (go_at_call 88; refine (KN _ I5.out B5.out).out.mono ?_; rintro e6 w6 ⟨j, NK2, rfl, hj, hI6, hB6⟩; have I6 := hid hI6; have B6 := hid hB6; have S6 := hid (SevD.mk B6.out I6.out.tb.blk rfl); have b9 : Below w6.heap.size w6 (w6.alloc (.cells #[.int .i64 (ka : Nat), .int .i64 (ks : Nat), .bool gn, .int .i64 (ba : Nat), .int .i64 (bs : Nat), .int .i64 (fa : Nat), .int .i64 (fx : Nat), .int .i64 (j : Nat)] 112)) := (Below.refl _ _).alloc (Nat.le_refl _) _; have I9 := hid (I6.out.below XW.out b9); have B9 := hid (B6.out.below b9 B6.out.lt); have S9 := hid (SevD.mk B9.out I9.out.tb.blk rfl); have HJ := hid hj; clear hI6 hB6 b9 hj)
          | (refine step_append_fl w.heap.size _ (by rfl) _ _ (by rfl) (.slice aL nL cL) P ((⟨ka, ks, gn, ba, bs, fa, fx⟩, j) : Fr × Nat) (by rfl) (by exact I9.out.ow) (by exact I9.out.tg.size) w6.heap.size (by exact RowAt.new _ _ _) (by rfl) (by have := PB.out; omega) ?_; intro g7 c7 w7 hO7 hg7 hl7; have I7 := hid (I9.out.app XW.out HLO.out (by rw [HJ.out, KEY.out]) hg7 hO7); have B7 : Hid (RowAt w7 bx 110 (fra (ka : Nat) (ks : Nat) gn (ba : Nat) (bs : Nat) (fa : Nat) (fx : Nat))) := (hg7.block bx B9.out.lt (fun e => by obtain ⟨_, _, cs', r'⟩ := orRow I9.out.ow e.symm; exact row_neX B9.out r' (by decide) rfl)).trans B9.out; have S7 := hid (SevD.mk B7.out I7.out.tb.blk rfl); clear hO7 hg7 hl7))
      obtain ⟨z0, z1, z2, z3, z4, z5, z6, x7⟩ := S7.out
      clear y0 y1 y2 y3 y4 y5 y6 x0 S0 S5 S6 S9 I5 B5 I6 B6 I9 B9 b5 KO KN
      obtain ⟨P3, hP3⟩ : ∃ P3, P3 = P ++ [((⟨ka, ks, gn, ba, bs, fa, fx⟩, j) : Fr × Nat)] := ⟨_, rfl⟩
      have PM : Hid (P3.map Prod.fst = rg d (fa + 1 - p) p) := by show _ = _; rw [hP3, List.map_append]; exact P2.out
      have PL3 : Hid (P3.length = nL + 1) := by show _ = _; rw [hP3, List.length_append, HNL.out]; rfl
      rw [← hP3] at I7
      rw [← HNL.out] at I7 PL
      try rw [← HNL.out]
      clear hP3 S7 P2 HJ
      obtain ⟨W8, hW8⟩ : ∃ W, W = w7.alloc (.cells #[.int .i64 (ka : Nat), .int .i64 (ks : Nat), .bool gn, .int .i64 (ba : Nat), .int .i64 (bs : Nat), .int .i64 (fa : Nat), .int .i64 (fx : Nat)] 110) := ⟨_, rfl⟩
      have bb : Below w7.heap.size w7 W8 := by rw [hW8]; exact (Below.refl _ _).alloc (Nat.le_refl _) _
      obtain ⟨b8, hb8⟩ : ∃ b, b = w7.heap.size := ⟨_, rfl⟩
      have B8 : Hid (RowAt W8 b8 110 (fra (ka : Nat) (ks : Nat) gn (ba : Nat) (bs : Nat) (fa : Nat) (fx : Nat))) := by rw [hW8, hb8]; exact RowAt.new _ _ _
      have I8 := hid (I7.out.below XW.out bb)
      have L8 : Hid (w.heap.size ≤ b8) := by rw [hb8]; exact I7.out.tg.size
      go_upto_region 4 with fail
      rw [← hW8, ← hb8]
      clear hW8 hb8 bb z0 z1 z2 z3 z4 z5 z6 x7 I7
      have ec : ((fa + 1 : Nat) : Int) = (fa : Int) + 1 := by omega
      have KF2 : ∀ W, RaS ea eb ex X mb d NK w W (.slice (some ⟨g7, 0, none⟩) (nL + 1) c7) P3 NK2 hv2 pv2 n2 m2 → RowAt W b8 110 (fra (ka : Nat) (ks : Nat) gn (ba : Nat) (bs : Nat) (fa : Nat) (fx : Nat)) → Hid (Calls Tryz.prog 87 #[.pointer (some ⟨X, 0, none⟩), .int .i64 ((fa : Int) + 1), .int .i64 (e : Nat)] W fun r w9 => ∃ (a b : Int) (c : Bool) (x y z u : Int) (ok : Bool) (hv pv : Value) (n m : Nat), r = .returned (.tuple #[.agg #[.int .i64 a, .int .i64 b, .bool c, .int .i64 x, .int .i64 y, .int .i64 z, .int .i64 u], .bool ok]) ∧ NextF d (fa + 1) e a b c x y z u ok ∧ RaS ea eb ex X mb d NK w w9 (.slice (some ⟨g7, 0, none⟩) (nL + 1) c7) P3 NK2 hv pv n m ∧ RowAt w9 b8 110 (fra (ka : Nat) (ks : Nat) gn (ba : Nat) (bs : Nat) (fa : Nat) (fx : Nat))) := fun W hI hB => hid (by
        have q := (KF (fa + 1) (by have := hPQ.out; omega) _ _ _ _ W hI.er hI.tb).out
        rw [ec] at q
        refine q.mono ?_
        rintro r w9 ⟨hF, hv9, pv9, n9, m9, T9, S9⟩
        obtain ⟨a, b, c, x, y, z, u, ok, rfl, hN⟩ := hF.next
        have g := fun mp => hI.tb.step_tg S9 mp
        exact ⟨a, b, c, x, y, z, u, ok, hv9, pv9, n9, m9, rfl, hN, ⟨T9, (g false).nums hI.nm, (g true).errs hI.er HLO.out (Nat.le_trans XW.out hI.tg.size), (g true).own hI.ow (by decide), hI.nl, hI.fk, hI.xt, hI.ln, hI.tg.trans (g true)⟩, (g true).row _ _ _ hB (by decide)⟩)
      have wq : IntKind.i64.wrap ((fa : Int) + 1) = (fa : Int) + 1 := by simp [IntKind.wrap, IntKind.bits, IntKind.signed]; have := hPQ.out; have := HE.out; have := HS.out; omega
      have y5 := B8.out.cell 5
      go_region_law (first
          | (go_simp; go_at_call 87; refine (KF2 W8.drew (I8.out.below XW.out (Below.refl _ _).drew) B8.out.drew).out.mono ?_; rintro r w9 ⟨a9, b9, c9, x9, y9, z9, u9, ok9, hv9, pv9, n9, m9, rfl, hN9, hI9, hB9⟩; have I9 := hid hI9; have B9 := hid hB9; have N9 := hid hN9; have k0 := B9.out.cell 0; have k1 := B9.out.cell 1; have k2 := B9.out.cell 2; have k3 := B9.out.cell 3; have k4 := B9.out.cell 4; have k5 := B9.out.cell 5; have k6 := B9.out.cell 6; have f0 := B9.out.free 0; have f1 := B9.out.free 1; have f2 := B9.out.free 2; have f3 := B9.out.free 3; have f4 := B9.out.free 4; have f5 := B9.out.free 5; have f6 := B9.out.free 6; clear hN9 hI9 hB9))
      all_goals (try simp [Act.put])
      all_goals go_wp2
      all_goals
        obtain ⟨W10, hW10⟩ : ∃ W, W = (((((((w9.setCell ⟨b8, 0, none⟩ (.int .i64 a9)).setCell ⟨b8, 1, none⟩ (.int .i64 b9)).setCell ⟨b8, 2, none⟩ (.bool c9)).setCell ⟨b8, 3, none⟩ (.int .i64 x9)).setCell ⟨b8, 4, none⟩ (.int .i64 y9)).setCell ⟨b8, 5, none⟩ (.int .i64 z9)).setCell ⟨b8, 6, none⟩ (.int .i64 u9)) := ⟨_, rfl⟩
        rw [← hW10]
        have R10 : Hid (RowAt W10 b8 110 (fra a9 b9 c9 x9 y9 z9 u9)) := by rw [hW10]; exact B9.out.set7 _ _ _ _ _ _ _
        have G10 : Hid (w9.grownBy W10 (some b8)) := by rw [hW10]; exact grown_trans (grown_trans (grown_trans (grown_trans (grown_trans (grown_trans grown_set grown_set) grown_set) grown_set) grown_set) grown_set) grown_set
        have I10 := hid (I9.out.box XW.out HLO.out B9.out L8.out (by decide) (by decide) (by decide) G10.out)
        clear hW10 G10 k0 k1 k2 k3 k4 k5 k6 f0 f1 f2 f3 f4 f5 f6 I8 B8 I9 B9 KF2 ec wq y5
        go_roundw
        case rel => exact ⟨_, fa + 1, b8, a9, b9, c9, x9, y9, z9, u9, ok9, P3, NK2, hv9, pv9, n9, m9, rfl, rfl, rfl, by have := hPQ.out; omega, by have := hPQ.out; omega, L8.out, R10.out, N9.out, PM.out, I10.out⟩
        case measure => simp only [lenV']; have := PL.out; omega
    · have FIN : Hid (RaQ ea eb ex X mb d NK p e w (.returned vL) wr) := ⟨vL, P, NK', hv2, pv2, n2, m2, rfl, hI, by rw [hP, rg_stop d p q e hpq hqe hno]⟩
      clear hI hP hno hB hbx hpq hqe
      go_wp2
      go_ret
      exact FIN.out
end Go.Proofs.YtngkiokibldfjaaGreatDoor
namespace Go.Proofs.YtngkiokibldfjaaGreatDoor
open Go.RowKit
set_option linter.unusedVariables false
/-! forget, size. -/
theorem OwnNums.pre {w : World} {base n c j : Nat} {e : TypeId} {k : IntKind} {a : Option Addr} {xs : List Int} (h : OwnNums w base e k (.slice a n c) xs) (hj : j ≤ n) : OwnNums w base e k (.slice a j c) (xs.take j) := by
  have hn : n = xs.length := by obtain ⟨a', c', hv⟩ := orSlice h; injection hv
  have hl : (xs.take j).length = j := by rw [List.length_take]; omega
  refine ⟨by rw [List.length_map, Nat.mul_one], ?_⟩
  rw [hl]
  rcases h.2 with ⟨h0, h1⟩ | ⟨g, cap, cur, he, hb, hr, hnc, hm, hsz, htk⟩
  · injection h0 with e1 e2 e3
    subst e1 e3
    obtain rfl : j = 0 := by omega
    exact .inl ⟨rfl, rfl⟩
  · injection he with e1 e2 e3
    subst e1 e3
    refine .inr ⟨g, c, cur, rfl, hb, hr, by omega, hm, hsz, ?_⟩
    have := congrArg (List.take (j * 1)) htk
    rw [List.take_take, Nat.min_eq_left (by omega)] at this
    rw [this, Nat.mul_one, List.map_take]
def Ret (e : Ending) : Prop := ∃ v, e = .returned v
set_option maxRecDepth 20000 in
set_option maxHeartbeats 2000000 in
theorem iForget (X fr n c : Nat) (a : Option Addr) (s0 c2 c3 c4 c5 c6 c7 : Value) (hn : n ≤ c) (hn2 : c ≤ 9223372036854775807) (hf : fr ≤ 1048576) (w : World) (h : RowAt w X 72 #[s0, .slice a n c, c2, c3, c4, c5, c6, c7]) :
    Calls Tryz.prog 64 #[.pointer (some ⟨X, 1, none⟩), .int .i64 (fr : Int)] w fun e w' => Ret e ∧ w.grownBy w' (some X) ∧ RowAt w' X 72 #[s0, .slice a (min n (fr + 1)) c, c2, c3, c4, c5, c6, c7] := by
  have H := hid h
  obtain ⟨k, hk⟩ : ∃ k, k = min n (fr + 1) := ⟨_, rfl⟩
  have hmin : min (n : Int) ((fr : Int) + 1) = (k : Int) := by omega
  have hkn : k ≤ n := by omega
  have wf : IntKind.i64.wrap ((fr : Int) + 1) = (fr : Int) + 1 := by rw [IntKind.wrap_i64]; omega
  have x1 : w.cell? ⟨X, 1, none⟩ = some (.slice a n c) := h.cell 1
  have f1 := h.free 1
  have k0 : (0 : Int) ≤ (k : Int) := by omega
  have k1 : (k : Int) ≤ (c : Int) := by omega
  rw [← hk]
  have FIN : Hid (w.grownBy (w.setCell ⟨X, 1, none⟩ (.slice a k c)).drew (some X) ∧ RowAt (w.setCell ⟨X, 1, none⟩ (.slice a k c)).drew X 72 #[s0, .slice a k c, c2, c3, c4, c5, c6, c7]) := ⟨grown_trans grown_set (below_grown (Below.refl _ _).drew _), (h.set 1 _).drew⟩
  clear h hk
  go_enter Tryz.func64, Tryz.ntmps64
  go_wp2_with fail
  cases a with
  | none =>
    go_region
    all_goals go_wp2
    all_goals go_end0
    all_goals exact ⟨⟨_, rfl⟩, FIN.out⟩
  | some ad =>
    go_region
    all_goals go_wp2
    all_goals go_end0
    all_goals exact ⟨⟨_, rfl⟩, FIN.out⟩
set_option maxRecDepth 20000 in
theorem iSize (X : Nat) (d : ByteArray) (w : World) (h : w.cell? ⟨X, 0, none⟩ = some (.string d)) :
    Calls Tryz.prog 69 #[.pointer (some ⟨X, 0, none⟩)] w fun e w' => e = .returned (.int .i64 (d.size : Int)) ∧ w' = w := by
  go_enter Tryz.func69, Tryz.ntmps69
  go_wp2
  go_ret
  exact ⟨rfl, rfl⟩
end Go.Proofs.YtngkiokibldfjaaGreatDoor
