import Derived.Test.YtkcjigelenofhaaGreatDoorR1
import Derived.Maps.OwnSet
import Derived.Maps.Views
import Derived.Test.YtkcjigelenofhaaGreatDoorPut
import Derived.Deep.RegionHeld3
import Derived.Deep.DrawnRows
import Derived.BigQuiet
import Derived.Deep.QuietTactic
import Derived.Shelf.Pu.Clone
import Derived.Test.YtkcjigelenofhaaGreatDoorG8
import Derived.OwnWalk
namespace Go.Proofs.YtkcjigelenofhaaGreatDoor
open Go.RowKit
def kN (o : Nat → Hp) (k : Nat) : Lit := .string (o k).nm.data.toList
def plD (o : Nat → Hp) : Nat → DataW Unit
 | 0 => .map []
 | k + 1 => (plD o k).put (kN o k) (.lit (.int .i64 (k : Int)))
theorem kN_key (o : Nat → Hp) (k : Nat) : WideAt.IsKeyLit (kN o k) := trivial
theorem plD_tidy (o : Nat → Hp) : ∀ n, Maps.Tidy (plD o n)
 | 0 => Maps.tidy_empty
 | n + 1 => (plD_tidy o n).put (kN_key o n) _
theorem kN_inj {o : Nat → Hp} {i k : Nat} : kN o i = kN o k ↔ (o i).nm = (o k).nm := by
 unfold kN
 constructor
 · intro h
   have h2 : (o i).nm.data.toList = (o k).nm.data.toList := by injection h
   cases hi : (o i).nm
   cases hk : (o k).nm
   rw [hi, hk] at h2
   congr 1
   exact Array.toList_inj.1 h2
 · intro h; rw [h]
theorem plD_has (o : Nat → Hp) (x : Lit) : ∀ n, Maps.has (plD o n) x = true ↔ ∃ i, i < n ∧ kN o i = x
 | 0 => by simp [plD, Maps.has]
 | n + 1 => by
  by_cases h : x = kN o n
  · subst h
    exact ⟨fun _ => ⟨n, by omega, rfl⟩, fun _ => Maps.has_put_same (plD_tidy o n).isMap (kN_key o n) _⟩
  · show Maps.has ((plD o n).put (kN o n) _) x = true ↔ _
    rw [Maps.has_put_other h, plD_has o x n]
    constructor
    · rintro ⟨i, hi, e⟩; exact ⟨i, by omega, e⟩
    · rintro ⟨i, hi, e⟩
      rcases Nat.lt_or_ge i n with h1 | h1
      · exact ⟨i, h1, e⟩
      · have : i = n := by omega
        subst this
        exact absurd e.symm h
theorem plD_size_le (o : Nat → Hp) : ∀ n, Maps.size (plD o n) ≤ n
 | 0 => Nat.le_refl _
 | n + 1 => by
  have h := plD_size_le o n
  show Maps.size ((plD o n).put (kN o n) _) ≤ _
  rw [Maps.size_put (plD_tidy o n)]
  split <;> omega
theorem plD_size (o : Nat → Hp) : ∀ n, Maps.size (plD o n) = n ↔ ∀ i, i < n → ∀ k, k < i → (o i).nm ≠ (o k).nm
 | 0 => ⟨fun _ i hi => absurd hi (Nat.not_lt_zero _), fun _ => rfl⟩
 | n + 1 => by
  have ih := plD_size o n
  have hl := plD_size_le o n
  have e : Maps.size (plD o (n + 1)) = if Maps.has (plD o n) (kN o n) then Maps.size (plD o n) else Maps.size (plD o n) + 1 := Maps.size_put (plD_tidy o n) _
  rw [e]
  by_cases hh : Maps.has (plD o n) (kN o n) = true
  · rw [if_pos hh]
    obtain ⟨i, hi, q⟩ := (plD_has o _ n).1 hh
    exact ⟨fun h => absurd h (by omega), fun h => absurd (kN_inj.1 q).symm (h n (by omega) i hi)⟩
  · rw [if_neg hh]
    constructor
    · intro h i hi k hk
      rcases Nat.lt_or_ge i n with h1 | h1
      · exact ih.1 (by omega) i h1 k hk
      · have : i = n := by omega
        subst this
        exact fun q => hh ((plD_has o _ i).2 ⟨k, hk, kN_inj.2 q.symm⟩)
    · intro h
      have := ih.2 fun i hi k hk => h i (by omega) k hk
      omega
theorem plD_at (o : Nat → Hp) (n : Nat) (hd : ∀ i, i < n → ∀ k, k < i → (o i).nm ≠ (o k).nm) (i : Nat) (hi : i < n) (z : DataW Unit) : (plD o n).atKey (kN o i) z = .lit (.int .i64 (i : Int)) := by
 induction n with
 | zero => omega
 | succ n ih =>
  show ((plD o n).put (kN o n) _).atKey _ _ = _
  rcases Nat.lt_or_ge i n with h1 | h1
  · rw [Maps.atKey_put_other (fun q => hd n (by omega) i h1 (kN_inj.1 q).symm)]
    exact ih (fun a ha => hd a (by omega)) h1
  · have : i = n := by omega
    subst this
    exact Maps.atKey_put_same (plD_tidy o i).isMap (kN_key o i) _ _
theorem wf64 (n : Int) (h0 : 0 ≤ n) (h1 : n ≤ 9223372036854775807) : (Lit.int .i64 n).wf = true := by
 have a : IntKind.i64.min = -9223372036854775808 := rfl
 have b : IntKind.i64.max = 9223372036854775807 := rfl
 show (decide (IntKind.i64.min ≤ n) && decide (n ≤ IntKind.i64.max)) = true
 rw [a, b]
 simp
 omega
theorem lawS : Maps.Keyed Tryz.prog 9 := Maps.string_keyed Tryz.underlying9
theorem mkMap (n : Nat) (w : World) : (Instr.makeMap 116 (some (.int .i64 (n : Int)))).run Tryz.prog w = .ok (.map (some w.heap.size)) (w.alloc (.map #[] 0)) := by
 simp [Instr.makeMap, run_underlying Tryz.underlying116, asInt, asIntOf]
set_option maxRecDepth 20000 in
set_option maxHeartbeats 2000000 in
theorem iPlaces (a : Option Addr) (n cap : Nat) (o : Nat → Hp) (hn : n ≤ 1048576) (hs : ∀ i, i < n → (o i).nm.size ≤ 1048576) (w : World) (h : Hps w a n cap o) :
 Calls Tryz.prog 100 #[.slice a n cap] w fun e w' => ∃ b, e = .returned (.map (some b)) ∧ w'.ownsMap Tryz.prog 9 (plainElem Tryz.prog 3) b n (plD o n) ∧ w.heap.size ≤ b ∧ Below w.heap.size w w' := by
 have HH := hid h
 have HS := hid hs
 clear h hs
 have hmk := fun wx => mkMap n wx
 go_enter Tryz.func100, Tryz.ntmps100
 go_wp2_with fail
 go_loopw [11] (fun q wr => ∃ k : Nat, k ≤ n ∧ q = .int .i64 k ∧ wr.ownsMap Tryz.prog 9 (plainElem Tryz.prog 3) w.heap.size k (plD o k) ∧ Below w.heap.size w wr) (fun q _ => n - (intOf q).toNat)
 case atStart => exact ⟨0, Nat.zero_le _, rfl, World.ownsMap_made w _ _ _, (Below.refl _ _).alloc (Nat.le_refl _) _⟩
 case round =>
  obtain ⟨k, hk, rfl, hM, hB⟩ := hrel
  have HM := hid hM
  have HB := hid hB
  clear hB hM hmk
  by_cases hlt : k < n
  · have hlt' : (k : Int) < (n : Int) := by omega
    have k0 : (0 : Int) ≤ (k : Int) := by omega
    rcases (HH.out.below HB.out).2 with h00 | ⟨b, off, rfl, hbl, hc⟩
    · omega
    obtain ⟨c0, c1⟩ := hc k hlt
    have hsz := HS.out k hlt
    have HKY : Hid (keyOf Tryz.prog 9 (.string (o k).nm) = some (kN o k)) := WideMaps.keyOf_string_mk Tryz.underlying9 (by unfold maxLen; omega)
    have HEL : Hid (plainElem (H := Unit) Tryz.prog 3 (.int .i64 (k : Int)) = some (.lit (.int .i64 (k : Int)), [])) := plainElem_int Tryz.underlying3 (wf64 _ (by omega) (by omega))
    obtain ⟨X0, hX0⟩ : ∃ v, v = (o k).nm := ⟨_, rfl⟩
    obtain ⟨X1, hX1⟩ : ∃ v, v = (o k).vl := ⟨_, rfl⟩
    rw [← hX0] at c0 HKY hsz
    rw [← hX1] at c1
    clear hc hX0 hX1
    go_wp2_with (first | (refine wpList_mapUpdate_own (H := Unit) _ rfl (.tmp 16) (.tmp 18) (.tmp 19) 116 rfl 9 3 lawS Tryz.underlying116 (plainElem Tryz.prog 3) w.heap.size k (plD o k) rfl (HM.out.alloc _) (by unfold maxLen; omega) (.string X0) (.int .i64 (k : Int)) (kN o k) rfl rfl HKY.out _ _ HEL.out ?_) | go_in)
    intro w2 hM2 hg2
    have M2 := hid hM2
    have B2 : Hid (Below w.heap.size w w2) := (HB.out.alloc HB.out.size _).grown hg2 (Nat.le_trans HB.out.size (by simp)) (by intro j hj; cases hj; exact Nat.le_refl _)
    clear hM2 hg2 HM HB c0 c1
    go_wp2
    go_roundw
    case rel => exact ⟨k + 1, by omega, by go_num, M2.out, B2.out⟩
    case measure => simp [intOf]; omega
  · have hkn : k = n := by omega
    subst hkn
    go_wp2
    go_ret
    exact ⟨_, rfl, HM.out, Nat.le_refl _, HB.out⟩
end Go.Proofs.YtkcjigelenofhaaGreatDoor
namespace Go.Proofs.YtkcjigelenofhaaGreatDoor
open Go.RowKit
end Go.Proofs.YtkcjigelenofhaaGreatDoor
namespace Go.Proofs.YtkcjigelenofhaaGreatDoor
open Go.RowKit Go.Shelf
def cloneRen : Ren := ⟨fun x => if x = 25 then 95 else x, fun x => if x = 37 then 22 else if x = 47 then 136 else if x = 9 then 9 else if x = 5 then 5 else if x = 3 then 3 else if x = 4 then 4 else x, fun x => x⟩
theorem cloneLays : LaysPu.n25 Tryz.prog cloneRen := { mixed := by kernel_rfl, f25 := by kernel_rfl, t0 := by kernel_rfl, a0 := fun _ => by kernel_rfl, z0 := fun _ => by kernel_rfl, v0 := fun _ => by kernel_rfl, i0 := by kernel_rfl, t3 := by kernel_rfl, a3 := fun _ => by kernel_rfl, z3 := fun _ => by kernel_rfl, v3 := fun _ => by kernel_rfl, i3 := by kernel_rfl, t4 := by kernel_rfl, a4 := fun _ => by kernel_rfl, z4 := fun _ => by kernel_rfl, v4 := fun _ => by kernel_rfl, i4 := by kernel_rfl, t5 := by kernel_rfl, a5 := fun _ => by kernel_rfl, z5 := fun _ => by kernel_rfl, v5 := fun _ => by kernel_rfl, i5 := by kernel_rfl, t9 := by kernel_rfl, a9 := fun _ => by kernel_rfl, z9 := fun _ => by kernel_rfl, v9 := fun _ => by kernel_rfl, i9 := by kernel_rfl, t37 := by kernel_rfl, a37 := fun _ => by kernel_rfl, z37 := fun _ => by kernel_rfl, v37 := fun _ => by kernel_rfl, i37 := by kernel_rfl, t47 := by kernel_rfl, a47 := fun _ => by kernel_rfl, z47 := fun _ => by kernel_rfl, v47 := fun _ => by kernel_rfl, i47 := by kernel_rfl }
theorem lite_clone (s : ByteArray) (w : World) (hs : s.size ≤ 281474976710656) :
 Calls Tryz.prog 95 #[.string s] w fun e w' => e = .returned (.string s) ∧ Below w.heap.size w w' := AnyPu.stringslite_Clone cloneLays s w hs
set_option maxHeartbeats 400000 in
theorem clone_any (s : ByteArray) (w : World) (hs : s.size ≤ 281474976710656) :
 Calls Tryz.prog 57 #[.string s] w fun e w' => e = .returned (.string s) ∧ Below w.heap.size w w' := by
 go_enter Tryz.func57, Tryz.ntmps57
 go_wp2_with fail
 refine (lite_clone s _ hs).mono ?_
 rintro e w1 ⟨rfl, hb⟩
 go_wp2
 go_ret
 exact ⟨rfl, hb⟩
end Go.Proofs.YtkcjigelenofhaaGreatDoor
namespace Go.Proofs.YtkcjigelenofhaaGreatDoor
open Go.RowKit
set_option linter.unusedVariables false
theorem make_hps {P : Program} (base : Nat) (w : World) {ops : Array Oper} {rest : List Oper} {o : Oper} {a : Act} {Q : Exit → Act → World → Prop}
 (hg : o.guard = none) (l c : Operand) (t : TypeId) (hop : o.op = Op.makeSlice t l c)
 (ht : P.underlying t = some (.slice 66)) (hinfo : (P.info? 66).map (fun i => (i.zero, i.size, i.bytes)) = some (some hz2, 2, 32))
 (kl kc : IntKind) (C : Int) (n : Nat) (hl : a.eval l = .int kl 0) (hc : a.eval c = .int kc C) (hC : C = (n : Int)) (hn : n ≤ 1048576) (hb : base ≤ w.heap.size)
 (hK : ∀ w', OwnHp w' base (.slice (some ⟨w.heap.size, 0, none⟩) 0 n) [] → w.grownBy w' none → wpList P ops Q rest (a.put o.dst (.slice (some ⟨w.heap.size, 0, none⟩) 0 n)) w') :
 wpList P ops Q (o :: rest) a w := by
 obtain ⟨i0, hi, hz0, hz1, hz2⟩ := info_parts hinfo
 refine wpList_make_own w hg l c t hop base 66 i0 _ 2 ht hi hz0 hz1 kl kc C n hl hc hC ?_ (by unfold maxLen; omega) hb ?_
 · rw [hz2]; omega
 · intro w' h1 h2
   exact hK w' h1 h2
def clpo0 : Oper := ⟨some 15, .move (.tmp 3), 23, "l10_request.go:374", #[], none⟩
def clpo1 : Oper := ⟨some 16, .fieldAddr 66 (.tmp 5) 0, 0, "l10_request.go:374", #[], none⟩
def clpo2 : Oper := ⟨some 17, .load 9 (.tmp 16), 9, "l10_request.go:374", #[⟨1, .data⟩], none⟩
def clpo3 : Oper := ⟨some 18, .call { callee := .value (.func 57), args := #[.tmp 17], argTypes := #[9] }, 9, "l10_request.go:374", #[⟨2, .data⟩], none⟩
def clpo4 : Oper := ⟨some 19, .fieldAddr 66 (.tmp 5) 1, 0, "l10_request.go:374", #[], none⟩
def clpo5 : Oper := ⟨some 20, .load 9 (.tmp 19), 9, "l10_request.go:374", #[⟨4, .data⟩], none⟩
def clpo6 : Oper := ⟨some 21, .call { callee := .value (.func 57), args := #[.tmp 20], argTypes := #[9] }, 9, "l10_request.go:374", #[⟨5, .data⟩, ⟨3, .chain⟩], none⟩
def clpo7 : Oper := ⟨some 22, .build 66 #[(0, .tmp 18), (1, .tmp 21)], 66, "l10_request.go:374", #[⟨3, .data⟩, ⟨6, .data⟩], none⟩
def clpo8 : Oper := ⟨some 23, .buildSlice 23 1 #[(0, .tmp 22)], 23, "l10_request.go:374", #[⟨7, .data⟩], none⟩
def clpo9 : Oper := ⟨some 24, .call { callee := .builtin Builtin.append, args := #[.tmp 15, .tmp 23], argTypes := #[23, 23] }, 23, "l10_request.go:374", #[⟨0, .data⟩, ⟨8, .data⟩, ⟨6, .chain⟩], none⟩
def clpo10 : Oper := ⟨some 3, .assign (.tmp 24), 23, "l10_request.go:374", #[⟨9, .data⟩, ⟨9, .chain⟩, ⟨0, .phase⟩, ⟨1, .phase⟩, ⟨2, .phase⟩, ⟨3, .phase⟩, ⟨4, .phase⟩, ⟨5, .phase⟩, ⟨6, .phase⟩, ⟨7, .phase⟩, ⟨8, .phase⟩, ⟨9, .phase⟩], none⟩
def clpO : Array Oper := #[clpo0, clpo1, clpo2, clpo3, clpo4, clpo5, clpo6, clpo7, clpo8, clpo9, clpo10]
structure clpP where
 (w0 : World)
 (B XP : Nat)
 (nm vl : ByteArray)
 (aL : Option Addr)
 (cL : Nat)
 (L : List Hp)
 (s0 s1 s2 s4 s6 s7 s8 s9 s10 s11 s12 s13 s14 s15 s16 s17 s18 s19 s20 s21 s22 s23 s24 s25 s26 : Value)
def clpT (P : clpP) (XS : Nat) (G : Nat) (CP : Nat) (b0 b1 b2 b3 b4 b5 b6 b7 b8 b9 b10 : Bool) : Array Value := #[P.s0, P.s1, P.s2, selS b10 (.slice (some ⟨G, 0, none⟩) (P.L.length + 1) CP) (.slice P.aL P.L.length P.cL), P.s4, .pointer (some ⟨P.XP, 0, none⟩), P.s6, P.s7, P.s8, P.s9, P.s10, P.s11, P.s12, P.s13, P.s14, selS b0 (.slice P.aL P.L.length P.cL) (P.s15), selS b1 (.pointer (some ⟨P.XP, 0, none⟩)) (P.s16), selS b2 (.string P.nm) (P.s17), selS b3 (.string P.nm) (P.s18), selS b4 (.pointer (some ⟨P.XP, 1, none⟩)) (P.s19), selS b5 (.string P.vl) (P.s20), selS b6 (.string P.vl) (P.s21), selS b7 (.agg #[.string P.nm, .string P.vl]) (P.s22), selS b8 (.slice (some ⟨XS, 0, none⟩) 1 1) (P.s23), selS b9 (.slice (some ⟨G, 0, none⟩) (P.L.length + 1) CP) (P.s24), P.s25, P.s26]
def clpF (P : clpP) (XS : Nat) (G : Nat) (CP : Nat) (b0 b1 b2 b3 b4 b5 b6 b7 b8 b9 b10 : Bool) (w : World) : Prop := (Below P.w0.heap.size P.w0 w) ∧ (b9 = false → RowAt w P.XP 66 #[.string P.nm, .string P.vl]) ∧ (b9 = false → OwnHp w P.B (.slice P.aL P.L.length P.cL) P.L) ∧ (b9 = true → OwnHp w P.B (.slice (some ⟨G, 0, none⟩) (P.L.length + 1) CP) (P.L ++ [(⟨P.nm, P.vl⟩ : Hp)])) ∧ (b8 = true → b9 = false → RowAt w XS 66 (hpL [(⟨P.nm, P.vl⟩ : Hp)]).toArray) ∧ (P.B ≤ w.heap.size) ∧ (P.L.length ≤ 1000000) ∧ (P.w0.heap.size ≤ P.B) ∧ (∀ wx, Calls Tryz.prog 57 #[.string P.nm] wx fun e w' => e = .returned (.string P.nm) ∧ Below wx.heap.size wx w') ∧ (∀ wx, Calls Tryz.prog 57 #[.string P.vl] wx fun e w' => e = .returned (.string P.vl) ∧ Below wx.heap.size wx w')
def clpI (P : clpP) (l : Array Bool) (f : Act) (w : World) : Prop :=
 ∃ (b0 b1 b2 b3 b4 b5 b6 b7 b8 b9 b10 : Bool) (XS : Nat) (G : Nat) (CP : Nat), l = #[b0, b1, b2, b3, b4, b5, b6, b7, b8, b9, b10] ∧ f = { tmps := clpT P XS G CP b0 b1 b2 b3 b4 b5 b6 b7 b8 b9 b10, defers := [] } ∧ clpF P XS G CP b0 b1 b2 b3 b4 b5 b6 b7 b8 b9 b10 w
theorem clpM {P : clpP} {b0 b1 b2 b3 b4 b5 b6 b7 b8 b9 b10 : Bool} (XS : Nat) (G : Nat) (CP : Nat) {l : Array Bool} {f : Act} {w : World} (hl : l = #[b0, b1, b2, b3, b4, b5, b6, b7, b8, b9, b10]) (hf : f = { tmps := clpT P XS G CP b0 b1 b2 b3 b4 b5 b6 b7 b8 b9 b10, defers := [] }) (h : clpF P XS G CP b0 b1 b2 b3 b4 b5 b6 b7 b8 b9 b10 w) : clpI P l f w := ⟨b0, b1, b2, b3, b4, b5, b6, b7, b8, b9, b10, XS, G, CP, hl, hf, h⟩
set_option maxRecDepth 20000 in
set_option maxHeartbeats 20000000 in
theorem clp_step {Q : Exit → Act → World → Prop} (P : clpP) (l : Array Bool) (f : Act) (w : World) (hC : Closed clpO l) (hI : clpI P l f w) (i : Nat) (h0 : l.getD i true = false) (o : Oper) (ho : clpO[i]? = some o) (h1 : ∀ e ∈ o.after, Region.binds .any e = true → l.getD e.on false = true) : wpOp Tryz.prog clpO Q i (clpI P (l.setIfInBounds i true)) f w := by
 obtain ⟨b0, b1, b2, b3, b4, b5, b6, b7, b8, b9, b10, XS, G, CP, rfl, rfl, hF⟩ := hI
 have hi : i < 11 := by
  rcases Nat.lt_or_ge i 11 with h | h
  · exact h
  · rw [show clpO[i]? = none from Array.getElem?_eq_none h] at ho; cases ho
 rcases (by omega : i = 0 ∨ i = 1 ∨ i = 2 ∨ i = 3 ∨ i = 4 ∨ i = 5 ∨ i = 6 ∨ i = 7 ∨ i = 8 ∨ i = 9 ∨ i = 10) with rfl | rfl | rfl | rfl | rfl | rfl | rfl | rfl | rfl | rfl | rfl
 · obtain rfl : clpo0 = o := Option.some.inj ho
   obtain rfl : b0 = false := h0
   have hn := wayN_all hC (i := 0) rfl [(9, 0), (10, 0)] [] nk rfl; repeat (obtain ⟨rfl, hn⟩ := hn)
   obtain ⟨hB, hxp, ho1, ho2, hXS, hBz, hLn, hst, hkn, hkv⟩ := hF
   refine wpOp_step (o := clpo0) rfl (fun K hK => ?_)
   replace hK := hid hK
   simp only [clpo0, clpT, selS_f]
   go_simp
   exact hK.out _ _ (clpM XS G CP rfl rfl ⟨hB, hxp, ho1, ho2, hXS, hBz, hLn, hst, hkn, hkv⟩)
 · obtain rfl : clpo1 = o := Option.some.inj ho
   obtain rfl : b1 = false := h0
   have hn := wayN_all hC (i := 1) rfl [(2, 1), (3, 2), (6, 3), (7, 3), (8, 7), (9, 6), (10, 1)] [] nk rfl; repeat (obtain ⟨rfl, hn⟩ := hn)
   obtain ⟨hB, hxp, ho1, ho2, hXS, hBz, hLn, hst, hkn, hkv⟩ := hF
   refine wpOp_step (o := clpo1) rfl (fun K hK => ?_)
   replace hK := hid hK
   simp only [clpo1, clpT, selS_f]
   go_simp
   exact hK.out _ _ (clpM XS G CP rfl rfl ⟨hB, hxp, ho1, ho2, hXS, hBz, hLn, hst, hkn, hkv⟩)
 · obtain rfl : clpo2 = o := Option.some.inj ho
   obtain rfl : b2 = false := h0
   have hn := wayP_all (o := clpo2) hC h1 [(1, none)] [] nk rfl; repeat (obtain ⟨rfl, hn⟩ := hn)
   have hn := wayN_all hC (i := 2) rfl [(3, 2), (6, 3), (7, 3), (8, 7), (9, 6), (10, 2)] [] nk rfl; repeat (obtain ⟨rfl, hn⟩ := hn)
   obtain ⟨hB, hxp, ho1, ho2, hXS, hBz, hLn, hst, hkn, hkv⟩ := hF
   have q0 := (hxp rfl).cell 0
   have q1 := (hxp rfl).cell 1
   refine wpOp_step (o := clpo2) rfl (fun K hK => ?_)
   replace hK := hid hK
   simp only [clpo2, clpT, selS_t, selS_f]
   go_simp
   exact hK.out _ _ (clpM XS G CP rfl rfl ⟨hB, hxp, ho1, ho2, hXS, hBz, hLn, hst, hkn, hkv⟩)
 · obtain rfl : clpo3 = o := Option.some.inj ho
   obtain rfl : b3 = false := h0
   have hn := wayP_all (o := clpo3) hC h1 [(2, none), (1, some 2)] [] nk rfl; repeat (obtain ⟨rfl, hn⟩ := hn)
   have hn := wayN_all hC (i := 3) rfl [(6, 3), (7, 3), (8, 7), (9, 6), (10, 3)] [] nk rfl; repeat (obtain ⟨rfl, hn⟩ := hn)
   obtain ⟨hB, hxp, ho1, ho2, hXS, hBz, hLn, hst, hkn, hkv⟩ := hF
   refine wpOp_step (o := clpo3) rfl (fun K hK => ?_)
   replace hK := hid hK
   simp only [clpo3, clpT, selS_t, selS_f]
   go_simp
   refine (hkn _).mono ?_
   rintro e w2 ⟨rfl, hb2⟩
   dsimp only
   exact hK.out _ _ (clpM XS G CP rfl rfl ⟨hB.trans (hb2.mono hB.size), fun h => RowAt.nxS hb2 (hxp h), fun h => OwnHp.next hb2 (ho1 h), fun h => Bool.noConfusion h, fun h => Bool.noConfusion h, Nat.le_trans hBz hb2.size, hLn, hst, hkn, hkv⟩)
 · obtain rfl : clpo4 = o := Option.some.inj ho
   obtain rfl : b4 = false := h0
   have hn := wayN_all hC (i := 4) rfl [(5, 4), (6, 5), (7, 6), (8, 7), (9, 6), (10, 4)] [] nk rfl; repeat (obtain ⟨rfl, hn⟩ := hn)
   obtain ⟨hB, hxp, ho1, ho2, hXS, hBz, hLn, hst, hkn, hkv⟩ := hF
   refine wpOp_step (o := clpo4) rfl (fun K hK => ?_)
   replace hK := hid hK
   simp only [clpo4, clpT, selS_f]
   go_simp
   exact hK.out _ _ (clpM XS G CP rfl rfl ⟨hB, hxp, ho1, ho2, hXS, hBz, hLn, hst, hkn, hkv⟩)
 · obtain rfl : clpo5 = o := Option.some.inj ho
   obtain rfl : b5 = false := h0
   have hn := wayP_all (o := clpo5) hC h1 [(4, none)] [] nk rfl; repeat (obtain ⟨rfl, hn⟩ := hn)
   have hn := wayN_all hC (i := 5) rfl [(6, 5), (7, 6), (8, 7), (9, 6), (10, 5)] [] nk rfl; repeat (obtain ⟨rfl, hn⟩ := hn)
   obtain ⟨hB, hxp, ho1, ho2, hXS, hBz, hLn, hst, hkn, hkv⟩ := hF
   have q0 := (hxp rfl).cell 0
   have q1 := (hxp rfl).cell 1
   refine wpOp_step (o := clpo5) rfl (fun K hK => ?_)
   replace hK := hid hK
   simp only [clpo5, clpT, selS_t, selS_f]
   go_simp
   exact hK.out _ _ (clpM XS G CP rfl rfl ⟨hB, hxp, ho1, ho2, hXS, hBz, hLn, hst, hkn, hkv⟩)
 · obtain rfl : clpo6 = o := Option.some.inj ho
   obtain rfl : b6 = false := h0
   have hn := wayP_all (o := clpo6) hC h1 [(5, none), (3, none), (4, some 5), (2, some 3), (1, some 2)] [] nk rfl; repeat (obtain ⟨rfl, hn⟩ := hn)
   have hn := wayN_all hC (i := 6) rfl [(7, 6), (8, 7), (9, 6), (10, 6)] [] nk rfl; repeat (obtain ⟨rfl, hn⟩ := hn)
   obtain ⟨hB, hxp, ho1, ho2, hXS, hBz, hLn, hst, hkn, hkv⟩ := hF
   refine wpOp_step (o := clpo6) rfl (fun K hK => ?_)
   replace hK := hid hK
   simp only [clpo6, clpT, selS_t, selS_f]
   go_simp
   refine (hkv _).mono ?_
   rintro e w2 ⟨rfl, hb2⟩
   dsimp only
   exact hK.out _ _ (clpM XS G CP rfl rfl ⟨hB.trans (hb2.mono hB.size), fun h => RowAt.nxS hb2 (hxp h), fun h => OwnHp.next hb2 (ho1 h), fun h => Bool.noConfusion h, fun h => Bool.noConfusion h, Nat.le_trans hBz hb2.size, hLn, hst, hkn, hkv⟩)
 · obtain rfl : clpo7 = o := Option.some.inj ho
   obtain rfl : b7 = false := h0
   have hn := wayP_all (o := clpo7) hC h1 [(6, none), (3, none), (5, some 6), (4, some 5), (2, some 3), (1, some 2)] [] nk rfl; repeat (obtain ⟨rfl, hn⟩ := hn)
   have hn := wayN_all hC (i := 7) rfl [(8, 7), (9, 8), (10, 7)] [] nk rfl; repeat (obtain ⟨rfl, hn⟩ := hn)
   obtain ⟨hB, hxp, ho1, ho2, hXS, hBz, hLn, hst, hkn, hkv⟩ := hF
   refine wpOp_step (o := clpo7) rfl (fun K hK => ?_)
   replace hK := hid hK
   simp only [clpo7, clpT, selS_t, selS_f]
   go_simp
   exact hK.out _ _ (clpM XS G CP rfl rfl ⟨hB, hxp, ho1, ho2, hXS, hBz, hLn, hst, hkn, hkv⟩)
 · obtain rfl : clpo8 = o := Option.some.inj ho
   obtain rfl : b8 = false := h0
   have hn := wayP_all (o := clpo8) hC h1 [(7, none), (3, some 7), (6, some 7), (5, some 6), (4, some 5), (2, some 3), (1, some 2)] [] nk rfl; repeat (obtain ⟨rfl, hn⟩ := hn)
   have hn := wayN_all hC (i := 8) rfl [(9, 8), (10, 8)] [] nk rfl; repeat (obtain ⟨rfl, hn⟩ := hn)
   obtain ⟨hB, hxp, ho1, ho2, hXS, hBz, hLn, hst, hkn, hkv⟩ := hF
   refine wpOp_step (o := clpo8) rfl (fun K hK => ?_)
   replace hK := hid hK
   simp only [clpo8, clpT, selS_t, selS_f]
   go_simp
   exact hK.out _ _ (clpM w.heap.size G CP rfl rfl ⟨hB.alloc hB.size _, fun h => (hxp h).alloc _, fun h => World.ownsRow.alloc (ho1 h) _, fun h => Bool.noConfusion h, fun _ _ => RowAt.new w _ _, by simp only [World.size_alloc]; omega, hLn, hst, hkn, hkv⟩)
 · obtain rfl : clpo9 = o := Option.some.inj ho
   obtain rfl : b9 = false := h0
   have hn := wayP_all (o := clpo9) hC h1 [(8, none), (6, none), (0, none), (7, some 8), (3, some 7), (5, some 6), (4, some 5), (2, some 3), (1, some 2)] [] nk rfl; repeat (obtain ⟨rfl, hn⟩ := hn)
   have hn := wayN_all hC (i := 9) rfl [(10, 9)] [] nk rfl; repeat (obtain ⟨rfl, hn⟩ := hn)
   obtain ⟨hB, hxp, ho1, ho2, hXS, hBz, hLn, hst, hkn, hkv⟩ := hF
   refine wpOp_step (o := clpo9) rfl (fun K hK => ?_)
   replace hK := hid hK
   have hO := ho1 rfl
   refine step_append_hps P.B _ (by rfl) _ _ 23 (by rfl) Tryz.underlying23 Tryz.infoHpG _ P.L [(⟨P.nm, P.vl⟩ : Hp)] (by simp) (by rfl) hO hBz XS (hXS rfl rfl) 1 rfl (by rfl) (by simp; omega) ?_
   intro g3 c3 w3 hO3 hg3 hl3
   exact hK.out _ _ (clpM XS g3 c3 rfl rfl ⟨hB.grown hg3 hB.size (fun g hg => by have := (World.ownsRow.lt hO _ hg).1; omega), fun h => Bool.noConfusion h, fun h => Bool.noConfusion h, fun _ => hO3, fun h e => Bool.noConfusion e, Nat.le_trans hBz hg3.size, hLn, hst, hkn, hkv⟩)
 · obtain rfl : clpo10 = o := Option.some.inj ho
   obtain rfl : b10 = false := h0
   have hn := wayP_all (o := clpo10) hC h1 [(9, none), (8, none), (7, none), (6, none), (5, none), (4, none), (3, none), (2, none), (1, none), (0, none)] [] nk rfl; repeat (obtain ⟨rfl, hn⟩ := hn)
   obtain ⟨hB, hxp, ho1, ho2, hXS, hBz, hLn, hst, hkn, hkv⟩ := hF
   refine wpOp_step (o := clpo10) rfl (fun K hK => ?_)
   replace hK := hid hK
   simp only [clpo10, clpT, selS_t, selS_f]
   go_simp
   exact hK.out _ _ (clpM XS G CP rfl rfl ⟨hB, hxp, ho1, ho2, hXS, hBz, hLn, hst, hkn, hkv⟩)
set_option maxRecDepth 20000 in
set_option maxHeartbeats 4000000 in
theorem clp_wp {Q : Exit → Act → World → Prop} {rid : Nat} (w0 : World) (B XP : Nat) (nm vl : ByteArray) (aL : Option Addr) (cL : Nat) (L : List Hp) {s0 s1 s2 s4 s6 s7 s8 s9 s10 s11 s12 s13 s14 s15 s16 s17 s18 s19 s20 s21 s22 s23 s24 s25 s26 : Value} (w : World) (hB : Below w0.heap.size w0 w) (hxp : RowAt w XP 66 #[.string nm, .string vl]) (ho1 : OwnHp w B (.slice aL L.length cL) L) (hBz : B ≤ w.heap.size) (hLn : L.length ≤ 1000000) (hst : w0.heap.size ≤ B) (hkn : ∀ wx, Calls Tryz.prog 57 #[.string nm] wx fun e w' => e = .returned (.string nm) ∧ Below wx.heap.size wx w') (hkv : ∀ wx, Calls Tryz.prog 57 #[.string vl] wx fun e w' => e = .returned (.string vl) ∧ Below wx.heap.size wx w')
 (fin : ∀ (XS : Nat) (G : Nat) (CP : Nat) (w' : World), (Below w0.heap.size w0 w') → (OwnHp w' B (.slice (some ⟨G, 0, none⟩) (L.length + 1) CP) (L ++ [(⟨nm, vl⟩ : Hp)])) → (B ≤ w'.heap.size) → (L.length ≤ 1000000) → (w0.heap.size ≤ B) → (∀ wx, Calls Tryz.prog 57 #[.string nm] wx fun e w' => e = .returned (.string nm) ∧ Below wx.heap.size wx w') → (∀ wx, Calls Tryz.prog 57 #[.string vl] wx fun e w' => e = .returned (.string vl) ∧ Below wx.heap.size wx w') → Q .normal { tmps := #[s0, s1, s2, .slice (some ⟨G, 0, none⟩) (L.length + 1) CP, s4, .pointer (some ⟨XP, 0, none⟩), s6, s7, s8, s9, s10, s11, s12, s13, s14, .slice aL L.length cL, .pointer (some ⟨XP, 0, none⟩), .string nm, .string nm, .pointer (some ⟨XP, 1, none⟩), .string vl, .string vl, .agg #[.string nm, .string vl], .slice (some ⟨XS, 0, none⟩) 1 1, .slice (some ⟨G, 0, none⟩) (L.length + 1) CP, s25, s26], defers := [] } w') :
 (Code.region rid clpO true).wp Tryz.prog Q { tmps := #[s0, s1, s2, .slice aL L.length cL, s4, .pointer (some ⟨XP, 0, none⟩), s6, s7, s8, s9, s10, s11, s12, s13, s14, s15, s16, s17, s18, s19, s20, s21, s22, s23, s24, s25, s26], defers := [] } w := by
 refine wp_region_inv (ops := clpO) (clpI ⟨w0, B, XP, nm, vl, aL, cL, L, s0, s1, s2, s4, s6, s7, s8, s9, s10, s11, s12, s13, s14, s15, s16, s17, s18, s19, s20, s21, s22, s23, s24, s25, s26⟩) (by kernel_rfl) (by kernel_rfl) (fun l f v hI => ?_) (fun l f v hC hI i h0 o ho h1 => clp_step ⟨w0, B, XP, nm, vl, aL, cL, L, s0, s1, s2, s4, s6, s7, s8, s9, s10, s11, s12, s13, s14, s15, s16, s17, s18, s19, s20, s21, s22, s23, s24, s25, s26⟩ l f v hC hI i h0 o ho h1) (fun l f v hI hall => ?_) ?_
 · obtain ⟨_, _, _, _, _, _, _, _, _, _, _, _, _, _, rfl, _⟩ := hI; rfl
 · obtain ⟨b0, b1, b2, b3, b4, b5, b6, b7, b8, b9, b10, XS, G, CP, rfl, rfl, hB, hxp, ho1, ho2, hXS, hBz, hLn, hst, hkn, hkv⟩ := hI
   have hn := allT hall [0, 1, 2, 3, 4, 5, 6, 7, 8, 9, 10] rfl; repeat (obtain ⟨rfl, hn⟩ := hn)
   exact fin XS G CP v hB (ho2 rfl) hBz hLn hst hkn hkv
 · exact ⟨false, false, false, false, false, false, false, false, false, false, false, 0, 0, 0, rfl, rfl, hB.drew, fun _ => hxp.drew, fun _ => World.ownsRow.drew ho1, fun h => Bool.noConfusion h, fun h => Bool.noConfusion h, hBz, hLn, hst, hkn, hkv⟩
set_option maxRecDepth 20000 in
set_option maxHeartbeats 4000000 in
theorem iClonePairs (a : Option Addr) (n cap : Nat) (o : Nat → Hp) (hn : n ≤ 1000000) (hs : ∀ i, i < n → (o i).nm.size ≤ 1048576 ∧ (o i).vl.size ≤ 1048576) (w : World) (h : Hps w a n cap o) :
 Calls Tryz.prog 42 #[.slice a n cap] w fun e w' => (∃ a' c', e = .returned (.slice a' n c') ∧ OwnHp w' w.heap.size (.slice a' n c') (hpList o n)) ∧ Below w.heap.size w w' := by
 have HH := hid h
 have HS := hid hs
 clear h hs
 go_enter Tryz.func42, Tryz.ntmps42
 go_wp2_with (refine make_hps w.heap.size w rfl _ (.tmp 7) 23 rfl Tryz.underlying23 Tryz.infoHpG .i64 .i64 (n : Int) n rfl rfl rfl (by omega) (Nat.le_refl _) ?_; intro w1 hO1 hg1)
 have B1 := hid ((Below.refl _ w).grown hg1 (Nat.le_refl _) (fun g hg => by cases hg))
 have O1 := hid hO1
 have s1 : w.heap.size ≤ w1.heap.size := hg1.size
 clear hO1 hg1
 go_loopw [11, 3] (fun q v wr => ∃ (k : Nat) (aL : Option Addr) (cL : Nat) (L : List Hp), k ≤ n ∧ q = .int .i64 (k : Int) ∧ L = hpList o k ∧ v = .slice aL L.length cL ∧ OwnHp wr w.heap.size (.slice aL L.length cL) L ∧ w.heap.size ≤ wr.heap.size ∧ Below w.heap.size w wr) (fun q _ _ => n - (intOf q).toNat)
 case atStart => exact ⟨0, _, _, [], Nat.zero_le _, rfl, rfl, rfl, O1.out, s1, B1.out⟩
 case round =>
  clear O1 B1
  obtain ⟨k, aL, cL, L, hk, rfl, hL, rfl, hO, hz, hB⟩ := hrel
  have HL := hid hL
  have HO := hid hO
  have HB := hid hB
  have lL : L.length ≤ 1000000 := by rw [hL, hpList_len]; omega
  clear hL hO hB
  by_cases hlt : k < n
  · have d1 : (k : Int) < (n : Int) := by omega
    have k0 : (0 : Int) ≤ (k : Int) := by omega
    rcases (HH.out.below HB.out).2 with q0 | ⟨b, off, rfl, hbl, hc⟩
    · omega
    obtain ⟨y0, y1⟩ := hc k hlt
    obtain ⟨z1, z2⟩ := HS.out k hlt
    have NX : Hid (hpList o (k + 1) = L ++ [o k]) := by show _ = _; rw [HL.out]; unfold hpList; rw [List.range_succ, List.map_append]; rfl
    clear hc
    generalize o k = T at y0 y1 z1 z2 NX
    obtain ⟨nm, vl⟩ := T
    dsimp only at y0 y1 z1 z2
    obtain ⟨W2, hW2⟩ : ∃ W, W = wr.alloc (.cells #[.string nm, .string vl] 66) := ⟨_, rfl⟩
    obtain ⟨XP, hXP⟩ : ∃ X, X = wr.heap.size := ⟨_, rfl⟩
    have RP : Hid (RowAt W2 XP 66 #[.string nm, .string vl]) := by rw [hW2, hXP]; exact RowAt.new _ _ _
    have O2 : Hid (OwnHp W2 w.heap.size (.slice aL L.length cL) L) := by rw [hW2]; exact World.ownsRow.alloc HO.out _
    have B2 : Hid (Below w.heap.size w W2) := by rw [hW2]; exact HB.out.alloc HB.out.size _
    have s2 : w.heap.size ≤ W2.heap.size := by rw [hW2]; simp; omega
    have HW2 := hid hW2
    have HXP := hid hXP
    clear hW2 hXP
    go_upto_region 5 with ((refine wpList_store_row rfl 66 (.tmp 5) (.tmp 14) rfl wr.heap.size #[.string nm, .string vl] rfl rfl _ _ (RowAt.new wr _ _) (by kernel_rfl) rfl (by simp [Value.oneCell']) ?_); rw [World.setRow_alloc_new])
    rw [← HW2.out, ← HXP.out]
    clear HW2 HXP y0 y1
    refine clp_wp w w.heap.size XP nm vl aL cL L W2 B2.out RP.out O2.out s2 lL (Nat.le_refl _) (fun wx => clone_any nm wx (by omega)) (fun wx => clone_any vl wx (by omega)) ?_
    intro XS G CP w3 hB3 ho2 hz3 _ _ _ _
    have B3 := hid hB3
    have O3 := hid ho2
    clear hB3 ho2 RP O2 B2 HO HB
    go_wp2
    go_roundw
    case rel => exact ⟨k + 1, some ⟨G, 0, none⟩, CP, L ++ [⟨nm, vl⟩], by omega, by go_num, NX.out.symm, by simp, by simpa using O3.out, hz3, B3.out⟩
    case measure => simp [intOf]; omega
  · have d1 : ¬ (k : Int) < (n : Int) := by omega
    have hkn : k = n := by omega
    subst hkn
    have lk : L.length = k := by rw [HL.out]; exact hpList_len _ _
    have FN : Hid ((∃ a' c', Ending.returned (Value.slice aL L.length cL) = .returned (.slice a' k c') ∧ OwnHp wr w.heap.size (.slice a' k c') (hpList o k)) ∧ Below w.heap.size w wr) := by
     refine ⟨⟨aL, cL, by rw [lk], ?_⟩, HB.out⟩
     have := HO.out
     rw [lk, HL.out] at this
     exact this
    clear lk
    go_wp2
    go_ret
    exact FN.out
end Go.Proofs.YtkcjigelenofhaaGreatDoor
