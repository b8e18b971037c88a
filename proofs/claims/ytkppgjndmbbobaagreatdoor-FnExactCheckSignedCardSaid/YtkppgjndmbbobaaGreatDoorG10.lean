import Derived.Test.YtkppgjndmbbobaaGreatDoorReqM
import Derived.Maps.OwnSet
import Derived.Maps.Views
import Derived.Test.YtkppgjndmbbobaaGreatDoorProg
import Derived.Test.YtkppgjndmbbobaaGreatDoorBase
import Derived.WalkLawsBesides
import Derived.WalkSpells
import Derived.OpenShut
import Derived.Laws.BitsAllLaws
import Derived.Deep.RegionHeld3
import Derived.Deep.DrawnRows
import Derived.BigQuiet
import Derived.Deep.QuietTactic
import Derived.Shelf.Pu.Clone
import Derived.Test.YtkppgjndmbbobaaGreatDoorG8
import Derived.OwnWalk
namespace Go.Proofs.YtkppgjndmbbobaaGreatDoor
open Go.RowKit
/-! Where each name stands: the program's placesOf. -/
def kN (o : Nat → Hp) (k : Nat) : Lit := .string (o k).nm.data.toList
def plD (o : Nat → Hp) : Nat → DataW Unit
  | 0 => .map []
  | k + 1 => (plD o k).put (kN o k) (.lit (.int .i64 (k : Int)))
theorem kN_key (o : Nat → Hp) (k : Nat) : WideAt.IsKeyLit (kN o k) := trivial
theorem plD_tidy (o : Nat → Hp) : ∀ n, Maps.Tidy (plD o n)
  | 0 => Maps.tidy_empty
  | n + 1 => (plD_tidy o n).put (kN_key o n) _
theorem kN_inj {o : Nat → Hp} {i k : Nat} : kN o i = kN o k ↔ (o i).nm = (o k).nm := by
  unfold kN
  constructor
  · intro h
    have h2 : (o i).nm.data.toList = (o k).nm.data.toList := by injection h
    cases hi : (o i).nm
    cases hk : (o k).nm
    rw [hi, hk] at h2
    congr 1
    exact Array.toList_inj.1 h2
  · intro h; rw [h]
theorem plD_has (o : Nat → Hp) (x : Lit) : ∀ n, Maps.has (plD o n) x = true ↔ ∃ i, i < n ∧ kN o i = x
  | 0 => by simp [plD, Maps.has]
  | n + 1 => by
    by_cases h : x = kN o n
    · subst h
      exact ⟨fun _ => ⟨n, by omega, rfl⟩, fun _ => Maps.has_put_same (plD_tidy o n).isMap (kN_key o n) _⟩
    · show Maps.has ((plD o n).put (kN o n) _) x = true ↔ _
      rw [Maps.has_put_other h, plD_has o x n]
      constructor
      · rintro ⟨i, hi, e⟩; exact ⟨i, by omega, e⟩
      · rintro ⟨i, hi, e⟩
        rcases Nat.lt_or_ge i n with h1 | h1
        · exact ⟨i, h1, e⟩
        · have : i = n := by omega
          subst this
          exact absurd e.symm h
theorem plD_size_le (o : Nat → Hp) : ∀ n, Maps.size (plD o n) ≤ n
  | 0 => Nat.le_refl _
  | n + 1 => by
    have h := plD_size_le o n
    show Maps.size ((plD o n).put (kN o n) _) ≤ _
    rw [Maps.size_put (plD_tidy o n)]
    split <;> omega
theorem plD_size (o : Nat → Hp) : ∀ n, Maps.size (plD o n) = n ↔ ∀ i, i < n → ∀ k, k < i → (o i).nm ≠ (o k).nm
  | 0 => ⟨fun _ i hi => absurd hi (Nat.not_lt_zero _), fun _ => rfl⟩
  | n + 1 => by
    have ih := plD_size o n
    have hl := plD_size_le o n
    have e : Maps.size (plD o (n + 1)) = if Maps.has (plD o n) (kN o n) then Maps.size (plD o n) else Maps.size (plD o n) + 1 := Maps.size_put (plD_tidy o n) _
    rw [e]
    by_cases hh : Maps.has (plD o n) (kN o n) = true
    · rw [if_pos hh]
      obtain ⟨i, hi, q⟩ := (plD_has o _ n).1 hh
      exact ⟨fun h => absurd h (by omega), fun h => absurd (kN_inj.1 q).symm (h n (by omega) i hi)⟩
    · rw [if_neg hh]
      constructor
      · intro h i hi k hk
        rcases Nat.lt_or_ge i n with h1 | h1
        · exact ih.1 (by omega) i h1 k hk
        · have : i = n := by omega
          subst this
          exact fun q => hh ((plD_has o _ i).2 ⟨k, hk, kN_inj.2 q.symm⟩)
      · intro h
        have := ih.2 fun i hi k hk => h i (by omega) k hk
        omega
/-- the last one that has the name -/
theorem plD_at (o : Nat → Hp) (n : Nat) (hd : ∀ i, i < n → ∀ k, k < i → (o i).nm ≠ (o k).nm) (i : Nat) (hi : i < n) (z : DataW Unit) : (plD o n).atKey (kN o i) z = .lit (.int .i64 (i : Int)) := by
  induction n with
  | zero => omega
  | succ n ih =>
    show ((plD o n).put (kN o n) _).atKey _ _ = _
    rcases Nat.lt_or_ge i n with h1 | h1
    · rw [Maps.atKey_put_other (fun q => hd n (by omega) i h1 (kN_inj.1 q).symm)]
      exact ih (fun a ha => hd a (by omega)) h1
    · have : i = n := by omega
      subst this
      exact Maps.atKey_put_same (plD_tidy o i).isMap (kN_key o i) _ _
theorem wf64 (n : Int) (h0 : 0 ≤ n) (h1 : n ≤ 9223372036854775807) : (Lit.int .i64 n).wf = true := by
  have a : IntKind.i64.min = -9223372036854775808 := rfl
  have b : IntKind.i64.max = 9223372036854775807 := rfl
  show (decide (IntKind.i64.min ≤ n) && decide (n ≤ IntKind.i64.max)) = true
  rw [a, b]
  simp
  omega
theorem lawS : Maps.Keyed Tryz.prog 9 := Maps.string_keyed Tryz.underlying9
theorem mkMap (n : Nat) (w : World) : (Instr.makeMap 116 (some (.int .i64 (n : Int)))).run Tryz.prog w = .ok (.map (some w.heap.size)) (w.alloc (.map #[] 0)) := by
  simp [Instr.makeMap, run_underlying Tryz.underlying116, asInt, asIntOf]
set_option maxRecDepth 20000 in
set_option maxHeartbeats 2000000 in
theorem iPlaces (a : Option Addr) (n cap : Nat) (o : Nat → Hp) (hn : n ≤ 1048576) (hs : ∀ i, i < n → (o i).nm.size ≤ 1048576) (w : World) (h : Hps w a n cap o) :
    Calls Tryz.prog 100 #[.slice a n cap] w fun e w' => ∃ b, e = .returned (.map (some b)) ∧ w'.ownsMap Tryz.prog 9 (plainElem Tryz.prog 3) b n (plD o n) ∧ w.heap.size ≤ b ∧ Below w.heap.size w w' := by
  have HH := hid h
  have HS := hid hs
  clear h hs
  have hmk := fun wx => mkMap n wx
  go_enter Tryz.func100, Tryz.ntmps100
  go_wp2_with fail
  go_loopw [11] (fun q wr => ∃ k : Nat, k ≤ n ∧ q = .int .i64 k ∧ wr.ownsMap Tryz.prog 9 (plainElem Tryz.prog 3) w.heap.size k (plD o k) ∧ Below w.heap.size w wr) (fun q _ => n - (intOf q).toNat)
  case atStart => exact ⟨0, Nat.zero_le _, rfl, World.ownsMap_made w _ _ _, (Below.refl _ _).alloc (Nat.le_refl _) _⟩
  case round =>
    obtain ⟨k, hk, rfl, hM, hB⟩ := hrel
    have HM := hid hM
    have HB := hid hB
    clear hB hM hmk
    by_cases hlt : k < n
    · have hlt' : (k : Int) < (n : Int) := by omega
      have k0 : (0 : Int) ≤ (k : Int) := by omega
      rcases (HH.out.below HB.out).2 with h00 | ⟨b, off, rfl, hbl, hc⟩
      · omega
      obtain ⟨c0, c1⟩ := hc k hlt
      have hsz := HS.out k hlt
      have HKY : Hid (keyOf Tryz.prog 9 (.string (o k).nm) = some (kN o k)) := WideMaps.keyOf_string_mk Tryz.underlying9 (by unfold maxLen; omega)
      have HEL : Hid (plainElem (H := Unit) Tryz.prog 3 (.int .i64 (k : Int)) = some (.lit (.int .i64 (k : Int)), [])) := plainElem_int Tryz.underlying3 (wf64 _ (by omega) (by omega))
      obtain ⟨X0, hX0⟩ : ∃ v, v = (o k).nm := ⟨_, rfl⟩
      obtain ⟨X1, hX1⟩ : ∃ v, v = (o k).vl := ⟨_, rfl⟩
      rw [← hX0] at c0 HKY hsz
      rw [← hX1] at c1
      clear hc hX0 hX1
      go_wp2_with (first | (refine wpList_mapUpdate_own (H := Unit) _ rfl (.tmp 16) (.tmp 18) (.tmp 19) 116 rfl 9 3 lawS Tryz.underlying116 (plainElem Tryz.prog 3) w.heap.size k (plD o k) rfl (HM.out.alloc _) (by unfold maxLen; omega) (.string X0) (.int .i64 (k : Int)) (kN o k) rfl rfl HKY.out _ _ HEL.out ?_) | go_in)
      intro w2 hM2 hg2
      have M2 := hid hM2
      have B2 : Hid (Below w.heap.size w w2) := (HB.out.alloc HB.out.size _).grown hg2 (Nat.le_trans HB.out.size (by simp)) (by intro j hj; cases hj; exact Nat.le_refl _)
      clear hM2 hg2 HM HB c0 c1
      go_wp2
      go_roundw
      case rel => exact ⟨k + 1, by omega, by go_num, M2.out, B2.out⟩
      case measure => simp [intOf]; omega
    · have hkn : k = n := by omega
      subst hkn
      go_wp2
      go_ret
      exact ⟨_, rfl, HM.out, Nat.le_refl _, HB.out⟩
end Go.Proofs.YtkppgjndmbbobaaGreatDoor
namespace Go.Proofs.YtkppgjndmbbobaaGreatDoor
open Go.RowKit
end Go.Proofs.YtkppgjndmbbobaaGreatDoor
namespace Go.Proofs.YtkppgjndmbbobaaGreatDoor
open Go.RowKit

/-! A cursor: a block of two cells, the data and the place. -/
/-! ### What takeNum comes to -/
end Go.Proofs.YtkppgjndmbbobaaGreatDoor
namespace Go.Proofs.YtkppgjndmbbobaaGreatDoor
open Go.RowKit Go.Shelf
/-- How the shelf's numbers read in this program. -/
def cloneRen : Ren := ⟨fun x => if x = 25 then 95 else x, fun x => if x = 37 then 22 else if x = 47 then 136 else if x = 9 then 9 else if x = 5 then 5 else if x = 3 then 3 else if x = 4 then 4 else x, fun x => x⟩
theorem cloneLays : LaysPu.n25 Tryz.prog cloneRen := { mixed := by kernel_rfl, f25 := by kernel_rfl, t0 := by kernel_rfl, a0 := fun _ => by kernel_rfl, z0 := fun _ => by kernel_rfl, v0 := fun _ => by kernel_rfl, i0 := by kernel_rfl, t3 := by kernel_rfl, a3 := fun _ => by kernel_rfl, z3 := fun _ => by kernel_rfl, v3 := fun _ => by kernel_rfl, i3 := by kernel_rfl, t4 := by kernel_rfl, a4 := fun _ => by kernel_rfl, z4 := fun _ => by kernel_rfl, v4 := fun _ => by kernel_rfl, i4 := by kernel_rfl, t5 := by kernel_rfl, a5 := fun _ => by kernel_rfl, z5 := fun _ => by kernel_rfl, v5 := fun _ => by kernel_rfl, i5 := by kernel_rfl, t9 := by kernel_rfl, a9 := fun _ => by kernel_rfl, z9 := fun _ => by kernel_rfl, v9 := fun _ => by kernel_rfl, i9 := by kernel_rfl, t37 := by kernel_rfl, a37 := fun _ => by kernel_rfl, z37 := fun _ => by kernel_rfl, v37 := fun _ => by kernel_rfl, i37 := by kernel_rfl, t47 := by kernel_rfl, a47 := fun _ => by kernel_rfl, z47 := fun _ => by kernel_rfl, v47 := fun _ => by kernel_rfl, i47 := by kernel_rfl }
theorem lite_clone (s : ByteArray) (w : World) (hs : s.size ≤ 281474976710656) :
    Calls Tryz.prog 95 #[.string s] w fun e w' => e = .returned (.string s) ∧ Below w.heap.size w w' := AnyPu.stringslite_Clone cloneLays s w hs
set_option maxHeartbeats 400000 in
theorem clone_any (s : ByteArray) (w : World) (hs : s.size ≤ 281474976710656) :
    Calls Tryz.prog 57 #[.string s] w fun e w' => e = .returned (.string s) ∧ Below w.heap.size w w' := by
  go_enter Tryz.func57, Tryz.ntmps57
  go_wp2_with fail
  refine (lite_clone s _ hs).mono ?_
  rintro e w1 ⟨rfl, hb⟩
  go_wp2
  go_ret
  exact ⟨rfl, hb⟩
end Go.Proofs.YtkppgjndmbbobaaGreatDoor
namespace Go.Proofs.YtkppgjndmbbobaaGreatDoor
open Go.RowKit
set_option linter.unusedVariables false
/-! The program's clonePairs (by genclone.py). -/
theorem make_hps {P : Program} (base : Nat) (w : World) {ops : Array Oper} {rest : List Oper} {o : Oper} {a : Act} {Q : Exit → Act → World → Prop}
    (hg : o.guard = none) (l c : Operand) (t : TypeId) (hop : o.op = Op.makeSlice t l c)
    (ht : P.underlying t = some (.slice 66)) (hinfo : (P.info? 66).map (fun i => (i.zero, i.size, i.bytes)) = some (some hz2, 2, 32))
    (kl kc : IntKind) (C : Int) (n : Nat) (hl : a.eval l = .int kl 0) (hc : a.eval c = .int kc C) (hC : C = (n : Int)) (hn : n ≤ 1048576) (hb : base ≤ w.heap.size)
    (hK : ∀ w', OwnHp w' base (.slice (some ⟨w.heap.size, 0, none⟩) 0 n) [] → w.grownBy w' none → wpList P ops Q rest (a.put o.dst (.slice (some ⟨w.heap.size, 0, none⟩) 0 n)) w') :
    wpList P ops Q (o :: rest) a w := by
  obtain ⟨i0, hi, hz0, hz1, hz2⟩ := info_parts hinfo
  refine wpList_make_own w hg l c t hop base 66 i0 _ 2 ht hi hz0 hz1 kl kc C n hl hc hC ?_ (by unfold maxLen; omega) hb ?_
  · rw [hz2]; omega
  · intro w' h1 h2
    exact hK w' h1 h2
end Go.Proofs.YtkppgjndmbbobaaGreatDoor
