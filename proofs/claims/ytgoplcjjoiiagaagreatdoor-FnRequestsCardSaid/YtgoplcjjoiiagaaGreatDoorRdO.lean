import Derived.Test.YtgoplcjjoiiagaaGreatDoorSFst
namespace Go.Proofs.YtgoplcjjoiiagaaGreatDoor
open Go.RowKit
/-! Requests read: what comes of it. -/
inductive RdR where
  | bad (line : Nat)
  | short
  | ok (m p : ByteArray) (Q H : List Hp) (b : ByteArray) (left : Nat)
def lenS : List UInt8 := [108, 101, 110, 103, 116, 104, 58, 32]
def lnP (l : List UInt8) : Prop := ∃ n, n ≤ 100000 ∧ l = Lib.decDigits n
/-- behind the line of the length -/
def rdE (m p : ByteArray) (Q H : List Hp) (line n : Nat) : List UInt8 → RdR
  | [] => .short
  | c :: B => if c = 10 then (if B.length < n then .short else .ok m p Q H (ofL (B.take n)) (B.length - n)) else .bad (line + 1)
open Classical in
/-- the lines behind the first -/
noncomputable def rdH (m p : ByteArray) (Q : List Hp) : Nat → Nat → List Hp → List UInt8 → RdR
  | 0, _, _, _ => .short
  | f + 1, line, H, R => match cutP [10] R with
    | none => .short
    | some (t, R') =>
      if lenS <+: t then (if lnP (t.drop 8) then rdE m p Q H line (numL (t.drop 8)) R' else .bad line)
      else match cutP [58, 32] t with
        | none => .bad line
        | some (nm, vl) => if rqP (mkRq m p Q (H ++ [(⟨ofL nm, ofL vl⟩ : Hp)]) ⟨#[]⟩) then rdH m p Q f (line + 1) (H ++ [(⟨ofL nm, ofL vl⟩ : Hp)]) R' else .bad line
noncomputable def rdO (rest : List UInt8) : RdR := match cutP [10] rest with
  | none => .short
  | some (t, R) => match fstO t with
    | none => .bad 1
    | some (m, p, Q) => rdH m p Q (R.length + 1) 2 [] R
open Classical in
noncomputable def readO (data : ByteArray) (a : Int) : RdR := if 0 ≤ a ∧ a ≤ (data.size : Int) then rdO ((data.data.toList.drop a.toNat).take 400000) else .bad 1
theorem rdO_none {R : List UInt8} (h : cutP [10] R = none) : rdO R = .short := by unfold rdO; rw [h]
theorem rdO_bad {R t R' : List UInt8} (h : cutP [10] R = some (t, R')) (h1 : fstO t = none) : rdO R = .bad 1 := by unfold rdO; rw [h]; dsimp only; rw [h1]
theorem rdO_go {R t R' : List UInt8} {m p : ByteArray} {Q : List Hp} (h : cutP [10] R = some (t, R')) (h1 : fstO t = some (m, p, Q)) : rdO R = rdH m p Q (R'.length + 1) 2 [] R' := by unfold rdO; rw [h]; dsimp only; rw [h1]
section
variable {m p : ByteArray} {Q H : List Hp} {f line : Nat} {R t R' : List UInt8}
theorem rdH_none (h : cutP [10] R = none) : rdH m p Q (f + 1) line H R = .short := by unfold rdH; rw [h]
theorem rdH_len (h : cutP [10] R = some (t, R')) (h1 : lenS <+: t) (h2 : lnP (t.drop 8)) : rdH m p Q (f + 1) line H R = rdE m p Q H line (numL (t.drop 8)) R' := by unfold rdH; rw [h]; dsimp only; rw [if_pos h1, if_pos h2]
theorem rdH_lenBad (h : cutP [10] R = some (t, R')) (h1 : lenS <+: t) (h2 : ¬ lnP (t.drop 8)) : rdH m p Q (f + 1) line H R = .bad line := by unfold rdH; rw [h]; dsimp only; rw [if_pos h1, if_neg h2]
theorem rdH_bad (h : cutP [10] R = some (t, R')) (h1 : ¬ lenS <+: t) (h2 : cutP [58, 32] t = none) : rdH m p Q (f + 1) line H R = .bad line := by unfold rdH; rw [h]; dsimp only; rw [if_neg h1, h2]
theorem rdH_no {nm vl : List UInt8} (h : cutP [10] R = some (t, R')) (h1 : ¬ lenS <+: t) (h2 : cutP [58, 32] t = some (nm, vl)) (h3 : ¬ rqP (mkRq m p Q (H ++ [(⟨ofL nm, ofL vl⟩ : Hp)]) ⟨#[]⟩)) : rdH m p Q (f + 1) line H R = .bad line := by unfold rdH; rw [h]; dsimp only; rw [if_neg h1, h2]; dsimp only; rw [if_neg h3]
theorem rdH_go {nm vl : List UInt8} (h : cutP [10] R = some (t, R')) (h1 : ¬ lenS <+: t) (h2 : cutP [58, 32] t = some (nm, vl)) (h3 : rqP (mkRq m p Q (H ++ [(⟨ofL nm, ofL vl⟩ : Hp)]) ⟨#[]⟩)) : rdH m p Q (f + 1) line H R = rdH m p Q f (line + 1) (H ++ [(⟨ofL nm, ofL vl⟩ : Hp)]) R' := by
  conv => lhs; unfold rdH
  rw [h]; dsimp only; rw [if_neg h1, h2]; dsimp only; rw [if_pos h3]
end
end Go.Proofs.YtgoplcjjoiiagaaGreatDoor
