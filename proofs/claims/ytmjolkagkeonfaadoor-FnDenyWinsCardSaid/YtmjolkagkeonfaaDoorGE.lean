import Derived.Test.YtmjolkagkeonfaaDoorBase
import Derived.Test.YtmjolkagkeonfaaDoorGA
import Derived.Test.YtmjolkagkeonfaaDoorProg
import Derived.Deep.RegionHeld3
import Derived.Deep.DrawnRows
import Derived.Deep.RegionLaw
import Derived.Lib.OthersKept
import Derived.Lib.FieldsP
import Derived.Laws.RangeString
import Derived.Laws.RangeAny
import Derived.Test.YtmjolkagkeonfaaDoorGC
import Derived.Test.YtmjolkagkeonfaaDoorGD
import Derived.WalkLawsBesides
import Derived.WalkSpells
import Derived.OpenShut
import Derived.Laws.BitsAllLaws
import Derived.BigQuiet
import Derived.Deep.QuietTactic
import Derived.Shelf.Pu.Clone
import Derived.Shelf.Strings.Split
import Derived.Shelf.Strings.FieldsFuncAny
namespace Go.Proofs.YtmjolkagkeonfaaDoor
open Go.RowKit
/-! Texts escaped and back. -/
def ePl (c : Nat) : Prop := (97 ≤ c ∧ c ≤ 122) ∨ (65 ≤ c ∧ c ≤ 90) ∨ (48 ≤ c ∧ c ≤ 57) ∨ c = 45 ∨ c = 95 ∨ c = 46 ∨ c = 47
instance (c : Nat) : Decidable (ePl c) := by unfold ePl; infer_instance
def eHx (n : Nat) : UInt8 := if n < 10 then UInt8.ofNat (48 + n) else UInt8.ofNat (55 + n)
def e1 (c : UInt8) : List UInt8 := if ePl c.toNat then [c] else [37, eHx (c.toNat / 16), eHx (c.toNat % 16)]
end Go.Proofs.YtmjolkagkeonfaaDoor
namespace Go.Proofs.YtmjolkagkeonfaaDoor
open Go.RowKit
/-! The specification's Escape. -/
end Go.Proofs.YtmjolkagkeonfaaDoor
namespace Go.Proofs.YtmjolkagkeonfaaDoor
open Go.RowKit
/-! The program's kinds of signs; runes. -/
end Go.Proofs.YtmjolkagkeonfaaDoor
namespace Go.Proofs.YtmjolkagkeonfaaDoor
open Go.RowKit
/-! What reading a policy gives, as plain data. -/
def atB (l : List ByteArray) (i : Nat) : ByteArray := l.getD i ⟨#[]⟩
def atC (l : List Cn) (i : Nat) : Cn := l.getD i ⟨0, ⟨#[]⟩, 0⟩
theorem atB_get {l : List ByteArray} {i : Nat} (h : i < l.length) : l[i]? = some (atB l i) := by
  unfold atB; rw [List.getD_eq_getElem?_getD, List.getElem?_eq_getElem h]; rfl
theorem atC_get {l : List Cn} {i : Nat} (h : i < l.length) : l[i]? = some (atC l i) := by
  unfold atC; rw [List.getD_eq_getElem?_getD, List.getElem?_eq_getElem h]; rfl
/-- a statement -/
structure PS where
  ef : Int
  wo : List ByteArray
  wa : List ByteArray
  wi : List ByteArray
  cs : List Cn
def psP (s : PS) : Prop := (s.ef = 1 ∨ s.ef = 2) ∧ lsP s.wo.length (atB s.wo) ∧ lsP s.wa.length (atB s.wa) ∧ lsP s.wi.length (atB s.wi) ∧ isP s.cs.length (atC s.cs)
/-- a line's words -/
def wdsL (s : ByteArray) : List ByteArray := (splB 32 s).filter fun b => decide (0 < b.size)
def isW (b : ByteArray) (l : List UInt8) : Prop := b.data.toList = l
instance (b : ByteArray) (l : List UInt8) : Decidable (isW b l) := inferInstanceAs (Decidable (_ = _))
def kAllow : List UInt8 := [97, 108, 108, 111, 119]
def kDeny : List UInt8 := [100, 101, 110, 121]
def kWho : List UInt8 := [119, 104, 111]
def kDo : List UInt8 := [100, 111]
def kOn : List UInt8 := [111, 110]
def kPrefix : List UInt8 := [112, 114, 101, 102, 105, 120]
def kBefore : List UInt8 := [98, 101, 102, 111, 114, 101]
def kAfter : List UInt8 := [97, 102, 116, 101, 114]
def kFrom : List UInt8 := [102, 114, 111, 109]
def efV (b : ByteArray) : Int := if isW b kAllow then 1 else if isW b kDeny then 2 else 0
noncomputable def cdS (a b : ByteArray) : Cn :=
  if isW a kPrefix then ⟨1, b, 0⟩ else if isW a kFrom then ⟨4, b, 0⟩ else if isW a kBefore then ⟨2, ⟨#[]⟩, timV b⟩ else if isW a kAfter then ⟨3, ⟨#[]⟩, timV b⟩ else ⟨0, ⟨#[]⟩, 0⟩
noncomputable def cdsS : List ByteArray → List Cn
  | a :: b :: r => cdS a b :: cdsS r
  | _ => []
/-- a line's form -/
def frmP (w : List ByteArray) : Prop := 7 ≤ w.length ∧ w.length % 2 = 1 ∧ isW (atB w 1) kWho ∧ isW (atB w 3) kDo ∧ isW (atB w 5) kOn
noncomputable def sS (w : List ByteArray) : PS := ⟨efV (atB w 0), splB 44 (atB w 2), splB 44 (atB w 4), splB 44 (atB w 6), cdsS (w.drop 7)⟩
def lnP (w : List ByteArray) : Prop := frmP w ∧ psP (sS w)
theorem isW_ne {b : ByteArray} {l m : List UInt8} (h : isW b l) (hn : l ≠ m) : ¬ isW b m := fun h2 => hn (h.symm.trans h2)
/-! Words: as the library parts them. -/
/-! The whole. -/
noncomputable def rdP : Nat → List PS → List ByteArray → Int × Int × List PS
  | _, acc, [] => (0, 0, acc)
  | i, acc, l :: r =>
    if wdsL l = [] then rdP (i + 1) acc r
    else if pb (lnP (wdsL l)) then
      (if acc.length < 50 ∧ (sS (wdsL l)).cs.length ≤ 10 then rdP (i + 1) (acc ++ [sS (wdsL l)]) r else (4, (i : Int) + 1, []))
    else (3, (i : Int) + 1, [])
theorem rdP_skip {i : Nat} {acc : List PS} {l : ByteArray} {r : List ByteArray} (h : wdsL l = []) : rdP i acc (l :: r) = rdP (i + 1) acc r := by rw [rdP, if_pos h]
theorem rdP_syn {i : Nat} {acc : List PS} {l : ByteArray} {r : List ByteArray} (h : ¬ wdsL l = []) (h2 : ¬ lnP (wdsL l)) : rdP i acc (l :: r) = (3, (i : Int) + 1, []) := by rw [rdP, if_neg h, pb_f h2]; rfl
theorem rdP_cnt {i : Nat} {acc : List PS} {l : ByteArray} {r : List ByteArray} (h : ¬ wdsL l = []) (h2 : lnP (wdsL l)) (h3 : ¬ (acc.length < 50 ∧ (sS (wdsL l)).cs.length ≤ 10)) : rdP i acc (l :: r) = (4, (i : Int) + 1, []) := by rw [rdP, if_neg h, pb_t h2, if_pos rfl, if_neg h3]
theorem rdP_ok {i : Nat} {acc : List PS} {l : ByteArray} {r : List ByteArray} (h : ¬ wdsL l = []) (h2 : lnP (wdsL l)) (h3 : acc.length < 50 ∧ (sS (wdsL l)).cs.length ≤ 10) : rdP i acc (l :: r) = rdP (i + 1) (acc ++ [sS (wdsL l)]) r := by rw [rdP, if_neg h, pb_t h2, if_pos rfl, if_pos h3]
noncomputable def polO (s : ByteArray) : Int × Int × List PS := if s.size ≤ 10000 then rdP 0 [] (splB 10 s) else (2, 0, [])
end Go.Proofs.YtmjolkagkeonfaaDoor
namespace Go.Proofs.YtmjolkagkeonfaaDoor
open Go.RowKit
end Go.Proofs.YtmjolkagkeonfaaDoor
namespace Go.Proofs.YtmjolkagkeonfaaDoor
open Go.RowKit

/-! A cursor: a block of two cells, the data and the place. -/
/-! ### What takeNum comes to -/
end Go.Proofs.YtmjolkagkeonfaaDoor
namespace Go.Proofs.YtmjolkagkeonfaaDoor
open Go.RowKit Go.Shelf
end Go.Proofs.YtmjolkagkeonfaaDoor
namespace Go.Proofs.YtmjolkagkeonfaaDoor
open Go.RowKit Go.Shelf
/-! strings.Split at one byte; strings.FieldsFunc at spaces. -/
end Go.Proofs.YtmjolkagkeonfaaDoor
