import Derived.Test.YtkcjigelenofhaaGreatDoorG1
import Derived.Test.YtkcjigelenofhaaGreatDoorG1
import Derived.Test.YtkcjigelenofhaaGreatDoorG1
import Derived.WalkLawsBesides
import Derived.WalkSpells
import Derived.OpenShut
import Derived.BigQuiet
import Derived.Deep.QuietTactic
import Derived.Deep.RegionHeld3
import Derived.Deep.CutRange
import Derived.Test.YtkcjigelenofhaaGreatDoorBase
namespace Go.Proofs.YtkcjigelenofhaaGreatDoor
open Go.RowKit
structure Hp where
 nm : ByteArray
 vl : ByteArray
def Hp.row (o : Hp) : Array Value := #[.string (o).nm, .string (o).vl]
def Hps (w : World) (a : Option Addr) (n cap : Nat) (o : Nat → Hp) : Prop :=
 n ≤ cap ∧ (n = 0 ∨ ∃ b off, a = some ⟨b, off, none⟩ ∧ b < w.heap.size ∧ ∀ k, k < n → w.cell? ⟨b, off + k * 2, none⟩ = some (.string (o k).nm) ∧ w.cell? ⟨b, off + k * 2 + 1, none⟩ = some (.string (o k).vl))
theorem Hps.below {w w' : World} {a : Option Addr} {n cap : Nat} {o : Nat → Hp} (h : Hps w a n cap o) (hb : Below w.heap.size w w') : Hps w' a n cap o := by
 refine ⟨h.1, ?_⟩
 rcases h.2 with h0 | ⟨b, off, rfl, h1, h2⟩
 · exact Or.inl h0
 · refine Or.inr ⟨b, off, rfl, Nat.lt_of_lt_of_le h1 hb.size, fun k hk => ?_⟩
   obtain ⟨c0, c1⟩ := h2 k hk
   exact ⟨(hb.cell (p := ⟨b, _, none⟩) h1).trans c0, (hb.cell (p := ⟨b, _, none⟩) h1).trans c1⟩
theorem balHp {w w' : World} (h : Below w.heap.size w w') (o : Obj) : Below w.heap.size w (w'.alloc o) := h.alloc h.size o
end Go.Proofs.YtkcjigelenofhaaGreatDoor
namespace Go.Proofs.YtkcjigelenofhaaGreatDoor
open Go.RowKit
def hp0 : Hp := ⟨⟨#[]⟩, ⟨#[]⟩⟩
end Go.Proofs.YtkcjigelenofhaaGreatDoor
namespace Go.Proofs.YtkcjigelenofhaaGreatDoor
open Go.RowKit
structure PS where
 ad : Option Addr
 n : Nat
 cap : Nat
 o : Nat → Hp
structure Rq where
 mt : ByteArray
 pt : ByteArray
 qs : PS
 hs : PS
 bd : ByteArray
def Rq.v (r : Rq) : Value := .agg #[.string r.mt, .string r.pt, .slice r.qs.ad r.qs.n r.qs.cap, .slice r.hs.ad r.hs.n r.hs.cap, .string r.bd]
structure RqIn (w : World) (r : Rq) : Prop where
 qs : Hps w r.qs.ad r.qs.n r.qs.cap r.qs.o
 hs : Hps w r.hs.ad r.hs.n r.hs.cap r.hs.o
theorem RqIn.below {w w' : World} {r : Rq} (h : RqIn w r) (hb : Below w.heap.size w w') : RqIn w' r := ⟨h.qs.below hb, h.hs.below hb⟩
def PSB (s : PS) (B : Nat) : Prop := s.n ≤ B ∧ ∀ i, i < s.n → (s.o i).nm.size ≤ B ∧ (s.o i).vl.size ≤ B
structure RqB (r : Rq) (B : Nat) : Prop where
 mt : r.mt.size ≤ B
 pt : r.pt.size ≤ B
 qs : PSB r.qs B
 hs : PSB r.hs B
 bd : r.bd.size ≤ B
end Go.Proofs.YtkcjigelenofhaaGreatDoor
namespace Go.Proofs.YtkcjigelenofhaaGreatDoor
open Go.RowKit
open Classical in
noncomputable def pb (p : Prop) : Bool := decide p
theorem pb_t {p : Prop} (h : p) : pb p = true := by unfold pb; simpa using h
theorem pb_f {p : Prop} (h : ¬ p) : pb p = false := by unfold pb; simpa using h
theorem pb_iff {p : Prop} : pb p = true ↔ p := by unfold pb; simp
theorem pb_congr {p q : Prop} (h : p ↔ q) : pb p = pb q := by rw [propext h]
end Go.Proofs.YtkcjigelenofhaaGreatDoor
