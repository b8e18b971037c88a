import Derived.Test.YtkcjigelenofhaaGreatDoorG1
import Derived.Test.YtkcjigelenofhaaGreatDoorG1
import Derived.Test.YtkcjigelenofhaaGreatDoorG1
import Derived.WalkLawsBesides
import Derived.WalkSpells
import Derived.OpenShut
import Derived.BigQuiet
import Derived.Deep.QuietTactic
import Derived.Deep.RegionHeld3
import Derived.Deep.CutRange
import Derived.Test.YtkcjigelenofhaaGreatDoorG4
import Derived.Test.YtkcjigelenofhaaGreatDoorG2
import Derived.Test.YtkcjigelenofhaaGreatDoorBase
import Derived.Lib.Join
import Derived.Test.YtkcjigelenofhaaGreatDoorG3
import Derived.Lib.ItoaNum
import Derived.Lib.ConvBytes
import Derived.Deep.RegionWith
namespace Go.Proofs.YtkcjigelenofhaaGreatDoor
open Go.RowKit
structure Cn where
 kd : Int
 tx : ByteArray
 tm : Int
def Cn.row (o : Cn) : Array Value := #[.int .i64 (o).kd, .string (o).tx, .int .i64 (o).tm]
def Cns (w : World) (a : Option Addr) (n cap : Nat) (o : Nat → Cn) : Prop :=
 n ≤ cap ∧ (n = 0 ∨ ∃ b off, a = some ⟨b, off, none⟩ ∧ b < w.heap.size ∧ ∀ k, k < n → w.cell? ⟨b, off + k * 3, none⟩ = some (.int .i64 (o k).kd) ∧ w.cell? ⟨b, off + k * 3 + 1, none⟩ = some (.string (o k).tx) ∧ w.cell? ⟨b, off + k * 3 + 2, none⟩ = some (.int .i64 (o k).tm))
theorem Cns.below {w w' : World} {a : Option Addr} {n cap : Nat} {o : Nat → Cn} (h : Cns w a n cap o) (hb : Below w.heap.size w w') : Cns w' a n cap o := by
 refine ⟨h.1, ?_⟩
 rcases h.2 with h0 | ⟨b, off, rfl, h1, h2⟩
 · exact Or.inl h0
 · refine Or.inr ⟨b, off, rfl, Nat.lt_of_lt_of_le h1 hb.size, fun k hk => ?_⟩
   obtain ⟨c0, c1, c2⟩ := h2 k hk
   exact ⟨(hb.cell (p := ⟨b, _, none⟩) h1).trans c0, (hb.cell (p := ⟨b, _, none⟩) h1).trans c1, (hb.cell (p := ⟨b, _, none⟩) h1).trans c2⟩
end Go.Proofs.YtkcjigelenofhaaGreatDoor
namespace Go.Proofs.YtkcjigelenofhaaGreatDoor
open Go.RowKit
end Go.Proofs.YtkcjigelenofhaaGreatDoor
namespace Go.Proofs.YtkcjigelenofhaaGreatDoor
open Go.RowKit
structure SS where
 ad : Option Addr
 n : Nat
 cap : Nat
 ts : Nat → ByteArray
structure CS where
 ad : Option Addr
 n : Nat
 cap : Nat
 o : Nat → Cn
structure St where
 ef : Int
 wo : SS
 wa : SS
 wi : SS
 cs : CS
def SS.v (s : SS) : Value := .slice s.ad s.n s.cap
def CS.v (s : CS) : Value := .slice s.ad s.n s.cap
def St.row (s : St) : Array Value := #[.int .i64 s.ef, .slice s.wo.ad s.wo.n s.wo.cap, .slice s.wa.ad s.wa.n s.wa.cap, .slice s.wi.ad s.wi.n s.wi.cap, .slice s.cs.ad s.cs.n s.cs.cap]
structure StIn (w : World) (s : St) : Prop where
 wo : Strs w s.wo.ad s.wo.n s.wo.cap s.wo.ts
 wa : Strs w s.wa.ad s.wa.n s.wa.cap s.wa.ts
 wi : Strs w s.wi.ad s.wi.n s.wi.cap s.wi.ts
 cs : Cns w s.cs.ad s.cs.n s.cs.cap s.cs.o
theorem StIn.below {w w' : World} {s : St} (h : StIn w s) (hb : Below w.heap.size w w') : StIn w' s := ⟨h.wo.below hb, h.wa.below hb, h.wi.below hb, h.cs.below hb⟩
end Go.Proofs.YtkcjigelenofhaaGreatDoor
namespace Go.Proofs.YtkcjigelenofhaaGreatDoor
open Go.RowKit
def StCell (w : World) (b o : Nat) (s : St) : Prop :=
 w.cell? ⟨b, o, none⟩ = some (.int .i64 s.ef) ∧ w.cell? ⟨b, o + 1, none⟩ = some (.slice s.wo.ad s.wo.n s.wo.cap) ∧ w.cell? ⟨b, o + 2, none⟩ = some (.slice s.wa.ad s.wa.n s.wa.cap) ∧ w.cell? ⟨b, o + 3, none⟩ = some (.slice s.wi.ad s.wi.n s.wi.cap) ∧ w.cell? ⟨b, o + 4, none⟩ = some (.slice s.cs.ad s.cs.n s.cs.cap)
def Sts (w : World) (a : Option Addr) (m cap : Nat) (R : Nat → St) : Prop :=
 m ≤ cap ∧ (m = 0 ∨ ∃ b off, a = some ⟨b, off, none⟩ ∧ b < w.heap.size ∧ ∀ k, k < m → StCell w b (off + k * 5) (R k)) ∧ ∀ k, k < m → StIn w (R k)
theorem StCell.below {w w' : World} {b o : Nat} {s : St} (h : StCell w b o s) (hb : Below w.heap.size w w') (hl : b < w.heap.size) : StCell w' b o s :=
 ⟨(hb.cell (p := ⟨b, o, none⟩) hl).trans h.1, (hb.cell (p := ⟨b, o + 1, none⟩) hl).trans h.2.1, (hb.cell (p := ⟨b, o + 2, none⟩) hl).trans h.2.2.1, (hb.cell (p := ⟨b, o + 3, none⟩) hl).trans h.2.2.2.1, (hb.cell (p := ⟨b, o + 4, none⟩) hl).trans h.2.2.2.2⟩
theorem Sts.below {w w' : World} {a : Option Addr} {m cap : Nat} {R : Nat → St} (h : Sts w a m cap R) (hb : Below w.heap.size w w') : Sts w' a m cap R := by
 refine ⟨h.1, ?_, fun k hk => (h.2.2 k hk).below hb⟩
 rcases h.2.1 with h0 | ⟨b, off, rfl, hl, hc⟩
 · exact .inl h0
 · exact .inr ⟨b, off, rfl, Nat.lt_of_lt_of_le hl hb.size, fun k hk => (hc k hk).below hb hl⟩
end Go.Proofs.YtkcjigelenofhaaGreatDoor
namespace Go.Proofs.YtkcjigelenofhaaGreatDoor
open Go.RowKit
end Go.Proofs.YtkcjigelenofhaaGreatDoor
namespace Go.Proofs.YtkcjigelenofhaaGreatDoor
open Go.RowKit
end Go.Proofs.YtkcjigelenofhaaGreatDoor
namespace Go.Proofs.YtkcjigelenofhaaGreatDoor
open Go.RowKit
def jl (ts : Nat → ByteArray) (n : Nat) : List (List UInt8) := (List.range n).map fun i => (ts i).data.toList
theorem jl_succ (ts : Nat → ByteArray) (n : Nat) : jl ts (n + 1) = jl ts n ++ [(ts n).data.toList] := by unfold jl; rw [List.range_succ]; simp
theorem join_snoc (sep x : List UInt8) : ∀ xs : List (List UInt8), xs ≠ [] → Lib.join (xs ++ [x]) sep = Lib.join xs sep ++ sep ++ x
 | [], h => absurd rfl h
 | y :: r, _ => by
  rw [List.cons_append, Lib.join_cons, Lib.join_cons]
  unfold Lib.joinTail
  rw [List.map_append, List.flatten_append]
  simp
end Go.Proofs.YtkcjigelenofhaaGreatDoor
namespace Go.Proofs.YtkcjigelenofhaaGreatDoor
open Go.RowKit
def jn (ts : Nat → ByteArray) (n : Nat) : List UInt8 := Lib.join (jl ts n) [44]
theorem jn_one (ts : Nat → ByteArray) : jn ts 1 = (ts 0).data.toList := by unfold jn jl; exact Lib.join_one _ _
theorem jn_next (ts : Nat → ByteArray) (k : Nat) (hk : 0 < k) : jn ts (k + 1) = jn ts k ++ [44] ++ (ts k).data.toList := by
 unfold jn
 rw [jl_succ, join_snoc]
 intro e
 have := congrArg List.length e
 unfold jl at this; simp at this; omega
theorem jn_zero (ts : Nat → ByteArray) : jn ts 0 = [] := rfl
set_option maxRecDepth 20000 in
set_option maxHeartbeats 2000000 in
theorem sJoin (a : Option Addr) (n cap : Nat) (ts : Nat → ByteArray) (hn : n ≤ 20) (ht : ∀ i, i < n → (ts i).size ≤ 200) (w : World) (h : Strs w a n cap ts) :
 Calls Tryz.prog 51 #[.slice a n cap] w fun e w' => (∃ t : ByteArray, e = .returned (.string t) ∧ t.data.toList = jn ts n ∧ t.size ≤ 4020) ∧ w' = w := by
 have HT := hid ht
 clear ht
 go_enter Tryz.func51, Tryz.ntmps51
 go_wp2
 go_loopw [3, 4] (fun v i wr => ∃ (t : ByteArray) (k : Nat), k ≤ n ∧ v = .string t ∧ i = .int .i64 (k : Int) ∧ t.data.toList = jn ts k ∧ t.size ≤ k * 201 ∧ wr = w) (fun _ i _ => n - (intOf i).toNat)
 case atStart => exact ⟨⟨#[]⟩, 0, Nat.zero_le _, rfl, rfl, rfl, Nat.zero_le _, rfl⟩
 case round =>
  obtain ⟨t, k, hk, rfl, rfl, hl, hs, rfl⟩ := hrel
  have HL := hid hl
  clear hl
  by_cases hlt : k < n
  · have d3 : (k : Int) < (n : Int) := by omega
    have k0 : (0 : Int) ≤ (k : Int) := by omega
    rcases h.2 with h00 | ⟨b, off, rfl, hbl, hc⟩
    · omega
    have c0 := hc k hlt
    have st := HT.out k hlt
    have J1 := hid (jn_next ts k)
    obtain ⟨x, hx⟩ : ∃ x, ts k = x := ⟨_, rfl⟩
    rw [hx] at c0 st J1
    have HX := hid hx
    clear hx hc
    by_cases kz : k = 0
    · subst kz
      have c1 := c0
      rw [Nat.add_zero] at c1
      have E0 : Hid ((t ++ x).data.toList = jn ts 1) := by show _ = _; rw [ba_app, HL.out, jn_zero, jn_one, HX.out]; rfl
      have S0 : Hid ((t ++ x).size ≤ 1 * 201) := by show _ ≤ _; rw [sizeApp]; omega
      go_wp2
      go_roundw
      case rel => exact ⟨_, 1, by omega, rfl, by go_num, E0.out, S0.out, trivial⟩
      case measure => simp [intOf]; omega
    · have d4 : (0 : Int) < (k : Int) := by omega
      have E0 : Hid ((t ++ ⟨#[44]⟩ ++ x).data.toList = jn ts (k + 1)) := by show _ = _; rw [ba_app, ba_app, HL.out, J1.out (by omega)]
      have S0 : Hid ((t ++ ⟨#[44]⟩ ++ x).size ≤ (k + 1) * 201) := by show _ ≤ _; rw [sizeApp, sizeApp]; show t.size + 1 + x.size ≤ _; omega
      go_wp2
      go_roundw
      case rel => exact ⟨_, k + 1, by omega, rfl, by go_num, E0.out, S0.out, trivial⟩
      case measure => simp [intOf]; omega
  · have d3 : ¬ (k : Int) < (n : Int) := by omega
    have ek : k = n := by omega
    have HLn : Hid (t.data.toList = jn ts n) := by have := HL.out; rw [ek] at this; exact this
    have hs2 : t.size ≤ 4020 := by omega
    go_wp2
    go_ret
    exact ⟨⟨t, rfl, HLn.out, hs2⟩, rfl⟩
end Go.Proofs.YtkcjigelenofhaaGreatDoor
