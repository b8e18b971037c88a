import Derived.Test.YtcfahbcpfjhajaaGreatDoorK1
import Derived.Test.YtcfahbcpfjhajaaGreatDoorK1
import Derived.Test.YtcfahbcpfjhajaaGreatDoorK1
import Derived.WalkLawsBesides
import Derived.WalkSpells
import Derived.OpenShut
import Derived.BigQuiet
import Derived.Deep.QuietTactic
import Derived.Deep.RegionHeld3
import Derived.Deep.CutRange
import Derived.Test.YtcfahbcpfjhajaaGreatDoorStrK
import Derived.Test.YtcfahbcpfjhajaaGreatDoorPb
import Derived.Test.YtcfahbcpfjhajaaGreatDoorJlM
import Derived.Test.YtcfahbcpfjhajaaGreatDoorS2
import Derived.Lib.Join
import Derived.Lib.ItoaNum
import Derived.Lib.ConvBytes
import Derived.Deep.RegionWith
namespace Go.Proofs.YtcfahbcpfjhajaaGreatDoor
open Go.RowKit
/-! Condition: what the laws do with one (by lawrow.py). -/
structure Cn where
  kd : Int
  tx : ByteArray
  tm : Int
def Cn.row (o : Cn) : Array Value := #[.int .i64 (o).kd, .string (o).tx, .int .i64 (o).tm]
/-- the cells of a row of them -/
def cnF (o : Nat → Cn) (p : Nat) : Value :=
  if p % 3 = 0 then .int .i64 (o (p / 3)).kd else if p % 3 = 1 then .string (o (p / 3)).tx else .int .i64 (o (p / 3)).tm
theorem cnF0 (o : Nat → Cn) (k : Nat) : cnF o (k * 3) = .int .i64 (o k).kd := by unfold cnF; rw [if_pos (by omega), show (k * 3) / 3 = k by omega]
theorem cnF1 (o : Nat → Cn) (k : Nat) : cnF o (k * 3 + 1) = .string (o k).tx := by unfold cnF; rw [if_neg (by omega), if_pos (by omega), show (k * 3 + 1) / 3 = k by omega]
theorem cnF2 (o : Nat → Cn) (k : Nat) : cnF o (k * 3 + 2) = .int .i64 (o k).tm := by unfold cnF; rw [if_neg (by omega), if_neg (by omega), show (k * 3 + 2) / 3 = k by omega]
/-- a slice of them that is read -/
def Cns (w : World) (a : Option Addr) (n cap : Nat) (o : Nat → Cn) : Prop :=
  n ≤ cap ∧ (n = 0 ∨ ∃ b off, a = some ⟨b, off, none⟩ ∧ b < w.heap.size ∧ ∀ k, k < n → w.cell? ⟨b, off + k * 3, none⟩ = some (.int .i64 (o k).kd) ∧ w.cell? ⟨b, off + k * 3 + 1, none⟩ = some (.string (o k).tx) ∧ w.cell? ⟨b, off + k * 3 + 2, none⟩ = some (.int .i64 (o k).tm))
theorem Cns.below {w w' : World} {a : Option Addr} {n cap : Nat} {o : Nat → Cn} (h : Cns w a n cap o) (hb : Below w.heap.size w w') : Cns w' a n cap o := by
  refine ⟨h.1, ?_⟩
  rcases h.2 with h0 | ⟨b, off, rfl, h1, h2⟩
  · exact Or.inl h0
  · refine Or.inr ⟨b, off, rfl, Nat.lt_of_lt_of_le h1 hb.size, fun k hk => ?_⟩
    obtain ⟨c0, c1, c2⟩ := h2 k hk
    exact ⟨(hb.cell (p := ⟨b, _, none⟩) h1).trans c0, (hb.cell (p := ⟨b, _, none⟩) h1).trans c1, (hb.cell (p := ⟨b, _, none⟩) h1).trans c2⟩
theorem Cns.of_row {w : World} {b : Nat} {t : TypeId} {n : Nat} {o : Nat → Cn} (h : FRow w b t (n * 3) (cnF o)) : Cns w (some ⟨b, 0, none⟩) n n o := by
  refine ⟨Nat.le_refl _, Or.inr ⟨b, 0, rfl, h.lt, fun k hk => ?_⟩⟩
  have g0 := h.cell (show k * 3 < n * 3 by omega)
  have g1 := h.cell (show k * 3 + 1 < n * 3 by omega)
  have g2 := h.cell (show k * 3 + 2 < n * 3 by omega)
  rw [cnF0] at g0
  rw [cnF1] at g1
  rw [cnF2] at g2
  simp only [Nat.zero_add]
  exact ⟨g0, g1, g2⟩
end Go.Proofs.YtcfahbcpfjhajaaGreatDoor
namespace Go.Proofs.YtcfahbcpfjhajaaGreatDoor
open Go.RowKit
/-! Rows of Condition: what the laws do with them (by lawrow.py). -/
end Go.Proofs.YtcfahbcpfjhajaaGreatDoor
namespace Go.Proofs.YtcfahbcpfjhajaaGreatDoor
open Go.RowKit
/-! Statements: what the laws do with one. -/
/-- a slice of texts, of conditions -/
structure SS where
  ad : Option Addr
  n : Nat
  cap : Nat
  ts : Nat → ByteArray
structure CS where
  ad : Option Addr
  n : Nat
  cap : Nat
  o : Nat → Cn
structure St where
  ef : Int
  wo : SS
  wa : SS
  wi : SS
  cs : CS
def SS.v (s : SS) : Value := .slice s.ad s.n s.cap
def CS.v (s : CS) : Value := .slice s.ad s.n s.cap
def St.row (s : St) : Array Value := #[.int .i64 s.ef, .slice s.wo.ad s.wo.n s.wo.cap, .slice s.wa.ad s.wa.n s.wa.cap, .slice s.wi.ad s.wi.n s.wi.cap, .slice s.cs.ad s.cs.n s.cs.cap]
/-- what a statement's slices read as -/
structure StIn (w : World) (s : St) : Prop where
  wo : Strs w s.wo.ad s.wo.n s.wo.cap s.wo.ts
  wa : Strs w s.wa.ad s.wa.n s.wa.cap s.wa.ts
  wi : Strs w s.wi.ad s.wi.n s.wi.cap s.wi.ts
  cs : Cns w s.cs.ad s.cs.n s.cs.cap s.cs.o
theorem StIn.below {w w' : World} {s : St} (h : StIn w s) (hb : Below w.heap.size w w') : StIn w' s := ⟨h.wo.below hb, h.wa.below hb, h.wi.below hb, h.cs.below hb⟩
end Go.Proofs.YtcfahbcpfjhajaaGreatDoor
namespace Go.Proofs.YtcfahbcpfjhajaaGreatDoor
open Go.RowKit
/-! Statements made anew. -/
/-! Slices of statements. -/
/-- the cells of a row of them -/
def stF (R : Nat → St) (p : Nat) : Value :=
  if p % 5 = 0 then .int .i64 (R (p / 5)).ef else if p % 5 = 1 then .slice (R (p / 5)).wo.ad (R (p / 5)).wo.n (R (p / 5)).wo.cap else if p % 5 = 2 then .slice (R (p / 5)).wa.ad (R (p / 5)).wa.n (R (p / 5)).wa.cap else if p % 5 = 3 then .slice (R (p / 5)).wi.ad (R (p / 5)).wi.n (R (p / 5)).wi.cap else .slice (R (p / 5)).cs.ad (R (p / 5)).cs.n (R (p / 5)).cs.cap
theorem stF0 (R : Nat → St) (k : Nat) : stF R (k * 5) = .int .i64 (R k).ef := by unfold stF; rw [if_pos (by omega), show (k * 5) / 5 = k by omega]
theorem stF1 (R : Nat → St) (k : Nat) : stF R (k * 5 + 1) = .slice (R k).wo.ad (R k).wo.n (R k).wo.cap := by unfold stF; rw [if_neg (by omega), if_pos (by omega), show (k * 5 + 1) / 5 = k by omega]
theorem stF2 (R : Nat → St) (k : Nat) : stF R (k * 5 + 2) = .slice (R k).wa.ad (R k).wa.n (R k).wa.cap := by unfold stF; rw [if_neg (by omega), if_neg (by omega), if_pos (by omega), show (k * 5 + 2) / 5 = k by omega]
theorem stF3 (R : Nat → St) (k : Nat) : stF R (k * 5 + 3) = .slice (R k).wi.ad (R k).wi.n (R k).wi.cap := by unfold stF; rw [if_neg (by omega), if_neg (by omega), if_neg (by omega), if_pos (by omega), show (k * 5 + 3) / 5 = k by omega]
theorem stF4 (R : Nat → St) (k : Nat) : stF R (k * 5 + 4) = .slice (R k).cs.ad (R k).cs.n (R k).cs.cap := by unfold stF; rw [if_neg (by omega), if_neg (by omega), if_neg (by omega), if_neg (by omega), show (k * 5 + 4) / 5 = k by omega]
/-- the cells of one -/
def StCell (w : World) (b o : Nat) (s : St) : Prop :=
  w.cell? ⟨b, o, none⟩ = some (.int .i64 s.ef) ∧ w.cell? ⟨b, o + 1, none⟩ = some (.slice s.wo.ad s.wo.n s.wo.cap) ∧ w.cell? ⟨b, o + 2, none⟩ = some (.slice s.wa.ad s.wa.n s.wa.cap) ∧ w.cell? ⟨b, o + 3, none⟩ = some (.slice s.wi.ad s.wi.n s.wi.cap) ∧ w.cell? ⟨b, o + 4, none⟩ = some (.slice s.cs.ad s.cs.n s.cs.cap)
def Sts (w : World) (a : Option Addr) (m cap : Nat) (R : Nat → St) : Prop :=
  m ≤ cap ∧ (m = 0 ∨ ∃ b off, a = some ⟨b, off, none⟩ ∧ b < w.heap.size ∧ ∀ k, k < m → StCell w b (off + k * 5) (R k)) ∧ ∀ k, k < m → StIn w (R k)
theorem StCell.below {w w' : World} {b o : Nat} {s : St} (h : StCell w b o s) (hb : Below w.heap.size w w') (hl : b < w.heap.size) : StCell w' b o s :=
  ⟨(hb.cell (p := ⟨b, o, none⟩) hl).trans h.1, (hb.cell (p := ⟨b, o + 1, none⟩) hl).trans h.2.1, (hb.cell (p := ⟨b, o + 2, none⟩) hl).trans h.2.2.1, (hb.cell (p := ⟨b, o + 3, none⟩) hl).trans h.2.2.2.1, (hb.cell (p := ⟨b, o + 4, none⟩) hl).trans h.2.2.2.2⟩
theorem Sts.below {w w' : World} {a : Option Addr} {m cap : Nat} {R : Nat → St} (h : Sts w a m cap R) (hb : Below w.heap.size w w') : Sts w' a m cap R := by
  refine ⟨h.1, ?_, fun k hk => (h.2.2 k hk).below hb⟩
  rcases h.2.1 with h0 | ⟨b, off, rfl, hl, hc⟩
  · exact .inl h0
  · exact .inr ⟨b, off, rfl, Nat.lt_of_lt_of_le hl hb.size, fun k hk => (hc k hk).below hb hl⟩
theorem StCell.of_row {w : World} {b : Nat} {t : TypeId} {m k : Nat} {R : Nat → St} (h : FRow w b t (m * 5) (stF R)) (hk : k < m) : StCell w b (0 + k * 5) (R k) := by
  have g0 := h.cell (p := k * 5) (by omega)
  have g1 := h.cell (p := k * 5 + 1) (by omega)
  have g2 := h.cell (p := k * 5 + 2) (by omega)
  have g3 := h.cell (p := k * 5 + 3) (by omega)
  have g4 := h.cell (p := k * 5 + 4) (by omega)
  rw [stF0] at g0
  rw [stF1] at g1
  rw [stF2] at g2
  rw [stF3] at g3
  rw [stF4] at g4
  simp only [Nat.zero_add]
  exact ⟨g0, g1, g2, g3, g4⟩
end Go.Proofs.YtcfahbcpfjhajaaGreatDoor
namespace Go.Proofs.YtcfahbcpfjhajaaGreatDoor
open Go.RowKit
end Go.Proofs.YtcfahbcpfjhajaaGreatDoor
namespace Go.Proofs.YtcfahbcpfjhajaaGreatDoor
open Go.RowKit
/-! When words, lists, conditions and statements are right. -/
/-! The specification's. -/
end Go.Proofs.YtcfahbcpfjhajaaGreatDoor
namespace Go.Proofs.YtcfahbcpfjhajaaGreatDoor
open Go.RowKit
/-! Policies as texts. -/
def jn (ts : Nat → ByteArray) (n : Nat) : List UInt8 := Lib.join (jl ts n) [44]
theorem jn_one (ts : Nat → ByteArray) : jn ts 1 = (ts 0).data.toList := by unfold jn jl; exact Lib.join_one _ _
theorem jn_next (ts : Nat → ByteArray) (k : Nat) (hk : 0 < k) : jn ts (k + 1) = jn ts k ++ [44] ++ (ts k).data.toList := by
  unfold jn
  rw [jl_succ, join_snoc]
  intro e
  have := congrArg List.length e
  unfold jl at this; simp at this; omega
theorem jn_zero (ts : Nat → ByteArray) : jn ts 0 = [] := rfl
set_option maxRecDepth 20000 in
set_option maxHeartbeats 2000000 in
theorem sJoin (a : Option Addr) (n cap : Nat) (ts : Nat → ByteArray) (hn : n ≤ 20) (ht : ∀ i, i < n → (ts i).size ≤ 200) (w : World) (h : Strs w a n cap ts) :
    Calls Tryz.prog 51 #[.slice a n cap] w fun e w' => (∃ t : ByteArray, e = .returned (.string t) ∧ t.data.toList = jn ts n ∧ t.size ≤ 4020) ∧ w' = w := by
  have HT := hid ht
  clear ht
  go_enter Tryz.func51, Tryz.ntmps51
  go_wp2
  go_loopw [3, 4] (fun v i wr => ∃ (t : ByteArray) (k : Nat), k ≤ n ∧ v = .string t ∧ i = .int .i64 (k : Int) ∧ t.data.toList = jn ts k ∧ t.size ≤ k * 201 ∧ wr = w) (fun _ i _ => n - (intOf i).toNat)
  case atStart => exact ⟨⟨#[]⟩, 0, Nat.zero_le _, rfl, rfl, rfl, Nat.zero_le _, rfl⟩
  case round =>
    obtain ⟨t, k, hk, rfl, rfl, hl, hs, rfl⟩ := hrel
    have HL := hid hl
    clear hl
    by_cases hlt : k < n
    · have d3 : (k : Int) < (n : Int) := by omega
      have k0 : (0 : Int) ≤ (k : Int) := by omega
      rcases h.2 with h00 | ⟨b, off, rfl, hbl, hc⟩
      · omega
      have c0 := hc k hlt
      have st := HT.out k hlt
      have J1 := hid (jn_next ts k)
      obtain ⟨x, hx⟩ : ∃ x, ts k = x := ⟨_, rfl⟩
      rw [hx] at c0 st J1
      have HX := hid hx
      clear hx hc
      by_cases kz : k = 0
      · subst kz
        have c1 := c0
        rw [Nat.add_zero] at c1
        have E0 : Hid ((t ++ x).data.toList = jn ts 1) := by show _ = _; rw [ba_app, HL.out, jn_zero, jn_one, HX.out]; rfl
        have S0 : Hid ((t ++ x).size ≤ 1 * 201) := by show _ ≤ _; rw [sizeApp]; omega
        go_wp2
        go_roundw
        case rel => exact ⟨_, 1, by omega, rfl, by go_num, E0.out, S0.out, trivial⟩
        case measure => simp [intOf]; omega
      · have d4 : (0 : Int) < (k : Int) := by omega
        have E0 : Hid ((t ++ ⟨#[44]⟩ ++ x).data.toList = jn ts (k + 1)) := by show _ = _; rw [ba_app, ba_app, HL.out, J1.out (by omega)]
        have S0 : Hid ((t ++ ⟨#[44]⟩ ++ x).size ≤ (k + 1) * 201) := by show _ ≤ _; rw [sizeApp, sizeApp]; show t.size + 1 + x.size ≤ _; omega
        go_wp2
        go_roundw
        case rel => exact ⟨_, k + 1, by omega, rfl, by go_num, E0.out, S0.out, trivial⟩
        case measure => simp [intOf]; omega
    · have d3 : ¬ (k : Int) < (n : Int) := by omega
      have ek : k = n := by omega
      have HLn : Hid (t.data.toList = jn ts n) := by have := HL.out; rw [ek] at this; exact this
      have hs2 : t.size ≤ 4020 := by omega
      go_wp2
      go_ret
      exact ⟨⟨t, rfl, HLn.out, hs2⟩, rfl⟩
end Go.Proofs.YtcfahbcpfjhajaaGreatDoor
