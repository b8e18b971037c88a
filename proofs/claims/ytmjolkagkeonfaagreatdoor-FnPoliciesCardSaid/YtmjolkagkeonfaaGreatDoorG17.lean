import Derived.Test.YtmjolkagkeonfaaGreatDoorBase
import Derived.Lib.Join
import Derived.Test.YtmjolkagkeonfaaGreatDoorG6
import Derived.Test.YtmjolkagkeonfaaGreatDoorG4
import Derived.Lib.ItoaNum
import Derived.Lib.ConvBytes
import Derived.Deep.RegionWith
namespace Go.Proofs.YtmjolkagkeonfaaGreatDoor
open Go.RowKit
/-! Lists of texts, joined. -/
def jl (ts : Nat → ByteArray) (n : Nat) : List (List UInt8) := (List.range n).map fun i => (ts i).data.toList
theorem jl_succ (ts : Nat → ByteArray) (n : Nat) : jl ts (n + 1) = jl ts n ++ [(ts n).data.toList] := by unfold jl; rw [List.range_succ]; simp
theorem join_snoc (sep x : List UInt8) : ∀ xs : List (List UInt8), xs ≠ [] → Lib.join (xs ++ [x]) sep = Lib.join xs sep ++ sep ++ x
  | [], h => absurd rfl h
  | y :: r, _ => by
    rw [List.cons_append, Lib.join_cons, Lib.join_cons]
    unfold Lib.joinTail
    rw [List.map_append, List.flatten_append]
    simp
end Go.Proofs.YtmjolkagkeonfaaGreatDoor
namespace Go.Proofs.YtmjolkagkeonfaaGreatDoor
open Go.RowKit
/-! Policies as texts. -/
def jn (ts : Nat → ByteArray) (n : Nat) : List UInt8 := Lib.join (jl ts n) [44]
theorem jn_one (ts : Nat → ByteArray) : jn ts 1 = (ts 0).data.toList := by unfold jn jl; exact Lib.join_one _ _
theorem jn_next (ts : Nat → ByteArray) (k : Nat) (hk : 0 < k) : jn ts (k + 1) = jn ts k ++ [44] ++ (ts k).data.toList := by
  unfold jn
  rw [jl_succ, join_snoc]
  intro e
  have := congrArg List.length e
  unfold jl at this; simp at this; omega
theorem jn_zero (ts : Nat → ByteArray) : jn ts 0 = [] := rfl
set_option maxRecDepth 20000 in
set_option maxHeartbeats 2000000 in
theorem sJoin (a : Option Addr) (n cap : Nat) (ts : Nat → ByteArray) (hn : n ≤ 20) (ht : ∀ i, i < n → (ts i).size ≤ 200) (w : World) (h : Strs w a n cap ts) :
    Calls Tryz.prog 29 #[.slice a n cap] w fun e w' => (∃ t : ByteArray, e = .returned (.string t) ∧ t.data.toList = jn ts n ∧ t.size ≤ 4020) ∧ w' = w := by
  have HT := hid ht
  clear ht
  go_enter Tryz.func29, Tryz.ntmps29
  go_wp2
  go_loopw [3, 4] (fun v i wr => ∃ (t : ByteArray) (k : Nat), k ≤ n ∧ v = .string t ∧ i = .int .i64 (k : Int) ∧ t.data.toList = jn ts k ∧ t.size ≤ k * 201 ∧ wr = w) (fun _ i _ => n - (intOf i).toNat)
  case atStart => exact ⟨⟨#[]⟩, 0, Nat.zero_le _, rfl, rfl, rfl, Nat.zero_le _, rfl⟩
  case round =>
    obtain ⟨t, k, hk, rfl, rfl, hl, hs, rfl⟩ := hrel
    have HL := hid hl
    clear hl
    by_cases hlt : k < n
    · have d3 : (k : Int) < (n : Int) := by omega
      have k0 : (0 : Int) ≤ (k : Int) := by omega
      rcases h.2 with h00 | ⟨b, off, rfl, hbl, hc⟩
      · omega
      have c0 := hc k hlt
      have st := HT.out k hlt
      have J1 := hid (jn_next ts k)
      obtain ⟨x, hx⟩ : ∃ x, ts k = x := ⟨_, rfl⟩
      rw [hx] at c0 st J1
      have HX := hid hx
      clear hx hc
      by_cases kz : k = 0
      · subst kz
        have c1 := c0
        rw [Nat.add_zero] at c1
        have E0 : Hid ((t ++ x).data.toList = jn ts 1) := by show _ = _; rw [ba_app, HL.out, jn_zero, jn_one, HX.out]; rfl
        have S0 : Hid ((t ++ x).size ≤ 1 * 201) := by show _ ≤ _; rw [sizeApp]; omega
        go_wp2
        go_roundw
        case rel => exact ⟨_, 1, by omega, rfl, by go_num, E0.out, S0.out, trivial⟩
        case measure => simp [intOf]; omega
      · have d4 : (0 : Int) < (k : Int) := by omega
        have E0 : Hid ((t ++ ⟨#[44]⟩ ++ x).data.toList = jn ts (k + 1)) := by show _ = _; rw [ba_app, ba_app, HL.out, J1.out (by omega)]
        have S0 : Hid ((t ++ ⟨#[44]⟩ ++ x).size ≤ (k + 1) * 201) := by show _ ≤ _; rw [sizeApp, sizeApp]; show t.size + 1 + x.size ≤ _; omega
        go_wp2
        go_roundw
        case rel => exact ⟨_, k + 1, by omega, rfl, by go_num, E0.out, S0.out, trivial⟩
        case measure => simp [intOf]; omega
    · have d3 : ¬ (k : Int) < (n : Int) := by omega
      have ek : k = n := by omega
      have HLn : Hid (t.data.toList = jn ts n) := by have := HL.out; rw [ek] at this; exact this
      have hs2 : t.size ≤ 4020 := by omega
      go_wp2
      go_ret
      exact ⟨⟨t, rfl, HLn.out, hs2⟩, rfl⟩
end Go.Proofs.YtmjolkagkeonfaaGreatDoor
