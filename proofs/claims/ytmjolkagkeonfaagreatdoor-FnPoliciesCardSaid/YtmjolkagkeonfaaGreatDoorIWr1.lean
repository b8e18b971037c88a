import Derived.Test.YtmjolkagkeonfaaGreatDoorWrShl
import Derived.Test.YtmjolkagkeonfaaGreatDoorSWr
import Derived.Test.YtmjolkagkeonfaaGreatDoorG9
import Derived.Test.YtmjolkagkeonfaaGreatDoorG4
namespace Go.Proofs.YtmjolkagkeonfaaGreatDoor
open Go.RowKit Go.Shelf
/-! The program's words of a policy. -/
/-- the library's table of powers lies there -/
def TB (w : World) : Prop := Lib.TabIs Tryz.prog w "internal/strconv.uint64pow10" .u64 Lib.pow10Tab
theorem TB.below {w w' : World} (h : TB w) (hb : Below w.heap.size w w') : TB w' := by
  unfold TB Lib.TabIs World.var? at h ⊢
  have hg : Tryz.prog.globalNamed "internal/strconv.uint64pow10" = some 1 := by kernel_rfl
  rw [hg] at h ⊢
  simp only [Option.bind_some] at h ⊢
  have hlt : 1 < w.heap.size := by
    rcases Nat.lt_or_ge 1 w.heap.size with h' | h'
    · exact h'
    · rw [Array.getElem?_eq_none h'] at h; cases h
  rw [hb.block _ hlt]
  exact h
theorem jn_len (ts : Nat → ByteArray) : ∀ n, (∀ i, i < n → (ts i).size ≤ 200) → (jn ts n).length ≤ n * 201
  | 0, _ => by rw [jn_zero]; simp
  | 1, h => by rw [jn_one, baLen]; have := h 0 (by omega); omega
  | n + 2, h => by
    rw [jn_next ts (n + 1) (by omega), List.length_append, List.length_append, baLen]
    have h1 := jn_len ts (n + 1) (fun i hi => h i (by omega))
    have h2 := h (n + 1) (by omega)
    show _ + 1 + _ ≤ _
    omega
theorem iJoinC (a : Option Addr) (n cap : Nat) (ts : Nat → ByteArray) (sep : ByteArray) (hn : 1 ≤ n) (hN : n ≤ 1000) (hl : (Lib.join (jl ts n) sep.data.toList).length ≤ 140737488355328) (w : World) (h : Strs w a n cap ts) :
    Calls Tryz.prog 65 #[.slice a n cap, .string sep] w fun e w' => e = .returned (.string ⟨(Lib.join (jl ts n) sep.data.toList).toArray⟩) ∧ Below w.heap.size w w' := by
  rcases h.2 with h0 | ⟨b, off, rfl, hbl, hc⟩
  · omega
  have e1 : ((List.range n).map ts).length = n := by simp
  have e2 : ((List.range n).map ts).map (·.data.toList) = jl ts n := by unfold jl; simp
  have := Any.strings_Join wr_Lays_n156 wrExtra b off cap ((List.range n).map ts) sep w (fun j x hx => by
    rw [List.getElem?_map] at hx
    obtain ⟨i, hi, rfl⟩ := Option.map_eq_some_iff.1 hx
    have hj : j < n := by
      rcases Nat.lt_or_ge j n with h' | h'
      · exact h'
      · rw [List.getElem?_eq_none (by simp; exact h')] at hi; cases hi
    rw [List.getElem?_range hj] at hi
    cases hi
    exact hc j hj) hbl (by omega) (by rw [e1]; exact h.1) (by rw [e2]; exact hl)
  rw [e1, e2] at this
  exact this
theorem iFmt (n : Nat) (hn : n ≤ 4102444800) (w : World) (hT : TB w) :
    Calls Tryz.prog 108 #[.int .i64 (n : Int), .int .i64 10] w fun e w' => e = .returned (.string ⟨(Lib.decDigits n).toArray⟩) ∧ Below w.heap.size w w' := by
  refine (Any.strconv_FormatInt_10 wr_LaysM_n173 (n : Int) (by omega) (by omega) w hT).mono ?_
  rintro e w' ⟨rfl, k, os, rfl⟩
  refine ⟨?_, rfl, rfl, rfl, ?_, ?_⟩
  · unfold Lib.itoa
    rw [if_neg (by omega)]
    simp
  · show w.heap.size ≤ (w.heap ++ os).size
    rw [Array.size_append]; omega
  · intro j hj
    show (w.heap ++ os)[j]? = _
    rw [Array.getElem?_append_left hj]
theorem dec_len (n : Nat) (hn : n ≤ 4102444800) : (Lib.decDigits n).length ≤ 10 := by
  rw [Lib.decDigits_length]
  have h : ∀ (d u : Nat), u < 10 ^ (d + 1) → Lib.nDigits u ≤ d + 1 := by
    intro d
    induction d with
    | zero => intro u hu; rw [Lib.nDigits_small (by simpa using hu)]; omega
    | succ d ih =>
      intro u hu
      rw [Lib.nDigits]
      by_cases h : u < 10
      · rw [dif_pos h]; omega
      · rw [dif_neg h]
        have := ih (u / 10) (by rw [Nat.pow_succ] at hu; omega)
        omega
  exact h 9 n (by omega)
set_option maxRecDepth 20000 in
set_option maxHeartbeats 1000000 in
theorem iEff (f : Int) (w : World) :
    Calls Tryz.prog 64 #[.int .i64 f] w fun e w' => e = .returned (.string ⟨(ew f).toArray⟩) ∧ w' = w := by
  by_cases h : f = 2
  · subst h
    go_enter Tryz.func64, Tryz.ntmps64
    go_wp2
    go_ret
    exact ⟨rfl, rfl⟩
  · have b : (f == 2) = false := beq_eq_false_iff_ne.2 h
    have E : Hid (ew f = [97, 108, 108, 111, 119]) := by show _ = _; unfold ew; rw [if_neg h]
    go_enter Tryz.func64, Tryz.ntmps64
    go_wp2
    go_ret
    exact ⟨by rw [E.out]; rfl, rfl⟩
set_option maxRecDepth 20000 in
set_option maxHeartbeats 2000000 in
theorem iCW1 (tx : ByteArray) (tm : Int) (ht : tx.size ≤ 200) (w : World) :
    Calls Tryz.prog 66 #[.iface 162 (.agg #[.string tx])] w fun e w' => (∃ t : ByteArray, e = .returned (.string t) ∧ t.data.toList = cw ⟨1, tx, tm⟩ ∧ t.size ≤ 300) ∧ Below w.heap.size w w' := by
  have q1 := ta1t
  have E : Hid (((⟨#[112, 114, 101, 102, 105, 120, 32]⟩ : ByteArray) ++ tx).data.toList = cw ⟨1, tx, tm⟩) := by show _ = _; rw [ba_app]; unfold cw kw cv; simp
  have Z : Hid (((⟨#[112, 114, 101, 102, 105, 120, 32]⟩ : ByteArray) ++ tx).size ≤ 300) := by show _ ≤ _; rw [sizeApp]; show 7 + tx.size ≤ 300; omega
  have Bw : Hid (∀ o, Below w.heap.size w (w.alloc o)) := fun o => balCn (Below.refl _ _) _
  go_enter Tryz.func66, Tryz.ntmps66
  go_wp2
  go_ret
  exact ⟨⟨_, rfl, E.out, Z.out⟩, Bw.out _⟩
set_option maxRecDepth 20000 in
set_option maxHeartbeats 2000000 in
theorem iCW2 (tx : ByteArray) (tm : Nat) (ht : tm ≤ 4102444800) (w : World) (hT : TB w) :
    Calls Tryz.prog 66 #[.iface 166 (.agg #[.int .i64 (tm : Int)])] w fun e w' => (∃ t : ByteArray, e = .returned (.string t) ∧ t.data.toList = cw ⟨2, tx, (tm : Int)⟩ ∧ t.size ≤ 300) ∧ Below w.heap.size w w' := by
  have q2 := ta2t
  have q1 := ta2n1
  have E : Hid (((⟨#[98, 101, 102, 111, 114, 101, 32]⟩ : ByteArray) ++ ⟨(Lib.decDigits tm).toArray⟩).data.toList = cw ⟨2, tx, (tm : Int)⟩) := by show _ = _; rw [ba_app]; unfold cw kw cv; simp
  have dl : (Lib.decDigits tm).length ≤ 10 := dec_len tm ht
  have Z : Hid (((⟨#[98, 101, 102, 111, 114, 101, 32]⟩ : ByteArray) ++ ⟨(Lib.decDigits tm).toArray⟩).size ≤ 300) := by show _ ≤ _; rw [sizeApp]; show 7 + (Lib.decDigits tm).toArray.size ≤ 300; simp; omega
  have Bw : Hid (∀ o, Below w.heap.size w (w.alloc o)) := fun o => balCn (Below.refl _ _) _
  have K := fun o => hid (iFmt tm ht (w.alloc o) (hT.below (Bw.out o)))
  obtain ⟨D, hD⟩ : ∃ D, D = (⟨(Lib.decDigits tm).toArray⟩ : ByteArray) := ⟨_, rfl⟩
  have dz : D.size ≤ 10 := by rw [hD]; show (Lib.decDigits tm).toArray.size ≤ 10; simpa using dl
  rw [← hD] at E Z K
  clear hD dl
  go_enter Tryz.func66, Tryz.ntmps66
  go_wp2_with fail
  refine (K _).out.mono ?_
  rintro e w2 ⟨rfl, hb2⟩
  have B2 := hid ((Bw.out _).trans (hb2.mono (Bw.out _).size))
  clear hb2 K
  go_wp2
  go_ret
  exact ⟨⟨_, rfl, E.out, Z.out⟩, B2.out⟩
set_option maxRecDepth 20000 in
set_option maxHeartbeats 2000000 in
theorem iCW3 (tx : ByteArray) (tm : Nat) (ht : tm ≤ 4102444800) (w : World) (hT : TB w) :
    Calls Tryz.prog 66 #[.iface 168 (.agg #[.int .i64 (tm : Int)])] w fun e w' => (∃ t : ByteArray, e = .returned (.string t) ∧ t.data.toList = cw ⟨3, tx, (tm : Int)⟩ ∧ t.size ≤ 300) ∧ Below w.heap.size w w' := by
  have q3 := ta3t
  have q1 := ta3n1
  have q2 := ta3n2
  have E : Hid (((⟨#[97, 102, 116, 101, 114, 32]⟩ : ByteArray) ++ ⟨(Lib.decDigits tm).toArray⟩).data.toList = cw ⟨3, tx, (tm : Int)⟩) := by show _ = _; rw [ba_app]; unfold cw kw cv; simp
  have dl : (Lib.decDigits tm).length ≤ 10 := dec_len tm ht
  have Z : Hid (((⟨#[97, 102, 116, 101, 114, 32]⟩ : ByteArray) ++ ⟨(Lib.decDigits tm).toArray⟩).size ≤ 300) := by show _ ≤ _; rw [sizeApp]; show 6 + (Lib.decDigits tm).toArray.size ≤ 300; simp; omega
  have Bw : Hid (∀ o, Below w.heap.size w (w.alloc o)) := fun o => balCn (Below.refl _ _) _
  have K := fun o => hid (iFmt tm ht (w.alloc o) (hT.below (Bw.out o)))
  obtain ⟨D, hD⟩ : ∃ D, D = (⟨(Lib.decDigits tm).toArray⟩ : ByteArray) := ⟨_, rfl⟩
  have dz : D.size ≤ 10 := by rw [hD]; show (Lib.decDigits tm).toArray.size ≤ 10; simpa using dl
  rw [← hD] at E Z K
  clear hD dl
  go_enter Tryz.func66, Tryz.ntmps66
  go_wp2_with fail
  refine (K _).out.mono ?_
  rintro e w2 ⟨rfl, hb2⟩
  have B2 := hid ((Bw.out _).trans (hb2.mono (Bw.out _).size))
  clear hb2 K
  go_wp2
  go_ret
  exact ⟨⟨_, rfl, E.out, Z.out⟩, B2.out⟩
set_option maxRecDepth 20000 in
set_option maxHeartbeats 2000000 in
theorem iCW4 (tx : ByteArray) (tm : Int) (ht : tx.size ≤ 200) (w : World) :
    Calls Tryz.prog 66 #[.iface 169 (.agg #[.string tx])] w fun e w' => (∃ t : ByteArray, e = .returned (.string t) ∧ t.data.toList = cw ⟨4, tx, tm⟩ ∧ t.size ≤ 300) ∧ Below w.heap.size w w' := by
  have q4 := ta4t
  have q1 := ta4n1
  have q2 := ta4n2
  have q3 := ta4n3
  have E : Hid (((⟨#[102, 114, 111, 109, 32]⟩ : ByteArray) ++ tx).data.toList = cw ⟨4, tx, tm⟩) := by show _ = _; rw [ba_app]; unfold cw kw cv; simp
  have Z : Hid (((⟨#[102, 114, 111, 109, 32]⟩ : ByteArray) ++ tx).size ≤ 300) := by show _ ≤ _; rw [sizeApp]; show 5 + tx.size ≤ 300; omega
  have Bw : Hid (∀ o, Below w.heap.size w (w.alloc o)) := fun o => balCn (Below.refl _ _) _
  go_enter Tryz.func66, Tryz.ntmps66
  go_wp2
  go_ret
  exact ⟨⟨_, rfl, E.out, Z.out⟩, Bw.out _⟩
end Go.Proofs.YtmjolkagkeonfaaGreatDoor
