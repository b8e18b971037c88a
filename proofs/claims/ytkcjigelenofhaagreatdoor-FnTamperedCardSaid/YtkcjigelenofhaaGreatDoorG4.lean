import Derived.Test.YtkcjigelenofhaaGreatDoorProg
import Derived.Test.YtkcjigelenofhaaGreatDoorBase
import Derived.WalkLawsBesides
import Derived.WalkSpells
import Derived.OpenShut
import Derived.Test.YtkcjigelenofhaaGreatDoorG3
import Derived.Lib.Join
import Derived.Deep.CutRange
import Derived.Test.YtkcjigelenofhaaGreatDoorG1
import Derived.Test.YtkcjigelenofhaaGreatDoorG1
import Derived.Deep.RegionHeld3
import Derived.Deep.AppendLies
namespace Go.Proofs.YtkcjigelenofhaaGreatDoor
open Go.RowKit
def sumStep (s : Int) (c : UInt8) : Int := (s * 65539 + c.toNat + 1) % 2147483647
def sumL (s0 : Int) (l : List UInt8) : Int := l.foldl sumStep s0
theorem sumL_snoc (s0 : Int) (l : List UInt8) (c : UInt8) : sumL s0 (l ++ [c]) = sumStep (sumL s0 l) c := by simp [sumL]
theorem sumStep_bd (s : Int) (c : UInt8) : 0 ≤ sumStep s c ∧ sumStep s c ≤ 2147483647 := by unfold sumStep; omega
theorem sumL_bd (l : List UInt8) : ∀ s0, 0 ≤ s0 → s0 ≤ 2147483647 → 0 ≤ sumL s0 l ∧ sumL s0 l ≤ 2147483647 := by
 induction l with
 | nil => intro s0 h1 h2; exact ⟨h1, h2⟩
 | cons c l ih => intro s0 h1 h2; exact ih _ (sumStep_bd s0 c).1 (sumStep_bd s0 c).2
def sumOf (s : ByteArray) (seed : Int) : Int := if seed < 0 ∨ 400000 < s.size then 0 else sumL (seed % 2147483647 + 1) s.data.toList
theorem take_snoc (s : ByteArray) (k : Nat) (h : k < s.size) : s.data.toList.take (k + 1) = s.data.toList.take k ++ [s[k]] := by
 rw [List.take_succ_eq_append_getElem (by simpa using h)]; rfl
theorem byte_bd (s : ByteArray) (k : Nat) (h : k < s.size) : 0 ≤ (s[k].toNat : Int) ∧ (s[k].toNat : Int) < 256 := by
 have := s[k].toNat_lt; omega
theorem ret_int {k : IntKind} {a b : Int} (h : a = b) : Ending.returned (.int k a) = .returned (.int k b) := by rw [h]
set_option maxRecDepth 20000 in
set_option maxHeartbeats 400000 in
theorem ssum_any (s : ByteArray) (seed : Int) (h0 : 0 ≤ seed) (h1 : seed ≤ 9223372036854775807) (hs : s.size ≤ 400000) (w : World) :
 Calls Tryz.prog 14 #[.string s, .int .i64 seed] w fun e w' => e = .returned (.int .i64 (sumL (seed % 2147483647 + 1) s.data.toList)) ∧ w' = w := by
 have d0 : decide (seed < 0) = false := by simp; omega
 have d1 : decide (400000 < (s.size : Int)) = false := by simp; omega
 go_enter Tryz.func14, Tryz.ntmps14
 go_wp2
 go_loop [5, 6] (fun t i => ∃ k : Nat, k ≤ s.size ∧ i = .int .i64 k ∧ t = .int .i64 (sumL (seed % 2147483647 + 1) (s.data.toList.take k))) (fun _ i => s.size - (intOf i).toNat)
 case atStart => exact ⟨0, Nat.zero_le _, rfl, rfl⟩
 case round =>
  obtain ⟨k, hk, rfl, rfl⟩ := hrel
  have hb := sumL_bd (s.data.toList.take k) (seed % 2147483647 + 1) (by omega) (by omega)
  by_cases hlt : k < s.size
  · have hc := byte_bd s k hlt
    have HS : Hid (sumL (seed % 2147483647 + 1) (s.data.toList.take (k + 1)) = sumStep (sumL (seed % 2147483647 + 1) (s.data.toList.take k)) s[k]) := by
     rw [take_snoc s k hlt]; exact sumL_snoc _ _ _
    go_wp2
    go_round
    case rel => exact ⟨k + 1, by omega, by go_num, by rw [HS.out]; rfl⟩
    case measure => simp [intOf]; omega
  · go_wp2
    go_ret
    exact ⟨ret_int (by rw [List.take_of_length_le (by simp; omega)]), rfl⟩
set_option maxRecDepth 20000 in
set_option maxHeartbeats 400000 in
theorem isumOn (s0 : Int) (s : ByteArray) (h0 : 0 ≤ s0) (h1 : s0 ≤ 2147483647) (hs : s.size ≤ 400000) (w : World) :
 Calls Tryz.prog 110 #[.int .i64 s0, .string s] w fun e w' => e = .returned (.int .i64 (sumL s0 s.data.toList)) ∧ w' = w := by
 go_enter Tryz.func110, Tryz.ntmps110
 go_wp2
 go_loop [0, 8] (fun t i => ∃ k : Nat, k ≤ s.size ∧ i = .int .i64 k ∧ t = .int .i64 (sumL s0 (s.data.toList.take k))) (fun _ i => s.size - (intOf i).toNat)
 case atStart => exact ⟨0, Nat.zero_le _, rfl, rfl⟩
 case round =>
  obtain ⟨k, hk, rfl, rfl⟩ := hrel
  have hb := sumL_bd (s.data.toList.take k) s0 h0 h1
  by_cases hlt : k < s.size
  · have hc := byte_bd s k hlt
    have HS : Hid (sumL s0 (s.data.toList.take (k + 1)) = sumStep (sumL s0 (s.data.toList.take k)) s[k]) := by
     rw [take_snoc s k hlt]; exact sumL_snoc _ _ _
    go_wp2
    go_round
    case rel => exact ⟨k + 1, by omega, by go_num, by rw [HS.out]; rfl⟩
    case measure => simp [intOf]; omega
  · go_wp2
    go_ret
    exact ⟨ret_int (by rw [List.take_of_length_le (by simp; omega)]), rfl⟩
theorem ifirstSum (seed : Int) (h0 : 0 ≤ seed) (h1 : seed ≤ 9223372036854775807) (w : World) :
 Calls Tryz.prog 111 #[.int .i64 seed] w fun e w' => e = .returned (.int .i64 (seed % 2147483647 + 1)) ∧ w' = w := by
 go_enter Tryz.func111, Tryz.ntmps111
 go_wp2
 go_ret
 exact ⟨rfl, rfl⟩
set_option maxRecDepth 20000 in
set_option maxHeartbeats 400000 in
theorem isum_any (s : ByteArray) (seed : Int) (h0 : 0 ≤ seed) (h1 : seed ≤ 9223372036854775807) (hs : s.size ≤ 400000) (w : World) :
 Calls Tryz.prog 83 #[.string s, .int .i64 seed] w fun e w' => e = .returned (.int .i64 (sumL (seed % 2147483647 + 1) s.data.toList)) ∧ w' = w := by
 have d0 : decide (seed < 0) = false := by simp; omega
 have d1 : decide (400000 < (s.size : Int)) = false := by simp; omega
 have F := fun w => hid (ifirstSum seed h0 h1 w)
 have S := fun w => hid (isumOn (seed % 2147483647 + 1) s (by omega) (by omega) hs w)
 obtain ⟨f, hf⟩ : ∃ f, f = seed % 2147483647 + 1 := ⟨_, rfl⟩
 rw [← hf] at F S ⊢
 clear hf
 go_enter Tryz.func83, Tryz.ntmps83
 go_wp2_with fail
 refine (F _).out.mono ?_
 rintro e w1 ⟨rfl, rfl⟩
 go_wp2_with fail
 refine (S _).out.mono ?_
 rintro e w2 ⟨rfl, rfl⟩
 go_wp2
 go_ret
 exact ⟨rfl, rfl⟩
set_option maxHeartbeats 400000 in
theorem ssum_no (s : ByteArray) (seed : Int) (h : seed < 0 ∨ 400000 < s.size) (hs : s.size ≤ 1048576) (w : World) :
 Calls Tryz.prog 14 #[.string s, .int .i64 seed] w fun e w' => e = .returned (.int .i64 0) ∧ w' = w := by
 by_cases h0 : seed < 0
 · have d0 : decide (seed < 0) = true := by simp; omega
   go_enter Tryz.func14, Tryz.ntmps14
   go_wp2
   go_ret
   exact ⟨rfl, rfl⟩
 · have d0 : decide (seed < 0) = false := by simp; omega
   have d1 : decide (400000 < (s.size : Int)) = true := by simp; omega
   go_enter Tryz.func14, Tryz.ntmps14
   go_wp2
   go_ret
   exact ⟨rfl, rfl⟩
theorem ssum_all (s : ByteArray) (seed : Int) (h1 : seed ≤ 9223372036854775807) (hs : s.size ≤ 1048576) (w : World) :
 Calls Tryz.prog 14 #[.string s, .int .i64 seed] w fun e w' => e = .returned (.int .i64 (sumOf s seed)) ∧ w' = w := by
 unfold sumOf
 by_cases h : seed < 0 ∨ 400000 < s.size
 · rw [if_pos h]; exact ssum_no s seed h hs w
 · rw [if_neg h]; exact ssum_any s seed (by omega) h1 (by omega) w
set_option maxHeartbeats 400000 in
theorem isum_no (s : ByteArray) (seed : Int) (h : seed < 0 ∨ 400000 < s.size) (hs : s.size ≤ 1048576) (w : World) :
 Calls Tryz.prog 83 #[.string s, .int .i64 seed] w fun e w' => e = .returned (.int .i64 0) ∧ w' = w := by
 by_cases h0 : seed < 0
 · have d0 : decide (seed < 0) = true := by simp; omega
   go_enter Tryz.func83, Tryz.ntmps83
   go_wp2
   go_ret
   exact ⟨rfl, rfl⟩
 · have d0 : decide (seed < 0) = false := by simp; omega
   have d1 : decide (400000 < (s.size : Int)) = true := by simp; omega
   go_enter Tryz.func83, Tryz.ntmps83
   go_wp2
   go_ret
   exact ⟨rfl, rfl⟩
theorem isum_all (s : ByteArray) (seed : Int) (h1 : seed ≤ 9223372036854775807) (hs : s.size ≤ 1048576) (w : World) :
 Calls Tryz.prog 83 #[.string s, .int .i64 seed] w fun e w' => e = .returned (.int .i64 (sumOf s seed)) ∧ w' = w := by
 unfold sumOf
 by_cases h : seed < 0 ∨ 400000 < s.size
 · rw [if_pos h]; exact isum_no s seed h hs w
 · rw [if_neg h]; exact isum_any s seed (by omega) h1 (by omega) w
end Go.Proofs.YtkcjigelenofhaaGreatDoor
namespace Go.Proofs.YtkcjigelenofhaaGreatDoor
open Go.RowKit
def nLt (a b : ByteArray) : Bool := Op.bytesLess a.toList b.toList
def bstTo (o : Nat → Hp) : Nat → Nat
 | 0 => 0
 | k + 1 => if k = 0 then 0 else if nLt (o k).nm (o (bstTo o k)).nm then k else bstTo o k
theorem bstTo_lt (o : Nat → Hp) : ∀ k, 0 < k → bstTo o k < k
 | 0, h => absurd h (by omega)
 | k + 1, _ => by
  unfold bstTo
  by_cases e : k = 0
  · rw [if_pos e]; omega
  · rw [if_neg e]
    have := bstTo_lt o k (by omega)
    split <;> omega
def hAt (L : List Hp) (i : Nat) : Hp := L.getD i hp0
def lessOne (L : List Hp) (b : Nat) : List Hp := L.take b ++ L.drop (b + 1)
theorem lessOne_len (L : List Hp) (b : Nat) (h : b < L.length) : (lessOne L b).length = L.length - 1 := by
 unfold lessOne; simp; omega
def selL : Nat → List Hp → List Hp
 | 0, _ => []
 | f + 1, L => hAt L (bstTo (hAt L) L.length) :: selL f (lessOne L (bstTo (hAt L) L.length))
theorem mem_lessOne {L : List Hp} {b : Nat} {p : Hp} (h : p ∈ lessOne L b) : p ∈ L := by
 unfold lessOne at h
 rcases List.mem_append.1 h with h | h
 · exact List.mem_of_mem_take h
 · exact List.mem_of_mem_drop h
theorem hAt_mem {L : List Hp} {i : Nat} (h : i < L.length) : hAt L i ∈ L := by
 unfold hAt
 rw [List.getD_eq_getElem?_getD, List.getElem?_eq_getElem h]
 exact List.getElem_mem h
def canQ (L : List Hp) : List UInt8 := Lib.join (L.map prL) [38]
theorem join_snocC (sep x : List UInt8) : ∀ xs : List (List UInt8), xs ≠ [] → Lib.join (xs ++ [x]) sep = Lib.join xs sep ++ sep ++ x
 | [], h => absurd rfl h
 | y :: r, _ => by
  rw [List.cons_append, Lib.join_cons, Lib.join_cons]
  unfold Lib.joinTail
  rw [List.map_append, List.flatten_append]
  simp
theorem canQ_one (p : Hp) : canQ [p] = prL p := Lib.join_one _ _
theorem canQ_snoc (L : List Hp) (p : Hp) (h : L ≠ []) : canQ (L ++ [p]) = canQ L ++ [38] ++ prL p := by
 unfold canQ
 rw [List.map_append]
 exact join_snocC _ _ _ (by simpa using h)
def fndTo (o : Nat → Hp) (x : ByteArray) : Nat → Option Nat
 | 0 => none
 | k + 1 => match fndTo o x k with
  | some i => some i
  | none => if (o k).nm = x then some k else none
theorem fndTo_some {o : Nat → Hp} {x : ByteArray} : ∀ {k i : Nat}, fndTo o x k = some i → i < k ∧ (o i).nm = x
 | 0, i, h => by cases h
 | k + 1, i, h => by
  unfold fndTo at h
  cases e : fndTo o x k with
  | some j => rw [e] at h; cases h; have := fndTo_some e; exact ⟨by omega, this.2⟩
  | none =>
   rw [e] at h
   dsimp only at h
   split at h
   · cases h; exact ⟨by omega, by assumption⟩
   · cases h
theorem fndTo_none {o : Nat → Hp} {x : ByteArray} : ∀ {k : Nat}, fndTo o x k = none ↔ ∀ i, i < k → (o i).nm ≠ x
 | 0 => ⟨fun _ i hi => absurd hi (by omega), fun _ => rfl⟩
 | k + 1 => by
  have ih := fndTo_none (o := o) (x := x) (k := k)
  unfold fndTo
  cases e : fndTo o x k with
  | some j =>
   have hs := fndTo_some e
   constructor
   · intro h; cases h
   · intro h; exact absurd hs.2 (h j (by omega))
  | none =>
   dsimp only
   have h1 := ih.1 e
   constructor
   · intro h i hi
     split at h
     · cases h
     · rename_i hne
       by_cases q : i = k
       · rw [q]; exact hne
       · exact h1 i (by omega)
   · intro h
     rw [if_neg (h k (by omega))]
theorem fndTo_first {o : Nat → Hp} {x : ByteArray} {k n : Nat} (hk : k < n) (h0 : ∀ i, i < k → (o i).nm ≠ x) (h1 : (o k).nm = x) : fndTo o x n = some k := by
 induction n with
 | zero => omega
 | succ n ih =>
  unfold fndTo
  by_cases e : k = n
  · subst e
    rw [fndTo_none.2 h0]
    simp [h1]
  · rw [ih (by omega)]
def fndV (o : Nat → Hp) (x : ByteArray) (n : Nat) : Int := match fndTo o x n with
 | some i => (i : Int)
 | none => -1
def hvL (o : Nat → Hp) (n : Nat) (x : ByteArray) : ByteArray := match fndTo o x n with
 | some i => (o i).vl
 | none => ⟨#[]⟩
def sgL (o : Nat → Hp) (n : Nat) (ts : Nat → ByteArray) : Nat → List UInt8
 | 0 => []
 | k + 1 => sgL o n ts k ++ (ts k).data.toList ++ [58] ++ (hvL o n (ts k)).data.toList ++ [10]
def hpList (o : Nat → Hp) (n : Nat) : List Hp := (List.range n).map o
theorem hpList_len (o : Nat → Hp) (n : Nat) : (hpList o n).length = n := by simp [hpList]
theorem hAt_list (o : Nat → Hp) (n i : Nat) (h : i < n) : hAt (hpList o n) i = o i := by
 unfold hAt hpList
 rw [List.getD_eq_getElem?_getD, List.getElem?_map, List.getElem?_range h]
 rfl
def canL (r : Rq) (ts : Nat → ByteArray) (m : Nat) : List UInt8 :=
 r.mt.data.toList ++ [10] ++ escV r.pt ++ [10] ++ canQ (selL r.qs.n (hpList r.qs.o r.qs.n)) ++ [10] ++ sgL r.hs.o r.hs.n ts m ++ Lib.decDigits (sumOf r.bd 3).toNat
def hpL (L : List Hp) : List Value := L.flatMap fun p => [.string p.nm, .string p.vl]
theorem hpL_len (L : List Hp) : (hpL L).length = L.length * 2 := by
 induction L with
 | nil => rfl
 | cons p r ih => unfold hpL at ih ⊢; simp at ih ⊢; omega
theorem hpL_app (L M : List Hp) : hpL (L ++ M) = hpL L ++ hpL M := by simp [hpL]
theorem hpL_at : ∀ (L : List Hp) (i : Nat), i < L.length → (hpL L)[i * 2]? = some (.string (hAt L i).nm) ∧ (hpL L)[i * 2 + 1]? = some (.string (hAt L i).vl)
 | [], i, h => absurd h (by simp)
 | p :: r, 0, _ => ⟨rfl, rfl⟩
 | p :: r, i + 1, h => by
  have ih := hpL_at r i (by simpa using h)
  have e : hpL (p :: r) = .string p.nm :: .string p.vl :: hpL r := rfl
  rw [e, show (i + 1) * 2 = i * 2 + 1 + 1 by omega]
  exact ih
def OwnHp (w : World) (base : Nat) (v : Value) (L : List Hp) : Prop := w.ownsRow base 66 2 v L.length (hpL L)
theorem OwnHp.empty (w : World) : OwnHp (w.alloc (.cells #[] 66)) w.heap.size (.slice (some ⟨w.heap.size, 0, none⟩) 0 0) [] :=
 World.ownsRow_made w #[] 0 (Nat.le_refl _) (by decide) rfl
theorem OwnHp.next {X w : World} {base : Nat} {v : Value} {L : List Hp} (hb : Below X.heap.size X w) (h : OwnHp X base v L) : OwnHp w base v L :=
 World.ownsRow.kept h (below_grown hb none) (Classical.em _)
theorem OwnHp.mono {w : World} {base base' : Nat} {v : Value} {L : List Hp} (h : OwnHp w base v L) (hb : base' ≤ base) : OwnHp w base' v L := by
 obtain ⟨h1, h2⟩ := h
 refine ⟨h1, ?_⟩
 rcases h2 with h2 | ⟨g, cap, cur, e1, e2, e3⟩
 · exact .inl h2
 · exact .inr ⟨g, cap, cur, e1, by omega, e3⟩
theorem OwnHp.shape {w : World} {base : Nat} {v : Value} {L : List Hp} (h : OwnHp w base v L) (h0 : 0 < L.length) : ∃ g cap, v = .slice (some ⟨g, 0, none⟩) L.length cap ∧ base ≤ g ∧ g < w.heap.size ∧ L.length ≤ cap ∧ ∀ i, i < L.length → w.cell? ⟨g, i * 2, none⟩ = some (.string (hAt L i).nm) ∧ w.cell? ⟨g, i * 2 + 1, none⟩ = some (.string (hAt L i).vl) := by
 rcases h.2 with ⟨_, h1⟩ | ⟨g, cap, cur, he, hb, hr, hnc, hm, hsz, htk⟩
 · omega
 · have R : RowAt w g 66 cur := hr
   refine ⟨g, cap, he, hb, R.lt, hnc, fun i hi => ?_⟩
   obtain ⟨q0, q1⟩ := hpL_at L i hi
   have key : ∀ p, p < L.length * 2 → cur[p]? = (hpL L)[p]? := fun p hp => by
    rw [← htk, List.getElem?_take, if_pos hp, Array.getElem?_toList]
   rw [R.cell, R.cell, key _ (by omega), key _ (by omega)]
   exact ⟨q0, q1⟩
abbrev hz2 : Value := .agg #[.string ⟨#[]⟩, .string ⟨#[]⟩]
theorem append_hps {P : Program} (base : Nat) (wr : World) {ops : Array Oper} {rest : List Oper} {op : Oper} {a : Act} {Q : Exit → Act → World → Prop} (hgd : op.guard = none) (s x : Operand) (t : TypeId)
 (ho : op.op = .call { callee := .builtin .append, args := #[s, x], argTypes := #[t, t] })
 (ht : P.underlying t = some (.slice 66)) (hinfo : (P.info? 66).map (fun i => (i.zero, i.size, i.bytes)) = some (some hz2, 2, 32))
 (v : Value) (L : List Hp) (hs : a.eval s = v) (hown : OwnHp wr base v L) (hsz : base ≤ wr.heap.size)
 (b off m c : Nat) (M : List Hp) (hx : a.eval x = .slice (some ⟨b, off, none⟩) m c) (hm : M.length = m)
 (hc : ∀ k, k < m → wr.cell? ⟨b, off + k * 2, none⟩ = some (.string (hAt M k).nm) ∧ wr.cell? ⟨b, off + k * 2 + 1, none⟩ = some (.string (hAt M k).vl)) (hlen : L.length + m ≤ 1048576)
 (h : ∀ v' w', OwnHp w' base v' (L ++ M) → wr.grownBy w' v.ownBlock → wpList P ops Q rest (a.put op.dst v') w') :
 wpList P ops Q (op :: rest) a wr := by
 subst hm
 obtain ⟨i0, hi, hz0, hz1, hz2⟩ := info_parts hinfo
 refine wpList_append_own _ hgd s x t ho base 66 i0 _ 2 32 ht hi hz0 hz1 hz2 rfl (by decide) v L.length _ hs hown ⟨b, off, none⟩ M.length c (hpL M) hx (hpL_len M) ?_ ?_ ?_ ?_ hsz ?_
 · intro j u hj
   have hadd : (⟨b, off, none⟩ : Addr).add j = ⟨b, off + j, none⟩ := by unfold Addr.add; split <;> simp_all
   rw [hadd]
   have hl : j < M.length * 2 := by rw [← hpL_len]; exact (List.getElem?_eq_some_iff.1 hj).1
   rcases Nat.mod_two_eq_zero_or_one j with e | e
   · obtain ⟨k, rfl⟩ : ∃ k, j = k * 2 := ⟨j / 2, by omega⟩
     rw [(hpL_at M k (by omega)).1] at hj
     rw [(hc k (by omega)).1]; exact hj
   · obtain ⟨k, rfl⟩ : ∃ k, j = k * 2 + 1 := ⟨j / 2, by omega⟩
     rw [(hpL_at M k (by omega)).2] at hj
     rw [← Nat.add_assoc, (hc k (by omega)).2]; exact hj
 · intro u hu
   unfold hpL at hu
   obtain ⟨p, _, hp⟩ := List.mem_flatMap.1 hu
   simp at hp
   rcases hp with rfl | rfl <;> rfl
 · unfold maxLen; omega
 · omega
 · intro v' w' h1 h2 _
   exact h v' w' (by unfold OwnHp; rw [hpL_app, List.length_append]; exact h1) h2
end Go.Proofs.YtkcjigelenofhaaGreatDoor
namespace Go.Proofs.YtkcjigelenofhaaGreatDoor
open Go.RowKit
end Go.Proofs.YtkcjigelenofhaaGreatDoor
namespace Go.Proofs.YtkcjigelenofhaaGreatDoor
open Go.RowKit
def Strs (w : World) (a : Option Addr) (len cap : Nat) (ts : Nat → ByteArray) : Prop :=
 len ≤ cap ∧ (len = 0 ∨ ∃ b off, a = some ⟨b, off, none⟩ ∧ b < w.heap.size ∧ ∀ i, i < len → w.cell? ⟨b, off + i, none⟩ = some (.string (ts i)))
theorem Strs.below {w w' : World} {a : Option Addr} {len cap : Nat} {ts : Nat → ByteArray} (h : Strs w a len cap ts) (hb : Below w.heap.size w w') : Strs w' a len cap ts := by
 refine ⟨h.1, ?_⟩
 rcases h.2 with h0 | ⟨b, off, rfl, h1, h2⟩
 · exact Or.inl h0
 · exact Or.inr ⟨b, off, rfl, Nat.lt_of_lt_of_le h1 hb.size, fun i hi => (hb.cell (p := ⟨b, off + i, none⟩) h1).trans (h2 i hi)⟩
theorem FRow.strs {w : World} {b n : Nat} {t : TypeId} {ts : Nat → ByteArray} (h : FRow w b t n (fun i => .string (ts i))) : Strs w (some ⟨b, 0, none⟩) n n ts :=
 ⟨Nat.le_refl _, Or.inr ⟨b, 0, rfl, h.lt, fun i hi => by rw [Nat.zero_add]; exact h.cell hi⟩⟩
theorem Tryz.infoS' : (Tryz.prog.info? 9).map (fun i => (i.zero, i.size, i.bytes)) = some (some (.string ⟨#[]⟩), 1, 16) := by kernel_rfl
def IsStrs (w : World) (a : Option Addr) (len cap : Nat) (ts : Nat → ByteArray) : Prop :=
 (a = none ∧ len = 0 ∧ cap = 0) ∨ ∃ x : Addr, a = some x ∧ len ≤ cap ∧ cap ≤ maxLen ∧ ∀ i, i < len → w.cell? (x.add i) = some (.string (ts i)) ∧ (ts i).size ≤ maxLen
theorem IsStrs.len {w : World} {a : Option Addr} {len cap : Nat} {ts : Nat → ByteArray} (h : IsStrs w a len cap ts) : len ≤ 9223372036854775807 ∧ ∀ i, i < len → (ts i).size ≤ 9223372036854775807 := by
 rcases h with ⟨_, rfl, _⟩ | ⟨x, _, h1, h2, h3⟩
 · exact ⟨by omega, fun i hi => absurd hi (Nat.not_lt_zero _)⟩
 · unfold maxLen at h2 h3; exact ⟨by omega, fun i hi => by have := (h3 i hi).2; omega⟩
end Go.Proofs.YtkcjigelenofhaaGreatDoor
namespace Go.Proofs.YtkcjigelenofhaaGreatDoor
open Go.RowKit
def OwnStrs (w : World) (base : Nat) (v : Value) (xs : List ByteArray) : Prop := w.ownsRow base 9 1 v xs.length (xs.map Value.string)
theorem OwnStrs.below {w w' : World} {base : Nat} {v : Value} {xs : List ByteArray} (h : OwnStrs w base v xs) (hb : Below w.heap.size w w') : OwnStrs w' base v xs := by
 refine ⟨h.1, ?_⟩
 rcases h.2 with h0 | ⟨g, cap, cur, he, hbg, hr, r⟩
 · exact Or.inl h0
 · exact Or.inr ⟨g, cap, cur, he, hbg, (hb.block g (show RowAt w g 9 cur from hr).lt).trans hr, r⟩
theorem OwnStrs.alloc {w : World} {base : Nat} {v : Value} {xs : List ByteArray} (h : OwnStrs w base v xs) (o : Obj) : OwnStrs (w.alloc o) base v xs := World.ownsRow.alloc h o
theorem OwnStrs.drew {w : World} {base : Nat} {v : Value} {xs : List ByteArray} (h : OwnStrs w base v xs) : OwnStrs w.drew base v xs := World.ownsRow.drew h
theorem OwnStrs.slice {w : World} {base : Nat} {v : Value} {xs : List ByteArray} (h : OwnStrs w base v xs) : ∃ a c, v = .slice a xs.length c := by
 rcases h.2 with ⟨h0, h1⟩ | ⟨g, cap, cur, he, _⟩
 · exact ⟨_, _, by rw [h0, h1]⟩
 · exact ⟨_, _, he⟩
theorem OwnStrs.ne {w : World} {base : Nat} {v : Value} {xs : List ByteArray} {c : Nat} (h : OwnStrs w base v xs) (hc : c < base) : some c ≠ v.ownBlock := by
 rcases h.2 with ⟨rfl, _⟩ | ⟨g, cap, cur, rfl, hb, _⟩
 · intro e; cases e
 · intro e
   have e2 : c = g := by simpa [Value.ownBlock] using e
   omega
theorem OwnStrs.strs {w : World} {base : Nat} {a : Option Addr} {n c : Nat} {xs : List ByteArray} {ts : Nat → ByteArray} (h : OwnStrs w base (.slice a n c) xs) (h0 : 0 < xs.length) (ht : ∀ i, i < xs.length → xs[i]? = some (ts i)) :
 ∃ g, a = some ⟨g, 0, none⟩ ∧ base ≤ g ∧ n = xs.length ∧ Strs w (some ⟨g, 0, none⟩) n c ts := by
 rcases h.2 with ⟨_, h1⟩ | ⟨g, cap, cur, he, hb, hr, hnc, hm, hsz, htk⟩
 · omega
 · cases he
   have R : RowAt w g 9 cur := hr
   refine ⟨g, rfl, hb, rfl, hnc, Or.inr ⟨g, 0, rfl, R.lt, fun i hi => ?_⟩⟩
   have := congrArg (·[i]?) htk
   simp only [List.getElem?_take] at this
   rw [if_pos (by omega), List.getElem?_map, ht i hi] at this
   rw [R.cell (0 + i), Nat.zero_add]
   simpa using this
theorem Strs.setRow {w : World} {b len cap : Nat} {ts : Nat → ByteArray} (h : Strs w (some ⟨b, 0, none⟩) len cap ts) (g : Nat) (c : Array Value) (hn : b ≠ g) : Strs (w.setRow g c) (some ⟨b, 0, none⟩) len cap ts := by
 refine ⟨h.1, ?_⟩
 rcases h.2 with h0 | ⟨b', off, he, h1, h2⟩
 · exact Or.inl h0
 · cases he
   refine Or.inr ⟨b, 0, rfl, by rw [setRow_size]; exact h1, fun i hi => ?_⟩
   rw [← h2 i hi]
   simp only [World.cell?, setRow_other w g b c hn]
theorem append_str2 {P : Program} (base : Nat) (wr : World) {ops : Array Oper} {rest : List Oper} {o : Oper} {a : Act} {Q : Exit → Act → World → Prop} (hgd : o.guard = none) (s x : Operand) (t : TypeId)
 (ho : o.op = .call { callee := .builtin .append, args := #[s, x], argTypes := #[t, t] })
 (ht : P.underlying t = some (.slice 9)) (hinfo : (P.info? 9).map (fun i => (i.zero, i.size, i.bytes)) = some (some (.string ⟨#[]⟩), 1, 16))
 (v : Value) (xs : List ByteArray) (y : ByteArray) (hs : a.eval s = v) (hown : OwnStrs wr base v xs) (hsz : base ≤ wr.heap.size)
 (hx : a.eval x = .slice (some ⟨wr.heap.size, 0, none⟩) 1 1) (hlen : xs.length ≤ 1048576)
 (h : ∀ v' w', OwnStrs w' base v' (xs ++ [y]) → wr.grownBy w' v.ownBlock → wpList P ops Q rest (a.put o.dst v') w') :
 wpList P ops Q (o :: rest) a (wr.alloc (.cells #[.string y] 9)) := by
 obtain ⟨i0, hi, hz0, hz1, hz2⟩ := info_parts hinfo
 refine wpList_append_own _ hgd s x t ho base 9 i0 (.string ⟨#[]⟩) 1 16 ht hi hz0 hz1 hz2 rfl (by decide) v _ _ hs (World.ownsRow.alloc hown _) ⟨wr.heap.size, 0, none⟩ 1 1 [.string y] hx rfl ?_ ?_ ?_ ?_ ?_ ?_
 · intro j u hj
   match j, hj with
   | 0, hj => simp at hj; subst hj; simp [Addr.add]
 · intro u hu; simp at hu; subst hu; rfl
 · unfold maxLen; omega
 · omega
 · simp; omega
 · intro v' w' h1 h2 h3
   exact h v' w' (by simpa [OwnStrs] using h1) (grown_trans (World.grownBy_alloc wr _ _) h2)
end Go.Proofs.YtkcjigelenofhaaGreatDoor
