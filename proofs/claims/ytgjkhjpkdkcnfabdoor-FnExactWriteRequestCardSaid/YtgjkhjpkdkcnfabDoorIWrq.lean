import Derived.Test.YtgjkhjpkdkcnfabDoorRqShl
import Derived.Test.YtgjkhjpkdkcnfabDoorIReq
import Derived.Test.YtgjkhjpkdkcnfabDoorIEsc
import Derived.Test.YtgjkhjpkdkcnfabDoorSWrq
namespace Go.Proofs.YtgjkhjpkdkcnfabDoor
open Go.RowKit Go.Shelf
/-! The program's lines of a request. -/
theorem infoStr : (Tryd.prog.info? 9).map (fun i => (i.zero, i.size, i.bytes)) = some (some (.string ⟨#[]⟩), 1, 16) := by kernel_rfl
set_option maxRecDepth 20000 in
theorem iDecm (n : Nat) (hn : n ≤ 4102444800) (z : Int) (hz : z = (n : Int)) (w : World) (hT : TB w) :
    Calls Tryd.prog 17 #[.int .i64 z] w fun e w' => e = .returned (.string (ofL (Lib.decDigits n))) ∧ Below w.heap.size w w' := by
  subst hz
  have K := hid (iFmt n hn w hT)
  go_enter Tryd.func17, Tryd.ntmps17
  go_wp2_with fail
  refine K.out.mono ?_
  rintro e w1 ⟨rfl, hb⟩
  have B := hid hb
  clear hb
  go_wp2
  go_ret
  exact ⟨rfl, B.out⟩
set_option maxRecDepth 20000 in
theorem iHLine (a b : ByteArray) (ha : a.size ≤ 1048576) (hb : b.size ≤ 1048576) (w : World) :
    Calls Tryd.prog 16 #[.string a, .string b] w fun e w' => e = .returned (.string (ofL (a.data.toList ++ [58, 32] ++ b.data.toList ++ [10]))) ∧ w' = w := by
  have E : Hid (a ++ ⟨#[58, 32]⟩ ++ b ++ ⟨#[10]⟩ = ofL (a.data.toList ++ [58, 32] ++ b.data.toList ++ [10])) := ofL_of (by rw [ba_app, ba_app, ba_app])
  have z0 : ¬ 9223372036854775807 < a.size + 2 := by omega
  have z1 : ¬ 9223372036854775807 < a.size + 2 + b.size := by omega
  have z2 : ¬ 9223372036854775807 < a.size + 2 + b.size + 1 := by omega
  go_enter Tryd.func16, Tryd.ntmps16
  go_wp2
  go_ret
  exact ⟨by rw [E.out]; rfl, rfl⟩
def wdQ (o : Nat → Hp) (i : Nat) : ByteArray := ofL (prL (o i))
def qtL (o : Nat → Hp) (n : Nat) : List UInt8 := Lib.join (jl (wdQ o) n) [38]
theorem qyL_join (o : Nat → Hp) : ∀ n, qyL o (n + 1) = 63 :: qtL o (n + 1)
  | 0 => by
    show [] ++ [if (0 : Nat) = 0 then 63 else 38] ++ prL (o 0) = _
    unfold qtL jl wdQ
    simp [Lib.join, ofL_l]
  | n + 1 => by
    show qyL o (n + 1) ++ [if n + 1 = 0 then 63 else 38] ++ prL (o (n + 1)) = _
    rw [qyL_join o n, if_neg (by omega)]
    unfold qtL
    rw [jl_succ (wdQ o) (n + 1), join_snoc _ _ _ (by unfold jl; simp)]
    unfold wdQ
    rw [ofL_l]
    simp
theorem qtL_len (o : Nat → Hp) : ∀ n, (∀ i, i < n → qyP (o i)) → (qtL o n).length ≤ n * 3302
  | 0, _ => by unfold qtL jl; simp [Lib.join]
  | 1, h => by
    have := prL_len (h 0 (by omega))
    unfold qtL jl wdQ
    simp [Lib.join, ofL_l]
    omega
  | n + 2, h => by
    have h1 := qtL_len o (n + 1) fun i hi => h i (by omega)
    have h2 := prL_len (h (n + 1) (by omega))
    unfold qtL at h1 ⊢
    rw [jl_succ (wdQ o) (n + 1), join_snoc _ _ _ (by unfold jl; simp), List.length_append, List.length_append]
    have e : (wdQ o (n + 1)).data.toList = prL (o (n + 1)) := ofL_l _
    rw [e]
    simp only [List.length_cons, List.length_nil]
    omega
/-- 'make([]string, 0, n)'. -/
theorem make_strs {P : Program} (W0 w : World) {ops : Array Oper} {rest : List Oper} {o : Oper} {a : Act} {Q : Exit → Act → World → Prop}
    (hg : o.guard = none) (l c : Operand) (t : TypeId) (hop : o.op = Op.makeSlice t l c)
    (ht : P.underlying t = some (.slice 9)) (hinfo : (P.info? 9).map (fun i => (i.zero, i.size, i.bytes)) = some (some (.string ⟨#[]⟩), 1, 16))
    (kl kc : IntKind) (C : Int) (n : Nat) (hl : a.eval l = .int kl 0) (hc : a.eval c = .int kc C) (hC : C = (n : Int)) (hn : n ≤ 1048576) (hbel : Below W0.heap.size W0 w)
    (hK : ∀ w', OwnStrs w' W0.heap.size (.slice (some ⟨w.heap.size, 0, none⟩) 0 n) [] → Below W0.heap.size W0 w' → wpList P ops Q rest (a.put o.dst (.slice (some ⟨w.heap.size, 0, none⟩) 0 n)) w') :
    wpList P ops Q (o :: rest) a w := by
  obtain ⟨i0, hi, hz0, hz1, hz2⟩ := info_parts hinfo
  refine wpList_make_own w hg l c t hop W0.heap.size 9 i0 (.string ⟨#[]⟩) 1 ht hi hz0 hz1 kl kc C n hl hc hC ?_ (by unfold maxLen; omega) hbel.size ?_
  · rw [hz2]; omega
  · intro w' h1 h2
    exact hK w' h1 (hbel.grown h2 hbel.size (by intro k hk; cases hk))
theorem step_append_strs {P : Program} (base : Nat) (w : World) {ops : Array Oper} {op : Oper} {a : Act} {K : Act → World → Prop} {Q : Exit → Act → World → Prop} {E : Prop} (hgd : op.guard = none) (s x : Operand) (t : TypeId)
    (ho : op.op = .call { callee := .builtin .append, args := #[s, x], argTypes := #[t, t] })
    (ht : P.underlying t = some (.slice 9)) (hinfo : (P.info? 9).map (fun i => (i.zero, i.size, i.bytes)) = some (some (.string ⟨#[]⟩), 1, 16))
    (v : Value) (L : List ByteArray) (y : ByteArray) (hs : a.eval s = v) (hown : OwnStrs w base v L) (hsz : base ≤ w.heap.size)
    (b : Nat) (hx : a.eval x = .slice (some ⟨b, 0, none⟩) 1 1) (hbox : w.heap[b]? = some (.cells #[.string y] 9 (0, 0))) (hlen : L.length + 1 ≤ 1048576)
    (h : ∀ g cap w', OwnStrs w' base (.slice (some ⟨g, 0, none⟩) (L.length + 1) cap) (L ++ [y]) → w.grownBy w' v.ownBlock → K (a.put op.dst (.slice (some ⟨g, 0, none⟩) (L.length + 1) cap)) w') :
    if Region.wanted op (yielded ops a.tmps) = true then Oper.wp P op a w K Q else E := by
  obtain ⟨i0, hi, hz0, hz1, hz2⟩ := info_parts hinfo
  have R : RowAt w b 9 #[.string y] := hbox
  refine step_append_lies _ hgd s x t ho base 9 i0 _ 1 16 ht hi hz0 hz1 hz2 rfl (by decide) v L.length (L.map Value.string) hs hown ⟨b, 0, none⟩ 1 1 [.string y] hx rfl ?_ ?_ (by decide) ?_ ?_ hsz w.heap.size rfl ?_
  · intro j u hj
    have hadd : (⟨b, 0, none⟩ : Addr).add j = ⟨b, j, none⟩ := by unfold Addr.add; split <;> simp_all
    rw [hadd, R.cell]
    match j, hj with
    | 0, hj => exact hj
  · intro u hu
    simp at hu
    subst hu
    rfl
  · unfold maxLen; omega
  · omega
  · intro g cap w' h1 h2 _ _
    exact h g cap w' (by unfold OwnStrs; rw [List.map_append, List.length_append]; exact h1) h2
/-- a row of another type is none of an owned row of texts -/
theorem OwnStrs.apart {w : World} {base : Nat} {v : Value} {xs : List ByteArray} {b : Nat} {t : TypeId} {cs : Array Value} (h : OwnStrs w base v xs) (hr : RowAt w b t cs) (ht : t ≠ 9) : some b ≠ v.ownBlock := by
  intro q
  rcases h.2 with ⟨rfl, _⟩ | ⟨g, cap, cur, rfl, _, hg, _⟩
  · simp [Value.ownBlock] at q
  · simp [Value.ownBlock] at q
    subst q
    have := hr.symm.trans hg
    simp at this
    exact ht this.2
end Go.Proofs.YtgjkhjpkdkcnfabDoor
