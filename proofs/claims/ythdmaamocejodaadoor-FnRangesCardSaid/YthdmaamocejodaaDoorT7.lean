import Derived.OrdersIn
import Derived.OrdersHeld
import Derived.Deep.RegionHeld
import Derived.RangeFuncCalls
import Derived.OwnWalkIn
import Derived.Test.YthdmaamocejodaaDoorT5
import Derived.Shelf.Strings.Repeat
import Derived.Test.YthdmaamocejodaaDoorBase
import Derived.Test.YthdmaamocejodaaDoorProg
import Derived.Test.YthdmaamocejodaaDoorT1
import Derived.Deep.AppendLies
import Derived.Deep.CutRange
import Derived.RangeFuncNested
import Derived.Maps.AppendAt
namespace Go.Proofs.YthdmaamocejodaaDoor
open Go.RowKit
/-! A region that draws its order, in a round: out of what is held of it alone. -/
theorem rowsIn_of {l n : Nat} {P : Program} {row : String} {args : Array Value} {w : World} {R : Value → World → Prop} (h : Rows P row args w R) : RowsIn (Fence.wide.inRound l) n P row args w R :=
  fun c cs _ => let ⟨v, w', r, s⟩ := h c cs; ⟨v, w', r, stepsIn_wide.2 s⟩
theorem uponIn_of {l n : Nat} {P : Program} {o : Oper} {a : Act} {K : Act → World → Prop} {Q : Exit → Act → World → Prop} (r : Result Next) (h : o.upon P a K Q r) : o.uponIn (Fence.wide.inRound l) n P a K Q r := by
  cases r with
  | ok x w' =>
    cases x with
    | value v => exact h
    | skip => exact h
    | defer d => exact h
    | enter f args => exact ⟨fun q => (by cases q), CallsIn.inRound l (callsIn_wide.2 h)⟩
    | row r args => exact ⟨fun q => (by cases q), rowsIn_of h⟩
    | _ => exact h.elim
  | halt x w' =>
    cases x with
    | panic v => exact h
    | _ => exact h.elim
theorem wpAnyIn_of {l n : Nat} {P : Program} {md : Region.Mode} {ops : Array Oper} {Q : Exit → Act → World → Prop} (hd : ∀ (i : Nat) (o : Oper), ops[i]? = some o → ∀ c : Call, o.op ≠ Op.defer c) (hQ : ¬ LetsOut Q) :
    ∀ (fuel : Nat) (listed : Array Bool) (a : Act) (w : World), wpAny P md ops Q fuel listed a w → wpAnyIn (Fence.wide.inRound l) n P md ops Q fuel listed a w
  | 0, _, _, _, h => h
  | fuel + 1, listed, a, w, h => by
    refine ⟨h.1, fun i hi => ?_⟩
    have hop := h.2 i hi
    unfold wpOp at hop
    unfold wpOpIn
    cases ho : ops[i]? with
    | none => rw [ho] at hop; exact wpAnyIn_of hd hQ fuel _ _ _ hop
    | some o =>
      rw [ho] at hop
      simp only at hop ⊢
      split
      · rename_i hw
        rw [if_pos hw] at hop
        rcases hop with h1 | h1
        · refine ⟨fun _ _ => trivial, ?_⟩
          rw [Oper.semAt_plain (Fence.wide.inRound l) _ _ (hd i o ho)]
          refine uponIn_of _ (Oper.wp_mono (P := P) (fun a w => wpAnyIn_of hd hQ fuel _ a w) h1)
        · exact absurd h1.2 hQ
      · rename_i hw
        rw [if_neg hw] at hop
        exact ⟨fun _ _ => trivial, wpAnyIn_of hd hQ fuel _ _ _ hop⟩
theorem wpIn_region_of {l n id : Nat} {P : Program} {ops : Array Oper} {Q : Exit → Act → World → Prop} {S : World → Prop} {a : Act} {w : World} (hm : P.follows .mixedOrders = true)
    (hd : ∀ (i : Nat) (o : Oper), ops[i]? = some o → ∀ c : Call, o.op ≠ Op.defer c) (hQ : ¬ LetsOut Q) (hS : S w.drew)
    (h : S w.drew → wpAnyH P .any ops Q S ops.size (Array.replicate ops.size false) a w.drew) : (Code.region id ops true).wpIn (Fence.wide.inRound l) n P Q a w :=
  wpIn_region_any hm (wpAnyIn_of hd hQ _ _ _ _ (wpAny_of_held _ _ _ _ (h hS)))
/-- no operation of these defers -/
def noDefer (ops : Array Oper) : Bool := ops.all fun o => match o.op with | .defer _ => false | _ => true
theorem noDefer_spec {ops : Array Oper} (h : noDefer ops = true) : ∀ (i : Nat) (o : Oper), ops[i]? = some o → ∀ c : Call, o.op ≠ Op.defer c := fun i o ho c e => by
  obtain ⟨hi, rfl⟩ := Array.getElem?_eq_some_iff.1 ho
  have := Array.all_eq_true.1 h i hi
  rw [e] at this; cases this
/-- an append as a step of a region -/
theorem step_append_fresh {P : Program} (w : World) {ops : Array Oper} {o : Oper} {a : Act} {K : Act → World → Prop} {Q : Exit → Act → World → Prop} {E : Prop}
    (hg : o.guard = none) (s x : Operand) (t : TypeId) (hop : o.op = Op.call { callee := Callee.builtin Builtin.append, args := #[s, x], argTypes := #[t, t] })
    (base : Nat) (e : TypeId) (i : TypeInfo) (z : Value) (size bytes : Nat) (h1 : P.underlying t = some (.slice e)) (h2 : P.info? e = some i) (h3 : i.zero = some z) (h4 : i.size = size) (h5 : i.bytes = bytes) (h6 : z.cells.size = size) (h7 : 0 < size)
    (v : Value) (k : Nat) (xs : List Value) (hs : a.eval s = v) (hown : w.ownsRow base e size v k xs) (ad : Addr) (m c : Nat) (news : List Value) (hx : a.eval x = .slice (some ad) m c) (hn : news.length = m * size)
    (hc : ∀ j u, news[j]? = some u → w.cell? (ad.add j) = some u) (h1c : ∀ u ∈ news, u.oneCell' = true) (b1 : k + m ≤ maxLen) (b2 : (k + m) * bytes ≤ 140737488355328) (b3 : base ≤ w.heap.size)
    (hK : ∀ v' w', w'.ownsRow base e size v' (k + m) (xs ++ news) → w.grownBy w' v.ownBlock → (v'.ownBlock = v.ownBlock ∨ ∀ q, v'.ownBlock = some q → w.heap.size ≤ q) → K (a.put o.dst v') w') :
    if Region.wanted o (yielded ops a.tmps) = true then Oper.wp P o a w K Q else E := by
  obtain ⟨v', w', hrun, r1, r2, r3⟩ := run_append_fresh (P := P) w base t o.type e i z size bytes h1 h2 h3 h4 h5 h6 h7 v k xs hown ad m c news hn hc h1c b1 b2 b3
  rw [if_pos (by simp [Region.wanted, hg])]
  unfold Oper.wp
  simp [execOp, hop, resolve, invoke, builtin, hs, hx, hrun, Result.andThen, Oper.upon]
  exact hK v' w' r1 r2 r3
end Go.Proofs.YthdmaamocejodaaDoor
namespace Go.Proofs.YthdmaamocejodaaDoor
open Go.RowKit Go.Shelf
/-! strings.Repeat off the shelf: how the shelf's numbers read in this program. -/
def repRen : Ren := ⟨fun x => if x = 105 then 23 else if x = 212 then 31 else if x = 99 then 32 else if x = 165 then 33 else if x = 166 then 34 else if x = 170 then 35 else if x = 169 then 36 else if x = 263 then 44 else if x = 264 then 45 else if x = 206 then 46 else if x = 240 then 47 else if x = 241 then 48 else if x = 276 then 52 else if x = 277 then 53 else x, fun x => if x = 9 then 9 else if x = 3 then 3 else if x = 4 then 4 else if x = 20 then 20 else if x = 0 then 0 else if x = 46 then 77 else if x = 109 then 78 else if x = 5 then 5 else if x = 72 then 83 else if x = 76 then 87 else if x = 51 then 113 else if x = 146 then 114 else if x = 53 then 116 else if x = 148 then 117 else if x = 70 then 81 else if x = 37 then 22 else if x = 75 then 86 else if x = 127 then 119 else if x = 164 then 126 else if x = 80 then 90 else x, fun x => x⟩
theorem repLays : Lays.n105 Tryd.prog repRen := { mixed := by kernel_rfl, f99 := by kernel_rfl, f105 := by kernel_rfl, f165 := by kernel_rfl, f166 := by kernel_rfl, f169 := by kernel_rfl, f170 := by kernel_rfl, f206 := by kernel_rfl, f212 := by kernel_rfl, f240 := by kernel_rfl, f241 := by kernel_rfl, f263 := by kernel_rfl, f264 := by kernel_rfl, f276 := by kernel_rfl, f277 := by kernel_rfl, t0 := by kernel_rfl, a0 := fun _ => by kernel_rfl, z0 := fun _ => by kernel_rfl, v0 := fun _ => by kernel_rfl, t3 := by kernel_rfl, a3 := fun _ => by kernel_rfl, z3 := fun _ => by kernel_rfl, v3 := fun _ => by kernel_rfl, t4 := by kernel_rfl, a4 := fun _ => by kernel_rfl, z4 := fun _ => by kernel_rfl, v4 := fun _ => by kernel_rfl, t5 := by kernel_rfl, a5 := fun _ => by kernel_rfl, z5 := fun _ => by kernel_rfl, v5 := fun _ => by kernel_rfl, t9 := by kernel_rfl, a9 := fun _ => by kernel_rfl, z9 := fun _ => by kernel_rfl, v9 := fun _ => by kernel_rfl, t20 := by kernel_rfl, a20 := fun _ => by kernel_rfl, z20 := fun _ => by kernel_rfl, v20 := fun _ => by kernel_rfl, t37 := by kernel_rfl, a37 := fun _ => by kernel_rfl, z37 := fun _ => by kernel_rfl, v37 := fun _ => by kernel_rfl, t46 := by kernel_rfl, a46 := fun _ => by kernel_rfl, z46 := fun _ => by kernel_rfl, v46 := fun _ => by kernel_rfl, t51 := by kernel_rfl, a51 := fun _ => by kernel_rfl, z51 := fun _ => by kernel_rfl, v51 := fun _ => by kernel_rfl, t53 := by kernel_rfl, a53 := fun _ => by kernel_rfl, z53 := fun _ => by kernel_rfl, v53 := fun _ => by kernel_rfl, t70 := by kernel_rfl, a70 := fun _ => by kernel_rfl, z70 := fun _ => by kernel_rfl, v70 := fun _ => by kernel_rfl, t72 := by kernel_rfl, a72 := fun _ => by kernel_rfl, z72 := fun _ => by kernel_rfl, v72 := fun _ => by kernel_rfl, t75 := by kernel_rfl, a75 := fun _ => by kernel_rfl, z75 := fun _ => by kernel_rfl, v75 := fun _ => by kernel_rfl, t76 := by kernel_rfl, a76 := fun _ => by kernel_rfl, z76 := fun _ => by kernel_rfl, v76 := fun _ => by kernel_rfl, t109 := by kernel_rfl, a109 := fun _ => by kernel_rfl, z109 := fun _ => by kernel_rfl, v109 := fun _ => by kernel_rfl, t127 := by kernel_rfl, a127 := fun _ => by kernel_rfl, z127 := fun _ => by kernel_rfl, v127 := fun _ => by kernel_rfl, t146 := by kernel_rfl, a146 := fun _ => by kernel_rfl, z146 := fun _ => by kernel_rfl, v146 := fun _ => by kernel_rfl, t148 := by kernel_rfl, a148 := fun _ => by kernel_rfl, z148 := fun _ => by kernel_rfl, v148 := fun _ => by kernel_rfl, t164 := by kernel_rfl, a164 := fun _ => by kernel_rfl, z164 := fun _ => by kernel_rfl, v164 := fun _ => by kernel_rfl }
theorem repExtra : Builder.Extra Tryd.prog repRen := { sizeBuilder := by kernel_rfl, liesBuilder := by kernel_rfl, t5 := by kernel_rfl, a5 := fun _ => by kernel_rfl, z5 := fun _ => by kernel_rfl, v5 := fun _ => by kernel_rfl, infoByte := by kernel_rfl, cellsByte := by kernel_rfl, sizeByte := by kernel_rfl, neB5 := by decide }
/-- as many bytes of the number 0 as are asked for -/
def zerosB (c : Nat) : ByteArray := ⟨(List.replicate c (0 : UInt8)).toArray⟩
theorem irepeat (c : Nat) (w : World) (hc : c ≤ 1048576) :
    Calls Tryd.prog 23 #[.string ⟨#[0]⟩, .int .i64 (c : Int)] w fun e w' => e = .returned (.string (zerosB c)) ∧ Below w.heap.size w w' := by
  refine (Any.strings_Repeat repLays repExtra ⟨#[0]⟩ c w (by omega) (by show 1 * c ≤ _; omega)).mono ?_
  rintro e w' ⟨rfl, hb⟩
  refine ⟨?_, hb⟩
  have h : Lib.repeatL [0] c = List.replicate c 0 := by
    have := Lib.repeatL_replicate 0 1 c
    rwa [Nat.mul_one] at this
  show Ending.returned (.string ⟨(Lib.repeatL [0] c).toArray⟩) = _
  rw [h]; rfl
end Go.Proofs.YthdmaamocejodaaDoor
namespace Go.Proofs.YthdmaamocejodaaDoor
open Go.RowKit
/-! The specification's SplitObject. -/
theorem sb_out {s : ByteArray} {j : Nat} (h : s.size ≤ j) : sb s j = 0 := by
  unfold sb
  rw [Array.getD, dif_neg (by show ¬ j < s.data.size; have : s.data.size = s.size := rfl; omega)]; rfl
theorem Tryd.infoSp : (Tryd.prog.info? 41).map (fun i => (i.zero, i.size, i.bytes)) = some (some (.agg #[.slice none 0 0]), 1, 24) := by kernel_rfl
/-- a row of stripes under way -/
def OwnSp (w : World) (base : Nat) (v : Value) (n S : Nat) (gs cs : Nat → Nat) : Prop := w.ownsRow base 41 1 v n ((List.range n).map fun i => .slice (some ⟨gs i, 0, none⟩) S (cs i))
theorem OwnSp.below {w w' : World} {base n S : Nat} {v : Value} {gs cs : Nat → Nat} (h : OwnSp w base v n S gs cs) (hb : Below w.heap.size w w') : OwnSp w' base v n S gs cs := by
  refine ⟨h.1, ?_⟩
  rcases h.2 with h0 | ⟨g, cap, cur, he, hbg, hr, r⟩
  · exact Or.inl h0
  · exact Or.inr ⟨g, cap, cur, he, hbg, (hb.block g (show RowAt w g 41 cur from hr).lt).trans hr, r⟩
theorem OwnSp.congr {w : World} {base n S : Nat} {v : Value} {gs cs gs' cs' : Nat → Nat} (h : OwnSp w base v n S gs cs) (e : ∀ i, i < n → gs i = gs' i ∧ cs i = cs' i) : OwnSp w base v n S gs' cs' := by
  have e2 : ((List.range n).map fun i => Value.slice (some ⟨gs i, 0, none⟩) S (cs i)) = (List.range n).map fun i => Value.slice (some ⟨gs' i, 0, none⟩) S (cs' i) := by
    apply List.map_congr_left
    intro i hi
    have hi' : i < n := by simpa using hi
    rw [(e i hi').1, (e i hi').2]
  unfold OwnSp; rw [← e2]; exact h
theorem append_sp {P : Program} (base : Nat) (wr : World) {ops : Array Oper} {rest : List Oper} {o : Oper} {a : Act} {Q : Exit → Act → World → Prop} (hgd : o.guard = none) (s x : Operand) (t : TypeId)
    (ho : o.op = .call { callee := .builtin .append, args := #[s, x], argTypes := #[t, t] })
    (ht : P.underlying t = some (.slice 41)) (hinfo : (P.info? 41).map (fun i => (i.zero, i.size, i.bytes)) = some (some (.agg #[.slice none 0 0]), 1, 24))
    (v : Value) (n S : Nat) (gs cs : Nat → Nat) (g c : Nat) (hs : a.eval s = v) (hown : OwnSp wr base v n S gs cs) (hsz : base ≤ wr.heap.size)
    (hx : a.eval x = .slice (some ⟨wr.heap.size, 0, none⟩) 1 1) (hlen : n ≤ 1048576)
    (h : ∀ v' w', OwnSp w' base v' (n + 1) S (fun i => if i = n then g else gs i) (fun i => if i = n then c else cs i) → wr.grownBy w' v.ownBlock → wpList P ops Q rest (a.put o.dst v') w') :
    wpList P ops Q (o :: rest) a (wr.alloc (.cells #[.slice (some ⟨g, 0, none⟩) S c] 41)) := by
  obtain ⟨i0, hi, hz0, hz1, hz2⟩ := info_parts hinfo
  refine wpList_append_own _ hgd s x t ho base 41 i0 (.agg #[.slice none 0 0]) 1 24 ht hi hz0 hz1 hz2 rfl (by decide) v n _ hs (World.ownsRow.alloc hown _) ⟨wr.heap.size, 0, none⟩ 1 1 [.slice (some ⟨g, 0, none⟩) S c] hx rfl ?_ ?_ ?_ ?_ ?_ ?_
  · intro j u hj
    match j, hj with
    | 0, hj => simp at hj; subst hj; simp [Addr.add]
  · intro u hu; simp at hu; subst hu; rfl
  · unfold maxLen; omega
  · omega
  · simp; omega
  · intro v' w' h1 h2 h3
    refine h v' w' ?_ (grown_trans (World.grownBy_alloc wr _ _) h2)
    have e : ((List.range (n + 1)).map fun i => Value.slice (some ⟨if i = n then g else gs i, 0, none⟩) S (if i = n then c else cs i)) = ((List.range n).map fun i => Value.slice (some ⟨gs i, 0, none⟩) S (cs i)) ++ [.slice (some ⟨g, 0, none⟩) S c] := by
      rw [List.range_succ, List.map_append]
      congr 1
      · apply List.map_congr_left
        intro i hi
        have hi' : i < n := by simpa using hi
        rw [if_neg (by omega), if_neg (by omega)]
      · simp
    unfold OwnSp; rw [e]; exact h1
theorem OwnSp.stp {w : World} {base n S : Nat} {v : Value} {gs cs : Nat → Nat} {T : Nat → Nat → ByteArray} (h : OwnSp w base v n S gs cs) (hl : ∀ i, i < n → gs i < w.heap.size ∧ Strs w (some ⟨gs i, 0, none⟩) S (cs i) (T i)) : ∃ a c, v = .slice a n c ∧ StpB w w.heap.size a n c S T := by
  rcases h.2 with ⟨h0, h1⟩ | ⟨g, cap, cur, he, hb, hr, hnc, hm, hsz, htk⟩
  · exact ⟨none, 0, by rw [h0, h1], by omega, Or.inl h1⟩
  · have R : RowAt w g 41 cur := hr
    refine ⟨_, cap, he, hnc, Or.inr ⟨g, rfl, R.lt, R.lt, gs, cs, fun i hi => ⟨?_, (hl i hi).1, (hl i hi).2⟩⟩⟩
    have := congrArg (·[i]?) htk
    simp only [List.getElem?_take] at this
    rw [if_pos (by omega), List.getElem?_map, List.getElem?_range hi] at this
    rw [R.cell i]
    simpa using this
theorem OwnSp.apart {w : World} {base n S : Nat} {v : Value} {gs cs : Nat → Nat} (h : OwnSp w base v n S gs cs) (hn : 1 ≤ n) {g c : Nat} {f : Nat → ByteArray} (hs : Strs w (some ⟨g, 0, none⟩) S c f) (hS : 1 ≤ S) : some g ≠ v.ownBlock := by
  intro e
  rcases h.2 with ⟨h0, _⟩ | ⟨g0, cap, cur, he, hb, hr, hnc, hm, hsz, htk⟩
  · rw [h0] at e; cases e
  · rw [he] at e
    have e2 : g = g0 := by simpa [Value.ownBlock] using e
    subst e2
    have R : RowAt w g 41 cur := hr
    rcases hs.2 with h1 | ⟨b, off, h2, _, h3⟩
    · omega
    · cases h2
      have h4 := h3 0 (by omega)
      have h5 := congrArg (·[0]?) htk
      simp only [List.getElem?_take] at h5
      rw [if_pos (by omega), List.getElem?_map, List.getElem?_range (by omega)] at h5
      rw [R.cell (0 + 0)] at h4
      have h6 : cur[0]? = some (.slice (some ⟨gs 0, 0, none⟩) S (cs 0)) := by simpa using h5
      rw [h6] at h4
      cases h4
theorem OwnSp.setRow {w : World} {base n S : Nat} {v : Value} {gs cs : Nat → Nat} (h : OwnSp w base v n S gs cs) (g : Nat) (c : Array Value) (hg : g < base) : OwnSp (w.setRow g c) base v n S gs cs := by
  refine ⟨h.1, ?_⟩
  rcases h.2 with h0 | ⟨g0, cap, cur, he, hb, hr, r⟩
  · exact Or.inl h0
  · exact Or.inr ⟨g0, cap, cur, he, hb, (setRow_other w g g0 c (by omega)).trans hr, r⟩
end Go.Proofs.YthdmaamocejodaaDoor
namespace Go.Proofs.YthdmaamocejodaaDoor
open Go.RowKit
/-! Cutting an object: the entries' numbers, and what is left of its bytes. -/
theorem cut_rgN {U K n full : Nat} (hU : 1 ≤ U) (hf : full = n * K * U) : rgN U 0 full = n * K := by
  unfold rgN
  split
  · rename_i h
    have hp : 1 ≤ n * K := by
      rcases Nat.eq_zero_or_pos (n * K) with e | e
      · rw [hf, e] at h; simp at h
      · exact e
    have e : (full - 1) / U = n * K - 1 := by
      rw [hf]
      obtain ⟨q, hq⟩ : ∃ q, n * K = q + 1 := ⟨n * K - 1, by omega⟩
      rw [hq, Nat.add_mul, Nat.one_mul, show q * U + U - 1 = (U - 1) + q * U by omega, Nat.add_mul_div_right _ _ (by omega), Nat.div_eq_of_lt (by omega)]; omega
    rw [e, Nat.zero_div]; omega
  · rename_i h
    rcases Nat.eq_zero_or_pos (n * K) with e | e
    · exact e.symm
    · have : 1 ≤ n * K * U := Nat.mul_pos e hU
      omega
theorem cut_rgAt {U K n full i : Nat} (hf : full = n * K * U) (hi : i ≤ n * K) : rgAt U 0 full i = i * U := by
  unfold rgAt
  split
  · rename_i h; subst h; simp
  · rw [Nat.zero_div, Nat.zero_add, Nat.min_eq_left]
    rw [hf]; exact Nat.mul_le_mul_right _ hi
theorem cut_enI {U K n full i : Nat} (hU : 1 ≤ U) (hf : full = n * K * U) (hi : i < n * K) : enI K U 0 full i = #[.int .i64 ((i / K : Nat) : Int), .int .i64 ((i % K : Nat) : Int), .int .i64 ((0 : Nat) : Int), .int .i64 ((U : Nat) : Int)] := by
  unfold enI
  rw [cut_rgAt hf (Nat.le_of_lt hi), cut_rgAt hf hi, Nat.mul_div_cancel _ (by omega), Nat.mul_mod_left, show i.succ * U - i * U = U by rw [Nat.succ_mul, Nat.add_sub_cancel_left]]
/-- what is left of the bytes behind m pieces of N -/
structure RestOk (d : ByteArray) (U N m : Nat) (R : ByteArray) : Prop where
  sz : R.size = (N - m) * U
  at' : ∀ j, j < R.size → sb R j = sb d (m * U + j)
theorem sb_get {R : ByteArray} {j : Nat} (h : j < R.size) : UInt8.ofNat (sb R j) = R.data[j]'h := by
  unfold sb
  simp only [Array.getD, UInt8.ofNat_toNat]
  exact dif_pos h
theorem RestOk.piece {d : ByteArray} {U N m : Nat} {R : ByteArray} (h : RestOk d U N m R) (hm : m < N) : R.extract 0 U = pcT d U m := by
  have hs : U ≤ R.size := by
    rw [h.sz]
    obtain ⟨q, hq⟩ : ∃ q, N - m = q + 1 := ⟨N - m - 1, by omega⟩
    rw [hq, Nat.add_mul]; omega
  have hs' : U ≤ R.data.size := hs
  have hd : (R.extract 0 U).data = (pcT d U m).data := by
    rw [ByteArray.data_extract]
    refine Array.ext (by rw [Array.size_extract]; show _ = (pcT d U m).size; rw [pcT_size]; omega) fun j hj1 hj2 => ?_
    have hj : j < U := by have : j < (pcT d U m).size := hj2; rwa [pcT_size] at this
    rw [Array.getElem_extract]
    have e : (pcT d U m).data[j]'hj2 = UInt8.ofNat (sb d (m * U + j)) := by
      simp [pcT, strOfNums, nl]
    rw [e, ← h.at' j (by omega), sb_get (show j < R.size by omega)]
    simp
  cases hR : R.extract 0 U with | mk a => cases hP : pcT d U m with | mk b => rw [hR, hP] at hd; rw [show a = b from hd]
theorem RestOk.next {d : ByteArray} {U N m : Nat} {R : ByteArray} (h : RestOk d U N m R) (hm : m < N) : RestOk d U N (m + 1) (R.extract U R.size) := by
  have e : (N - m) * U = (N - (m + 1)) * U + U := by
    obtain ⟨q, hq⟩ : ∃ q, N - m = q + 1 := ⟨N - m - 1, by omega⟩
    rw [show N - (m + 1) = q by omega, hq, Nat.add_mul]; omega
  have hz : (R.extract U R.size).size = (N - (m + 1)) * U := by rw [size_extract', h.sz]; omega
  refine ⟨hz, fun j hj => ?_⟩
  rw [hz] at hj
  have hz2 := h.sz
  rw [sb_extract _ _ _ (by omega), h.at' _ (by omega), Nat.add_mul, Nat.one_mul, Nat.add_assoc]
theorem RestOk.first {d : ByteArray} {U N c : Nat} (hc : d.size + c = N * U) (R : ByteArray) (hR : R.data.toList = d.data.toList ++ List.replicate c 0) : RestOk d U N 0 R := by
  have hz : R.size = d.size + c := by
    show R.data.size = _
    rw [← Array.length_toList, hR, List.length_append, List.length_replicate, Array.length_toList]; rfl
  refine ⟨by rw [hz, hc]; simp, fun j hj => ?_⟩
  rw [Nat.zero_mul, Nat.zero_add]
  unfold sb
  rw [Array.getD_eq_getD_getElem?, Array.getD_eq_getD_getElem?, ← Array.getElem?_toList, ← Array.getElem?_toList, hR]
  by_cases hjd : j < d.data.toList.length
  · rw [List.getElem?_append_left hjd]
  · rw [List.getElem?_append_right (by omega), List.getElem?_replicate, List.getElem?_eq_none (by omega)]
    split <;> rfl
/-- the texts of a stripe when M pieces have been cut -/
def expd (d : ByteArray) (U K M i : Nat) : List Value := (List.range (min K (M - i * K))).map fun k => .string (pcT d U (i * K + k))
theorem expd_zero (d : ByteArray) (U K i : Nat) : expd d U K 0 i = [] := by simp [expd]
theorem expd_step (d : ByteArray) (U K M i : Nat) (hK : 1 ≤ K) : expd d U K (M + 1) i = expd d U K M i ++ (if M / K = i then [.string (pcT d U M)] else []) := by
  unfold expd
  have hdm := Nat.div_add_mod M K
  have hml : M % K < K := Nat.mod_lt _ (by omega)
  split
  · rename_i h
    rw [h, Nat.mul_comm] at hdm
    rw [show min K (M + 1 - i * K) = min K (M - i * K) + 1 by omega, List.range_succ, List.map_append, List.map_singleton, show i * K + min K (M - i * K) = M by omega]
  · rename_i h
    rw [List.append_nil]
    rcases Nat.lt_or_gt_of_ne h with h1 | h1
    · have : (M / K + 1) * K ≤ i * K := Nat.mul_le_mul_right _ h1
      rw [Nat.add_mul, Nat.one_mul, Nat.mul_comm] at this
      rw [show M + 1 - i * K = 0 by omega, show M - i * K = 0 by omega]
    · have : (i + 1) * K ≤ M / K * K := Nat.mul_le_mul_right _ h1
      rw [Nat.add_mul, Nat.one_mul, Nat.mul_comm (M / K)] at this
      rw [show min K (M + 1 - i * K) = K by omega, show min K (M - i * K) = K by omega]
theorem expd_all (d : ByteArray) (U K n i : Nat) (hi : i < n) : expd d U K (n * K) i = (List.range K).map fun k => .string (pcT d U (i * K + k)) := by
  unfold expd
  have : (i + 1) * K ≤ n * K := Nat.mul_le_mul_right _ hi
  rw [Nat.add_mul, Nat.one_mul] at this
  rw [show min K (n * K - i * K) = K by omega]
end Go.Proofs.YthdmaamocejodaaDoor
namespace Go.Proofs.YthdmaamocejodaaDoor
open Go.RowKit
/-! One round of the loop that cuts. -/
/-- the blocks of the loop that cuts -/
def tq (Br Bm : Nat) (W : World) (b : Nat) : Prop := b = Br ∨ b = Bm ∨ ∃ i v, W.cell? ⟨Bm, i, none⟩ = some v ∧ v.ownBlock = some b
theorem tq_local {B Br Bm : Nat} (h : Bm < B) : TLocal B (tq Br Bm) := fun W W' b hk hb => by
  rcases hb with rfl | rfl | ⟨i, v, hv, ho⟩
  · exact Or.inl rfl
  · exact Or.inr (Or.inl rfl)
  · exact Or.inr (Or.inr ⟨i, v, by rw [← hv]; exact World.cell?_of_block (hk Bm h), ho⟩)
/-- the loop's state when pre has come -/
structure CutW (d : ByteArray) (U K N n base Br Bm Bs : Nat) (pre : List Nat) (W : World) (R : ByteArray) (vs : Nat → Value) (ls : Nat → List Value) : Prop where
  rest : RestOk d U N pre.length R
  bR : Boxed W Br 9 (.string R)
  bS : Boxed W Bs 51 (.slice (some ⟨Bm, 0, none⟩) n n)
  bM : FRow W Bm 39 n vs
  own : ∀ i, i < n → W.ownsRow base 9 1 (vs i) (ls i).length (ls i)
  len : ∀ i, i < n → (ls i).length ≤ pre.length
  apart : ∀ i j b, i < n → j < n → (vs i).ownBlock = some b → (vs j).ownBlock = some b → i = j
  exp : pre = List.range pre.length → ∀ i, i < n → ls i = expd d U K pre.length i
def CutI (d : ByteArray) (U K N n base Br Bm Bs : Nat) (pre : List Nat) (W : World) : Prop := ∃ R vs ls, CutW d U K N n base Br Bm Bs pre W R vs ls
theorem CutW.kept {d : ByteArray} {U K N n base Br Bm Bs : Nat} {pre : List Nat} {A B : World} {R : ByteArray} {vs : Nat → Value} {ls : Nat → List Value} (h : CutW d U K N n base Br Bm Bs pre A R vs ls) {row : Option Nat} (hg : A.grownBy B row)
    (hr : ∀ r, row = some r → ∃ o : Obj, A.heap[r]? = some o ∧ o.isCells = false) : CutW d U K N n base Br Bm Bs pre B R vs ls := by
  have ne : ∀ {b : Nat} {c : Array Value} {t : TypeId}, A.heap[b]? = some (.cells c t (0, 0)) → some b ≠ row := fun hb e => by
    obtain ⟨o, ho, hc⟩ := hr _ e.symm
    rw [hb] at ho; cases ho; cases hc
  refine ⟨h.rest, h.bR.kept hg (ne h.bR), h.bS.kept hg (ne h.bS), h.bM.far hg ?_, fun i hi => (h.own i hi).kept hg ?_, h.len, h.apart, h.exp⟩
  · obtain ⟨cs, h1, _⟩ := h.bM; exact ne h1
  · rcases (h.own i hi).2 with ⟨e, _⟩ | ⟨g, cap, cur, e, _, hgb, _⟩
    · rw [e]; exact .inl rfl
    · rw [e]; exact .inr (ne hgb)
theorem cutI_own (d : ByteArray) (U K N n base Br Bm Bs : Nat) : Go.Own (CutI d U K N n base Br Bm Bs) := fun _ _ _ _ ⟨R, vs, ls, h⟩ hg hr => ⟨R, vs, ls, h.kept hg hr⟩
theorem CutW.below {d : ByteArray} {U K N n base Br Bm Bs : Nat} {pre : List Nat} {A B : World} {R : ByteArray} {vs : Nat → Value} {ls : Nat → List Value} (h : CutW d U K N n base Br Bm Bs pre A R vs ls) (hb : Below A.heap.size A B) : CutW d U K N n base Br Bm Bs pre B R vs ls :=
  h.kept (row := none) (grown_below hb) (fun r e => by cases e)
theorem FRow_out {w : World} {b : Nat} {t : TypeId} {n : Nat} {f : Nat → Value} (h : FRow w b t n f) {p : Nat} (hp : n ≤ p) : w.cell? ⟨b, p, none⟩ = none := by
  obtain ⟨cs, h1, h2, _⟩ := h
  rw [h1.cell]; exact Array.getElem?_eq_none (by omega)
theorem snoc_range {pre : List Nat} {x : Nat} (h : pre ++ [x] = List.range (pre ++ [x]).length) : pre = List.range pre.length ∧ x = pre.length := by
  rw [List.length_append, List.length_singleton, List.range_succ] at h
  have := List.append_inj' h rfl
  exact ⟨this.1, by simpa using this.2⟩
theorem boxed_far {W W' : World} {b : Nat} {t : TypeId} {v : Value} {r : Option Nat} (h : Boxed W b t v) (hg : W.grownBy W' r) (hne : some b ≠ r) : Boxed W' b t v := h.kept hg hne
theorem RowAt.farX {w w' : World} {b : Nat} {t : TypeId} {c : Array Value} {r : Option Nat} (h : RowAt w b t c) (hg : w.grownBy w' r) (hne : some b ≠ r) : RowAt w' b t c := (hg.block b h.lt hne).trans h
theorem grown_undrew {W W' : World} {r : Option Nat} (h : W.drew.grownBy W' r) : W.grownBy W' r := ⟨h.os, h.tape, h.output, h.size, h.block⟩
theorem grownBy_setCellAt (W : World) (b i : Nat) (v : Value) : W.grownBy (W.setCell ⟨b, i, none⟩ v) (some b) :=
  ⟨rfl, rfl, rfl, by rw [World.size_setCell]; exact Nat.le_refl _, fun k _ hk => Below.heap_setCell _ _ _ k (fun e => hk (by rw [e]))⟩
theorem CutW.step {d : ByteArray} {U K N n base Br Bm Bs : Nat} {pre : List Nat} {W w1 : World} {R R2 : ByteArray} {vs : Nat → Value} {ls : Nat → List Value} (hC : CutW d U K N n base Br Bm Bs pre W R vs ls) {s x : Nat} (hs : s < n) (hsx : s = min x (N - 1) / K) (hK : 1 ≤ K) (hm : pre.length < N)
    (hR2 : R2 = R.extract U R.size) {tmp : Obj} {v' : Value} (hgrow : (W.alloc tmp).grownBy w1 (vs s).ownBlock) (hown' : w1.ownsRow base 9 1 v' ((ls s).length + 1) (ls s ++ [.string (pcT d U pre.length)]))
    (hfr : v'.ownBlock = (vs s).ownBlock ∨ ∀ q, v'.ownBlock = some q → (W.alloc tmp).heap.size ≤ q) (b1 : Br < Bm) (b2 : Bm < Bs) (b3 : Bs < base) (hb : base ≤ W.heap.size) :
    CutI d U K N n base Br Bm Bs (pre ++ [x]) ((w1.setCell ⟨Bm, s, none⟩ v').setCell ⟨Br, 0, none⟩ (.string R2)) ∧ KeepsOthers W ((w1.setCell ⟨Bm, s, none⟩ v').setCell ⟨Br, 0, none⟩ (.string R2)) ∧
      TKeeps (tq Br Bm) W ((w1.setCell ⟨Bm, s, none⟩ v').setCell ⟨Br, 0, none⟩ (.string R2)) ∧ Below Br W ((w1.setCell ⟨Bm, s, none⟩ v').setCell ⟨Br, 0, none⟩ (.string R2)) := by
  have hs1 : W.heap.size + 1 ≤ w1.heap.size := by have := hgrow.size; rwa [World.size_alloc] at this
  have g1 : w1.grownBy (w1.setCell ⟨Bm, s, none⟩ v') (some Bm) := grownBy_setCellAt _ _ _ _
  have g2 : (w1.setCell ⟨Bm, s, none⟩ v').grownBy ((w1.setCell ⟨Bm, s, none⟩ v').setCell ⟨Br, 0, none⟩ (.string R2)) (some Br) := grownBy_setCellAt _ _ _ _
  have ob : ∀ q, (vs s).ownBlock = some q → base ≤ q ∧ q < W.heap.size := (hC.own s hs).lt
  have ob' : ∀ q, v'.ownBlock = some q → base ≤ q ∧ q < w1.heap.size := hown'.lt
  have nb : ∀ q, q < base → some q ≠ (vs s).ownBlock := fun q hq e => by have := (ob q e.symm).1; omega
  obtain ⟨W', hW'⟩ : ∃ W', W' = (w1.setCell ⟨Bm, s, none⟩ v').setCell ⟨Br, 0, none⟩ (.string R2) := ⟨_, rfl⟩
  have M' : FRow W' Bm 39 n (putF vs s v') := by rw [hW']; exact (((hC.bM.alloc tmp).far hgrow (nb _ (by omega))).set s v').far g2 (by simp; omega)
  have R' : Boxed W' Br 9 (.string R2) := by
    rw [hW']
    exact (boxed_far (boxed_far (hC.bR.alloc tmp) hgrow (nb _ (by omega))) g1 (by simp; omega)).set _
  have O' : ∀ i, i < n → W'.ownsRow base 9 1 (putF vs s v' i) (if i = s then ls s ++ [.string (pcT d U pre.length)] else ls i).length (if i = s then ls s ++ [.string (pcT d U pre.length)] else ls i) := fun i hi => by
    rw [hW']
    unfold putF
    by_cases e : i = s
    · rw [if_pos e, if_pos e, List.length_append, List.length_singleton]
      refine (hown'.kept g1 (.inr fun q => ?_)).kept g2 (.inr fun q => ?_)
      · have := (ob' _ q).1; omega
      · have := (ob' _ q).1; omega
    · rw [if_neg e, if_neg e]
      have oi := (hC.own i hi).lt
      refine ((((hC.own i hi).alloc tmp).kept hgrow (?_)).kept g1 (.inr fun q => ?_)).kept g2 (.inr fun q => ?_)
      · cases hq : (vs i).ownBlock with
        | none => exact .inl rfl
        | some b => exact .inr fun q => e (hC.apart i s b hi hs hq q.symm)
      · have := (oi _ q).1; omega
      · have := (oi _ q).1; omega
  have keep : ∀ b, b < W.heap.size → b ≠ Bm → b ≠ Br → some b ≠ (vs s).ownBlock → W'.heap[b]? = W.heap[b]? := fun b h1 h2 h3 h4 => by
    rw [hW', g2.block b (by have := g1.size; omega) (by simpa using h3), g1.block b (by omega) (by simpa using h2), hgrow.block b (by rw [World.size_alloc]; omega) h4, Below.heap_alloc W tmp b h1]
  have sz : W.heap.size + 1 ≤ W'.heap.size := by rw [hW', World.size_setCell, World.size_setCell]; exact hs1
  rw [← hW']
  refine ⟨⟨R2, putF vs s v', fun i => if i = s then ls s ++ [.string (pcT d U pre.length)] else ls i, ?_⟩, ?_, ?_, ?_⟩
  · refine ⟨by rw [List.length_append, hR2]; exact hC.rest.next hm, R', ?_, M', O', ?_, ?_, ?_⟩
    · rw [hW']; exact boxed_far (boxed_far (boxed_far (hC.bS.alloc tmp) hgrow (nb _ (by omega))) g1 (by simp; omega)) g2 (by simp; omega)
    · intro i hi
      have := hC.len i hi
      have := hC.len s hs
      show (if i = s then _ else _ : List Value).length ≤ _
      split <;> simp <;> omega
    · intro i j b hi hj e1 e2
      unfold putF at e1 e2
      by_cases ei : i = s
      · by_cases ej : j = s
        · omega
        · rw [if_pos ei] at e1
          rw [if_neg ej] at e2
          rcases hfr with h | h
          · exact absurd (hC.apart s j b hs hj (h ▸ e1) e2) (fun q => ej q.symm)
          · have := h b e1
            have := ((hC.own j hj).lt b e2).2
            rw [World.size_alloc] at *; omega
      · rw [if_neg ei] at e1
        by_cases ej : j = s
        · rw [if_pos ej] at e2
          rcases hfr with h | h
          · exact absurd (hC.apart i s b hi hs e1 (h ▸ e2)) ei
          · have := h b e2
            have := ((hC.own i hi).lt b e1).2
            rw [World.size_alloc] at *; omega
        · rw [if_neg ej] at e2; exact hC.apart i j b hi hj e1 e2
    · intro hr i hi
      obtain ⟨hp, hx⟩ := snoc_range hr
      have hse : s = pre.length / K := by rw [hsx, hx, show min pre.length (N - 1) = pre.length by omega]
      have hex := hC.exp hp
      show (if i = s then _ else _ : List Value) = _
      rw [List.length_append, List.length_singleton, expd_step d U K pre.length i hK, ← hse]
      by_cases e : i = s
      · rw [if_pos e, if_pos e.symm, hex s hs, e]
      · rw [if_neg e, if_neg (fun q => e q.symm), List.append_nil]; exact hex i hi
  · refine ⟨by omega, fun k o hk ho => ?_⟩
    have hlt : k < W.heap.size := (Array.getElem?_eq_some_iff.1 hk).1
    have nc : ∀ {b : Nat} {c : Array Value} {t : TypeId}, W.heap[b]? = some (.cells c t (0, 0)) → k ≠ b := fun hb e => by
      subst e; rw [hb] at hk; cases hk; cases ho
    rw [keep k hlt ?_ (nc hC.bR) ?_]; exact hk
    · obtain ⟨cs, h1, _⟩ := hC.bM; exact nc h1
    · intro e
      rcases (hC.own s hs).2 with ⟨q, _⟩ | ⟨g, cap, cur, q, _, hgb, _⟩
      · rw [q] at e; cases e
      · rw [q] at e; exact nc hgb (by simpa [Value.ownBlock] using e)
  · refine ⟨by omega, fun _ b hx => ?_, fun b o ho _ hnt => ?_⟩
    · rcases hx with rfl | rfl | ⟨i, v, hv, hob⟩
      · exact R'.lt
      · exact M'.lt
      · by_cases hi : i < n
        · rw [M'.cell hi] at hv; cases hv
          exact ((O' i hi).lt b hob).2
        · rw [FRow_out M' (by omega)] at hv; cases hv
    · have hlt : b < W.heap.size := (Array.getElem?_eq_some_iff.1 ho).1
      have n1 : b ≠ Br := fun e => hnt (Or.inl e)
      have n2 : b ≠ Bm := fun e => hnt (Or.inr (Or.inl e))
      have n3 : ∀ i, i < n → (vs i).ownBlock ≠ some b := fun i hi e => hnt (Or.inr (Or.inr ⟨i, _, hC.bM.cell hi, e⟩))
      refine ⟨by rw [keep b hlt n2 n1 (fun e => n3 s hs e.symm)]; exact ho, fun hx => ?_⟩
      rcases hx with e | e | ⟨i, v, hv, hob⟩
      · exact n1 e
      · exact n2 e
      · by_cases hi : i < n
        · rw [M'.cell hi] at hv; cases hv
          unfold putF at hob
          by_cases e : i = s
          · rw [if_pos e] at hob
            rcases hfr with h | h
            · exact n3 s hs (h ▸ hob)
            · have := h b hob; rw [World.size_alloc] at this; omega
          · rw [if_neg e] at hob; exact n3 i hi hob
        · rw [FRow_out M' (by omega)] at hv; cases hv
  · refine ⟨?_, ?_, ?_, by omega, fun k hk => keep k (by omega) (by omega) (by omega) (nb k (by omega))⟩
    · rw [hW']; exact (g1.os.trans hgrow.os)
    · rw [hW']; exact (g1.tape.trans hgrow.tape)
    · rw [hW']; exact (g1.output.trans hgrow.output)
end Go.Proofs.YthdmaamocejodaaDoor
namespace Go.Proofs.YthdmaamocejodaaDoor
open Go.RowKit Go.Shelf
attribute [local go_sem] Oper.semAt_some
/-! The program's cut: the data shards of each stripe. -/
theorem Tryd.infoSS : (Tryd.prog.info? 39).map (fun i => (i.zero, i.size, i.bytes)) = some (some (.slice none 0 0), 1, 24) := by kernel_rfl
theorem mkSS (w : World) (n : Nat) (hn : n ≤ 200) : (Instr.makeSlice 51 (.int .i64 n) (.int .i64 n)).run Tryd.prog w = .ok (.slice (some ⟨w.heap.size, 0, none⟩) n n) (w.alloc (.cells (madeCells #[.slice none 0 0] n) 39)) := by
  obtain ⟨i0, hi, hz0, hz1, hz2⟩ := info_parts Tryd.infoSS
  have := run_make (P := Tryd.prog) w 51 39 i0 _ Tryd.underlying51 hi hz0 .i64 .i64 n n (by omega) (Int.le_refl _) (by rw [hz2]; omega) (by omega)
  rw [this, hz1]
  simp only [Int.toNat_natCast, Value.cells, Nat.mul_one]
/-- an entry of the range that is cut -/
def cu (K U j : Nat) : Array Value := #[.int .i64 ((j / K : Nat) : Int), .int .i64 ((j % K : Nat) : Int), .int .i64 ((0 : Nat) : Int), .int .i64 ((U : Nat) : Int)]
theorem iranges0 (K M G U t : Nat) (w : World) :
    Calls Tryd.prog 19 #[lyv K M G U, .int .i64 0, .int .i64 (t : Int)] w fun e w' => e = .returned (.func (.func 29) #[] #[.pointer (some ⟨w.heap.size + 1, 0, none⟩), .pointer (some ⟨w.heap.size + 1 + 1, 0, none⟩), .pointer (some ⟨w.heap.size, 0, none⟩)]) ∧
      w' = ((w.alloc (.cells (lya K M G U) 50)).alloc (.cells #[.int .i64 ((0 : Nat) : Int)] 2)).alloc (.cells #[.int .i64 (t : Int)] 2) := iranges K M G U 0 t w
set_option maxRecDepth 100000 in
set_option maxHeartbeats 4000000 in
theorem icut (K M G U n Z full N : Nat) (h1 : 1 ≤ K) (h2 : K ≤ 32) (h6 : 1 ≤ U) (h7 : U ≤ 4096) (hn : n ≤ 200) (d : ByteArray) (hZ : (K : Int) * (U : Int) = (Z : Int)) (hZ1 : Z ≤ 131072) (hF : (n : Int) * (Z : Int) = (full : Int)) (hF1 : d.size ≤ full) (hF2 : full ≤ 300000) (hN : N = n * K) (hNU : full = N * U) (w : World) :
    CallsIn Fence.wide 5 Tryd.prog 15 #[lyv K M G U, .string d, .int .i64 (n : Int)] w fun e w' => ∃ b, ∃ gs cs : Nat → Nat, e = .returned (.slice (some ⟨b, 0, none⟩) n n) ∧ w.heap.size ≤ b ∧ (∀ i, i < n → w'.cell? ⟨b, i, none⟩ = some (.slice (some ⟨gs i, 0, none⟩) K (cs i)) ∧ ∀ k, k < K → w'.cell? ⟨gs i, 0 + k, none⟩ = some (.string (pcT d U (i * K + k)))) ∧ Below w.heap.size w w' := by
  have HN := hid hN
  have HNU := hid hNU
  clear hN hNU
  obtain ⟨c, hc⟩ : ∃ c, c = full - d.size := ⟨_, rfl⟩
  have e1 : (full : Int) - ((d.size : Nat) : Int) = (c : Int) := by omega
  have hc1 : c ≤ 1048576 := by omega
  have HC := hid hc
  clear hc
  have hmk := fun w => mkSS w n hn
  refine callsIn_of_wp_marks Tryd.func15 rfl trivial ?_ rfl
  simp only [Tryd.ntmps15, List.size_toArray, List.length_cons, List.length_nil, Nat.reduceAdd, Nat.reduceSub, Array.replicate_succ, Array.replicate_zero, List.push_toArray, List.append_toArray, List.nil_append, List.cons_append]
  gi_wp2_with fail
  refine ⟨trivial, (callsIn_wide.2 (isb K M G U Z hZ hZ1 _)).mono ?_⟩
  rintro e w1 ⟨rfl, hw1⟩
  have HW1 := hid hw1
  clear hw1
  gi_wp2_with fail
  refine ⟨trivial, (callsIn_wide.2 (irepeat c _ hc1)).mono ?_⟩
  rintro e w2 ⟨rfl, hb2⟩
  have hzs : (zerosB c).size = c := by simp [zerosB, ByteArray.size]
  have HZS : Hid ((zerosB c).data.toList = List.replicate c 0) := rfl
  obtain ⟨Y, hY⟩ : ∃ Y, Y = zerosB c := ⟨_, rfl⟩
  rw [← hY] at hzs HZS ⊢
  clear hY
  have hcs : ¬ 9223372036854775807 < d.size + Y.size := by omega
  have L2 : Hid (RowAt w2 w.heap.size 50 (lya K M G U)) := by
    have : RowAt w1 w.heap.size 50 (lya K M G U) := by rw [HW1.out]; exact (RowAt.new _ _ _).alloc _
    exact this.below hb2 this.lt
  have B2 : Hid (Below w.heap.size w w2) := by
    have b1 : Below w.heap.size w w1 := by rw [HW1.out]; exact bal (bal (Below.refl _ _) _ (Nat.le_refl _)) _ (Nat.le_refl _)
    exact b1.trans (hb2.mono b1.size)
  clear hb2 HW1
  obtain ⟨W3, hW3⟩ : ∃ W3, W3 = ((w2.alloc (.cells #[.string (d ++ Y)] 9)).alloc (.cells (madeCells #[.slice none 0 0] n) 39)).alloc (.cells #[.slice (some ⟨w2.heap.size + 1, 0, none⟩) n n] 51) := ⟨_, rfl⟩
  have L3 : RowAt W3 w.heap.size 50 (lya K M G U) := by rw [hW3]; exact ((L2.out.alloc _).alloc _).alloc _
  have l0 : (((w2.alloc (.cells #[.string (d ++ Y)] 9)).alloc (.cells (madeCells #[.slice none 0 0] n) 39)).alloc (.cells #[.slice (some ⟨w2.heap.size + 1, 0, none⟩) n n] 51)).cell? ⟨w.heap.size, 0, none⟩ = some (.int .i64 K) := by rw [← hW3]; exact L3.cell 0
  have l1 : (((w2.alloc (.cells #[.string (d ++ Y)] 9)).alloc (.cells (madeCells #[.slice none 0 0] n) 39)).alloc (.cells #[.slice (some ⟨w2.heap.size + 1, 0, none⟩) n n] 51)).cell? ⟨w.heap.size, 1, none⟩ = some (.int .i64 M) := by rw [← hW3]; exact L3.cell 1
  have l2 : (((w2.alloc (.cells #[.string (d ++ Y)] 9)).alloc (.cells (madeCells #[.slice none 0 0] n) 39)).alloc (.cells #[.slice (some ⟨w2.heap.size + 1, 0, none⟩) n n] 51)).cell? ⟨w.heap.size, 2, none⟩ = some (.int .i64 G) := by rw [← hW3]; exact L3.cell 2
  have l3 : (((w2.alloc (.cells #[.string (d ++ Y)] 9)).alloc (.cells (madeCells #[.slice none 0 0] n) 39)).alloc (.cells #[.slice (some ⟨w2.heap.size + 1, 0, none⟩) n n] 51)).cell? ⟨w.heap.size, 3, none⟩ = some (.int .i64 U) := by rw [← hW3]; exact L3.cell 3
  have HW3 := hid hW3
  have HL3 := hid L3
  clear hW3 L3
  gi_wp2_with fail
  refine ⟨trivial, (callsIn_wide.2 (iranges0 K M G U full _)).mono ?_⟩
  rintro e wL ⟨rfl, hwL⟩
  rw [← HW3.out] at hwL ⊢
  have Z3 : Hid (W3.heap.size = w2.heap.size + 3) := by rw [HW3.out]; show _ = _; simp only [size_al]
  rw [Z3.out]
  have ZL : Hid (wL.heap.size = w2.heap.size + 6) := by rw [hwL]; show _ = _; simp only [size_al]; have := Z3.out; omega
  have BL : Hid (Below W3.heap.size W3 wL) := by rw [hwL]; exact bal (bal (bal (Below.refl _ _) _ (Nat.le_refl _)) _ (Nat.le_refl _)) _ (Nat.le_refl _)
  have rL : RowAt wL (w2.heap.size + 3) 50 (lya K M G U) := by rw [hwL]; exact ((RowAt.next _ _ _ Z3.out.symm).alloc _).alloc _
  have rF : RowAt wL (w2.heap.size + 3 + 1) 2 #[.int .i64 ((0 : Nat) : Int)] := by rw [hwL]; exact (RowAt.next _ _ _ (by rw [size_al, Z3.out])).alloc _
  have rE : RowAt wL (w2.heap.size + 3 + 1 + 1) 2 #[.int .i64 (full : Int)] := by rw [hwL]; exact RowAt.next _ _ _ (by simp only [size_al]; rw [Z3.out])
  have hszR : d.size + c = N * U := by have := HC.out; have := HNU.out; omega
  have C0 : Hid (CutW d U K N n (w2.heap.size + 6) w2.heap.size (w2.heap.size + 1) (w2.heap.size + 1 + 1) [] wL (d ++ Y) (fun _ => .slice none 0 0) (fun _ => [])) := by
    have q : CutW d U K N n (w2.heap.size + 6) w2.heap.size (w2.heap.size + 1) (w2.heap.size + 1 + 1) [] W3 (d ++ Y) (fun _ => .slice none 0 0) (fun _ => []) := by
      refine ⟨RestOk.first hszR _ (by rw [ByteArray.data_append, Array.toList_append, HZS.out]), ?_, ?_, ?_, fun _ _ => World.ownsRow_nil _ _ _ _, fun _ _ => Nat.le_refl _, fun _ _ _ _ _ e => (by cases e), fun _ i _ => (expd_zero d U K i).symm⟩
      · rw [HW3.out]; exact ((Boxed.new w2 _ _).alloc _).alloc _
      · rw [HW3.out]; exact RowAt.next _ _ _ (by simp only [size_al])
      · rw [HW3.out]
        refine (FRow.of (RowAt.next (n := w2.heap.size + 1) _ _ _ (by rw [size_al])) ?_ ?_).alloc _
        · simp [madeCells]
        · intro p hp; simp [madeCells]; exact ⟨p, by simp [hp], by rw [Nat.mod_one]; rfl⟩
    exact q.below BL.out
  have hTl : TLocal wL.heap.size (tq w2.heap.size (w2.heap.size + 1)) := tq_local (by rw [ZL.out]; omega)
  have nT : ∀ b, w2.heap.size + 1 + 1 < b → ¬ tq w2.heap.size (w2.heap.size + 1) wL b := fun b hb hx => by
    rcases hx with e | e | ⟨i, v, hv, ho⟩
    · omega
    · omega
    · by_cases hi : i < n
      · rw [C0.out.bM.cell hi] at hv; cases hv; cases ho
      · rw [FRow_out C0.out.bM (by omega)] at hv; cases hv
  have hIt : ItSt (tq w2.heap.size (w2.heap.size + 1)) wL (w2.heap.size + 3 + 1) (w2.heap.size + 3 + 1 + 1) (w2.heap.size + 3) K M G U 0 full :=
    ⟨rF, rE, rL, nT _ (by omega), nT _ (by omega), nT _ (by omega), fun b hx => by
      rcases hx with e | e | ⟨i, v, hv, ho⟩
      · rw [ZL.out]; omega
      · rw [ZL.out]; omega
      · by_cases hi : i < n
        · rw [C0.out.bM.cell hi] at hv; cases hv; cases ho
        · rw [FRow_out C0.out.bM (by omega)] at hv; cases hv⟩
  have hNN : rgN U 0 full = N := by rw [HN.out]; exact cut_rgN h6 (by rw [← HN.out]; exact HNU.out)
  have BW : Hid (Below w.heap.size w wL) := by
    have b3 : Below w.heap.size w W3 := by rw [HW3.out]; exact bal (bal (bal B2.out _ (Nat.le_refl _)) _ (Nat.le_refl _)) _ (Nat.le_refl _)
    exact b3.trans (BL.out.mono b3.size)
  have hws : w.heap.size < w2.heap.size := L2.out.lt
  clear hwL l0 l1 l2 l3 rL rF rE
  gi_wp2
  refine wpIn_rangeFunc_ownH rfl (by decide) (gf := 29) (lb := #[.pointer (some ⟨w2.heap.size + 3 + 1, 0, none⟩), .pointer (some ⟨w2.heap.size + 3 + 1 + 1, 0, none⟩), .pointer (some ⟨w2.heap.size + 3, 0, none⟩)]) rfl trivial (enters_of Tryd.func29 (by kernel_rfl) rfl)
    (irg1 (fun x : Nat => #[.agg (cu K U (min x (N - 1)))]) (fun i => i) (tq w2.heap.size (w2.heap.size + 1)) (5 - 1) K M G U 0 full h1 h2 h6 h7 hF2 (fun i hi => by
      rw [hNN] at hi
      have e : enI K U 0 full i = _ := cut_enI (n := n) h6 (by rw [← HN.out]; exact HNU.out) (show i < n * K by have := HN.out; omega)
      show #[Value.agg (cu K U (min i (N - 1)))] = #[Value.agg (enI K U 0 full i)]
      rw [e, show min i (N - 1) = i by omega]; rfl) _ _ _ _ hIt hTl)
    (fun a b => a.trans b) (fun W l o o' hl h ho _ => TKeeps.put hTl W l o o' hl h ho) (Below.refl _ _) (fun _ => rfl)
    (fun pre W => CutI d U K N n (w2.heap.size + 6) w2.heap.size (w2.heap.size + 1) (w2.heap.size + 1 + 1) pre W ∧ Below w2.heap.size wL W)
    (fun _ _ _ => False)
    (OwnFrom.and (Own.from (cutI_own _ _ _ _ _ _ _ _ _) _) (ownFrom_below (by rw [ZL.out]; omega) (by rw [ZL.out]; omega)))
    (fun _ _ _ _ _ hs _ _ => hs)
    ⟨⟨_, _, _, C0.out⟩, Below.refl _ _⟩
    (fun x a' W => ∃ Bp, w2.heap.size + 6 ≤ Bp ∧ RowAt W Bp 38 (cu K U (min x (N - 1))) ∧ a' = { tmps := #[lyv K M G U, .string d, .int .i64 (n : Int), .pointer (some ⟨w.heap.size, 0, none⟩), undef, undef, .slice none 0 0, .int .i64 (full : Int), .pointer (some ⟨w2.heap.size, 0, none⟩), .pointer (some ⟨w2.heap.size + 1 + 1, 0, none⟩), .pointer (some ⟨Bp, 0, none⟩), .int .i64 (n : Int), lyv K M G U, .int .i64 (Z : Int), .int .i64 (full : Int), .string d, .int .i64 (full : Int), .string d, .int .i64 ((d.size : Nat) : Int), .int .i64 (c : Int), .string Y, .string (d ++ Y), .int .i64 (n : Int), .slice (some ⟨w2.heap.size + 1, 0, none⟩) n n, lyv K M G U, .int .i64 (full : Int), .func (.func 29) #[] #[.pointer (some ⟨w2.heap.size + 3 + 1, 0, none⟩), .pointer (some ⟨w2.heap.size + 3 + 1 + 1, 0, none⟩), .pointer (some ⟨w2.heap.size + 3, 0, none⟩)], .agg (cu K U (min x (N - 1))), undef, undef, undef, undef, undef, undef, undef, undef, undef, undef, undef, undef, undef, undef, undef, undef, undef, undef, undef, undef], defers := [] })
    ?hax ?assign ?body ?done ?stop
  case hax =>
    rintro i a' _ A B row ⟨Bv, q1, q2, q3⟩ hg hr
    refine ⟨Bv, q1, (hg.block Bv q2.lt (fun e => ?_)).trans q2, q3⟩
    obtain ⟨_, o, ho, hc⟩ := hr Bv e.symm
    rw [show A.heap[Bv]? = _ from q2] at ho; cases ho; cases hc
  case assign =>
    rintro l pre x W K0 ⟨⟨R, vs, ls, hC⟩, hB⟩ hK
    obtain ⟨A, B, C, D, hE⟩ : ∃ A B C D : Int, cu K U (min x (N - 1)) = #[.int .i64 A, .int .i64 B, .int .i64 C, .int .i64 D] := ⟨_, _, _, _, rfl⟩
    have hszW : w2.heap.size + 6 ≤ W.heap.size := by have q1 := hB.size; have q2 := ZL.out; omega
    have hK' := hK _ (W.alloc (.cells (cu K U (min x (N - 1))) 38)) ((KeepsOthers.alloc _ _).from _) (TKeeps.below hTl (by rw [ZL.out]; exact hszW) ((Below.refl _ W).alloc (Nat.le_refl _) _)) ⟨⟨R, vs, ls, hC.below ((Below.refl _ W).alloc (Nat.le_refl _) _)⟩, hB.alloc (by omega) _⟩ ⟨W.heap.size, hszW, RowAt.new _ _ _, rfl⟩
    clear hK
    rw [hE] at hK' ⊢
    gi_wp2
    exact hK'
  case body =>
    rintro l pre x a' W hl ⟨r, hr⟩ ⟨⟨R, vs, ls, hC⟩, hB⟩ ⟨Bp, hBp, bX, rfl⟩ hlt
    rw [hNN] at hlt
    obtain ⟨s, hs⟩ : ∃ s, s = min x (N - 1) / K := ⟨_, rfl⟩
    have hsn : s < n := by
      rw [hs, Nat.div_lt_iff_lt_mul (by omega)]
      have := HN.out
      omega
    have HS := hid hs
    have hcu : cu K U (min x (N - 1)) = #[.int .i64 (s : Int), .int .i64 ((min x (N - 1) % K : Nat) : Int), .int .i64 ((0 : Nat) : Int), .int .i64 ((U : Nat) : Int)] := by rw [hs]; rfl
    rw [hcu] at bX
    clear hcu hs
    obtain ⟨v, hv⟩ : ∃ v, v = vs s := ⟨_, rfl⟩
    have HV := hid hv
    obtain ⟨T, hT⟩ : ∃ T, T = pcT d U pre.length := ⟨_, rfl⟩
    have HT := hid hT
    obtain ⟨R2, hR2⟩ : ∃ R2, R2 = R.extract U R.size := ⟨_, rfl⟩
    have HR2 := hid hR2
    have hRU : U ≤ R.size := by
      rw [hC.rest.sz]
      obtain ⟨q, hq⟩ : ∃ q, N - pre.length = q + 1 := ⟨N - pre.length - 1, by omega⟩
      rw [hq, Nat.add_mul]; omega
    have hsl1 : ∀ wx, (Instr.slice 9 (.string R) none (some (.int .i64 (U : Int))) none).run Tryd.prog wx = .ok (.string T) wx := fun wx => by
      rw [run_slice_string_to_if _ _ _ _ _ Tryd.underlying9, if_pos (by omega), show ((U : Int)).toNat = U by omega, HT.out, hC.rest.piece hlt]
    have hsl2 : ∀ wx, (Instr.slice 9 (.string R) (some (.int .i64 (U : Int))) none none).run Tryd.prog wx = .ok (.string R2) wx := fun wx => by
      rw [run_slice_string_from_if _ _ _ _ _ Tryd.underlying9, if_pos (by omega), show ((U : Int)).toNat = U by omega, HR2.out]
    have i0 : (0 : Int) ≤ (s : Int) := by omega
    have i1 : (s : Int) < (n : Int) := by omega
    have cM : ∀ wx : World, W.drew.grownBy wx none → wx.cell? ⟨w2.heap.size + 1, s, none⟩ = some v := fun wx hg => by
      have h9 : FRow W.drew (w2.heap.size + 1) 39 n vs := hC.bM
      rw [hv]; exact (h9.far hg (by simp)).cell hsn
    have kS : W.drew.cell? ⟨w2.heap.size + 1 + 1, 0, none⟩ = some (.slice (some ⟨w2.heap.size + 1, 0, none⟩) n n) := hC.bS.cell
    have kR : W.drew.cell? ⟨w2.heap.size, 0, none⟩ = some (.string R) := hC.bR.cell
    have k0 : W.drew.cell? ⟨Bp, 0, none⟩ = some (.int .i64 (s : Int)) := bX.cell 0
    have k3 : W.drew.cell? ⟨Bp, 3, none⟩ = some (.int .i64 (U : Int)) := bX.cell 3
    clear hv hT hR2
    gi_wp2_with fail
    refine wpIn_region_of (S := fun wx => wx.cell? ⟨w2.heap.size + 1 + 1, 0, none⟩ = some (.slice (some ⟨w2.heap.size + 1, 0, none⟩) n n) ∧ wx.cell? ⟨Bp, 0, none⟩ = some (.int .i64 (s : Int)) ∧ wx.cell? ⟨Bp, 3, none⟩ = some (.int .i64 (U : Int)) ∧ wx.cell? ⟨w2.heap.size, 0, none⟩ = some (.string R)) (by kernel_rfl) (noDefer_spec (by kernel_rfl)) (fun ⟨a, w, h⟩ => h) ⟨kS, k0, k3, kR⟩ (fun hHeld => ?_)
    refine wpAnyH_take (i := 0) (oi := { dst := some 28, op := Op.load 51 (Operand.tmp 9), type := 51, pos := "l05_stripe.go:91", after := #[], guard := none }) (v := .slice (some ⟨w2.heap.size + 1, 0, none⟩) n n) rfl (by kernel_rfl) (by kernel_rfl) (by kernel_rfl) (fun _ _ _ h => h) (Or.inl ⟨by rfl, ?_⟩) (by assumption) ?_
    · intro wx hSx; (try dsimp only at hSx); go_simp
    simp only [Act.put, List.setIfInBounds_toArray, List.set_cons_zero, List.set_cons_succ]
    refine wpAnyH_take (i := 1) (oi := { dst := some 29, op := Op.fieldAddr 38 (Operand.tmp 10) 0, type := 0, pos := "l05_stripe.go:91", after := #[], guard := none }) (v := .pointer (some ⟨Bp, 0, none⟩)) rfl (by kernel_rfl) (by kernel_rfl) (by kernel_rfl) (fun _ _ _ h => h) (Or.inl ⟨by rfl, ?_⟩) (by assumption) ?_
    · intro wx hSx; (try dsimp only at hSx); go_simp
    simp only [Act.put, List.setIfInBounds_toArray, List.set_cons_zero, List.set_cons_succ]
    refine wpAnyH_take (i := 2) (oi := { dst := some 30, op := Op.load 2 (Operand.tmp 29), type := 2, pos := "l05_stripe.go:91", after := #[{ on := 1, ground := Ground.data }], guard := none }) (v := .int .i64 (s : Int)) rfl (by kernel_rfl) (by kernel_rfl) (by kernel_rfl) (fun _ _ _ h => h) (Or.inl ⟨by rfl, ?_⟩) (by assumption) ?_
    · intro wx hSx; (try dsimp only at hSx); go_simp
    simp only [Act.put, List.setIfInBounds_toArray, List.set_cons_zero, List.set_cons_succ]
    refine wpAnyH_take (i := 3) (oi := { dst := some 31, op := Op.load 51 (Operand.tmp 9), type := 51, pos := "l05_stripe.go:91", after := #[], guard := none }) (v := .slice (some ⟨w2.heap.size + 1, 0, none⟩) n n) rfl (by kernel_rfl) (by kernel_rfl) (by kernel_rfl) (fun _ _ _ h => h) (Or.inl ⟨by rfl, ?_⟩) (by assumption) ?_
    · intro wx hSx; (try dsimp only at hSx); go_simp
    simp only [Act.put, List.setIfInBounds_toArray, List.set_cons_zero, List.set_cons_succ]
    refine wpAnyH_take (i := 4) (oi := { dst := some 32, op := Op.fieldAddr 38 (Operand.tmp 10) 0, type := 0, pos := "l05_stripe.go:91", after := #[], guard := none }) (v := .pointer (some ⟨Bp, 0, none⟩)) rfl (by kernel_rfl) (by kernel_rfl) (by kernel_rfl) (fun _ _ _ h => h) (Or.inl ⟨by rfl, ?_⟩) (by assumption) ?_
    · intro wx hSx; (try dsimp only at hSx); go_simp
    simp only [Act.put, List.setIfInBounds_toArray, List.set_cons_zero, List.set_cons_succ]
    refine wpAnyH_take (i := 5) (oi := { dst := some 33, op := Op.load 2 (Operand.tmp 32), type := 2, pos := "l05_stripe.go:91", after := #[{ on := 4, ground := Ground.data }], guard := none }) (v := .int .i64 (s : Int)) rfl (by kernel_rfl) (by kernel_rfl) (by kernel_rfl) (fun _ _ _ h => h) (Or.inl ⟨by rfl, ?_⟩) (by assumption) ?_
    · intro wx hSx; (try dsimp only at hSx); go_simp
    simp only [Act.put, List.setIfInBounds_toArray, List.set_cons_zero, List.set_cons_succ]
    refine wpAnyH_take (i := 6) (oi := { dst := some 34, op := Op.indexAddr 51 (Operand.tmp 31) (Operand.tmp 33), type := 0, pos := "l05_stripe.go:91", after := #[{ on := 3, ground := Ground.data }, { on := 5, ground := Ground.data }], guard := none }) (v := .pointer (some ⟨w2.heap.size + 1, s, none⟩)) rfl (by kernel_rfl) (by kernel_rfl) (by kernel_rfl) (fun _ _ _ h => h) (Or.inl ⟨by rfl, ?_⟩) (by assumption) ?_
    · intro wx hSx; (try dsimp only at hSx); go_simp
    simp only [Act.put, List.setIfInBounds_toArray, List.set_cons_zero, List.set_cons_succ]
    refine wpAnyH_take (i := 8) (oi := { dst := some 36, op := Op.load 9 (Operand.tmp 8), type := 9, pos := "l05_stripe.go:91", after := #[], guard := none }) (v := .string R) rfl (by kernel_rfl) (by kernel_rfl) (by kernel_rfl) (fun _ _ _ h => h) (Or.inl ⟨by rfl, ?_⟩) (by assumption) ?_
    · intro wx hSx; (try dsimp only at hSx); go_simp
    simp only [Act.put, List.setIfInBounds_toArray, List.set_cons_zero, List.set_cons_succ]
    refine wpAnyH_take (i := 9) (oi := { dst := some 37, op := Op.fieldAddr 38 (Operand.tmp 10) 3, type := 0, pos := "l05_stripe.go:91", after := #[], guard := none }) (v := .pointer (some ⟨Bp, 3, none⟩)) rfl (by kernel_rfl) (by kernel_rfl) (by kernel_rfl) (fun _ _ _ h => h) (Or.inl ⟨by rfl, ?_⟩) (by assumption) ?_
    · intro wx hSx; (try dsimp only at hSx); go_simp
    simp only [Act.put, List.setIfInBounds_toArray, List.set_cons_zero, List.set_cons_succ]
    refine wpAnyH_take (i := 10) (oi := { dst := some 38, op := Op.load 2 (Operand.tmp 37), type := 2, pos := "l05_stripe.go:91", after := #[{ on := 9, ground := Ground.data }], guard := none }) (v := .int .i64 (U : Int)) rfl (by kernel_rfl) (by kernel_rfl) (by kernel_rfl) (fun _ _ _ h => h) (Or.inl ⟨by rfl, ?_⟩) (by assumption) ?_
    · intro wx hSx; (try dsimp only at hSx); go_simp
    simp only [Act.put, List.setIfInBounds_toArray, List.set_cons_zero, List.set_cons_succ]
    refine wpAnyH_take (i := 11) (oi := { dst := some 39, op := Op.slice 9 (Operand.tmp 36) none (some (Operand.tmp 38)) none, type := 9, pos := "l05_stripe.go:91", after := #[{ on := 8, ground := Ground.data }, { on := 10, ground := Ground.data }], guard := none }) (v := .string T) rfl (by kernel_rfl) (by kernel_rfl) (by kernel_rfl) (fun _ _ _ h => h) (Or.inl ⟨by rfl, ?_⟩) (by assumption) ?_
    · intro wx hSx; (try dsimp only at hSx); go_simp
    simp only [Act.put, List.setIfInBounds_toArray, List.set_cons_zero, List.set_cons_succ]
    have kS' : (W.alloc (.cells #[.string T] 9)).drew.cell? ⟨w2.heap.size + 1 + 1, 0, none⟩ = some (.slice (some ⟨w2.heap.size + 1, 0, none⟩) n n) := (hC.bS.alloc _).cell
    have kR' : (W.alloc (.cells #[.string T] 9)).drew.cell? ⟨w2.heap.size, 0, none⟩ = some (.string R) := (hC.bR.alloc _).cell
    have k0' : (W.alloc (.cells #[.string T] 9)).drew.cell? ⟨Bp, 0, none⟩ = some (.int .i64 (s : Int)) := (bX.alloc _).cell 0
    have k3' : (W.alloc (.cells #[.string T] 9)).drew.cell? ⟨Bp, 3, none⟩ = some (.int .i64 (U : Int)) := (bX.alloc _).cell 3
    have cm0 : W.drew.cell? ⟨w2.heap.size + 1, s, none⟩ = some v := cM W.drew ⟨rfl, rfl, rfl, Nat.le_refl _, fun _ _ _ => rfl⟩
    have cm1 : (W.alloc (.cells #[.string T] 9)).drew.cell? ⟨w2.heap.size + 1, s, none⟩ = some v := cM _ ⟨rfl, rfl, rfl, (World.grownBy_alloc W _ none).size, (World.grownBy_alloc W _ none).block⟩
    clear cM
    obtain ⟨i8, hi8, hz0, hz1, hz2⟩ := info_parts Tryd.infoS'
    have OW : Hid ((W.alloc (.cells #[.string T] 9)).drew.ownsRow (w2.heap.size + 6) 9 1 v (ls s).length (ls s)) := by rw [HV.out]; exact (hC.own s hsn).alloc _
    have NC : Hid (∀ j u, ([Value.string T] : List Value)[j]? = some u → (W.alloc (.cells #[.string T] 9)).drew.cell? ((⟨W.heap.size, 0, none⟩ : Addr).add j) = some u) := fun j u hj => by
      match j, hj with
      | 0, hj => simp at hj; subst hj; exact (RowAt.new W _ _).cell 0
    have hln := hC.len s hsn
    have hNK : N ≤ 6400 := by rw [HN.out]; exact Nat.mul_le_mul hn h2
    have hwb : w2.heap.size + 6 ≤ W.heap.size := by
      have q1 := (Array.getElem?_eq_some_iff.1 hr).1
      have q2 := ZL.out
      omega
    have LB : Hid ((ls s).length + 1 ≤ maxLen ∧ ((ls s).length + 1) * 16 ≤ 140737488355328 ∧ w2.heap.size + 6 ≤ (W.alloc (.cells #[.string T] 9)).drew.heap.size) := ⟨by unfold maxLen; omega, by omega, by show _ ≤ (W.alloc _).heap.size; rw [World.size_alloc]; omega⟩
    have NB : Hid (∀ q, q < w2.heap.size + 6 → some q ≠ v.ownBlock) := fun q hq e => by have := (OW.out.lt q e.symm).1; omega
    have NP : Hid (some Bp ≠ v.ownBlock) := fun e => by
      rcases (hC.own s hsn).2 with ⟨q, _⟩ | ⟨g, cap, cur, q, _, hgb, _⟩
      · rw [HV.out, q] at e; cases e
      · rw [HV.out, q] at e
        have e' : Bp = g := by simpa [Value.ownBlock] using e
        subst e'
        rw [show W.heap[Bp]? = _ from bX] at hgb
        simp at hgb
    have FM : Hid (FRow (W.alloc (.cells #[.string T] 9)).drew (w2.heap.size + 1) 39 n vs) := hC.bM.alloc _
    have FS : Hid (Boxed (W.alloc (.cells #[.string T] 9)).drew (w2.heap.size + 1 + 1) 51 (.slice (some ⟨w2.heap.size + 1, 0, none⟩) n n)) := hC.bS.alloc _
    have FR : Hid (Boxed (W.alloc (.cells #[.string T] 9)).drew w2.heap.size 9 (.string R)) := hC.bR.alloc _
    have FP : Hid (RowAt (W.alloc (.cells #[.string T] 9)).drew Bp 38 #[.int .i64 (s : Int), .int .i64 ((min x (N - 1) % K : Nat) : Int), .int .i64 ((0 : Nat) : Int), .int .i64 ((U : Nat) : Int)]) := bX.alloc _
    refine wpAnyH_ready (rs := [7, 12]) (by kernel_rfl) (by simp) (AllReadyH.cons (o := { dst := some 35, op := Op.load 39 (Operand.tmp 34), type := 39, pos := "l05_stripe.go:91", after := #[{ on := 6, ground := Ground.data }], guard := none }) rfl (fun K0 hK => ?_) (AllReadyH.cons (o := { dst := some 40, op := Op.buildSlice 39 1 #[(0, Operand.tmp 39)], type := 39, pos := "l05_stripe.go:91", after := #[{ on := 11, ground := Ground.data }], guard := none }) rfl (fun K0 hK => ?_) AllReadyH.nil))
    · go_simp
      refine hK.out _ _ ⟨kS, k0, k3, kR⟩ (fun hHeld2 => ?_)
      clear hK K0
      try simp only [Act.put, List.setIfInBounds_toArray, List.set_cons_zero, List.set_cons_succ]
      refine wpAnyH_ready (rs := [12]) (by kernel_rfl) (by simp) (AllReadyH.cons (o := { dst := some 40, op := Op.buildSlice 39 1 #[(0, Operand.tmp 39)], type := 39, pos := "l05_stripe.go:91", after := #[{ on := 11, ground := Ground.data }], guard := none }) rfl (fun K0 hK => ?_) AllReadyH.nil)
      go_simp
      refine hK.out _ _ ⟨kS', k0', k3', kR'⟩ (fun hHeld3 => ?_)
      clear hK K0
      try simp only [Act.put, List.setIfInBounds_toArray, List.set_cons_zero, List.set_cons_succ]
      refine wpAnyH_ready (rs := [13]) (by kernel_rfl) (by simp) (AllReadyH.cons (o := { dst := some 41, op := Op.call { callee := Callee.builtin Builtin.append, args := #[Operand.tmp 35, Operand.tmp 40], argTypes := #[39, 39] }, type := 39, pos := "l05_stripe.go:91", after := #[{ on := 7, ground := Ground.data }, { on := 12, ground := Ground.data }], guard := none }) rfl (fun K0 hK => ?_) AllReadyH.nil)
      refine step_append_fresh _ rfl (.tmp 35) (.tmp 40) 39 rfl (w2.heap.size + 6) 9 i8 (.string ⟨#[]⟩) 1 16 Tryd.underlying39 hi8 hz0 hz1 hz2 rfl (by decide) v (ls s).length (ls s) rfl OW.out ⟨W.heap.size, 0, none⟩ 1 1 [.string T] rfl rfl NC.out (fun u hu => by simp at hu; subst hu; rfl) LB.out.1 LB.out.2.1 LB.out.2.2 ?_
      intro v' w1 hown' hgrow hfr
      obtain ⟨g', cap', rfl⟩ := ownsRow_succ hown'
      have m1 : FRow w1 (w2.heap.size + 1) 39 n vs := FM.out.far hgrow (NB.out _ (by omega))
      have s1 : Boxed w1 (w2.heap.size + 1 + 1) 51 (.slice (some ⟨w2.heap.size + 1, 0, none⟩) n n) := boxed_far FS.out hgrow (NB.out _ (by omega))
      have r1 : Boxed w1 w2.heap.size 9 (.string R) := boxed_far FR.out hgrow (NB.out _ (by omega))
      have p1 := RowAt.farX FP.out hgrow NP.out
      have jS := s1.cell
      have jR := r1.cell
      have j0 : w1.cell? ⟨Bp, 0, none⟩ = some (.int .i64 (s : Int)) := p1.cell 0
      have j3 : w1.cell? ⟨Bp, 3, none⟩ = some (.int .i64 (U : Int)) := p1.cell 3
      have jM : w1.cell? ⟨w2.heap.size + 1, s, none⟩ = some (vs s) := m1.cell hsn
      have jF := m1.free s
      refine hK.out _ _ ⟨jS, j0, j3, jR⟩ (fun hHeld4 => ?_)
      clear hK K0
      try simp only [Act.put, List.setIfInBounds_toArray, List.set_cons_zero, List.set_cons_succ]
      refine wpAnyH_take (i := 14) (oi := { dst := some 42, op := Op.indexAddr 51 (Operand.tmp 28) (Operand.tmp 30), type := 0, pos := "l05_stripe.go:91", after := #[{ on := 0, ground := Ground.data }, { on := 2, ground := Ground.data }, { on := 0, ground := Ground.phase }, { on := 1, ground := Ground.phase }, { on := 2, ground := Ground.phase }, { on := 3, ground := Ground.phase }, { on := 4, ground := Ground.phase }, { on := 5, ground := Ground.phase }, { on := 6, ground := Ground.phase }, { on := 7, ground := Ground.phase }, { on := 8, ground := Ground.phase }, { on := 9, ground := Ground.phase }, { on := 10, ground := Ground.phase }, { on := 11, ground := Ground.phase }, { on := 12, ground := Ground.phase }, { on := 13, ground := Ground.phase }], guard := none }) (v := .pointer (some ⟨w2.heap.size + 1, s, none⟩)) rfl (by kernel_rfl) (by kernel_rfl) (by kernel_rfl) (fun _ _ _ h => h) (Or.inl ⟨by rfl, ?_⟩) (by assumption) ?_
      · intro wx hSx; (try dsimp only at hSx); go_simp
      try simp only [Act.put, List.setIfInBounds_toArray, List.set_cons_zero, List.set_cons_succ]
      refine wpAnyH_ready (rs := [15]) (by kernel_rfl) (by simp) (AllReadyH.cons (o := { dst := none, op := Op.store 39 (Operand.tmp 42) (Operand.tmp 41), type := 0, pos := "l05_stripe.go:91", after := #[{ on := 14, ground := Ground.data }, { on := 13, ground := Ground.data }, { on := 13, ground := Ground.chain }, { on := 0, ground := Ground.phase }, { on := 1, ground := Ground.phase }, { on := 2, ground := Ground.phase }, { on := 3, ground := Ground.phase }, { on := 4, ground := Ground.phase }, { on := 5, ground := Ground.phase }, { on := 6, ground := Ground.phase }, { on := 7, ground := Ground.phase }, { on := 8, ground := Ground.phase }, { on := 9, ground := Ground.phase }, { on := 10, ground := Ground.phase }, { on := 11, ground := Ground.phase }, { on := 12, ground := Ground.phase }, { on := 13, ground := Ground.phase }], guard := none }) rfl (fun K0 hK => ?_) AllReadyH.nil)
      go_simp
      have m2 := m1.set s (.slice (some ⟨g', 0, none⟩) ((ls s).length + 1) cap')
      have g2 := grownBy_setCellAt w1 (w2.heap.size + 1) s (.slice (some ⟨g', 0, none⟩) ((ls s).length + 1) cap')
      have s2 := boxed_far s1 g2 (by simp)
      have r2 := boxed_far r1 g2 (by simp)
      have p2 := RowAt.farX p1 g2 (by simp; omega)
      refine hK.out _ _ ⟨s2.cell, p2.cell 0, p2.cell 3, r2.cell⟩ (fun hHeld5 => ?_)
      clear hK K0
      try simp only [Act.put, List.setIfInBounds_toArray, List.set_cons_zero, List.set_cons_succ]
      refine wpAnyH_done (by kernel_rfl) ?_ _
      have q3 : (w1.setCell ⟨w2.heap.size + 1, s, none⟩ (.slice (some ⟨g', 0, none⟩) ((ls s).length + 1) cap')).cell? ⟨Bp, 3, none⟩ = some (.int .i64 (U : Int)) := p2.cell 3
      have qR := r2.cell
      have qF := r2.frozen
      have ST := hid (hC.step hsn HS.out h1 hlt HR2.out (tmp := .cells #[.string T] 9) (w1 := w1) (v' := .slice (some ⟨g', 0, none⟩) ((ls s).length + 1) cap') (by rw [← HV.out]; exact grown_undrew hgrow) (by rw [← HT.out]; exact hown') (by rw [← HV.out]; exact hfr) (by omega) (by omega) (by omega) hwb)
      gi_wp2
      exact ⟨ST.out.2.1.from _, ST.out.2.2.1, ST.out.1, hB.trans ST.out.2.2.2⟩
    · go_simp
      refine hK.out _ _ ⟨kS', k0', k3', kR'⟩ (fun hHeld2 => ?_)
      clear hK K0
      try simp only [Act.put, List.setIfInBounds_toArray, List.set_cons_zero, List.set_cons_succ]
      refine wpAnyH_ready (rs := [7]) (by kernel_rfl) (by simp) (AllReadyH.cons (o := { dst := some 35, op := Op.load 39 (Operand.tmp 34), type := 39, pos := "l05_stripe.go:91", after := #[{ on := 6, ground := Ground.data }], guard := none }) rfl (fun K0 hK => ?_) AllReadyH.nil)
      go_simp
      refine hK.out _ _ ⟨kS', k0', k3', kR'⟩ (fun hHeld3 => ?_)
      clear hK K0
      try simp only [Act.put, List.setIfInBounds_toArray, List.set_cons_zero, List.set_cons_succ]
      refine wpAnyH_ready (rs := [13]) (by kernel_rfl) (by simp) (AllReadyH.cons (o := { dst := some 41, op := Op.call { callee := Callee.builtin Builtin.append, args := #[Operand.tmp 35, Operand.tmp 40], argTypes := #[39, 39] }, type := 39, pos := "l05_stripe.go:91", after := #[{ on := 7, ground := Ground.data }, { on := 12, ground := Ground.data }], guard := none }) rfl (fun K0 hK => ?_) AllReadyH.nil)
      refine step_append_fresh _ rfl (.tmp 35) (.tmp 40) 39 rfl (w2.heap.size + 6) 9 i8 (.string ⟨#[]⟩) 1 16 Tryd.underlying39 hi8 hz0 hz1 hz2 rfl (by decide) v (ls s).length (ls s) rfl OW.out ⟨W.heap.size, 0, none⟩ 1 1 [.string T] rfl rfl NC.out (fun u hu => by simp at hu; subst hu; rfl) LB.out.1 LB.out.2.1 LB.out.2.2 ?_
      intro v' w1 hown' hgrow hfr
      obtain ⟨g', cap', rfl⟩ := ownsRow_succ hown'
      have m1 : FRow w1 (w2.heap.size + 1) 39 n vs := FM.out.far hgrow (NB.out _ (by omega))
      have s1 : Boxed w1 (w2.heap.size + 1 + 1) 51 (.slice (some ⟨w2.heap.size + 1, 0, none⟩) n n) := boxed_far FS.out hgrow (NB.out _ (by omega))
      have r1 : Boxed w1 w2.heap.size 9 (.string R) := boxed_far FR.out hgrow (NB.out _ (by omega))
      have p1 := RowAt.farX FP.out hgrow NP.out
      have jS := s1.cell
      have jR := r1.cell
      have j0 : w1.cell? ⟨Bp, 0, none⟩ = some (.int .i64 (s : Int)) := p1.cell 0
      have j3 : w1.cell? ⟨Bp, 3, none⟩ = some (.int .i64 (U : Int)) := p1.cell 3
      have jM : w1.cell? ⟨w2.heap.size + 1, s, none⟩ = some (vs s) := m1.cell hsn
      have jF := m1.free s
      refine hK.out _ _ ⟨jS, j0, j3, jR⟩ (fun hHeld4 => ?_)
      clear hK K0
      try simp only [Act.put, List.setIfInBounds_toArray, List.set_cons_zero, List.set_cons_succ]
      refine wpAnyH_take (i := 14) (oi := { dst := some 42, op := Op.indexAddr 51 (Operand.tmp 28) (Operand.tmp 30), type := 0, pos := "l05_stripe.go:91", after := #[{ on := 0, ground := Ground.data }, { on := 2, ground := Ground.data }, { on := 0, ground := Ground.phase }, { on := 1, ground := Ground.phase }, { on := 2, ground := Ground.phase }, { on := 3, ground := Ground.phase }, { on := 4, ground := Ground.phase }, { on := 5, ground := Ground.phase }, { on := 6, ground := Ground.phase }, { on := 7, ground := Ground.phase }, { on := 8, ground := Ground.phase }, { on := 9, ground := Ground.phase }, { on := 10, ground := Ground.phase }, { on := 11, ground := Ground.phase }, { on := 12, ground := Ground.phase }, { on := 13, ground := Ground.phase }], guard := none }) (v := .pointer (some ⟨w2.heap.size + 1, s, none⟩)) rfl (by kernel_rfl) (by kernel_rfl) (by kernel_rfl) (fun _ _ _ h => h) (Or.inl ⟨by rfl, ?_⟩) (by assumption) ?_
      · intro wx hSx; (try dsimp only at hSx); go_simp
      try simp only [Act.put, List.setIfInBounds_toArray, List.set_cons_zero, List.set_cons_succ]
      refine wpAnyH_ready (rs := [15]) (by kernel_rfl) (by simp) (AllReadyH.cons (o := { dst := none, op := Op.store 39 (Operand.tmp 42) (Operand.tmp 41), type := 0, pos := "l05_stripe.go:91", after := #[{ on := 14, ground := Ground.data }, { on := 13, ground := Ground.data }, { on := 13, ground := Ground.chain }, { on := 0, ground := Ground.phase }, { on := 1, ground := Ground.phase }, { on := 2, ground := Ground.phase }, { on := 3, ground := Ground.phase }, { on := 4, ground := Ground.phase }, { on := 5, ground := Ground.phase }, { on := 6, ground := Ground.phase }, { on := 7, ground := Ground.phase }, { on := 8, ground := Ground.phase }, { on := 9, ground := Ground.phase }, { on := 10, ground := Ground.phase }, { on := 11, ground := Ground.phase }, { on := 12, ground := Ground.phase }, { on := 13, ground := Ground.phase }], guard := none }) rfl (fun K0 hK => ?_) AllReadyH.nil)
      go_simp
      have m2 := m1.set s (.slice (some ⟨g', 0, none⟩) ((ls s).length + 1) cap')
      have g2 := grownBy_setCellAt w1 (w2.heap.size + 1) s (.slice (some ⟨g', 0, none⟩) ((ls s).length + 1) cap')
      have s2 := boxed_far s1 g2 (by simp)
      have r2 := boxed_far r1 g2 (by simp)
      have p2 := RowAt.farX p1 g2 (by simp; omega)
      refine hK.out _ _ ⟨s2.cell, p2.cell 0, p2.cell 3, r2.cell⟩ (fun hHeld5 => ?_)
      clear hK K0
      try simp only [Act.put, List.setIfInBounds_toArray, List.set_cons_zero, List.set_cons_succ]
      refine wpAnyH_done (by kernel_rfl) ?_ _
      have q3 : (w1.setCell ⟨w2.heap.size + 1, s, none⟩ (.slice (some ⟨g', 0, none⟩) ((ls s).length + 1) cap')).cell? ⟨Bp, 3, none⟩ = some (.int .i64 (U : Int)) := p2.cell 3
      have qR := r2.cell
      have qF := r2.frozen
      have ST := hid (hC.step hsn HS.out h1 hlt HR2.out (tmp := .cells #[.string T] 9) (w1 := w1) (v' := .slice (some ⟨g', 0, none⟩) ((ls s).length + 1) cap') (by rw [← HV.out]; exact grown_undrew hgrow) (by rw [← HT.out]; exact hown') (by rw [← HV.out]; exact hfr) (by omega) (by omega) (by omega) hwb)
      gi_wp2
      exact ⟨ST.out.2.1.from _, ST.out.2.2.1, ST.out.1, hB.trans ST.out.2.2.2⟩
  case done =>
    rintro D ys W hD hys ⟨⟨R, vs, ls, hC⟩, hB⟩ hK
    have cS := hC.bS.cell
    have hl : ys.length = N := by rw [hys, List.length_map, List.length_range, hNN]
    have hex := hC.exp (by rw [hl, hys, List.map_id', hNN])
    have W' : CutW d U K N n (w2.heap.size + 6) w2.heap.size (w2.heap.size + 1) (w2.heap.size + 1 + 1) ys (W.putObj D (.deferred none)) R vs ls := hC.kept (grownBy_putObj' W D (.deferred none)) (fun r e => by cases e; exact ⟨_, hK, rfl⟩)
    have fin : ∀ i, i < n → ∃ g cp, vs i = .slice (some ⟨g, 0, none⟩) K cp ∧ ∀ k, k < K → (W.putObj D (.deferred none)).cell? ⟨g, 0 + k, none⟩ = some (.string (pcT d U (i * K + k))) := fun i hi => by
      have o := W'.own i hi
      rw [hex i hi, hl, HN.out, expd_all d U K n i hi, List.length_map, List.length_range] at o
      rcases o.2 with ⟨_, q⟩ | ⟨g, cap, cur, q, _⟩
      · omega
      · refine ⟨g, cap, q, fun k hk => ?_⟩
        have := o.cells (g := g) (by rw [q]; rfl) k (.string (pcT d U (i * K + k))) (by rw [List.getElem?_map, List.getElem?_range hk]; rfl)
        rw [Addr.add_lit] at this
        exact this
    have HF := hid fin
    have HB := hid (BW.out.trans (hB.mono (by omega)))
    clear fin hex hys hl
    gi_wp2
    refine ⟨by simp, .inl ⟨_, _, rfl, run_takeDeferred hK, ?_⟩⟩
    refine ⟨_, results_tmp rfl _ _ _, w2.heap.size + 1, fun i => if h : i < n then (HF.out i h).choose else 0, fun i => if h : i < n then (HF.out i h).choose_spec.choose else 0, rfl, by omega, fun i hi => ?_, HB.out.trans (belowK_b (w := w) (Nat.le_refl _) W D _ _ (by rw [ZL.out] at hD; omega) hK rfl rfl)⟩
    obtain ⟨q1, q2⟩ := (HF.out i hi).choose_spec.choose_spec
    simp only [dif_pos hi]
    exact ⟨by rw [W'.bM.cell hi]; exact congrArg some q1, q2⟩
  case stop =>
    rintro D c pre W _ _ h _
    exact h.elim
end Go.Proofs.YthdmaamocejodaaDoor
namespace Go.Proofs.YthdmaamocejodaaDoor
open Go.RowKit
theorem fldSR (x0 x1 : Value) (w : World) : (Instr.field 54 (.agg #[x0, x1]) 1).run Tryd.prog w = .ok x1 w := by kernel_rfl
end Go.Proofs.YthdmaamocejodaaDoor
namespace Go.Proofs.YthdmaamocejodaaDoor
open Go.RowKit
/-! Slices of stripes: what the laws do with them. -/
abbrev spv (a : Option Addr) (n c : Nat) : Value := .agg #[.slice a n c]
end Go.Proofs.YthdmaamocejodaaDoor
namespace Go.Proofs.YthdmaamocejodaaDoor
open Go.RowKit
/-! Stripes: marked, held, and the results. -/
/-- the texts, of some stripes marked -/
def mkT (k0 k S : Nat) (T : Nat → Nat → ByteArray) (i s : Nat) : ByteArray := if i < k then markB (k0 + i * S + s) else T i s
/-- the program's answer, and the specification's -/
def AnsPI (k : Int) (n S : Nat) (T : Nat → Nat → ByteArray) (w : World) (e : Ending) (w' : World) : Prop := ∃ a c, e = .returned (srv k a n c) ∧ OwnP w' w.heap.size w'.heap.size a n c S T ∧ Below w.heap.size w w'
def AnsPS (k : Int) (n S : Nat) (T : Nat → Nat → ByteArray) (w : World) (e : Ending) (w' : World) : Prop := ∃ a c, e = .returned (srv k a n c) ∧ StpB w' w'.heap.size a n c S T ∧ Below w.heap.size w w'
end Go.Proofs.YthdmaamocejodaaDoor
namespace Go.Proofs.YthdmaamocejodaaDoor
open Go.RowKit
/-! The program's SplitObject. -/
set_option maxRecDepth 20000 in
set_option maxHeartbeats 2000000 in
theorem ispl_no (k m g u : Int) (d : ByteArray) (w : World) (_ : Tab w) (_ : d.size ≤ 1048576) (hno : stripeN k m g u ((d.size : Nat) : Int) = -1) : Calls Tryd.prog 5 #[cdv k m g, .int .i64 u, .string d] w fun e w' => AnsPI 1 0 0 (fun _ _ => ⟨#[]⟩) w e w' := by
  have HN := hid hno
  clear hno
  have R0 : Hid (RowAt ((w.alloc (.cells (cda k m g) 24)).alloc (.cells #[.int .i64 0, .slice none 0 0] 29)) (w.heap.size + 1) 29 #[.int .i64 0, .slice none 0 0]) := RowAt.next _ _ _ (by rw [size_al])
  have B0 : Hid (Below w.heap.size w ((w.alloc (.cells (cda k m g) 24)).alloc (.cells #[.int .i64 0, .slice none 0 0] 29))) := bal9 (bal9 (Below.refl _ _) _) _
  go_enter Tryd.func5, Tryd.ntmps5
  go_wp2_with fail
  refine (iStripe _ _ _ _ _ _).mono ?_
  rintro e w1 ⟨rfl, hw1⟩
  rw [HN.out]
  have R1 : Hid (RowAt w1 (w.heap.size + 1) 29 #[.int .i64 0, .slice none 0 0]) := R0.out.below hw1 R0.out.lt
  have B1 : Hid (Below w.heap.size w w1) := B0.out.trans (hw1.mono B0.out.size)
  clear hw1 R0 B0
  go_wp2_with (refine wpList_store_row rfl 29 (.tmp 6) (.tmp 19) rfl (w.heap.size + 1) #[.int .i64 1, .slice none 0 0] rfl rfl _ _ R1.out (by kernel_rfl) rfl (one2 _ _ _ _) ?_)
  refine bodyPost_ret (v := srv 1 none 0 0) ?_ rfl ⟨none, 0, rfl, ⟨Nat.le_refl _, Or.inl rfl⟩, below_setRow B1.out _ _ (by omega)⟩
  exact results_cell_row Tryd.results5 _ _ (w.heap.size + 1) _ _ _ _ rfl (R1.out.setRow _) Tryd.underlying29 rfl (by kernel_rfl)
theorem mkSp (w : World) (n : Nat) (hn : n ≤ 200) : (Instr.makeSlice 27 (.int .i64 n) (.int .i64 n)).run Tryd.prog w = .ok (.slice (some ⟨w.heap.size, 0, none⟩) n n) (w.alloc (.cells (madeCells #[.slice none 0 0] n) 41)) := by
  obtain ⟨i0, hi, hz0, hz1, hz2⟩ := info_parts Tryd.infoSp
  have := run_make (P := Tryd.prog) w 27 41 i0 _ Tryd.underlying27 hi hz0 .i64 .i64 n n (by omega) (Int.le_refl _) (by rw [hz2]; omega) (by omega)
  rw [this, hz1]
  simp only [Int.toNat_natCast, Value.cells, Nat.mul_one]
set_option maxRecDepth 20000 in
set_option maxHeartbeats 4000000 in
theorem ispl_ok (K M G U n : Nat) (d : ByteArray) (w : World) (hTab : Tab w) (h1 : 1 ≤ K) (h2 : K ≤ 32) (h3 : M ≤ 16) (h4 : G ≤ K) (h5 : K + M + G ≤ 64) (h6 : 1 ≤ U) (h7 : U ≤ 4096) (hd : d.size ≤ 100000) (hn : n ≤ 200) (hnv : n = (d.size + K * U - 1) / (K * U)) (hN : stripeN K M G U ((d.size : Nat) : Int) = (n : Int)) :
      Calls Tryd.prog 5 #[cdv K M G, .int .i64 U, .string d] w fun e w' => AnsPI 0 n (K + M + G) (spT d K M G U) w e w' := by
  have HN := hid hN
  have HNV := hid hnv
  have hmk := fun w => mkSp w n hn
  obtain ⟨S, hS⟩ : ∃ S, S = K + M + G := ⟨_, rfl⟩
  have HSS := hid hS
  have hS1 : 1 ≤ S := by omega
  have HTab := hid hTab
  clear hN hS hTab hnv
  have C0 : Hid (RowAt ((w.alloc (.cells (cda K M G) 24)).alloc (.cells #[.int .i64 0, .slice none 0 0] 29)) w.heap.size 24 (cda K M G)) := (RowAt.new _ _ _).alloc _
  have R0 : Hid (RowAt ((w.alloc (.cells (cda K M G) 24)).alloc (.cells #[.int .i64 0, .slice none 0 0] 29)) (w.heap.size + 1) 29 #[.int .i64 0, .slice none 0 0]) := RowAt.next _ _ _ (by rw [size_al])
  have B0 : Hid (Below w.heap.size w ((w.alloc (.cells (cda K M G) 24)).alloc (.cells #[.int .i64 0, .slice none 0 0] 29))) := bal9 (bal9 (Below.refl _ _) _) _
  have Z0 : Hid (((w.alloc (.cells (cda K M G) 24)).alloc (.cells #[.int .i64 0, .slice none 0 0] 29)).heap.size = w.heap.size + 2) := by show _ = _; simp only [size_al]
  go_enter Tryd.func5, Tryd.ntmps5
  go_wp2_with fail
  refine (iStripe _ _ _ _ _ _).mono ?_
  rintro e w1 ⟨rfl, hw1⟩
  rw [HN.out]
  have C1 : Hid (RowAt w1 w.heap.size 24 (cda K M G)) := C0.out.below hw1 C0.out.lt
  have R1 : Hid (RowAt w1 (w.heap.size + 1) 29 #[.int .i64 0, .slice none 0 0]) := R0.out.below hw1 R0.out.lt
  have B1 : Hid (Below w.heap.size w w1) := B0.out.trans (hw1.mono B0.out.size)
  have Z1 : Hid (w.heap.size + 2 ≤ w1.heap.size) := by have := hw1.size; rwa [Z0.out] at this
  clear hw1 C0 R0 B0 Z0
  have dN : ¬ (n : Int) < 0 := by omega
  have c0 := C1.out.cell 0
  have c1 := C1.out.cell 1
  have c2 := C1.out.cell 2
  obtain ⟨Z, hZ⟩ : ∃ Z, Z = K * U := ⟨_, rfl⟩
  have hZ0 : 1 ≤ Z := by rw [hZ]; exact Nat.mul_pos (by omega) (by omega)
  have hZ1 : Z ≤ 131072 := by rw [hZ]; exact Nat.mul_le_mul h2 h7
  obtain ⟨full, hfull⟩ : ∃ full, full = n * Z := ⟨_, rfl⟩
  have hf1 : d.size ≤ full := by
    have := Nat.lt_div_mul_add (a := d.size + Z - 1) (b := Z) (by omega)
    rw [hfull, HNV.out, ← hZ]; omega
  have hf2 : full ≤ 300000 := by
    have := Nat.div_mul_le_self (d.size + Z - 1) Z
    rw [hfull, HNV.out, ← hZ]; omega
  have HCU := fun wx => hid (callsIn_wide.1 (icut K M G U n Z full (n * K) h1 h2 h6 h7 hn d (by rw [hZ, Int.natCast_mul]) hZ1 (by rw [hfull, Int.natCast_mul]) hf1 hf2 rfl (by rw [hfull, hZ, Nat.mul_assoc]) wx))
  clear hfull hZ hZ0 hZ1 hf1 hf2
  obtain ⟨W2, hW2⟩ : ∃ W2, W2 = (w1.alloc (.cells (lya K M G U) 50)).alloc (.cells (madeCells #[.slice none 0 0] n) 41) := ⟨_, rfl⟩
  have Q2 : Hid (FRow W2 (w1.heap.size + 1) 41 n (fun _ => .slice none 0 0)) := by
    rw [hW2]
    refine FRow.of (RowAt.next (n := w1.heap.size + 1) _ _ _ (by rw [size_al])) ?_ ?_
    · simp [madeCells]
    · intro p hp; simp [madeCells]; exact ⟨p, by simp [hp], by rw [Nat.mod_one]; rfl⟩
  have C2 : Hid (RowAt W2 w.heap.size 24 (cda K M G)) := by rw [hW2]; exact (C1.out.alloc _).alloc _
  have R2 : Hid (RowAt W2 (w.heap.size + 1) 29 #[.int .i64 0, .slice none 0 0]) := by rw [hW2]; exact (R1.out.alloc _).alloc _
  have B2 : Hid (Below w.heap.size w W2) := by rw [hW2]; exact bal9 (bal9 B1.out _) _
  have Z2 : Hid (W2.heap.size = w1.heap.size + 2) := by rw [hW2]; show _ = _; simp only [size_al]
  have HW2 := hid hW2
  clear hW2
  go_wp2_with fail
  rw [show (w1.alloc (.cells #[.int .i64 (K : Int), .int .i64 (M : Int), .int .i64 (G : Int), .int .i64 (U : Int)] 50)).alloc (.cells (madeCells #[.slice none 0 0] n) 41) = W2 from HW2.out.symm]
  refine (HCU W2).out.mono ?_
  rintro e wc ⟨b, gs, cs, rfl, hbb, hcut, hbc⟩
  have QC : Hid (FRow wc (w1.heap.size + 1) 41 n (fun _ => .slice none 0 0)) := Q2.out.below hbc Q2.out.lt
  have CC : Hid (RowAt wc w.heap.size 24 (cda K M G)) := C2.out.below hbc C2.out.lt
  have RC : Hid (RowAt wc (w.heap.size + 1) 29 #[.int .i64 0, .slice none 0 0]) := R2.out.below hbc R2.out.lt
  have BC : Hid (Below w.heap.size w wc) := B2.out.trans (hbc.mono B2.out.size)
  have ZC : Hid (w1.heap.size + 2 ≤ wc.heap.size) := by have := hbc.size; rwa [Z2.out] at this
  have ZB : Hid (w1.heap.size + 2 ≤ b) := by rw [Z2.out] at hbb; exact hbb
  have TC : Hid (Tab wc) := HTab.out.belowS BC.out
  have HC := hid hcut
  have hw1z := Z1.out
  have TL : Hid (2 < w.heap.size) := HTab.out.lt
  clear HCU hbb hcut hbc Q2 C2 R2 B2 Z2 HW2 C1 R1 B1 c0 c1 c2
  have hfd := fldSR
  go_wp2
  go_loopw [30] (fun x wr => ∃ (i : Nat) (ts : Nat → Nat), i ≤ n ∧ x = .int .i64 i ∧ wc.grownBy wr (some (w1.heap.size + 1)) ∧ FRow wr (w1.heap.size + 1) 41 n (fun p => if p < i then .slice (some ⟨ts p, 0, none⟩) S S else .slice none 0 0) ∧ (∀ j, j < i → wc.heap.size ≤ ts j ∧ ts j < wr.heap.size ∧ FRow wr (ts j) 9 S (fun s => .string (spT d K M G U j s))) ∧ (∀ j j', j < i → j' < i → ts j = ts j' → j = j')) (fun x _ => n - (intOf x).toNat)
  case atStart => exact ⟨0, fun _ => 0, Nat.zero_le _, rfl, ⟨rfl, rfl, rfl, Nat.le_refl _, fun _ _ _ => rfl⟩, QC.out.congr (fun p _ => by rw [if_neg (by omega)]), fun j hj => absurd hj (by omega), fun j _ hj => absurd hj (by omega)⟩
  case round =>
    obtain ⟨i, ts, hi, rfl, hg, hQ, hT, hA⟩ := hrel
    have HG := hid hg
    have HQ := hid hQ
    have HT := hid hT
    have HA := hid hA
    clear hg hQ hT hA
    by_cases hlt : i < n
    · have hlt' : (i : Int) < (n : Int) := by omega
      have hi0 : (0 : Int) ≤ (i : Int) := by omega
      have kb : wr.cell? ⟨b, i, none⟩ = some (.slice (some ⟨gs i, 0, none⟩) K (cs i)) := HG.out.cell (HC.out i hlt).1 (by have := ZB.out; simp; omega)
      have CR : Hid (RowAt wr w.heap.size 24 (cda K M G)) := RowAt.farX CC.out HG.out (by simp; omega)
      have c0 := CR.out.cell 0
      have c1 := CR.out.cell 1
      have c2 := CR.out.cell 2
      have gne : Hid (some (gs i) ≠ some (w1.heap.size + 1)) := fun e => by
        have e' : gs i = w1.heap.size + 1 := by simpa using e
        have q1 := (HC.out i hlt).2 0 (by omega)
        rw [e', QC.out.cell (show 0 + 0 < n by omega)] at q1
        cases q1
      have hcells : ∀ q, q < K → wr.cell? ⟨gs i, 0 + q, none⟩ = some (.string (pcT d U (i * K + q))) := fun q hq => HG.out.cell ((HC.out i hlt).2 q hq) gne.out
      have TR : Tab wr := TC.out.far HG.out (by have := TL.out; omega)
      have HE := hid (ienc_ok K M G (gs i) 0 (cs i) h1 h2 h3 h4 h5 (fun q => pcT d U (i * K + q)) (pc_fits d K U i h6 h7) wr TR hcells)
      clear hcells TR
      go_wp2_with fail
      refine HE.out.mono ?_
      rintro e w3 ⟨tg, rfl, hge, hst, hb3⟩
      rw [← HSS.out] at hst ⊢
      have Q3 : Hid (FRow w3 (w1.heap.size + 1) 41 n (fun p => if p < i then .slice (some ⟨ts p, 0, none⟩) S S else .slice none 0 0)) := HQ.out.below hb3 HQ.out.lt
      have HST := hid hst
      have HGE := hid hge
      have HB3 := hid hb3
      have kq : w3.cell? ⟨w1.heap.size + 1, i, none⟩ = some (.slice none 0 0) := by rw [Q3.out.cell hlt, if_neg (by omega)]
      have kf := Q3.out.free i
      clear hst hge hb3 HE kb c0 c1 c2
      go_wp2
      have g9 := grownBy_setCellAt w3 (w1.heap.size + 1) i (.slice (some ⟨tg, 0, none⟩) S S)
      have hzr : w3.heap.size ≤ (w3.setCell ⟨w1.heap.size + 1, i, none⟩ (.slice (some ⟨tg, 0, none⟩) S S)).heap.size := g9.size
      go_roundw
      case rel =>
        refine ⟨i + 1, fun j => if j = i then tg else ts j, by omega, by go_num, ?_, ?_, ?_, ?_⟩
        · exact ⟨(g9.os.trans HB3.out.os).trans HG.out.os, (g9.tape.trans HB3.out.tape).trans HG.out.tape, (g9.output.trans HB3.out.output).trans HG.out.output, Nat.le_trans HG.out.size (Nat.le_trans HB3.out.size g9.size), fun k hk hne => ((g9.block k (by have := HG.out.size; have := HB3.out.size; omega) hne).trans (HB3.out.block k (by have := HG.out.size; omega))).trans (HG.out.block k hk hne)⟩
        · refine (Q3.out.set i _).congr fun p hp => ?_
          unfold putF
          dsimp only
          by_cases e : p = i
          · rw [if_pos e, if_pos (by omega), if_pos e]
          · rw [if_neg e, if_neg e]
            by_cases e2 : p < i
            · rw [if_pos e2, if_pos (by omega)]
            · rw [if_neg e2, if_neg (by omega)]
        · intro j hj
          have hz := HG.out.size
          have hz3 := HB3.out.size
          have hzc := ZC.out
          by_cases e : j = i
          · subst e
            simp only [if_pos]
            have := HST.out.lt
            have := HGE.out
            exact ⟨by omega, by omega, HST.out.far g9 (by simp; omega)⟩
          · simp only [if_neg e]
            obtain ⟨q1, q2, q3⟩ := HT.out j (by omega)
            exact ⟨q1, by omega, (q3.below HB3.out q2).far g9 (by simp; omega)⟩
        · intro j j' hj hj' e
          have hge := HGE.out
          by_cases e1 : j = i
          · by_cases e2 : j' = i
            · omega
            · simp only [if_pos e1, if_neg e2] at e
              have := (HT.out j' (by omega)).2.1
              omega
          · by_cases e2 : j' = i
            · simp only [if_neg e1, if_pos e2] at e
              have := (HT.out j (by omega)).2.1
              omega
            · simp only [if_neg e1, if_neg e2] at e
              exact HA.out j j' (by omega) (by omega) e
      case measure => simp [intOf]; omega
    · have hlt' : ¬ (i : Int) < (n : Int) := by omega
      obtain rfl : i = n := by omega
      have RR : Hid (RowAt wr (w.heap.size + 1) 29 #[.int .i64 0, .slice none 0 0]) := RowAt.farX RC.out HG.out (by simp; omega)
      have BR : Hid (Below w.heap.size w wr) := BC.out.grown HG.out BC.out.size (fun k e => by cases e; omega)
      go_wp2_with (refine wpList_store_row rfl 29 (.tmp 6) (.tmp 45) rfl (w.heap.size + 1) #[.int .i64 0, .slice (some ⟨w1.heap.size + 1, 0, none⟩) i i] rfl rfl _ _ RR.out (by kernel_rfl) rfl (one2 _ _ _ _) ?_)
      refine bodyPost_ret (v := srv 0 (some ⟨w1.heap.size + 1, 0, none⟩) i i) ?_ rfl ⟨some ⟨w1.heap.size + 1, 0, none⟩, i, rfl, ?_, below_setRow BR.out _ _ (by omega)⟩
      · exact results_cell_row Tryd.results5 _ _ (w.heap.size + 1) _ _ _ _ rfl (RR.out.setRow _) Tryd.underlying29 rfl (by kernel_rfl)
      · rw [← HSS.out]
        have hzr := HQ.out.lt
        have hzc := ZC.out
        have QF : FRow (wr.setRow (w.heap.size + 1) #[.int .i64 0, .slice (some ⟨w1.heap.size + 1, 0, none⟩) i i]) (w1.heap.size + 1) 41 i (fun p => if p < i then .slice (some ⟨ts p, 0, none⟩) S S else .slice none 0 0) := HQ.out.blk (fun _ => setRow_other _ _ _ _ (by omega))
        refine ⟨Nat.le_refl _, Or.inr ⟨w1.heap.size + 1, rfl, by omega, by rw [setRow_size]; omega, by rw [setRow_size]; omega, ts, fun j hj => ?_, HA.out⟩⟩
        obtain ⟨q1, q2, q3⟩ := HT.out j hj
        exact ⟨by rw [QF.cell hj, if_pos hj], by omega, by rw [setRow_size]; exact q2, by omega, q3.blk (fun _ => setRow_other _ _ _ _ (by omega))⟩
end Go.Proofs.YthdmaamocejodaaDoor
