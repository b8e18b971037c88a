import Derived.RangeFuncNested
import Derived.RangeFuncBound
import Derived.RangeFuncCalls
import Derived.RangeFuncLeaves
import Derived.Shelf.Abstract
import Derived.Shelf.RegionOpen
import Derived.WalkKit
import Derived.OwnWalkIn
import Derived.TacticsInMore
import Derived.LoopNIn
import Derived.LoopIn
import Derived.Test.YthdmaamocejodaaDoorT4
import Derived.ArgAppend
import Derived.Laws.OwnMore
import Derived.Test.YthdmaamocejodaaDoorBase
namespace Go.Proofs.YthdmaamocejodaaDoor
open Go.RowKit Go.Shelf
attribute [local go_sem] Oper.semAt_some
/-! The program's iterator over the entries of a range, for every loop body that writes what is its own alone. -/
/-- T: the blocks that the loop's body may write; it hangs on what lies below B alone -/
def TLocal (B : Nat) (T : World → Nat → Prop) : Prop := ∀ W W' b, (∀ k, k < B → W'.heap[k]? = W.heap[k]?) → T W b → T W' b
/-- what a round keeps: every block of cells that is not the body's own -/
def TKeeps (T : World → Nat → Prop) (W W' : World) : Prop :=
  W.heap.size ≤ W'.heap.size ∧ ((∀ b, T W b → b < W.heap.size) → ∀ b, T W' b → b < W'.heap.size) ∧ ∀ b o, W.heap[b]? = some o → o.isCells = true → ¬ T W b → W'.heap[b]? = some o ∧ ¬ T W' b
theorem TKeeps.trans {T : World → Nat → Prop} {A B C : World} (h : TKeeps T A B) (k : TKeeps T B C) : TKeeps T A C :=
  ⟨Nat.le_trans h.1 k.1, fun q => k.2.1 (h.2.1 q), fun b o ho hc hn => by obtain ⟨h1, h2⟩ := h.2.2 b o ho hc hn; exact k.2.2 b o h1 hc h2⟩
theorem TKeeps.row {T : World → Nat → Prop} {W W' : World} (h : TKeeps T W W') {b : Nat} {t : TypeId} {c : Array Value} (hr : RowAt W b t c) (hn : ¬ T W b) : RowAt W' b t c ∧ ¬ T W' b := h.2.2 b _ hr rfl hn
theorem TKeeps.put {T : World → Nat → Prop} {B : Nat} (hT : TLocal B T) (W : World) (l : Nat) (o o' : Obj) (hl : B ≤ l) (h : W.heap[l]? = some o) (ho : o.isCells = false) : TKeeps T W (W.putObj l o') := by
  have hs : ∀ k, k ≠ l → (W.putObj l o').heap[k]? = W.heap[k]? := fun k hk => World.putObj_heap_other hk
  have hz : W.heap.size ≤ (W.putObj l o').heap.size := (grownBy_putObj' W l o').size
  have back : ∀ b, T (W.putObj l o') b → T W b := fun b hb => hT _ _ b (fun k hk => (hs k (by omega)).symm) hb
  refine ⟨hz, fun q b hb => Nat.lt_of_lt_of_le (q b (back b hb)) hz, fun b o1 h1 hc hn => ⟨?_, fun hb => hn (back b hb)⟩⟩
  by_cases e : b = l
  · subst e; rw [h] at h1; cases h1; rw [ho] at hc; cases hc
  · rw [hs b e]; exact h1
/-- what the iterator has beside it -/
structure ItSt (T : World → Nat → Prop) (W : World) (bf bt bl K M G U f t : Nat) : Prop where
  F : RowAt W bf 2 #[.int .i64 (f : Int)]
  E : RowAt W bt 2 #[.int .i64 (t : Int)]
  L : RowAt W bl 50 (lya K M G U)
  nF : ¬ T W bf
  nE : ¬ T W bt
  nL : ¬ T W bl
  lt : ∀ b, T W b → b < W.heap.size
theorem ItSt.below {T : World → Nat → Prop} {W W' : World} {B bf bt bl K M G U f t : Nat} (h : ItSt T W bf bt bl K M G U f t) (hT : TLocal B T) (hB : B ≤ W.heap.size) (hb : Below W.heap.size W W') : ItSt T W' bf bt bl K M G U f t := by
  have back : ∀ b, T W' b → T W b := fun b hx => hT _ _ b (fun k hk => (hb.block k (by omega)).symm) hx
  exact ⟨h.F.below hb h.F.lt, h.E.below hb h.E.lt, h.L.below hb h.L.lt, fun q => h.nF (back _ q), fun q => h.nE (back _ q), fun q => h.nL (back _ q), fun b q => Nat.lt_of_lt_of_le (h.lt b (back b q)) hb.size⟩
theorem ItSt.keeps {T : World → Nat → Prop} {W W' : World} {bf bt bl K M G U f t : Nat} (h : ItSt T W bf bt bl K M G U f t) (hk : TKeeps T W W') : ItSt T W' bf bt bl K M G U f t := by
  obtain ⟨a1, a2⟩ := hk.row h.F h.nF
  obtain ⟨b1, b2⟩ := hk.row h.E h.nE
  obtain ⟨c1, c2⟩ := hk.row h.L h.nL
  exact ⟨a1, b1, c1, a2, b2, c2, hk.2.1 h.lt⟩
theorem grown_below {W W' : World} (h : Below W.heap.size W W') : W.grownBy W' none := ⟨h.os, h.tape, h.output, h.size, fun k hk _ => h.block k hk⟩
set_option maxRecDepth 100000 in
set_option maxHeartbeats 2000000 in
theorem irg1 {α : Type} (encs : α → Array Value) (ent : Nat → α) (T : World → Nat → Prop) (n K M G U f t : Nat) (h1 : 1 ≤ K) (h2 : K ≤ 32) (h6 : 1 ≤ U) (h7 : U ≤ 4096) (ht : t ≤ 300000)
    (henc : ∀ i, i < rgN U f t → encs (ent i) = #[eny (rgAt U f t i / U / K) (rgAt U f t i / U % K) (rgAt U f t i % U) (rgAt U f t (i + 1) - rgAt U f t i)])
    (bf bt bl : Nat) (w : World) (hI : ItSt T w bf bt bl K M G U f t) (hT : TLocal w.heap.size T) :
    SeqStopsK Fence.wide n Tryd.prog 29 #[.pointer (some ⟨bf, 0, none⟩), .pointer (some ⟨bt, 0, none⟩), .pointer (some ⟨bl, 0, none⟩)] encs (TKeeps T) (fun ys => ys = (List.range (rgN U f t)).map ent) (fun _ => True) (rgN U f t) w := by
  intro l J Jx W hW hJ hJx hY h0
  have hI0 : Hid (ItSt T W bf bt bl K M G U f t) := hI.below hT (Nat.le_refl _) hW
  have hWs := hW.size
  have cf := hI0.out.F.cell 0
  have HJ := hid hJ
  have HY := hid hY
  have HJ0 := hid h0
  clear hJ hJx hY h0 hI
  refine callsIn_of_wp Tryd.func29 rfl trivial ?_ rfl
  simp only [Tryd.ntmps29, List.size_toArray, List.length_cons, List.length_nil, Nat.reduceAdd, Nat.reduceSub, Array.replicate_succ, Array.replicate_zero, List.push_toArray, List.append_toArray, List.nil_append, List.cons_append]
  gi_wp2
  clear cf
  gi_loopw [5] (fun p wr => ∃ i, i ≤ rgN U f t ∧ p = .int .i64 (rgAt U f t i : Nat) ∧ J ((List.range i).map ent) wr ∧ ItSt T wr bf bt bl K M G U f t ∧ w.heap.size ≤ wr.heap.size) (fun p _ => t - (intOf p).toNat)
  case atStart => exact ⟨0, Nat.zero_le _, by rw [rgAt_zero], HJ0.out, hI0.out, hWs⟩
  case round =>
    obtain ⟨i, hi, rfl, hj, hI, hs⟩ := hrel
    have HJi := hid hj
    have HI := hid hI
    have ct : wr.cell? ⟨bt, 0, none⟩ = some (.int .i64 t) := hI.E.cell 0
    have l0 : wr.cell? ⟨bl, 0, none⟩ = some (.int .i64 K) := hI.L.cell 0
    have l1 : wr.cell? ⟨bl, 1, none⟩ = some (.int .i64 M) := hI.L.cell 1
    have l2 : wr.cell? ⟨bl, 2, none⟩ = some (.int .i64 G) := hI.L.cell 2
    have l3 : wr.cell? ⟨bl, 3, none⟩ = some (.int .i64 U) := hI.L.cell 3
    clear hj hI HJ0 hI0
    obtain ⟨a, ha⟩ : ∃ a, a = rgAt U f t i := ⟨_, rfl⟩
    rw [← ha]
    have HA := hid ha
    by_cases hlt : a < t
    · have hlt' : (a : Int) < (t : Int) := by omega
      have hi1 : i < rgN U f t := rgN_more h6 hi (by rw [← ha]; exact hlt)
      have HE := hid (henc i hi1)
      have hstep := rgAt_step h6 hi1
      have hlt2 := rgAt_lt h6 hi1
      rw [← ha] at hstep hlt2 HE
      obtain ⟨A, hA⟩ : ∃ A, A = a / U / K := ⟨_, rfl⟩
      obtain ⟨B, hB⟩ : ∃ B, B = a / U % K := ⟨_, rfl⟩
      obtain ⟨C, hC⟩ : ∃ C, C = a % U := ⟨_, rfl⟩
      obtain ⟨D, hD⟩ : ∃ D, D = rgAt U f t (i + 1) - a := ⟨_, rfl⟩
      have hD' : D = min (U - a % U) (t - a) := by
        rw [hD, hstep]; split <;> omega
      have hD1 : 1 ≤ D := by omega
      have hD2 : a + D = rgAt U f t (i + 1) := by omega
      have hD3 : a + D ≤ t := by omega
      have HD2 := hid hD2
      rw [← hA, ← hB, ← hC, ← hD] at HE
      clear hD hD2 hstep hlt2 ha
      gi_wp2_with fail
      refine ⟨trivial, fun h => (by cases h), (callsIn_wide.2 (ifirst K M G U a t A B C D h1 h2 h6 h7 hlt ht hA hB hC hD' wr)).mono ?_⟩
      rintro e w2 ⟨rfl, hb2⟩
      clear hA hB hC hD' ct l0 l1 l2 l3
      have hB2 : Below wr.heap.size wr (w2.alloc (.cells #[.int .i64 (A : Int), .int .i64 (B : Int), .int .i64 (C : Int), .int .i64 (D : Int)] 38)) := bal hb2 _ (Nat.le_refl _)
      have hJ2 := HJ.out _ _ _ none HJi.out (grown_below hB2) (fun r e => by cases e)
      have hY2 := HY.out _ (ent i) _ hJ2 (by simp; exact hi1)
      rw [HE.out] at hY2
      have HI2 := hid (HI.out.below hT hs hB2)
      have N2 : Hid (RowAt (w2.alloc (.cells #[.int .i64 (A : Int), .int .i64 (B : Int), .int .i64 (C : Int), .int .i64 (D : Int)] 38)) w2.heap.size 38 #[.int .i64 (A : Int), .int .i64 (B : Int), .int .i64 (C : Int), .int .i64 (D : Int)]) := RowAt.new _ _ _
      obtain ⟨fn, tmps, assign, body, hy, hR⟩ := hY2
      gi_wp2
      refine ⟨fun h => (by cases h), hR.mono ?_⟩
      rintro e W3 (⟨rfl, hJ3, hk3⟩ | ⟨rfl, hJx3⟩)
      · have nN : ¬ T (w2.alloc (.cells #[.int .i64 (A : Int), .int .i64 (B : Int), .int .i64 (C : Int), .int .i64 (D : Int)] 38)) w2.heap.size := fun hq => by
          have hq' : T wr w2.heap.size := hT _ _ _ (fun k hk => (hB2.block k (by omega)).symm) hq
          have := HI.out.lt _ hq'
          have := hb2.size
          omega
        have hI3 := HI2.out.keeps hk3
        have hN3 := (hk3.row N2.out nN).1
        have cD : W3.cell? ⟨w2.heap.size, 3, none⟩ = some (.int .i64 D) := hN3.cell 3
        gi_wp2
        go_roundw
        case rel => exact ⟨i + 1, hi1, by rw [← HD2.out]; go_num, by rw [List.range_succ, List.map_append]; exact hJ3, hI3, by have := hk3.1; have := hB2.size; omega⟩
        case measure => simp [intOf]; omega
      · gi_wp2
        refine bodyPost_ret (results_none rfl _ _ _) rfl ?_
        exact ⟨⟨_, rfl⟩, .inr ⟨_, trivial, hJx3⟩⟩
    · have hlt' : ¬ (a : Int) < (t : Int) := by omega
      gi_wp2
      go_end0
      exact ⟨⟨_, rfl⟩, .inl (by rw [← rgN_last h6 hi (by rw [← ha]; exact hlt)]; exact HJi.out)⟩
end Go.Proofs.YthdmaamocejodaaDoor
namespace Go.Proofs.YthdmaamocejodaaDoor
open Go.RowKit
/-! An append, and that the row behind it is the old one or a new one. -/
theorem run_append_fresh {P : Program} (w : World) (base : Nat) (t ty e : TypeId) (i : TypeInfo) (z : Value) (size bytes : Nat) (ht : P.underlying t = some (.slice e)) (hi : P.info? e = some i) (hz : i.zero = some z)
    (hsize : i.size = size) (hby : i.bytes = bytes) (hzs : z.cells.size = size) (hsz : 0 < size)
    (v : Value) (n : Nat) (xs : List Value) (hown : w.ownsRow base e size v n xs)
    (a : Addr) (m c : Nat) (news : List Value) (hl : news.length = m * size) (hnews : ∀ j u, news[j]? = some u → w.cell? (a.add j) = some u) (h1 : ∀ u ∈ news, u.oneCell' = true)
    (h63 : n + m ≤ maxLen) (hbytes : (n + m) * bytes ≤ 140737488355328) (hbase : base ≤ w.heap.size) :
    ∃ v' w', (Builtin.append_ #[t, t] ty #[v, .slice (some a) m c]).run P w = .ok v' w' ∧ w'.ownsRow base e size v' (n + m) (xs ++ news) ∧ w.grownBy w' v.ownBlock ∧
      (v'.ownBlock = v.ownBlock ∨ ∀ k, v'.ownBlock = some k → w.heap.size ≤ k) := by
  obtain ⟨v', w', hr, k1, k2, _⟩ := run_append_own w base t ty e i z size bytes ht hi hz hsize hby hzs hsz v n xs hown a m c news hl hnews h1 h63 hbytes hbase
  refine ⟨v', w', hr, k1, k2, ?_⟩
  rcases hown.2 with ⟨rfl, rfl⟩ | ⟨g, cap, cur, rfl, hb, hg, hn, hm, hs, ht'⟩
  · right
    obtain ⟨v2, w2, hr2, k3, _, _⟩ := run_append_own w w.heap.size t ty e i z size bytes ht hi hz hsize hby hzs hsz (.slice none 0 0) 0 xs ⟨hown.1, .inl ⟨rfl, rfl⟩⟩ a m c news hl hnews h1 h63 hbytes (Nat.le_refl _)
    rw [hr] at hr2; cases hr2
    exact fun k hk => (k3.lt k hk).1
  · by_cases hroom : n + m ≤ cap
    · left
      obtain ⟨w2, hr2, _, _⟩ := run_append_fits w base t ty e i size ht hi hsize g n cap xs hown a m c news hl hnews h1 hroom
      rw [hr] at hr2; cases hr2; rfl
    · right
      obtain ⟨v2, w2, hr2, k3, _⟩ := run_append_arg_grows w t ty e i z size bytes ht hi hz hsize hby hzs hsz ⟨g, 0, none⟩ n cap xs hown.1 (hown.cells rfl) a m c news hl hnews (by omega) h63 hbytes
      rw [hr] at hr2; cases hr2
      exact fun k hk => (k3.lt k hk).1
theorem wpListIn_append_fresh {F : Fence} {n : Nat} {P : Program} (w : World) {ops : Array Oper} {rest : List Oper} {o : Oper} {a : Act} {Q : Exit → Act → World → Prop}
    (hg : o.guard = none) (s x : Operand) (t : TypeId) (hop : o.op = Op.call { callee := Callee.builtin Builtin.append, args := #[s, x], argTypes := #[t, t] })
    (base : Nat) (e : TypeId) (i : TypeInfo) (z : Value) (size bytes : Nat) (h1 : P.underlying t = some (.slice e)) (h2 : P.info? e = some i) (h3 : i.zero = some z) (h4 : i.size = size) (h5 : i.bytes = bytes) (h6 : z.cells.size = size) (h7 : 0 < size)
    (v : Value) (k : Nat) (xs : List Value) (hs : a.eval s = v) (hown : w.ownsRow base e size v k xs) (ad : Addr) (m c : Nat) (news : List Value) (hx : a.eval x = .slice (some ad) m c) (hn : news.length = m * size)
    (hc : ∀ j u, news[j]? = some u → w.cell? (ad.add j) = some u) (h1c : ∀ u ∈ news, u.oneCell' = true) (b1 : k + m ≤ maxLen) (b2 : (k + m) * bytes ≤ 140737488355328) (b3 : base ≤ w.heap.size)
    (hK : ∀ v' w', w'.ownsRow base e size v' (k + m) (xs ++ news) → w.grownBy w' v.ownBlock → (v'.ownBlock = v.ownBlock ∨ ∀ q, v'.ownBlock = some q → w.heap.size ≤ q) → wpListIn F n P ops Q rest (a.put o.dst v') w') :
    wpListIn F n P ops Q (o :: rest) a w := by
  obtain ⟨v', w', hrun, r1, r2, r3⟩ := run_append_fresh (P := P) w base t o.type e i z size bytes h1 h2 h3 h4 h5 h6 h7 v k xs hown ad m c news hn hc h1c b1 b2 b3
  refine wpListIn_plain hg fun K hK' => ⟨?_, ?_⟩
  · simp [Oper.about, hop, resolve, Target.leads, Sem.run_pure]
  · rw [Oper.semAt_plain F _ _ (by rw [hop]; intro q hq; cases hq)]
    simp [execOp, hop, resolve, invoke, builtin, hs, hx, hrun, Result.andThen]
    exact hK' _ _ (hK v' w' r1 r2 r3)
end Go.Proofs.YthdmaamocejodaaDoor
namespace Go.Proofs.YthdmaamocejodaaDoor
open Go.RowKit
/-! The program's ranges: its function value. -/
theorem TKeeps.below {T : World → Nat → Prop} {B : Nat} {W W' : World} (hT : TLocal B T) (hB : B ≤ W.heap.size) (h : Below W.heap.size W W') : TKeeps T W W' := by
  have back : ∀ b, T W' b → T W b := fun b hx => hT _ _ b (fun k hk => (h.block k (by omega)).symm) hx
  exact ⟨h.size, fun q b hb => Nat.lt_of_lt_of_le (q b (back b hb)) h.size, fun b o ho _ hn => ⟨(h.block b (Array.getElem?_eq_some_iff.1 ho).1).trans ho, fun hb => hn (back b hb)⟩⟩
theorem rgN_le' (u f t : Nat) : rgN u f t ≤ t := by
  unfold rgN
  split
  · have h1 : (t - 1) / u ≤ t - 1 := Nat.div_le_self _ _
    have h2 := Nat.sub_le ((t - 1) / u) (f / u)
    have h3 := Nat.le_trans h2 h1
    omega
  · omega
/-- the entry of a number -/
def enI (K u f t i : Nat) : Array Value := #[.int .i64 ((rgAt u f t i / u / K : Nat) : Int), .int .i64 ((rgAt u f t i / u % K : Nat) : Int), .int .i64 ((rgAt u f t i % u : Nat) : Int), .int .i64 ((rgAt u f t (i + 1) - rgAt u f t i : Nat) : Int)]
set_option maxHeartbeats 1000000 in
theorem iranges (K M G U f t : Nat) (w : World) :
    Calls Tryd.prog 19 #[lyv K M G U, .int .i64 (f : Int), .int .i64 (t : Int)] w fun e w' => e = .returned (.func (.func 29) #[] #[.pointer (some ⟨w.heap.size + 1, 0, none⟩), .pointer (some ⟨w.heap.size + 1 + 1, 0, none⟩), .pointer (some ⟨w.heap.size, 0, none⟩)]) ∧
      w' = ((w.alloc (.cells (lya K M G U) 50)).alloc (.cells #[.int .i64 (f : Int)] 2)).alloc (.cells #[.int .i64 (t : Int)] 2) := by
  go_enter Tryd.func19, Tryd.ntmps19
  go_wp2
  go_ret
  exact ⟨rfl, rfl⟩
end Go.Proofs.YthdmaamocejodaaDoor
