import Derived.Test.YthdmaamocejodaaLawRng
import Derived.Test.YthdmaamocejodaaSStripe
import Derived.Deep.AppendLies
namespace Go.Proofs.Ythdmaamocejodaa
open Go.RowKit
/-! The specification's RangeReads. -/
abbrev rsv (k : Int) (a : Option Addr) (n c : Nat) : Value := .agg #[.int .i64 k, .slice a n c]
theorem oneR (k : Int) (a : Option Addr) (len cap : Nat) : (#[.int .i64 k, .slice a len cap] : Array Value).all (·.oneCell') = true := by simp [Value.oneCell']
/-- the entries' cells -/
def rgL (K u f t n : Nat) : List Value := (List.range (4 * n)).map fun p => .int .i64 ((rgC K u f t p : Nat) : Int)
theorem rgL_len (K u f t n : Nat) : (rgL K u f t n).length = n * 4 := by simp [rgL, Nat.mul_comm]
theorem rgL_succ (K u f t n : Nat) : rgL K u f t (n + 1) = rgL K u f t n ++ [.int .i64 ((rgAt u f t n / (K * u) : Nat) : Int), .int .i64 ((rgAt u f t n / u % K : Nat) : Int), .int .i64 ((rgAt u f t n % u : Nat) : Int), .int .i64 ((rgAt u f t (n + 1) - rgAt u f t n : Nat) : Int)] := by
  unfold rgL
  rw [show 4 * (n + 1) = 4 * n + 1 + 1 + 1 + 1 by omega, List.range_succ, List.range_succ, List.range_succ, List.range_succ]
  simp only [List.map_append, List.map_cons, List.map_nil, List.append_assoc, List.cons_append, List.nil_append]
  rw [rgC0, rgC1, rgC2, rgC3]
theorem Try.infoRg : (Try.prog.info? 40).map (fun i => (i.zero, i.size, i.bytes)) = some (some (rgv 0 0 0 0), 4, 32) := by kernel_rfl
def OwnRg (w : World) (base : Nat) (v : Value) (n : Nat) (xs : List Value) : Prop := w.ownsRow base 40 4 v n xs
theorem append_rg {P : Program} (base : Nat) (wr : World) {ops : Array Oper} {rest : List Oper} {o : Oper} {a : Act} {Q : Exit → Act → World → Prop} (hgd : o.guard = none) (s x : Operand) (t : TypeId)
    (ho : o.op = .call { callee := .builtin .append, args := #[s, x], argTypes := #[t, t] })
    (ht : P.underlying t = some (.slice 40)) (hinfo : (P.info? 40).map (fun i => (i.zero, i.size, i.bytes)) = some (some (rgv 0 0 0 0), 4, 32))
    (v : Value) (n : Nat) (xs : List Value) (y0 y1 y2 y3 : Int) (hs : a.eval s = v) (hown : OwnRg wr base v n xs) (hsz : base ≤ wr.heap.size)
    (hx : a.eval x = .slice (some ⟨wr.heap.size, 0, none⟩) 1 1) (hlen : n ≤ 1048576)
    (h : ∀ v' w', OwnRg w' base v' (n + 1) (xs ++ [.int .i64 y0, .int .i64 y1, .int .i64 y2, .int .i64 y3]) → wr.grownBy w' v.ownBlock → wpList P ops Q rest (a.put o.dst v') w') :
    wpList P ops Q (o :: rest) a (wr.alloc (.cells (rga y0 y1 y2 y3) 40)) := by
  obtain ⟨i0, hi, hz0, hz1, hz2⟩ := info_parts hinfo
  refine wpList_append_own _ hgd s x t ho base 40 i0 (rgv 0 0 0 0) 4 32 ht hi hz0 hz1 hz2 rfl (by decide) v n _ hs (World.ownsRow.alloc hown _) ⟨wr.heap.size, 0, none⟩ 1 1 [.int .i64 y0, .int .i64 y1, .int .i64 y2, .int .i64 y3] hx rfl ?_ ?_ ?_ ?_ ?_ ?_
  · intro j u hj
    have R := RowAt.new wr 40 (rga y0 y1 y2 y3)
    match j, hj with
    | 0, hj => simp at hj; subst hj; exact R.cell 0
    | 1, hj => simp at hj; subst hj; exact R.cell 1
    | 2, hj => simp at hj; subst hj; exact R.cell 2
    | 3, hj => simp at hj; subst hj; exact R.cell 3
  · intro u hu; simp at hu; rcases hu with rfl | rfl | rfl | rfl <;> rfl
  · unfold maxLen; omega
  · omega
  · simp; omega
  · intro v' w' h1 h2 h3
    exact h v' w' h1 (grown_trans (World.grownBy_alloc wr _ _) h2)
theorem OwnRg.rngs {w : World} {base : Nat} {v : Value} {K u f t n : Nat} (h : OwnRg w base v n (rgL K u f t n)) : ∃ a c, v = .slice a n c ∧ Rngs w a n c (fun p => ((rgC K u f t p : Nat) : Int)) := by
  rcases h.2 with ⟨h0, h1⟩ | ⟨g, cap, cur, he, hb, hr, hnc, hm, hsz, htk⟩
  · exact ⟨none, 0, by rw [h0, h1], by omega, Or.inl h1⟩
  · have R : RowAt w g 40 cur := hr
    refine ⟨_, cap, he, hnc, Or.inr ⟨g, rfl, R.lt, fun p hp => ?_⟩⟩
    have := congrArg (·[p]?) htk
    simp only [List.getElem?_take] at this
    rw [if_pos (by omega), rgL, List.getElem?_map, List.getElem?_range hp] at this
    rw [R.cell p]
    simpa using this
set_option maxRecDepth 20000 in
set_option maxHeartbeats 2000000 in
theorem srng_no (k m g u s f c : Int) (hno : stripeN k m g u s = -1 ∨ f < 0 ∨ c < 0) (w : World) :
    Calls Try.prog 8 #[cdv k m g, .int .i64 u, .int .i64 s, .int .i64 f, .int .i64 c] w fun e w' => e = .returned (rsv 1 none 0 0) ∧ Below w.heap.size w w' := by
  go_enter Try.func8, Try.ntmps8
  go_wp2_with fail
  refine (sStripe _ _ _ _ _ _).mono ?_
  rintro e w1 ⟨rfl, hw1⟩
  have R1 : Hid (RowAt w1 (w.heap.size + 1) 30 #[.int .i64 0, .slice none 0 0]) := by rw [hw1]; exact ((RowAt.next _ _ _ (by rw [size_al])).alloc _).alloc _
  have B1 : Hid (Below w.heap.size w w1) := by rw [hw1]; exact bal5 (bal5 (bal5 (bal5 (Below.refl _ _) _) _) _) _
  clear hw1
  rcases stripe_lo k m g u s with hs | ⟨hs0, hs1⟩
  · rw [hs]
    clear hno hs
    go_wp2_with (refine wpList_store_row rfl 30 (.tmp 10) (.tmp 27) rfl (w.heap.size + 1) #[.int .i64 1, .slice none 0 0] rfl rfl _ _ R1.out (by kernel_rfl) rfl (oneR _ _ _ _) ?_)
    refine bodyPost_ret (v := rsv 1 none 0 0) ?_ rfl ⟨rfl, below_setRow B1.out _ _ (by omega)⟩
    exact results_cell_row Try.results8 _ _ (w.heap.size + 1) _ _ _ _ rfl (R1.out.setRow _) Try.underlying30 rfl (by kernel_rfl)
  · have hno' : f < 0 ∨ c < 0 := by omega
    obtain ⟨N, hN⟩ : ∃ N : Int, N = stripeN k m g u s := ⟨_, rfl⟩
    rw [← hN] at hs0 hs1 ⊢
    have dN : decide (N < 0) = false := by simp; omega
    clear hN hno
    by_cases hf : f < 0
    · have df : decide (f < 0) = true := by simp; omega
      go_wp2_with (refine wpList_store_row rfl 30 (.tmp 10) (.tmp 27) rfl (w.heap.size + 1) #[.int .i64 1, .slice none 0 0] rfl rfl _ _ R1.out (by kernel_rfl) rfl (oneR _ _ _ _) ?_)
      refine bodyPost_ret (v := rsv 1 none 0 0) ?_ rfl ⟨rfl, below_setRow B1.out _ _ (by omega)⟩
      exact results_cell_row Try.results8 _ _ (w.heap.size + 1) _ _ _ _ rfl (R1.out.setRow _) Try.underlying30 rfl (by kernel_rfl)
    · have df : decide (f < 0) = false := by simp; omega
      have dc : decide (c < 0) = true := by simp; omega
      go_wp2_with (refine wpList_store_row rfl 30 (.tmp 10) (.tmp 27) rfl (w.heap.size + 1) #[.int .i64 1, .slice none 0 0] rfl rfl _ _ R1.out (by kernel_rfl) rfl (oneR _ _ _ _) ?_)
      refine bodyPost_ret (v := rsv 1 none 0 0) ?_ rfl ⟨rfl, below_setRow B1.out _ _ (by omega)⟩
      exact results_cell_row Try.results8 _ _ (w.heap.size + 1) _ _ _ _ rfl (R1.out.setRow _) Try.underlying30 rfl (by kernel_rfl)
end Go.Proofs.Ythdmaamocejodaa
