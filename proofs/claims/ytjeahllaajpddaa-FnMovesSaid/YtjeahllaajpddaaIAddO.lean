import Derived.Test.YtjeahllaajpddaaIInsert
import Derived.Test.YtjeahllaajpddaaPlRing
namespace Go.Proofs.Ytjeahllaajpddaa
open Go.RowKit
theorem BidsAt.of_own {w : World} {base : Nat} {e : TypeId} {v : Value} {x sc : Nat → Int} {l : List Nat} (h : w.ownsRow base e 3 v l.length (flB x sc l)) :
    ∃ a cap, v = .slice a l.length cap ∧ BidsAt w a l.length (fun i => ((l.getD i 0 : Nat) : Int)) (fun i => x (l.getD i 0)) (fun i => sc (l.getD i 0)) := by
  rcases h.2 with ⟨rfl, hn⟩ | ⟨g, cap, cur, rfl, hb, hg, hnc, hcm, hcs, htake⟩
  · exact ⟨none, 0, by rw [hn], .inl hn⟩
  · refine ⟨some ⟨g, 0, none⟩, cap, rfl, .inr ⟨g, rfl, (Array.getElem?_eq_some_iff.1 hg).1, fun i hi => ?_⟩⟩
    obtain ⟨h0, h1, h2⟩ := flB_get x sc l i hi
    have c := fun j u hj => h.cells (g := g) rfl j u hj
    simp only [Addr.add_lit, Nat.zero_add] at c
    exact ⟨c _ _ h0, c _ _ h1, c _ _ h2⟩
theorem own_slice {w : World} {base : Nat} {e : TypeId} {size n : Nat} {v : Value} {xs : List Value} (h : w.ownsRow base e size v n xs) : ∃ a cap, v = .slice a n cap := by
  rcases h.2 with ⟨rfl, rfl⟩ | ⟨g, cap, cur, rfl, _⟩
  · exact ⟨_, _, rfl⟩
  · exact ⟨_, _, rfl⟩
theorem iInsert (base n i vb : Nat) (v : Value) (xs : List Value) (v0 v1 v2 : Value) (hi : i ≤ n) (hn : n ≤ 1000) (w : World) (hbase : base ≤ w.heap.size)
    (hown : w.ownsRow base 78 3 v n xs) (hv : RowAt w vb 78 #[v0, v1, v2]) (hne : v.ownBlock ≠ some vb) (h1x : ∀ v ∈ xs, v.oneCell' = true) (h1v : ∀ v ∈ [v0, v1, v2], v.oneCell' = true) :
    Calls Try.prog 59 #[v, .int .i64 (i : Int), .slice (some ⟨vb, 0, none⟩) 1 1] w fun e w' =>
      ∃ v', e = .returned v' ∧ w'.ownsRow base 78 3 v' (n + 1) (xs.take (i * 3) ++ [v0, v1, v2] ++ xs.drop (i * 3)) ∧ w.grownBy w' v.ownBlock ∧ (v'.ownBlock = v.ownBlock ∨ ∀ q, v'.ownBlock = some q → w.heap.size ≤ q) := by
  have hxl := hown.1
  by_cases hin : i = n
  · subst hin
    rw [List.take_of_length_le (by omega), List.drop_eq_nil_of_le (by omega), List.append_nil]
    exact iInsert_end base i vb v xs v0 v1 v2 hn w hbase hown hv h1v
  · rcases hown.2 with ⟨rfl, rfl⟩ | ⟨g, cap, cur, rfl, hb, hg, hnc, hcm, hcs, htake⟩
    · omega
    · by_cases hroom : n + 1 ≤ cap
      · refine (iInsert_room base g n cap i vb xs v0 v1 v2 (by omega) hn hroom w hown hv (fun e => hne (by rw [e]; rfl)) h1x h1v).mono ?_
        rintro e w' ⟨rfl, ho, hg'⟩
        exact ⟨_, rfl, ho, hg', .inl rfl⟩
      · refine (iInsert_grow base g n cap i vb xs v0 v1 v2 (by omega) hn (by omega) w hbase hown hv h1x h1v).mono ?_
        rintro e w' ⟨G, rfl, ho, hg'⟩
        refine ⟨_, rfl, ho, ⟨hg'.os, hg'.tape, hg'.output, hg'.size, fun k hk _ => hg'.block k hk (by simp)⟩, .inr fun q hq => ?_⟩
        cases hq
        exact Nat.le_refl _
/-- the ring's cells: a list of bids in the order of their scores -/
structure RingAt (w : World) (base R : Nat) (x sc : Nat → Int) (l : List Nat) (v : Value) : Prop where
  box : RowAt w R 64 #[.func (.func 53) #[] #[], v]
  own : w.ownsRow base 78 3 v l.length (flB x sc l)
  sorted : l.Pairwise (bef sc)
  far : v.ownBlock ≠ some R
  at' : base ≤ R
theorem RingAt.below {w w' : World} {base R : Nat} {x sc : Nat → Int} {l : List Nat} {v : Value} (h : RingAt w base R x sc l v) (hb : Below w.heap.size w w') : RingAt w' base R x sc l v := by
  refine ⟨h.box.below hb h.box.lt, ?_, h.sorted, h.far, h.at'⟩
  exact h.own.kept (row := none) (below_grown hb _) (by cases hv : v.ownBlock <;> simp)
theorem RingAt.drew {w : World} {base R : Nat} {x sc : Nat → Int} {l : List Nat} {v : Value} (h : RingAt w base R x sc l v) : RingAt w.drew base R x sc l v := ⟨h.box, h.own, h.sorted, h.far, h.at'⟩
theorem BidsAt.drew {w : World} {a : Option Addr} {n : Nat} {D M S : Nat → Int} (h : BidsAt w a n D M S) : BidsAt w.drew a n D M S := h
theorem RingAt.base_le {w : World} {base R : Nat} {x sc : Nat → Int} {l : List Nat} {v : Value} (h : RingAt w base R x sc l v) : base ≤ w.heap.size := Nat.le_trans h.at' (Nat.le_of_lt h.box.lt)
theorem add_close {base R k i cap cap4 : Nat} {x sc : Nat → Int} {l : List Nat} {a a4 : Option Addr} {w w2 w4 : World} {X S : Int} (o : Obj) (H2 : RingAt w2 base R x sc l (.slice a l.length cap)) (hX : X = x k) (hS : S = sc k) (hk : k ∉ l)
    (hi : i ≤ l.length ∧ (0 < i → hfV ((l.getD (i - 1) 0 : Nat) : Int) (sc (l.getD (i - 1) 0)) (k : Int) S < 0) ∧ (i < l.length → 0 ≤ hfV ((l.getD i 0 : Nat) : Int) (sc (l.getD i 0)) (k : Int) S))
    (G2 : Below w.heap.size w w2) (hbw : base ≤ w.heap.size)
    (ho4 : w4.ownsRow base 78 3 (.slice a4 (l.length + 1) cap4) (l.length + 1) ((flB x sc l).take (i * 3) ++ [.int .i64 (k : Int), .int .i64 X, .int .i64 S] ++ (flB x sc l).drop (i * 3)))
    (hg4 : ((w2.alloc o).drew).grownBy w4 (Value.slice a l.length cap).ownBlock) (hf4 : (Value.slice a4 (l.length + 1) cap4).ownBlock = (Value.slice a l.length cap).ownBlock ∨ ∀ q, (Value.slice a4 (l.length + 1) cap4).ownBlock = some q → ((w2.alloc o).drew).heap.size ≤ q)
    (r4 : RowAt w4 R 64 #[.func (.func 53) #[] #[], .slice a l.length cap]) :
    (∃ l' v', RingAt (w4.setCell ⟨R, 1, none⟩ (.slice a4 (l.length + 1) cap4)) base R x sc l' v' ∧ l'.length = l.length + 1 ∧ ∀ j, j ∈ l' ↔ j ∈ l ∨ j = k) ∧ Below base w (w4.setCell ⟨R, 1, none⟩ (.slice a4 (l.length + 1) cap4)) := by
  have hfar : (Value.slice a4 (l.length + 1) cap4).ownBlock ≠ some R := by
    rcases hf4 with e | e
    · rw [e]; exact H2.far
    · intro q
      have h1 := e R q
      have h2 : w2.heap.size ≤ ((w2.alloc o).drew).heap.size := by show w2.heap.size ≤ (w2.alloc o).heap.size; rw [World.size_alloc]; omega
      have h3 := H2.box.lt
      omega
  subst hX hS
  have hfl : flB x sc (l.take i ++ [k] ++ l.drop i) = (flB x sc l).take (i * 3) ++ [.int .i64 (k : Int), .int .i64 (x k), .int .i64 (sc k)] ++ (flB x sc l).drop (i * 3) := by
    rw [flB_append, flB_append, flB_take x sc l i hi.1, flB_drop x sc l i hi.1]; rfl
  have hll : (l.take i ++ [k] ++ l.drop i).length = l.length + 1 := by simp; omega
  refine ⟨⟨l.take i ++ [k] ++ l.drop i, _, ⟨r4.set 1 _, ?_, ?_, hfar, H2.at'⟩, hll, fun j => ins_mem l k i j⟩, ?_⟩
  · rw [hll, hfl]
    exact ho4.kept (row := some R) grown_set (.inr hfar)
  · refine ins_sorted sc l k i H2.sorted hi.1 (fun h => (hf_bef sc _ _).1 (hi.2.1 h)) (fun h q => ?_) hk
    have := (hf_bef sc _ _).2 q
    have := hi.2.2 h
    omega
  · have b1 : Below base w (w2.alloc o).drew := ((G2.mono hbw).alloc (Nat.le_trans hbw G2.size) _).drew
    have b2 := b1.grown hg4 (by show base ≤ (w2.alloc o).heap.size; rw [World.size_alloc]; have := H2.base_le; omega) (fun q hq => (H2.own.lt q hq).1)
    exact b2.grown grown_set (Nat.le_trans H2.at' (Nat.le_of_lt r4.lt)) (fun q hq => by cases hq; exact H2.at')
set_option maxRecDepth 20000 in
set_option maxHeartbeats 4000000 in
theorem iAddO (base R k : Nat) (x sc : Nat → Int) (l : List Nat) (v : Value) (hl : l.length ≤ 1000) (hk : k ∉ l) (w : World) (h : RingAt w base R x sc l v) :
    Calls Try.prog 54 #[.pointer (some ⟨R, 0, none⟩), .agg #[.int .i64 (k : Int), .int .i64 (x k), .int .i64 (sc k)]] w fun e w' =>
      e = .returned (.tuple #[]) ∧ (∃ l' v', RingAt w' base R x sc l' v' ∧ l'.length = l.length + 1 ∧ ∀ j, j ∈ l' ↔ j ∈ l ∨ j = k) ∧ Below base w w' := by
  obtain ⟨a, cap, rfl, hB⟩ := BidsAt.of_own h.own
  obtain ⟨X, hX⟩ : ∃ X, X = x k := ⟨_, rfl⟩
  obtain ⟨S, hS⟩ : ∃ S, S = sc k := ⟨_, rfl⟩
  rw [← hX, ← hS]
  have HX := hid hX
  have HS := hid hS
  clear hX hS
  have B1 : Hid (Below w.heap.size w (w.alloc (.cells #[.int .i64 (k : Int), .int .i64 X, .int .i64 S] 78))) := (Below.refl _ w).alloc (Nat.le_refl _) _
  have T1 : Hid (RowAt (w.alloc (.cells #[.int .i64 (k : Int), .int .i64 X, .int .i64 S] 78)) w.heap.size 78 #[.int .i64 (k : Int), .int .i64 X, .int .i64 S]) := RowAt.new w _ _
  obtain ⟨W1, hW1⟩ : ∃ W, W = w.alloc (.cells #[.int .i64 (k : Int), .int .i64 X, .int .i64 S] 78) := ⟨_, rfl⟩
  rw [← hW1] at B1 T1
  have H1 := hid (h.below B1.out)
  have HB1 := hid (hB.below B1.out)
  have HH := hid h
  clear h hB
  have c0 := H1.out.box.cell 0
  have c1 := H1.out.box.cell 1
  have t0 := T1.out.cell 0
  have t1 := T1.out.cell 1
  have t2 := T1.out.cell 2
  go_enter Try.func54, Try.ntmps54
  go_wp2_with fail
  rw [← hW1]
  clear hW1
  go_region_held3 (fun wx => wx.cell? ⟨R, 0, none⟩ = some (.func (.func 53) #[] #[]) ∧ wx.cell? ⟨R, 1, none⟩ = some (.slice a l.length cap) ∧ wx.cell? ⟨w.heap.size, 0, none⟩ = some (.int .i64 (k : Int)) ∧ wx.cell? ⟨w.heap.size, 1, none⟩ = some (.int .i64 X) ∧ wx.cell? ⟨w.heap.size, 2, none⟩ = some (.int .i64 S)) ((first | (go_keep; done) | exact ⟨H2.box.cell 0, H2.box.cell 1, T2.cell 0, T2.cell 1, T2.cell 2⟩)) ((go_at_call 58; refine (iSearch a l.length cap _ _ _ (k : Int) X S (by omega) W1.drew HB1.out.drew).mono ?_; rintro e w2 ⟨i, bb, rfl, hi, hb2⟩; have H2 := H1.out.drew.below hb2; have T2 := (RowAt.drew T1.out).below hb2 T1.out.lt))
  have H2' := hid H2
  have T2' := hid T2
  have G2 : Hid (Below w.heap.size w w2) := B1.out.drew.trans (hb2.mono B1.out.drew.size)
  have HI := hid hi
  clear H2 T2 hb2 hi H1 HB1 T1 B1 c0 c1 t0 t1 t2
  have c0 := H2'.out.box.cell 0
  have c1 := H2'.out.box.cell 1
  have cf := H2'.out.box.free 1
  have t0 := T2'.out.cell 0
  have t1 := T2'.out.cell 1
  have t2 := T2'.out.cell 2
  have hil := HI.out.1
  go_wp2_with fail
  have O3 := hid (H2'.out.own.alloc (.cells #[.int .i64 (k : Int), .int .i64 X, .int .i64 S] 78))
  have V3 := hid (RowAt.new w2 78 #[.int .i64 (k : Int), .int .i64 X, .int .i64 S])
  have N3 : Hid ((Value.slice a l.length cap).ownBlock ≠ some w2.heap.size) := fun e => by have := (H2'.out.own.lt _ e).2; omega
  have R3 := hid (H2'.out.box.alloc (.cells #[.int .i64 (k : Int), .int .i64 X, .int .i64 S] 78))
  have b3 : base ≤ (w2.alloc (.cells #[.int .i64 (k : Int), .int .i64 X, .int .i64 S] 78)).heap.size := by rw [World.size_alloc]; have := H2'.out.base_le; omega
  have h1x := flB_one x sc l
  have h1v : ∀ v ∈ [Value.int .i64 (k : Int), Value.int .i64 X, Value.int .i64 S], v.oneCell' = true := fun v hv => by simp at hv; rcases hv with rfl | rfl | rfl <;> rfl
  have B3 := hid b3
  have X3 := hid h1x
  have Y3 := hid h1v
  have FR := hid H2'.out.far
  clear b3 h1x h1v
  have hRl := H2'.out.box.lt
  have c1a := R3.out.cell 1
  have c1b : (w2.alloc (.cells #[.int .i64 (k : Int), .int .i64 X, .int .i64 S] 78)).drew.cell? ⟨R, 1, none⟩ = some (.slice a l.length cap) := R3.out.cell 1
  go_region_with ((go_at_call 59; refine (iInsert base l.length i w2.heap.size (.slice a l.length cap) (flB x sc l) (.int .i64 (k : Int)) (.int .i64 X) (.int .i64 S) hil hl ((w2.alloc (.cells #[.int .i64 (k : Int), .int .i64 X, .int .i64 S] 78)).drew) B3.out O3.out V3.out N3.out X3.out Y3.out).mono ?_; rintro e w4 ⟨v4, rfl, ho4, hg4, hf4⟩; obtain ⟨a4, cap4, rfl⟩ := own_slice ho4; have r4 : RowAt w4 R 64 #[.func (.func 53) #[] #[], .slice a l.length cap] := (hg4.block R R3.out.lt (fun e => FR.out e.symm)).trans R3.out; have c4 := r4.cell 1; have f4 := r4.free 1))
  all_goals go_end0
  all_goals exact ⟨rfl, add_close _ H2'.out HX.out HS.out hk HI.out G2.out HH.out.base_le ho4 hg4 hf4 r4⟩
end Go.Proofs.Ytjeahllaajpddaa
