import Derived.Test.YtefnoeaehglihaaDoorIFind2
import Derived.Test.YtefnoeaehglihaaDoorSScan
namespace Go.Proofs.YtefnoeaehglihaaDoor
open Go.RowKit
/-! The program's ScanRecords. -/
theorem sc_skip (s : ByteArray) : ∀ (d p : Nat), p + d ≤ s.size → (∀ k, p ≤ k → k < p + d → getRec s (k : Nat) = none) → sc s p = sc s (p + d)
  | 0, p, _, _ => rfl
  | d + 1, p, h, hk => by
    rw [sc_none s p (by omega) (hk p (Nat.le_refl _) (by omega)), sc_skip s d (p + 1) (by omega) (fun k h1 h2 => hk k (by omega) (by omega)), show p + 1 + d = p + (d + 1) by omega]
/-- what find says of the list -/
def FoundP (s : ByteArray) (p : Nat) (r : Ending) : Prop :=
  (∃ f, sc s p = f :: sc s f.next ∧ p < f.next ∧ f.next ≤ s.size ∧ f.kat + f.ksz ≤ s.size ∧ f.bat + f.bsz ≤ s.size ∧ r = .returned (.tuple #[frmV f, .bool true])) ∨ (sc s p = [] ∧ r = .returned (.tuple #[frm0, .bool false]))
theorem found_of (s : ByteArray) (p : Nat) (hp : p ≤ s.size) (r : Ending) (h : FindP s p s.size r) : FoundP s p r := by
  rcases h with ⟨f, h1, h2, h3, h4, h5⟩ | ⟨h1, h2⟩
  · left
    have hin := getRec_in s f.at' f h1
    have e := sc_skip s (f.at' - p) p (by omega) (fun k a b => h4 k a (by omega))
    rw [show p + (f.at' - p) = f.at' by omega] at e
    exact ⟨f, by rw [e, sc_some s f.at' h3 f h1], by omega, hin.2.2.1, hin.2.2.2.1, hin.2.2.2.2, h5⟩
  · right
    refine ⟨?_, h2⟩
    have e := sc_skip s (s.size - p) p (by omega) (fun k a b => h1 k a (by omega))
    rw [e, sc_end s _ (by omega)]
theorem ownsRow_at {w w' : World} {base : Nat} {e : TypeId} {size : Nat} {v : Value} {n : Nat} {xs : List Value} (h : w.ownsRow base e size v n xs) (hk : ∀ k, v.ownBlock = some k → w'.heap[k]? = w.heap[k]?) : w'.ownsRow base e size v n xs := by
  rcases h.2 with ⟨rfl, h0⟩ | ⟨g, cap, cur, rfl, hb, hr, hrest⟩
  · exact ⟨h.1, Or.inl ⟨rfl, h0⟩⟩
  · exact ⟨h.1, Or.inr ⟨g, cap, cur, rfl, hb, (hk g rfl).trans hr, hrest⟩⟩
theorem Tbl.grown {base R : Nat} {s : ByteArray} {X Y : World} {r : Option Nat} {hv pv : Value} {n m : Nat} (T : Tbl base R s X hv pv n m) (hg : X.grownBy Y r) (hr : ∀ k, r = some k → ¬ Mine R hv pv k) : Tbl base R s Y hv pv n m :=
  ⟨T.blk.far hg T.blk.lt (fun q => hr R q.symm (Or.inl rfl)), T.lo, Nat.le_trans T.bs hg.size,
    World.ownsRow.kept T.hh hg (by by_cases q : hv.ownBlock = none; (exact Or.inl q); exact Or.inr (fun e => by obtain ⟨k, hk⟩ := Option.ne_none_iff_exists'.1 q; exact hr k (e ▸ hk) (Or.inr (Or.inl hk)))),
    World.ownsRow.kept T.hp hg (by by_cases q : pv.ownBlock = none; (exact Or.inl q); exact Or.inr (fun e => by obtain ⟨k, hk⟩ := Option.ne_none_iff_exists'.1 q; exact hr k (e ▸ hk) (Or.inr (Or.inr hk)))), T.sep, T.hn, T.hm⟩
theorem append_recL {P : Program} (base : Nat) (wr : World) {ops : Array Oper} {rest : List Oper} {o : Oper} {a : Act} {Q : Exit → Act → World → Prop} (hgd : o.guard = none) (s x : Operand) (t : TypeId)
    (ho : o.op = .call { callee := .builtin .append, args := #[s, x], argTypes := #[t, t] })
    (ht : P.underlying t = some (.slice 28)) (hinfo : (P.info? 28).map (fun i => (i.zero, i.size, i.bytes)) = some (some rz5, 5, 56))
    (v : Value) (n : Nat) (xs : List Value) (k : ByteArray) (g : Bool) (d : ByteArray) (y3 y4 : Int) (hs : a.eval s = v) (hown : OwnRc wr base v n xs) (hsz : base ≤ wr.heap.size)
    (hx : a.eval x = .slice (some ⟨wr.heap.size, 0, none⟩) 1 1) (hlen : n ≤ 1048576)
    (h : ∀ b cap w', OwnRc w' base (.slice (some ⟨b, 0, none⟩) (n + 1) cap) (n + 1) (xs ++ [.string k, .bool g, .string d, .int .i64 y3, .int .i64 y4]) → wr.grownBy w' v.ownBlock → (v.ownBlock = some b ∨ wr.heap.size ≤ b) → wpList P ops Q rest (a.put o.dst (.slice (some ⟨b, 0, none⟩) (n + 1) cap)) w') :
    wpList P ops Q (o :: rest) a (wr.alloc (.cells #[.string k, .bool g, .string d, .int .i64 y3, .int .i64 y4] 28)) := by
  obtain ⟨i0, hi, hz0, hz1, hz2⟩ := info_parts hinfo
  refine wpList_append_lies _ hgd s x t ho base 28 i0 rz5 5 56 ht hi hz0 hz1 hz2 rfl (by decide) v n _ hs (World.ownsRow.alloc hown _) ⟨wr.heap.size, 0, none⟩ 1 1 [.string k, .bool g, .string d, .int .i64 y3, .int .i64 y4] hx rfl ?_ ?_ (by decide) ?_ ?_ ?_ _ rfl ?_
  · intro j u hj
    have R := RowAt.new wr 28 #[.string k, .bool g, .string d, .int .i64 y3, .int .i64 y4]
    match j, hj with
    | 0, hj => simp at hj; subst hj; exact R.cell 0
    | 1, hj => simp at hj; subst hj; exact R.cell 1
    | 2, hj => simp at hj; subst hj; exact R.cell 2
    | 3, hj => simp at hj; subst hj; exact R.cell 3
    | 4, hj => simp at hj; subst hj; exact R.cell 4
  · intro u hu; simp at hu; rcases hu with rfl | rfl | rfl | rfl | rfl <;> rfl
  · unfold maxLen; omega
  · omega
  · simp; omega
  · intro b cap w' h1 h2 h3 h4
    exact h b cap w' h1 (grown_trans (World.grownBy_alloc wr _ _) h2) (by rcases h3 with q | q; (exact Or.inl q); (right; rw [q]; simp))
/-- where the scan stands: the records so far, a box for the frame -/
structure SSt (base R : Nat) (s : ByteArray) (w : World) (ea eb : Addr) (v : Value) (L : List Fr) (B : Nat) (cs : Array Value) (hv pv : Value) (n m : Nat) (wr : World) : Prop where
  tbl : Tbl base R s wr hv pv n m
  row : OwnRc wr base v L.length (rcL s L)
  rowN : ∀ k, v.ownBlock = some k → ¬ Mine R hv pv k
  box : Blk wr B cs 56
  boxN : ¬ Mine R hv pv B
  boxV : v.ownBlock ≠ some B
  boxL : w.heap.size < B
  bel : Below w.heap.size w wr
  errs : Errs wr ea eb
theorem SSt.far {base R : Nat} {s : ByteArray} {w : World} {ea eb : Addr} {v : Value} {L : List Fr} {B : Nat} {cs : Array Value} {hv pv : Value} {n m : Nat} {wr w' : World} (h : SSt base R s w ea eb v L B cs hv pv n m wr) (hb : Below wr.heap.size wr w') : SSt base R s w ea eb v L B cs hv pv n m w' :=
  ⟨h.tbl.far hb, World.ownsRow.kept h.row (below_grown hb none) (Classical.em _), h.rowN, Blk.next hb h.box, h.boxN, h.boxV, h.boxL, h.bel.trans (hb.mono h.bel.size), h.errs.below hb⟩
/-- behind a search -/
theorem SSt.step {base R : Nat} {s : ByteArray} {w : World} {ea eb : Addr} {v : Value} {L : List Fr} {B : Nat} {cs : Array Value} {hv pv hv' pv' : Value} {n m n' m' : Nat} {wr w' : World} (h : SSt base R s w ea eb v L B cs hv pv n m wr) (T : Tbl base R s w' hv' pv' n' m') (S : Step (Mine R hv pv) wr (Mine R hv' pv') w') (hlo : ErrsLo R ea eb) (hR : w.heap.size ≤ R) : SSt base R s w ea eb v L B cs hv' pv' n' m' w' :=
  ⟨T, ownsRow_at h.row (fun k hk => S.block k (World.ownsRow.lt h.row k hk).2 (h.rowN k hk)), fun k hk => step_ne S (World.ownsRow.lt h.row k hk).2 (h.rowN k hk), S.blk h.box h.boxN, step_ne S h.box.lt h.boxN, h.boxV, h.boxL,
    Step.below h.bel S h.bel.size (fun _ q => Nat.le_trans hR (h.tbl.mine_lo q)), h.errs.step S hlo (fun _ q => h.tbl.mine_lo q)⟩
/-- behind stores into the box -/
theorem SSt.stored {base R : Nat} {s : ByteArray} {w : World} {ea eb : Addr} {v : Value} {L : List Fr} {B : Nat} {cs cs' : Array Value} {hv pv : Value} {n m : Nat} {wr w' : World} (h : SSt base R s w ea eb v L B cs hv pv n m wr) (hg : wr.grownBy w' (some B)) (hB : Blk w' B cs' 56) (hE : Errs w' ea eb) : SSt base R s w ea eb v L B cs' hv pv n m w' :=
  ⟨h.tbl.grown hg (fun k hk => by cases hk; exact h.boxN), World.ownsRow.kept h.row hg (Or.inr h.boxV), h.rowN, hB, h.boxN, h.boxV, h.boxL, h.bel.grown hg h.bel.size (fun k hk => by cases hk; exact Nat.le_of_lt h.boxL), hE⟩
def isC7 (cs : Array Value) : Prop := ∃ (c0 c1 : Int) (g : Bool) (c3 c4 c5 c6 : Int), cs = #[.int .i64 c0, .int .i64 c1, .bool g, .int .i64 c3, .int .i64 c4, .int .i64 c5, .int .i64 c6]
/-- f is the next record behind those of L -/
def ScG (s : ByteArray) (L : List Fr) (f : Fr) : Prop := L ++ (f :: sc s f.next) = sc s 0 ∧ f.next ≤ s.size ∧ f.kat + f.ksz ≤ s.size ∧ f.bat + f.bsz ≤ s.size
def ScJ (base : Nat) (s : ByteArray) (w : World) (ea eb : Addr) (v pt okv : Value) (wr : World) : Prop := ∃ (B : Nat) (cs : Array Value) (L : List Fr) (ok : Bool) (hv pv : Value) (n m : Nat), pt = .pointer (some ⟨B, 0, none⟩) ∧ okv = .bool ok ∧ SSt base w.heap.size s w ea eb v L B cs hv pv n m wr ∧ ((ok = true ∧ ∃ f, cs = fcells f ∧ ScG s L f) ∨ (ok = false ∧ isC7 cs ∧ L = sc s 0))
def ScMu (s : ByteArray) (pt okv : Value) (wr : World) : Nat := match okv, pt with
  | .bool true, .pointer (some a) => (match wr.cell? ⟨a.block, 6, none⟩ with | some (.int _ q) => s.size + 1 - q.toNat | _ => 0)
  | _, _ => 0
theorem ownsRow_mono {w : World} {base base' : Nat} {e : TypeId} {size : Nat} {v : Value} {n : Nat} {xs : List Value} (h : w.ownsRow base e size v n xs) (hb : base' ≤ base) : w.ownsRow base' e size v n xs := by
  rcases h.2 with ⟨rfl, h0⟩ | ⟨g, cap, cur, rfl, hb', hr, hrest⟩
  · exact ⟨h.1, Or.inl ⟨rfl, h0⟩⟩
  · exact ⟨h.1, Or.inr ⟨g, cap, cur, rfl, by omega, hr, hrest⟩⟩
def AnsSI (s : ByteArray) (w : World) (e : Ending) (w' : World) : Prop := ∃ v, e = .returned v ∧ OwnRc w' w.heap.size v (sc s 0).length (rcL s (sc s 0)) ∧ Below w.heap.size w w'
set_option maxRecDepth 20000 in
set_option maxHeartbeats 4000000 in
theorem iScan (s : ByteArray) (hs : s.size ≤ 300000) (w : World) (ea eb : Addr) (hE : Errs w ea eb) :
    Calls Tryd.prog 16 #[.string s] w fun e w' => AnsSI s w e w' := by
  have dl : decide ((300000 : Int) < (s.size : Int)) = false := by simp; omega
  have hlo : ErrsLo w.heap.size ea eb := ⟨hE.two, by obtain ⟨c, t, r⟩ := hE.rowA; exact heap_lt r, by obtain ⟨c, t, r⟩ := hE.rowB; exact heap_lt r⟩
  have T0 : Hid (Tbl (w.heap.size + 1) w.heap.size s (w.alloc (.cells #[.string s, .slice none 0 0, .slice none 0 0] 71)) (.slice none 0 0) (.slice none 0 0) 0 0) :=
    ⟨Blk.made w _ _, by omega, by simp, ⟨rfl, Or.inl ⟨rfl, rfl⟩⟩, ⟨rfl, Or.inl ⟨rfl, rfl⟩⟩, fun k hk => (by cases hk), by omega, by omega⟩
  have E0 : Hid (Errs (w.alloc (.cells #[.string s, .slice none 0 0, .slice none 0 0] 71)) ea eb) := hE.below ((Below.refl _ _).alloc (Nat.le_refl _) _)
  have FD := fun w1 hE hv pv n m T => hid (find_all (w.heap.size + 1) w.heap.size s 0 s.size (Nat.zero_le _) (Nat.le_refl _) (by omega) ea eb hlo hv pv n m w1 hE T)
  go_enter Tryd.func16, Tryd.ntmps16
  go_wp2_with fail
  refine (FD _ E0.out _ _ _ _ T0.out).out.mono ?_
  rintro r w1 ⟨hp, hv1, pv1, n1, m1, T1, S1⟩
  have hp := found_of s 0 (Nat.zero_le _) r hp
  have HE := hid hE
  have Z1 : Hid (w.heap.size + 1 ≤ w1.heap.size) := by have := S1.size; rw [World.size_alloc] at this; exact this
  have B1 : Hid (Below w.heap.size w w1) := Step.below ((Below.refl _ _).alloc (Nat.le_refl _) _) S1 (by simp) (fun _ q => T0.out.mine_lo q)
  have MK : ∀ cs : Array Value, Hid (SSt (w.heap.size + 1) w.heap.size s w ea eb (.slice none 0 0) [] w1.heap.size cs hv1 pv1 n1 m1 (w1.alloc (.cells cs 56))) := fun cs =>
    ⟨T1.alloc _, ⟨rfl, Or.inl ⟨rfl, rfl⟩⟩, fun k hk => (by cases hk), Blk.made w1 _ _, fun q => (by have := T1.mine_lt q; omega), (by intro q; cases q), (by have := Z1.out; omega), B1.out.alloc (by have := Z1.out; omega) _, HE.out.below (B1.out.alloc (by have := Z1.out; omega) _)⟩
  have ENTER : ∀ (ok : Bool) (cs : Array Value), ((ok = true ∧ ∃ f, cs = fcells f ∧ ScG s [] f) ∨ (ok = false ∧ isC7 cs ∧ [] = sc s 0)) → ScJ (w.heap.size + 1) s w ea eb (.slice none 0 0) (.pointer (some ⟨w1.heap.size, 0, none⟩)) (.bool ok) (w1.alloc (.cells cs 56)) := fun ok cs h => ⟨_, cs, [], ok, _, _, _, _, rfl, rfl, (MK cs).out, h⟩
  have EN := hid ENTER
  clear T1 S1 FD E0 T0 hE B1 Z1 MK ENTER
  have START : ∃ cs ok, r = .returned (.tuple #[.agg cs, .bool ok]) ∧ isC7 cs ∧ ((ok = true ∧ ∃ f, cs = fcells f ∧ ScG s [] f) ∨ (ok = false ∧ isC7 cs ∧ [] = sc s 0)) := by
    rcases hp with ⟨f, h1, h2, h3, h4, h5, h6⟩ | ⟨h1, h2⟩
    · exact ⟨fcells f, true, h6, ⟨_, _, _, _, _, _, _, rfl⟩, Or.inl ⟨rfl, f, rfl, ⟨h1.symm, h3, h4, h5⟩⟩⟩
    · exact ⟨_, false, h2, ⟨_, _, _, _, _, _, _, rfl⟩, Or.inr ⟨rfl, ⟨_, _, _, _, _, _, _, rfl⟩, h1.symm⟩⟩
  obtain ⟨cs, ok, rfl, hcs, hst⟩ := START
  have HST := hid hst
  obtain ⟨c0, c1, c2, c3, c4, c5, c6, rfl⟩ := hcs
  clear hp hst
  go_wp2_with fail
  go_loopw [5, 6, 7] (fun v pt ok wr => ScJ (w.heap.size + 1) s w ea eb v pt ok wr) (fun _ pt ok wr => ScMu s pt ok wr)
  case atStart => exact EN.out _ _ HST.out
  case round =>
    obtain ⟨B, cs, L, ok, hv, pv, n, m, rfl, rfl, hS, hc⟩ := hrel
    have HS := hid hS
    clear hS
    rcases hc with ⟨rfl, f, rfl, hG⟩ | ⟨rfl, ⟨x0, x1, x2, x3, x4, x5, x6, rfl⟩, hL⟩
    · obtain ⟨hG1, hG2, hG3, hG4⟩ := hG
      have RC := fun w => hid (iRecord f s hG3 hG4 (by omega) w)
      have LL : Hid (L.length ≤ 1048576) := by
        have h9 := sc_len s (s.size + 1) 0
        have h8 := congrArg List.length hG1
        simp only [List.length_append, List.length_cons] at h8
        show _ ≤ _
        have : (sc s 0).length ≤ s.size := h9
        omega
      have G1 : Hid ((L ++ [f]) ++ sc s f.next = sc s 0) := by show _ = _; rw [List.append_assoc, List.singleton_append]; exact hG1
      have RL : Hid (rcL s (L ++ [f]) = rcL s L ++ [.string (rcK s (some f)), .bool (rcG (some f)), .string (rcD s (some f)), .int .i64 (rcA (some f)), .int .i64 (rcN (some f))]) := rcL_snoc s L f
      have FD := fun w1 hE hv pv n m T => hid (find_all (w.heap.size + 1) w.heap.size s f.next s.size hG2 (Nat.le_refl _) (by omega) ea eb hlo hv pv n m w1 hE T)
      have HN : Hid (f.next ≤ s.size) := hG2
      unfold recordV at RC
      obtain ⟨K, hK⟩ : ∃ K, K = rcK s (some f) := ⟨_, rfl⟩
      obtain ⟨Gg, hGg⟩ : ∃ K, K = rcG (some f) := ⟨_, rfl⟩
      obtain ⟨D, hD⟩ : ∃ K, K = rcD s (some f) := ⟨_, rfl⟩
      obtain ⟨A9, hA⟩ : ∃ K, K = rcA (some f) := ⟨_, rfl⟩
      obtain ⟨N9, hN9⟩ : ∃ K, K = rcN (some f) := ⟨_, rfl⟩
      rw [← hK, ← hGg, ← hD, ← hA, ← hN9] at RC RL
      obtain ⟨ka, ks, g, ba, bs, a, n9⟩ := f
      have bx := HS.out.box
      unfold fcells at bx
      unfold frmV at RC
      simp only at RC bx FD G1 HN
      clear hK hGg hD hA hN9 hG1 hG2 hG3 hG4
      have b0 := bx.cell 0 _ rfl
      have b1 := bx.cell 1 _ rfl
      have b2 := bx.cell 2 _ rfl
      have b3 := bx.cell 3 _ rfl
      have b4 := bx.cell 4 _ rfl
      have b5 := bx.cell 5 _ rfl
      have b6 := bx.cell 6 _ rfl
      have HB6 := hid b6
      go_wp2_with fail
      refine (RC _).out.mono ?_
      rintro r w2 ⟨rfl, hb2⟩
      have S2 := HS.out.far hb2
      have O2 := S2.row
      have Z2 := S2.tbl.bs
      have HS2 := hid S2
      clear S2 b0 b1 b2 b3 b4 b5 b6 hb2 bx
      go_wp2_with (first | (at_builtin; (refine append_recL (w.heap.size + 1) w2 rfl (.tmp 28) (.tmp 32) 35 rfl Tryd.underlying35 Tryd.infoRc _ _ _ K Gg D A9 N9 rfl O2 Z2 rfl LL.out ?_)) | go_in)
      intro b3' cap3 w3 hO3 hg3 hf3
      have S3 : Hid (SSt (w.heap.size + 1) w.heap.size s w ea eb (.slice (some ⟨b3', 0, none⟩) (L.length + 1) cap3) (L ++ [⟨ka, ks, g, ba, bs, a, n9⟩]) B (fcells ⟨ka, ks, g, ba, bs, a, n9⟩) hv pv n m w3) := by
        have bel3 : Below w.heap.size w w3 := HS2.out.bel.grown hg3 HS2.out.bel.size (fun k hk => by have := (World.ownsRow.lt O2 k hk).1; omega)
        refine ⟨HS2.out.tbl.grown hg3 HS2.out.rowN, by rw [RL.out, List.length_append]; exact hO3, ?_, HS2.out.box.far hg3 HS2.out.box.lt (fun q => HS2.out.boxV q.symm), HS2.out.boxN, ?_, HS2.out.boxL, bel3, HE.out.below bel3⟩
        · intro k hk
          have e : b3' = k := by cases hk; rfl
          subst e
          rcases hf3 with q | q
          · exact HS2.out.rowN _ q
          · intro r; have := HS2.out.tbl.mine_lt r; omega
        · intro q
          have e : b3' = B := by cases q; rfl
          subst e
          rcases hf3 with r | r
          · exact HS2.out.boxV r
          · have := HS2.out.box.lt; omega
      clear hO3 hg3 hf3 O2 Z2 HS2
      have bx := S3.out.box
      unfold fcells at bx
      have b0 := bx.cell 0 _ rfl
      have b1 := bx.cell 1 _ rfl
      have b2 := bx.cell 2 _ rfl
      have b3 := bx.cell 3 _ rfl
      have b4 := bx.cell 4 _ rfl
      have b5 := bx.cell 5 _ rfl
      have b6 := bx.cell 6 _ rfl
      have S4 : Hid (SSt (w.heap.size + 1) w.heap.size s w ea eb (.slice (some ⟨b3', 0, none⟩) (L.length + 1) cap3) (L ++ [⟨ka, ks, g, ba, bs, a, n9⟩]) w3.heap.size (fcells ⟨ka, ks, g, ba, bs, a, n9⟩) hv pv n m (w3.alloc (.cells (fcells ⟨ka, ks, g, ba, bs, a, n9⟩) 56))) := by
        have hbb := (Below.refl w3.heap.size w3).alloc (Nat.le_refl _) (.cells (fcells ⟨ka, ks, g, ba, bs, a, n9⟩) 56)
        have h3 := S3.out.far hbb
        refine ⟨h3.tbl, h3.row, h3.rowN, Blk.made w3 _ _, fun q => by have := S3.out.tbl.mine_lt q; omega, fun q => ?_, ?_, h3.bel, h3.errs⟩
        · have := (World.ownsRow.lt S3.out.row _ q).2; omega
        · have := S3.out.tbl.bs; omega
      unfold fcells at S4
      clear S3 bx HS
      go_wp2_with fail
      refine (FD _ S4.out.errs _ _ _ _ S4.out.tbl).out.mono ?_
      rintro r w5 ⟨hp, hv5, pv5, n5, m5, T5, S5⟩
      have hp := found_of s n9 HN.out r hp
      have HS5 := hid (S4.out.step T5 S5 hlo (Nat.le_refl _))
      have bx5 := HS5.out.box
      have q0 := bx5.cell 0 _ rfl
      have q1 := bx5.cell 1 _ rfl
      have q2 := bx5.cell 2 _ rfl
      have q3 := bx5.cell 3 _ rfl
      have q4 := bx5.cell 4 _ rfl
      have q5 := bx5.cell 5 _ rfl
      have q6 := bx5.cell 6 _ rfl
      have f0 := bx5.free 0
      have f1 := bx5.free 1
      have f2 := bx5.free 2
      have f3 := bx5.free 3
      have f4 := bx5.free 4
      have f5 := bx5.free 5
      have f6 := bx5.free 6
      clear T5 S5 S4 FD b0 b1 b2 b3 b4 b5 b6
      have NEXT : ∃ (d0 d1 : Int) (d2 : Bool) (d3 d4 d5 d6 : Int) (ok5 : Bool), r = .returned (.tuple #[.agg #[.int .i64 d0, .int .i64 d1, .bool d2, .int .i64 d3, .int .i64 d4, .int .i64 d5, .int .i64 d6], .bool ok5]) ∧
          ((ok5 = true ∧ ∃ f', #[.int .i64 d0, .int .i64 d1, .bool d2, .int .i64 d3, .int .i64 d4, .int .i64 d5, .int .i64 d6] = fcells f' ∧ ScG s (L ++ [⟨ka, ks, g, ba, bs, a, n9⟩]) f' ∧ n9 < f'.next ∧ d6 = (f'.next : Nat)) ∨ (ok5 = false ∧ L ++ [⟨ka, ks, g, ba, bs, a, n9⟩] = sc s 0)) := by
        rcases hp with ⟨f', h1, h2, h3, h4, h5, h6⟩ | ⟨h1, h2⟩
        · exact ⟨_, _, _, _, _, _, _, true, h6, Or.inl ⟨rfl, f', rfl, ⟨by rw [← h1]; exact G1.out, h3, h4, h5⟩, h2, rfl⟩⟩
        · refine ⟨_, _, _, _, _, _, _, false, h2, Or.inr ⟨rfl, ?_⟩⟩
          have := G1.out
          rw [h1, List.append_nil] at this
          exact this
      obtain ⟨d0, d1, d2, d3, d4, d5, d6, ok5, rfl, hst5⟩ := NEXT
      have HST5 := hid hst5
      have HBX5 := hid bx5
      clear hp hst5 bx5
      have hBY : Hid (Blk (((((((w5.setCell ⟨w3.heap.size, 0, none⟩ (.int .i64 d0)).setCell ⟨w3.heap.size, 1, none⟩ (.int .i64 d1)).setCell ⟨w3.heap.size, 2, none⟩ (.bool d2)).setCell ⟨w3.heap.size, 3, none⟩ (.int .i64 d3)).setCell ⟨w3.heap.size, 4, none⟩ (.int .i64 d4)).setCell ⟨w3.heap.size, 5, none⟩ (.int .i64 d5)).setCell ⟨w3.heap.size, 6, none⟩ (.int .i64 d6)) w3.heap.size #[.int .i64 d0, .int .i64 d1, .bool d2, .int .i64 d3, .int .i64 d4, .int .i64 d5, .int .i64 d6] 56) := ((((((HBX5.out.set 0 (.int .i64 d0)).set 1 (.int .i64 d1)).set 2 (.bool d2)).set 3 (.int .i64 d3)).set 4 (.int .i64 d4)).set 5 (.int .i64 d5)).set 6 (.int .i64 d6)
      have hGY : Hid (w5.grownBy (((((((w5.setCell ⟨w3.heap.size, 0, none⟩ (.int .i64 d0)).setCell ⟨w3.heap.size, 1, none⟩ (.int .i64 d1)).setCell ⟨w3.heap.size, 2, none⟩ (.bool d2)).setCell ⟨w3.heap.size, 3, none⟩ (.int .i64 d3)).setCell ⟨w3.heap.size, 4, none⟩ (.int .i64 d4)).setCell ⟨w3.heap.size, 5, none⟩ (.int .i64 d5)).setCell ⟨w3.heap.size, 6, none⟩ (.int .i64 d6)) (some w3.heap.size)) := grown_trans (grown_trans (grown_trans (grown_trans (grown_trans (grown_trans grown_set grown_set) grown_set) grown_set) grown_set) grown_set) grown_set
      have hSY : Hid (SSt (w.heap.size + 1) w.heap.size s w ea eb (.slice (some ⟨b3', 0, none⟩) (L.length + 1) cap3) (L ++ [⟨ka, ks, g, ba, bs, a, n9⟩]) w3.heap.size #[.int .i64 d0, .int .i64 d1, .bool d2, .int .i64 d3, .int .i64 d4, .int .i64 d5, .int .i64 d6] hv5 pv5 n5 m5 (((((((w5.setCell ⟨w3.heap.size, 0, none⟩ (.int .i64 d0)).setCell ⟨w3.heap.size, 1, none⟩ (.int .i64 d1)).setCell ⟨w3.heap.size, 2, none⟩ (.bool d2)).setCell ⟨w3.heap.size, 3, none⟩ (.int .i64 d3)).setCell ⟨w3.heap.size, 4, none⟩ (.int .i64 d4)).setCell ⟨w3.heap.size, 5, none⟩ (.int .i64 d5)).setCell ⟨w3.heap.size, 6, none⟩ (.int .i64 d6))) := by
        refine HS5.out.stored hGY.out hBY.out (HE.out.below (HS5.out.bel.grown hGY.out HS5.out.bel.size (fun k hk => by cases hk; exact Nat.le_of_lt HS5.out.boxL)))
      clear HBX5 HS5
      go_wp2
      go_roundw
      case rel =>
        refine ⟨_, _, _, ok5, _, _, _, _, rfl, rfl, hSY.out, ?_⟩
        rcases HST5.out with ⟨r1, f', r2, r3, _⟩ | ⟨r1, r2⟩
        · exact Or.inl ⟨r1, f', r2, r3⟩
        · exact Or.inr ⟨r1, ⟨_, _, _, _, _, _, _, rfl⟩, r2⟩
      case measure =>
        have hR : ScMu s (.pointer (some ⟨B, 0, none⟩)) (.bool true) wr = s.size + 1 - n9 := by unfold ScMu; simp only; rw [HB6.out]; rfl
        rw [hR]
        have c6 := hBY.out.cell 6 _ rfl
        have hn := HN.out
        rcases HST5.out with ⟨rfl, f', r2, r3, r4, r5⟩ | ⟨rfl, r2⟩
        · unfold ScMu; simp only; rw [c6]; simp only [r5]
          have := r3.2.1
          show s.size + 1 - ((f'.next : Nat) : Int).toNat < _
          rw [Int.toNat_natCast]; omega
        · unfold ScMu; simp only; omega
    · have HL := hid hL
      clear hL
      go_wp2
      go_ret
      refine ⟨_, rfl, ?_, HS.out.bel⟩
      rw [← HL.out]
      exact ownsRow_mono HS.out.row (by omega)
end Go.Proofs.YtefnoeaehglihaaDoor
