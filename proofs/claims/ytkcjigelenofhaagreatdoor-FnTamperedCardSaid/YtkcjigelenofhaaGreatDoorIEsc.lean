import Derived.Test.YtkcjigelenofhaaGreatDoorIPlain
import Derived.Test.YtkcjigelenofhaaGreatDoorG3
namespace Go.Proofs.YtkcjigelenofhaaGreatDoor
open Go.RowKit
def escA (l : List UInt8) : List UInt8 := l.flatMap fun c => [37, eHx (c.toNat / 16), eHx (c.toNat % 16)]
theorem escA_app (a b : List UInt8) : escA (a ++ b) = escA a ++ escA b := by simp [escA]
theorem escA_len (l : List UInt8) : (escA l).length = 3 * l.length := by
 induction l with
 | nil => rfl
 | cons c l ih => simp [escA] at ih ⊢; omega
theorem escA_esc : ∀ l : List UInt8, (∀ c ∈ l, ¬ ePl c.toNat) → escA l = esc l
 | [], _ => rfl
 | c :: l, h => by
  have e : esc (c :: l) = e1 c ++ esc l := by simp [esc]
  have e2 : escA (c :: l) = [37, eHx (c.toNat / 16), eHx (c.toNat % 16)] ++ escA l := by simp [escA]
  rw [e, e2, escA_esc l fun x hx => h x (List.mem_cons_of_mem _ hx)]
  unfold e1
  rw [if_neg (h c (List.mem_cons_self ..))]
theorem step_append_nums2 {P : Program} (base : Nat) (w : World) {ops : Array Oper} {o : Oper} {a : Act} {K : Act → World → Prop} {Q : Exit → Act → World → Prop} {E : Prop} (hgd : o.guard = none) (s x : Operand) (t : TypeId)
 (ho : o.op = .call { callee := .builtin .append, args := #[s, x], argTypes := #[t, t] })
 (e : TypeId) (k : IntKind) (bt : Nat) (ht : P.underlying t = some (.slice e)) (hinfo : (P.info? e).map (fun i => (i.zero, i.size, i.bytes)) = some (some (.int k 0), 1, bt)) (hbt : bt ≤ 8)
 (v : Value) (xs bs : List Int) (hs : a.eval s = v) (hown : OwnNums w base e k v xs) (hsz : base ≤ w.heap.size)
 (b m : Nat) (hbox : w.heap[b]? = some (.cells (bs.map (Value.int k)).toArray e (0, 0))) (hx : a.eval x = .slice (some ⟨b, 0, none⟩) m m) (hm : bs.length = m) (hm0 : 0 < m) (hlen : xs.length + m ≤ 17592186044414)
 (h : ∀ g cap w', OwnNums w' base e k (.slice (some ⟨g, 0, none⟩) (xs.length + m) cap) (xs ++ bs) → w.grownBy w' v.ownBlock → (v.ownBlock = some g ∨ g = w.heap.size) → K (a.put o.dst (.slice (some ⟨g, 0, none⟩) (xs.length + m) cap)) w') :
 if Region.wanted o (yielded ops a.tmps) = true then Oper.wp P o a w K Q else E := by
 obtain ⟨i0, hi, hz0, hz1, hz2⟩ := info_parts hinfo
 refine step_append_lies _ hgd s x t ho base e i0 (.int k 0) 1 bt ht hi hz0 hz1 hz2 rfl (by decide) v xs.length _ hs hown ⟨b, 0, none⟩ m m (bs.map (Value.int k)) hx (by simp; omega) ?_ ?_ hm0 ?_ ?_ hsz w.heap.size rfl ?_
 · have := World.news_of_block hbox; simpa using this
 · intro u hu; obtain ⟨y, _, rfl⟩ := List.mem_map.1 hu; rfl
 · unfold maxLen; omega
 · exact Nat.le_trans (Nat.mul_le_mul_left _ hbt) (by omega)
 · intro g cap w' h1 h2 h3 h4
   exact h g cap w' (by subst hm; simpa [OwnNums] using h1) h2 h3
theorem step_append_nums3 {P : Program} (base : Nat) (w : World) {ops : Array Oper} {o : Oper} {a : Act} {K : Act → World → Prop} {Q : Exit → Act → World → Prop} {E : Prop} (hgd : o.guard = none) (s x : Operand) (t : TypeId)
 (ho : o.op = .call { callee := .builtin .append, args := #[s, x], argTypes := #[t, t] })
 (e : TypeId) (k : IntKind) (bt : Nat) (ht : P.underlying t = some (.slice e)) (hinfo : (P.info? e).map (fun i => (i.zero, i.size, i.bytes)) = some (some (.int k 0), 1, bt)) (hbt : bt ≤ 8)
 (v : Value) (xs bs : List Int) (hs : a.eval s = v) (hown : OwnNums w base e k v xs) (hsz : base ≤ w.heap.size)
 (b m : Nat) (hx : a.eval x = .slice (some ⟨b, 0, none⟩) m m) (hbox : w.heap[b]? = some (.cells (bs.map (Value.int k)).toArray e (0, 0))) (hm : bs.length = m) (hm0 : 0 < m) (hlen : xs.length + m ≤ 17592186044414)
 (h : ∀ g cap w', OwnNums w' base e k (.slice (some ⟨g, 0, none⟩) (xs.length + m) cap) (xs ++ bs) → w.grownBy w' v.ownBlock → (v.ownBlock = some g ∨ g = w.heap.size) → K (a.put o.dst (.slice (some ⟨g, 0, none⟩) (xs.length + m) cap)) w') :
 if Region.wanted o (yielded ops a.tmps) = true then Oper.wp P o a w K Q else E := step_append_nums2 base w hgd s x t ho e k bt ht hinfo hbt v xs bs hs hown hsz b m hbox hx hm hm0 hlen h
theorem gdrew {a b : World} {r : Option Nat} (h : a.grownBy b r) : a.grownBy b.drew r := ⟨h.os, h.tape, h.output, h.size, h.block⟩
def Grw (w wr : World) (v0 v : Value) : Prop := w.grownBy wr v0.ownBlock ∧ (v.ownBlock = v0.ownBlock ∨ ∃ g, v.ownBlock = some g ∧ w.heap.size ≤ g)
theorem Grw.refl (w : World) (v : Value) : Grw w w v v := ⟨⟨rfl, rfl, rfl, Nat.le_refl _, fun _ _ _ => rfl⟩, Or.inl rfl⟩
theorem Grw.step {w wr wB w' : World} {v0 v : Value} {g n c : Nat} (h : Grw w wr v0 v) (hb : ∀ r, wr.grownBy wB r) (hg : wB.grownBy w' v.ownBlock) (hw : v.ownBlock = some g ∨ g = wB.heap.size) :
 Grw w w' v0 (.slice (some ⟨g, 0, none⟩) n c) := by
 have h1 : wr.grownBy w' v.ownBlock := grown_trans (hb _) hg
 refine ⟨⟨h1.os.trans h.1.os, h1.tape.trans h.1.tape, h1.output.trans h.1.output, Nat.le_trans h.1.size h1.size, fun j hj hne => ?_⟩, ?_⟩
 · refine (h1.block j (Nat.lt_of_lt_of_le hj h.1.size) ?_).trans (h.1.block j hj hne)
   rcases h.2 with e | ⟨g2, e, hg2⟩
   · rw [e]; exact hne
   · rw [e]; intro q; have := Option.some.inj q; omega
 · show some g = v0.ownBlock ∨ ∃ g', some g = some g' ∧ w.heap.size ≤ g'
   rcases hw with e | e
   · rcases h.2 with e2 | ⟨g2, e2, hg2⟩
     · left; rw [← e2, e]
     · right; exact ⟨g, rfl, by rw [e] at e2; have := Option.some.inj e2; omega⟩
   · right; exact ⟨g, rfl, by rw [e]; exact Nat.le_trans h.1.size (hb none).size⟩
set_option maxRecDepth 20000 in
set_option maxHeartbeats 2000000 in
theorem iEscB (t : ByteArray) (ht : t.size ≤ 1048576) (base : Nat) (v0 : Value) (xs : List Int) (hx : xs.length ≤ 10000000) (w : World) (ho : OwnNums w base 5 .u8 v0 xs) (hbs : base ≤ w.heap.size) :
 Calls Tryz.prog 133 #[v0, .string t] w fun e w' => ∃ v, e = .returned v ∧ OwnNums w' base 5 .u8 v (xs ++ ni (escA t.data.toList)) ∧ Grw w w' v0 v := by
 have HO := hid ho
 clear ho
 go_enter Tryz.func133, Tryz.ntmps133
 go_wp2_with fail
 go_loopw [0, 8] (fun v i wr => ∃ k : Nat, k ≤ t.size ∧ i = .int .i64 k ∧ OwnNums wr base 5 .u8 v (xs ++ ni (escA (t.data.toList.take k))) ∧ Grw w wr v0 v) (fun _ i _ => t.size - (intOf i).toNat)
 case atStart => exact ⟨0, Nat.zero_le _, rfl, by simpa [escA, ni] using HO.out, Grw.refl _ _⟩
 case round =>
  obtain ⟨k, hk, rfl, hown, hgr⟩ := hrel
  have HN := hid hown
  have HG := hid hgr
  clear hown hgr
  by_cases hlt : k < t.size
  · have i0 : (0 : Int) ≤ (k : Int) := by omega
    have i1 : (k : Int) < (t.size : Int) := by omega
    have c1 : (t[k]'hlt).toNat < 256 := (t[k]'hlt).toNat_lt
    have HS : Hid (xs ++ ni (escA (t.data.toList.take (k + 1))) = xs ++ ni (escA (t.data.toList.take k)) ++ [37, ((eHx ((t[k]'hlt).toNat / 16)).toNat : Int), ((eHx ((t[k]'hlt).toNat % 16)).toNat : Int)]) := by
     show _ = _
     rw [take_one t k hlt, escA_app, ni_app, List.append_assoc]
     rfl
    have hl : (xs ++ ni (escA (t.data.toList.take k))).length ≤ 20000000 := by
     have h2 : (t.data.toList.take k).length ≤ k := List.length_take_le _ _
     rw [List.length_append, ni_len, escA_len]
     omega
    have e1 := fun wx => ix_upp ((t[k]'hlt).toNat / 16) (by omega) (((t[k]'hlt).toNat : Int) / 16) (by omega) wx
    have e2 := fun wx => ix_upp ((t[k]'hlt).toNat % 16) (by omega) (bits .and .u8 ((t[k]'hlt).toNat : Int) 15) (by rw [show (15 : Int) = ((15 : Nat) : Int) from rfl, u8_and_nat _ _ (by omega) (by omega), nat_mask4]) wx
    generalize eHx ((t[k]'hlt).toNat / 16) = X at e1 HS
    generalize eHx ((t[k]'hlt).toNat % 16) = Y at e2 HS
    generalize hZ : xs ++ ni (escA (t.data.toList.take k)) = Z at HN HS hl
    clear hZ
    have hsz : base ≤ wr.heap.size := Nat.le_trans hbs HG.out.1.size
    go_wp2_with fail
    go_region_held3 (fun _ => True) (trivial) ((refine step_append_nums2 base _ (by rfl) _ _ 22 (by rfl) 5 .u8 1 Tryz.underlying22 Tryz.infoB (by decide) _ Z [37, (X.toNat : Int), (Y.toNat : Int)] (by rfl) ((HN.out.alloc _).drew) (Nat.le_trans hsz (by simp)) wr.heap.size 3 (by exact heap_alloc_new wr _) (by rfl) rfl (by decide) (by omega) ?_; intro g cap w1 hown1 hg1 hw1))
    all_goals go_wp2
    all_goals
     go_roundw
     case rel => exact ⟨k + 1, by omega, by go_num, by rw [HS.out]; exact hown1, HG.out.step (fun r => gdrew (World.grownBy_alloc wr _ r)) hg1 hw1⟩
     case measure => simp [intOf]; omega
  · have HE : Hid (t.data.toList.take k = t.data.toList) := List.take_of_length_le (by simp; omega)
    go_wp2
    go_ret
    exact ⟨_, rfl, by rw [← HE.out]; exact HN.out, HG.out⟩
theorem Grw.below {W w w' : World} {v0 v : Value} {xs : List Int} {e : TypeId} {k : IntKind} (h : Grw w w' v0 v) (hb : Below W.heap.size W w) (ho : OwnNums w W.heap.size e k v0 xs) : Below W.heap.size W w' :=
 hb.grown h.1 hb.size fun j hj => (World.ownsRow.lt ho j hj).1
theorem own_iter {w : World} {base : Nat} {e : TypeId} {k : IntKind} {v : Value} {xs : List Int} {KI : Nat} {s : ByteArray} {pos : Nat} (ho : OwnNums w base e k v xs) (hi : w.heap[KI]? = some (.stringIter s pos)) : some KI ≠ v.ownBlock := by
 intro q
 rcases ho.2 with ⟨rfl, _⟩ | ⟨g, cap, cur, rfl, _, hg, _⟩
 · simp [Value.ownBlock] at q
 · simp [Value.ownBlock] at q
   subst q
   rw [hi] at hg
   cases hg
theorem OwnNums.iterAt {w : World} {base : Nat} {e : TypeId} {k : IntKind} {v : Value} {xs : List Int} {KI : Nat} {s : ByteArray} {pos : Nat} (ho : OwnNums w base e k v xs) (hi : w.heap[KI]? = some (.stringIter s pos)) (p : Nat) : OwnNums (w.iterAt KI s p) base e k v xs :=
 World.ownsRow.kept (row := some KI) ho ⟨rfl, rfl, rfl, by rw [Go.Lib.iterAt_size]; exact Nat.le_refl _, fun i _ hne => Go.Lib.iterAt_other w KI i s p (fun q => hne (by rw [q]))⟩ (Or.inr (own_iter ho hi).symm)
theorem piece_l (s : ByteArray) (a b : Nat) (hb : b ≤ s.size) : (s.extract a b).data.toList = (s.data.toList.take b).drop a := by
 simp only [ByteArray.data_extract, Array.toList_extract, List.take_drop]
 rcases Nat.le_total a b with h | h
 · rw [show a + (b - a) = b by omega]
 · rw [show a + (b - a) = a by omega, List.drop_eq_nil_of_le (by simp; omega), List.drop_eq_nil_of_le (by simp; omega)]
theorem take_piece (s : ByteArray) (a b : Nat) (h : a ≤ b) (hb : b ≤ s.size) : s.data.toList.take b = s.data.toList.take a ++ (s.extract a b).data.toList := by
 rw [piece_l s a b hb]
 conv => lhs; rw [← List.take_append_drop a (s.data.toList.take b), List.take_take, Nat.min_eq_left h]
theorem piece_no (s : ByteArray) (a b : Nat) (hb : b ≤ s.size) (h : ∀ i (hi : i < s.size), a ≤ i → i < b → ¬ ePl (s[i]'hi).toNat) : ∀ c ∈ (s.extract a b).data.toList, ¬ ePl c.toNat := by
 intro c hc
 rw [piece_l s a b hb] at hc
 obtain ⟨i, hi, rfl⟩ := List.getElem_of_mem hc
 rw [List.length_drop, List.length_take] at hi
 have hs : s.data.toList.length = s.size := by simp
 have := h (a + i) (by omega) (by omega) (by omega)
 rw [List.getElem_drop, List.getElem_take]
 exact this
theorem it_alloc {w : World} {K : Nat} {o : Obj} (h : w.heap[K]? = some o) (x : Obj) : (w.alloc x).heap[K]? = some o := (Go.Lib.alloc_old w x K (Array.getElem?_eq_some_iff.1 h).1).trans h
theorem itP {w : World} {K : Nat} {s : ByteArray} {p : Nat} (h : w.heap[K]? = some (.stringIter s p)) : w.iterPos K = p := by simp [World.iterPos, h]
theorem own_ne {w : World} {base : Nat} {e : TypeId} {k : IntKind} {v : Value} {xs : List Int} (ho : OwnNums w base e k v xs) : some w.heap.size ≠ v.ownBlock := fun q => by
 have := (World.ownsRow.lt ho _ q.symm).2
 omega
set_option maxRecDepth 20000 in
set_option maxHeartbeats 4000000 in
theorem iEsc (s : ByteArray) (hs1 : s.size ≤ 1048576) (w : World) :
 Calls Tryz.prog 113 #[.string s] w fun e w' => e = .returned (.string (ofL (escV s))) ∧ Below w.heap.size w w' := by
 by_cases hs : s.size ≤ 100000
 case neg =>
  have EV : Hid (escV s = []) := by show _ = _; unfold escV; rw [if_neg hs]
  have d1 : decide (100000 < (s.size : Int)) = true := by simp; omega
  go_enter Tryz.func113, Tryz.ntmps113
  go_wp2_with fail
  refine (iTooLong s _).mono ?_
  rintro e w1 ⟨rfl, hw⟩
  obtain rfl := hw.symm
  go_wp2
  go_ret
  exact ⟨by rw [EV.out]; rfl, Below.refl _ _⟩
 have EV : Hid (escV s = esc s.data.toList) := by show _ = _; unfold escV; rw [if_pos hs]
 have d1 : decide (100000 < (s.size : Int)) = false := by simp; omega
 go_enter Tryz.func113, Tryz.ntmps113
 go_wp2_with fail
 refine (iTooLong s _).mono ?_
 rintro e w1 ⟨rfl, hw⟩
 obtain rfl := hw.symm
 go_wp2_with (first | (at_make; refine make_nums w w rfl (.const (.int .i64 0)) (.tmp 10) 22 rfl 5 .u8 1 Tryz.underlying22 Tryz.infoB (by decide) .i64 .i64 (s.size : Int) s.size rfl rfl rfl (by omega) (Below.refl _ _) ?_) | go_in)
 intro w0 hown0 hbel0
 obtain ⟨V0, hV0⟩ : ∃ V, V = Value.slice (some ⟨w.heap.size, 0, none⟩) 0 s.size := ⟨_, rfl⟩
 rw [← hV0] at hown0 ⊢
 have HO := hid hown0
 have HB := hid hbel0
 clear hV0 hown0 hbel0 d1
 obtain ⟨KI, hKI⟩ : ∃ k, k = w0.heap.size := ⟨_, rfl⟩
 have hKl : w.heap.size ≤ KI := by rw [hKI]; exact HB.out.size
 have HKI := hid hKI
 go_wp2_with fail
 rw [← hKI]
 clear hKI
 go_loopw [3, 4] (fun v f wr => ∃ (V : Value) (pos fr : Nat), V = v ∧ fr ≤ pos ∧ pos ≤ s.size ∧ f = .int .i64 fr ∧ OwnNums wr w.heap.size 5 .u8 V (ni (esc (s.data.toList.take fr))) ∧ (∀ i (hi : i < s.size), fr ≤ i → i < pos → ¬ ePl (s[i]'hi).toNat) ∧ wr.heap[KI]? = some (.stringIter s pos) ∧ Below w.heap.size w wr) (fun _ _ wr => s.size - wr.iterPos KI)
 case atStart => exact ⟨V0, 0, 0, rfl, Nat.le_refl _, Nat.zero_le _, rfl, (by show OwnNums (w0.alloc (.stringIter s 0)) _ _ _ _ (ni (esc (List.take 0 s.data.toList))); exact OwnNums.alloc HO.out _), fun i _ _ h => absurd h (Nat.not_lt_zero _), by rw [HKI.out]; exact World.iter_heap w0 s 0, HB.out.alloc HB.out.size _⟩
 case round =>
  obtain ⟨V, pos, fr, rfl, hfp, hps, rfl, hown, hno, hit, hbel⟩ := hrel
  have HN := hid hown
  have HF := hid hno
  have HI := hid hit
  have HB1 := hid hbel
  have HP := hid (itP hit)
  have hl : (ni (esc (s.data.toList.take fr))).length ≤ 300000 := by
   have h1 := (esc_len (s.data.toList.take fr)).2
   have h2 : (s.data.toList.take fr).length ≤ fr := List.length_take_le _ _
   rw [ni_len]
   omega
  clear hown hno hit hbel HO HB
  by_cases hlt : pos < s.size
  · by_cases ha : (s[pos]'hlt).toNat < 128
    · have hnx : ∀ ty, (Instr.next (.pointer (some ⟨KI, 0, none⟩)) true ty).run Tryz.prog wr = _ := fun ty => Go.Lib.run_next_ascii_at wr KI s pos ty HI.out hlt ha
      obtain ⟨W, hW⟩ : ∃ W, W = wr.iterAt KI s (pos + 1) := ⟨_, rfl⟩
      have WN : Hid (OwnNums W w.heap.size 5 .u8 V (ni (esc (s.data.toList.take fr)))) := by rw [hW]; exact OwnNums.iterAt HN.out HI.out _
      have WI : Hid (W.heap[KI]? = some (.stringIter s (pos + 1))) := by rw [hW]; exact Go.Lib.iterAt_heap _ _ _ _ _ HI.out
      have WB : Hid (Below w.heap.size w W) := by rw [hW]; exact Go.Lib.below_iterAt HB1.out hKl _ _
      rw [← hW] at hnx
      clear hW HN HI HB1
      go_wp2_with fail
      refine (isPlain_ok _ _).mono ?_
      rintro e w1 ⟨rfl, hw⟩
      obtain rfl := hw.symm
      by_cases hp : ePl (s[pos]'hlt).toNat
      · have b0 : pb (iPl ((s[pos]'hlt).toNat : Int)) = true := pb_t ((iPl_nat _).2 hp)
        have HS : Hid (ni (esc (s.data.toList.take (pos + 1))) = ni (esc (s.data.toList.take fr)) ++ ni (escA (s.extract fr pos).data.toList) ++ [((s[pos]'hlt).toNat : Int)]) := by
         show _ = _
         rw [take_one s pos hlt, take_piece s fr pos hfp hps, esc_app, esc_app, ni_app, ni_app, escA_esc _ (piece_no s fr pos hps HF.out)]
         congr 1
         unfold esc e1 ni
         simp [hp]
        have hT : (s.extract fr pos).size ≤ 1048576 := by simp; omega
        have hl2 : (ni (esc (s.data.toList.take fr)) ++ ni (escA (s.extract fr pos).data.toList)).length ≤ 1000000 := by
         rw [List.length_append, ni_len (escA _), escA_len]
         simp
         omega
        have i0 : (0 : Int) ≤ (fr : Int) := by omega
        have i1 : (fr : Int) ≤ (pos : Int) := by omega
        have i2 : (pos : Int) ≤ (s.size : Int) := by omega
        have i3 : (0 : Int) ≤ (pos : Int) := by omega
        have i4 : (pos : Int) < (s.size : Int) := by omega
        generalize ni (esc (s.data.toList.take fr)) = Z at WN HS hl hl2
        obtain ⟨Z2, hZ2⟩ : ∃ Z2, Z2 = Z ++ ni (escA (s.extract fr pos).data.toList) := ⟨_, rfl⟩
        rw [← hZ2] at HS hl2
        have HZ2 := hid hZ2
        clear hZ2
        go_wp2_with fail
        go_region_law (first
         | (go_simp; go_at_call 133
            refine (iEscB _ hT w.heap.size V Z (by omega) _ (by repeat first | exact WN.out | apply OwnNums.drew | apply OwnNums.alloc) (by first | exact WB.out.size | exact Nat.le_trans WB.out.size (by simp))).mono ?_
            rintro e w2 ⟨v2, rfl, ho2, hg2⟩
            rw [← HZ2.out] at ho2
            have hi2 : w2.heap[KI]? = some (.stringIter s (pos + 1)) := by
             first
              | exact (hg2.1.block KI (Array.getElem?_eq_some_iff.1 WI.out).1 (own_iter WN.out WI.out)).trans WI.out
              | exact (hg2.1.block KI (Array.getElem?_eq_some_iff.1 (it_alloc WI.out _)).1 (own_iter WN.out WI.out)).trans (it_alloc WI.out _)
            have hb2 : Below w.heap.size w w2 := by
             first
              | exact hg2.below WB.out WN.out
              | exact hg2.below WB.out.drew WN.out.drew
              | exact hg2.below (WB.out.alloc WB.out.size _) (WN.out.alloc _)
              | exact hg2.below (WB.out.alloc WB.out.size _).drew (WN.out.alloc _).drew
              | exact hg2.below (WB.out.drew.alloc WB.out.size _) (WN.out.drew.alloc _)
            dsimp only)
         | (refine step_append_nums3 w.heap.size _ (by rfl) _ _ 22 (by rfl) 5 .u8 1 Tryz.underlying22 Tryz.infoB (by decide) _ Z2 [((s[pos]'hlt).toNat : Int)] (by rfl) (by repeat first | exact ho2 | apply OwnNums.drew | apply OwnNums.alloc) (by first | exact hb2.size | exact Nat.le_trans hb2.size (by simp)) _ 1 (by rfl) (by first | exact heap_alloc_new _ _ | exact (hg2.1.block _ (by simp) (own_ne WN.out)).trans (heap_alloc_new _ _)) rfl (by decide) (by omega) ?_
            intro g cap w3 ho3 hg3 hw3
            have hi3 : w3.heap[KI]? = some (.stringIter s (pos + 1)) := by
             first
              | exact (hg3.block KI (Array.getElem?_eq_some_iff.1 hi2).1 (own_iter ho2 hi2)).trans hi2
              | exact (hg3.block KI (Array.getElem?_eq_some_iff.1 (it_alloc hi2 _)).1 (own_iter ho2 hi2)).trans (it_alloc hi2 _)
            have hb3 : Below w.heap.size w w3 := by
             first
              | exact hb2.grown hg3 hb2.size fun j hj => (World.ownsRow.lt ho2 j hj).1
              | exact hb2.drew.grown hg3 hb2.size fun j hj => (World.ownsRow.lt ho2 j hj).1
              | exact (hb2.alloc hb2.size _).grown hg3 (Nat.le_trans hb2.size (by simp)) fun j hj => (World.ownsRow.lt ho2 j hj).1
              | exact (hb2.alloc hb2.size _).drew.grown hg3 (Nat.le_trans hb2.size (by simp)) fun j hj => (World.ownsRow.lt ho2 j hj).1))
        all_goals go_wp2
        all_goals
         go_roundw
         case rel => exact ⟨_, pos + 1, pos + 1, rfl, Nat.le_refl _, by omega, by go_num, by rw [HS.out]; exact ho3, fun i _ h1 h2 => absurd h2 (by omega), hi3, hb3⟩
         case measure => rw [itP hi3, HP.out]; omega
      · have b0 : pb (iPl ((s[pos]'hlt).toNat : Int)) = false := pb_f fun h => hp ((iPl_nat _).1 h)
        have HF2 : Hid (∀ i (hi : i < s.size), fr ≤ i → i < pos + 1 → ¬ ePl (s[i]'hi).toNat) := fun i hi h1 h2 => by
         by_cases q : i = pos
         · subst q; exact hp
         · exact HF.out i hi h1 (by omega)
        go_wp2
        go_roundw
        case rel => exact ⟨V, pos + 1, fr, rfl, by omega, by omega, rfl, WN.out, HF2.out, WI.out, WB.out⟩
        case measure => rw [itP WI.out, HP.out]; omega
    · have hd := dec_wide s pos hlt (by omega)
      have hr := (decode_high s pos hlt (by omega)).1
      have hnx : ∀ ty, (Instr.next (.pointer (some ⟨KI, 0, none⟩)) true ty).run Tryz.prog wr = _ := fun ty => Go.Lib.run_next_any_at wr KI s pos ty HI.out hlt
      obtain ⟨R, hR⟩ : ∃ R, R = (Utf8.decode s pos).1 := ⟨_, rfl⟩
      obtain ⟨D, hD⟩ : ∃ D, D = (Utf8.decode s pos).2 := ⟨_, rfl⟩
      rw [← hR] at hr hnx
      rw [← hD] at hd hnx
      obtain ⟨W, hW⟩ : ∃ W, W = wr.iterAt KI s (pos + D) := ⟨_, rfl⟩
      have WN : Hid (OwnNums W w.heap.size 5 .u8 V (ni (esc (s.data.toList.take fr)))) := by rw [hW]; exact OwnNums.iterAt HN.out HI.out _
      have WI : Hid (W.heap[KI]? = some (.stringIter s (pos + D))) := by rw [hW]; exact Go.Lib.iterAt_heap _ _ _ _ _ HI.out
      have WB : Hid (Below w.heap.size w W) := by rw [hW]; exact Go.Lib.below_iterAt HB1.out hKl _ _
      have b0 : pb (iPl (R : Int)) = false := pb_f fun h => by
       have := (iPl_nat R).1 h
       unfold ePl at this
       omega
      have HF2 : Hid (∀ i (hi : i < s.size), fr ≤ i → i < pos + D → ¬ ePl (s[i]'hi).toNat) := fun i hi h1 h2 => by
       by_cases q : i < pos
       · exact HF.out i hi h1 q
       · have := hd.2.2 i hi (by omega) h2
         unfold ePl
         omega
      have hd1 := hd.1
      have hd2 := hd.2.1
      rw [← hW] at hnx
      clear hW HN HI HB1 hR hD hd hr
      go_wp2_with fail
      refine (isPlain_ok _ _).mono ?_
      rintro e w1 ⟨rfl, hw⟩
      obtain rfl := hw.symm
      go_wp2
      go_roundw
      case rel => exact ⟨V, pos + D, fr, rfl, by omega, by omega, rfl, WN.out, HF2.out, WI.out, WB.out⟩
      case measure => rw [itP WI.out, HP.out]; omega
  · have hnx : ∀ ty, (Instr.next (.pointer (some ⟨KI, 0, none⟩)) true ty).run Tryz.prog wr = _ := fun ty => Go.Lib.run_next_end_at wr KI s pos ty HI.out hlt
    have HS : Hid (ni (esc s.data.toList) = ni (esc (s.data.toList.take fr)) ++ ni (escA (s.extract fr s.size).data.toList)) := by
     show _ = _
     rw [escA_esc _ (piece_no s fr s.size (Nat.le_refl _) fun i hi h1 h2 => HF.out i hi h1 (by omega)), ← ni_app, ← esc_app, ← take_piece s fr s.size (by omega) (Nat.le_refl _), List.take_of_length_le (by simp)]
    have hT : (s.extract fr s.size).size ≤ 1048576 := by simp; omega
    have i0 : (0 : Int) ≤ (fr : Int) := by omega
    have i1 : (fr : Int) ≤ (s.size : Int) := by omega
    clear HF HI
    go_wp2_with fail
    refine (iEscB _ hT w.heap.size V _ (by omega) _ HN.out HB1.out.size).mono ?_
    rintro e w2 ⟨v2, rfl, ho2, hg2⟩
    have hb2 := hid (hg2.below HB1.out HN.out)
    rw [← HS.out] at ho2
    have hcv := conv_owned w2 22 5 9 Tryz.underlying22 Tryz.underlying5 Tryz.underlying9 ho2
    clear ho2 hg2
    go_wp2
    go_ret
    exact ⟨by rw [ni_str, EV.out]; rfl, hb2.out⟩
end Go.Proofs.YtkcjigelenofhaaGreatDoor
