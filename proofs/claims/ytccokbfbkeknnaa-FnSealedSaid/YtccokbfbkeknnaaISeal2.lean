import Derived.Test.YtccokbfbkeknnaaISeal
namespace Go.Proofs.Ytccokbfbkeknnaa
open Go.RowKit
/-! The program's StreamOf and veil: a stream laid upon a text. -/
/-- Some numbers are appended to a row that the call owns, as a step of a region that draws its order: what became of the world is told as it stands. -/
theorem step_append_numsG {P : Program} (base : Nat) (w : World) {ops : Array Oper} {o : Oper} {a : Act} {K : Act → World → Prop} {Q : Exit → Act → World → Prop} {E : Prop} (hgd : o.guard = none) (s x : Operand) (t : TypeId)
    (ho : o.op = .call { callee := .builtin .append, args := #[s, x], argTypes := #[t, t] })
    (e : TypeId) (k : IntKind) (bt : Nat) (ht : P.underlying t = some (.slice e)) (hinfo : (P.info? e).map (fun i => (i.zero, i.size, i.bytes)) = some (some (.int k 0), 1, bt)) (hbt : bt ≤ 8)
    (v : Value) (xs bs : List Int) (hs : a.eval s = v) (hown : OwnNums w base e k v xs) (hsz : base ≤ w.heap.size)
    (b m : Nat) (hbox : w.heap[b]? = some (.cells (bs.map (Value.int k)).toArray e (0, 0))) (hx : a.eval x = .slice (some ⟨b, 0, none⟩) m m) (hm : bs.length = m) (hm0 : 0 < m) (hlen : xs.length + m ≤ 17592186044414)
    (h : ∀ g cap w', OwnNums w' base e k (.slice (some ⟨g, 0, none⟩) (xs.length + m) cap) (xs ++ bs) → w.grownBy w' v.ownBlock → K (a.put o.dst (.slice (some ⟨g, 0, none⟩) (xs.length + m) cap)) w') :
    if Region.wanted o (yielded ops a.tmps) = true then Oper.wp P o a w K Q else E := by
  obtain ⟨i0, hi, hz0, hz1, hz2⟩ := info_parts hinfo
  refine step_append_lies _ hgd s x t ho base e i0 (.int k 0) 1 bt ht hi hz0 hz1 hz2 rfl (by decide) v xs.length _ hs hown ⟨b, 0, none⟩ m m (bs.map (Value.int k)) hx (by simp; omega) ?_ ?_ hm0 ?_ ?_ hsz w.heap.size rfl ?_
  · have := World.news_of_block hbox; simpa using this
  · intro u hu; obtain ⟨y, _, rfl⟩ := List.mem_map.1 hu; rfl
  · unfold maxLen; omega
  · exact Nat.le_trans (Nat.mul_le_mul_left _ hbt) (by omega)
  · intro g cap w' h1 h2 h3 h4
    exact h g cap w' (by subst hm; simpa [OwnNums] using h1) h2
theorem ni_xs (X : Int) (t : ByteArray) (k : Nat) (ha : k < t.size) :
    ni (xl (t.data.toList.take (k + 1)) (stB X (k + 1))) = ni (xl (t.data.toList.take k) (stB X k)) ++ [bits .xor .u8 (t[k].toNat : Int) (sX X (k + 1) / 256 % 256)] := by
  have e1 : t.data.toList.take (k + 1) = t.data.toList.take k ++ [t[k]] := take_snoc t k ha
  obtain ⟨q, hq⟩ : ∃ q, q = UInt8.ofNat (sX X (k + 1) / 256 % 256).toNat := ⟨_, rfl⟩
  have e2 : stB X (k + 1) = stB X k ++ [q] := by rw [hq]; rfl
  have e3 : sX X (k + 1) / 256 % 256 = (q.toNat : Int) := by
    rw [hq, UInt8.toNat_ofNat']
    omega
  have e4 : xl (t.data.toList.take k ++ [t[k]]) (stB X k ++ [q]) = xl (t.data.toList.take k) (stB X k) ++ [t[k] ^^^ q] := by
    unfold xl
    rw [List.zipWith_append (by rw [stB_len]; simp; omega)]
    rfl
  rw [e1, e2, e4, ni_app, e3, u8_xor_nat _ _ t[k].toNat_lt q.toNat_lt]
  rfl
/-- a world in which the stream's place alone, and blocks of the call's own, have turned -/
theorem strm_set {w wr : World} {b : Nat} {c : Array Value} {ty : TypeId} {v : Value} (R : RowAt wr b ty c) (B : Below b w wr) (i : Nat) : RowAt (wr.setCell ⟨b, i, none⟩ v) b ty (c.setIfInBounds i v) ∧ Below b w (wr.setCell ⟨b, i, none⟩ v) :=
  ⟨R.set i v, B.setCell (Nat.le_refl _) v⟩
theorem OwnNums.setCell {w : World} {base : Nat} {e : TypeId} {k : IntKind} {v : Value} {xs : List Int} (h : OwnNums w base e k v xs) (b i : Nat) (hb : b < base) (u : Value) : OwnNums (w.setCell ⟨b, i, none⟩ u) base e k v xs :=
  h.kept grown_set hb
set_option maxRecDepth 20000 in
set_option maxHeartbeats 2000000 in
theorem iVeil (t : ByteArray) (b : Nat) (X : Int) (h0 : 0 ≤ X) (h1 : X ≤ 2147483647) (ht : t.size ≤ 200000) (w : World) (R : RowAt w b 2 #[.int .i64 (sX X 0)]) :
    Calls Try.prog 45 #[.string t, .func (.func 53) #[] #[.pointer (some ⟨b, 0, none⟩)]] w fun e w' => e = .returned (.string (ofL (xl t.data.toList (stB X t.size)))) ∧ Below b w w' := by
  have hbw := R.lt
  have HR := hid R
  have HX0 := hid h0
  have HX1 := hid h1
  clear R h0 h1
  go_enter Try.func45, Try.ntmps45
  go_wp2_with (first | (at_make; refine make_nums w w rfl (.const (.int .i64 0)) (.tmp 8) 22 rfl 5 .u8 1 Try.underlying22 Try.info5 (by decide) .i64 .i64 (t.size : Int) t.size rfl rfl rfl (by omega) (Below.refl _ _) ?_) | go_in)
  intro w1 O1 B1
  have R1 := hid (HR.out.below B1 hbw)
  have HO1 := hid O1
  have HB1 := hid (B1.mono (Nat.le_of_lt hbw))
  have HBW := hid hbw
  clear HR O1 B1 hbw
  go_wp2_with fail
  go_loopw [5, 12] (fun v i wr => ∃ k : Nat, k ≤ t.size ∧ i = .int .i64 (k : Int) ∧ OwnNums wr w.heap.size 5 .u8 v (ni (xl (t.data.toList.take k) (stB X k))) ∧ RowAt wr b 2 #[.int .i64 (sX X k)] ∧ Below b w wr ∧ w.heap.size ≤ wr.heap.size) (fun _ i _ => t.size - (intOf i).toNat)
  case atStart => exact ⟨0, Nat.zero_le _, rfl, HO1.out, R1.out, HB1.out, HB1.out.size⟩
  case round =>
    obtain ⟨k, hk, rfl, hown, hR, hbel, hsz⟩ := hrel
    by_cases hlt : k < t.size
    · have i0 : (0 : Int) ≤ (k : Int) := by omega
      have i1 : (k : Int) < (t.size : Int) := by omega
      have NX := hid (ni_xs X t k hlt)
      have hl : (ni (xl (t.data.toList.take k) (stB X k))).length ≤ 200000 := by rw [ni_len, xl_len, stB_len]; simp; omega
      generalize ni (xl (t.data.toList.take k) (stB X k)) = Z at hown NX hl
      have KN := fun wx (r : RowAt wx b 2 #[.int .i64 (sX X k)]) => hid (iNext b X k HX0.out HX1.out wx r)
      obtain ⟨y, hy⟩ : ∃ y, y = sX X (k + 1) / 256 % 256 := ⟨_, rfl⟩
      obtain ⟨x1, hx1⟩ : ∃ x, x = sX X (k + 1) := ⟨_, rfl⟩
      have yb : 0 ≤ y ∧ y < 256 := by omega
      rw [← hy] at NX KN
      rw [← hx1] at KN
      have HX2 := hid hx1
      clear hy hx1
      have y0 := yb.1
      have y1 := yb.2
      clear yb
      have HO := hid hown
      have HR := hid hR
      have HB := hid hbel
      have HS := hid hsz
      clear hown hR hbel hsz
      go_wp2_with fail
      go_region_law (first
        | (go_simp; go_at_call 53; refine (KN _ (by first | exact HR.out | exact HR.out.drew)).out.mono ?_; rintro e w2 ⟨rfl, hw2⟩; have R2 : Hid (RowAt w2 b 2 #[.int .i64 x1]) := (by rw [hw2]; first | exact HR.out.set 0 _ | exact HR.out.drew.set 0 _); have B2 : Hid (Below b w w2) := (by rw [hw2]; first | exact HB.out.setCell (Nat.le_refl _) _ | exact HB.out.drew.setCell (Nat.le_refl _) _); have O2 : Hid (OwnNums w2 w.heap.size 5 .u8 u5 Z) := (by rw [hw2]; first | exact HO.out.setCell b 0 HBW.out _ | exact HO.out.drew.setCell b 0 HBW.out _); clear hw2; dsimp only)
        | (refine step_append_numsG w.heap.size _ (by rfl) _ _ 22 (by rfl) 5 .u8 1 Try.underlying22 Try.info5 (by decide) _ Z [bits .xor .u8 ((t[k]'hlt).toNat : Int) y] (by rfl) (by repeat first | exact O2.out | apply OwnNums.drew | apply OwnNums.alloc) (by first | exact B2.out.size | exact Nat.le_trans B2.out.size (by simp)) _ 1 (by exact heap_alloc_new _ _) (by rfl) rfl (by decide) (by omega) ?_; intro g cap w3 hown3 hg3; have R3 : Hid (RowAt w3 b 2 #[.int .i64 x1]) := (hg3.block b (Nat.lt_of_lt_of_le HBW.out (Nat.le_trans B2.out.size (by simp))) (HO.out.ne HBW.out)).trans (R2.out.alloc _); have B3 : Hid (Below b w w3) := (by first | exact (B2.out.alloc (Nat.le_trans (Nat.le_of_lt HBW.out) B2.out.size) _).grown hg3 (Nat.le_trans (Nat.le_trans (Nat.le_of_lt HBW.out) B2.out.size) (by simp)) (fun j hj => Nat.le_trans (Nat.le_of_lt HBW.out) (World.ownsRow.lt O2.out j hj).1) | exact (B2.out.alloc (Nat.le_trans (Nat.le_of_lt HBW.out) B2.out.size) _).drew.grown hg3 (Nat.le_trans (Nat.le_trans (Nat.le_of_lt HBW.out) B2.out.size) (by simp)) (fun j hj => Nat.le_trans (Nat.le_of_lt HBW.out) (World.ownsRow.lt O2.out j hj).1)); clear hg3))
      all_goals go_wp2
      all_goals
        go_roundw
        case rel => exact ⟨k + 1, by omega, by go_num, by rw [NX.out]; exact hown3, by rw [← HX2.out]; exact R3.out, B3.out, B3.out.size⟩
        case measure => simp [intOf]; omega
    · have hkn : k = t.size := by omega
      have hcv := conv_owned wr 22 5 9 Try.underlying22 Try.underlying5 Try.underlying9 hown
      rw [ni_str] at hcv
      have RR : Hid (xl (t.data.toList.take k) (stB X k) = xl t.data.toList (stB X t.size)) := by
        show _ = _
        rw [hkn, List.take_of_length_le (by simp)]
      have B2 := hid hbel
      clear hkn hbel
      have hlt' : ¬ (k : Int) < (t.size : Int) := by omega
      go_wp2
      go_ret
      exact ⟨by rw [← RR.out]; rfl, B2.out⟩
end Go.Proofs.Ytccokbfbkeknnaa
