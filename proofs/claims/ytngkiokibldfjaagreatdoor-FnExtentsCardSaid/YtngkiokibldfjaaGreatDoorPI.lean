import Derived.Test.YtngkiokibldfjaaGreatDoorPB
import Derived.Test.YtngkiokibldfjaaGreatDoorPH
import Derived.Deep.CutRange
import Derived.Test.YtngkiokibldfjaaGreatDoorPF
namespace Go.Proofs.YtngkiokibldfjaaGreatDoor
open Go.RowKit
/-! Slices of records: what the laws do with them. -/
def Rcs (w : World) (a : Option Addr) (n cap : Nat) (f : Nat → Value) : Prop :=
  n ≤ cap ∧ (n = 0 ∨ ∃ b, a = some ⟨b, 0, none⟩ ∧ b < w.heap.size ∧ ∀ p, p < 5 * n → w.cell? ⟨b, p, none⟩ = some (f p))
theorem Rcs.below {w w' : World} {a : Option Addr} {n cap : Nat} {f : Nat → Value} (h : Rcs w a n cap f) (hb : Below w.heap.size w w') : Rcs w' a n cap f := by
  refine ⟨h.1, ?_⟩
  rcases h.2 with h0 | ⟨b, rfl, h1, h2⟩
  · exact Or.inl h0
  · exact Or.inr ⟨b, rfl, Nat.lt_of_lt_of_le h1 hb.size, fun p hp => (hb.cell (p := ⟨b, p, none⟩) h1).trans (h2 p hp)⟩
def RcShape (n : Nat) (f : Nat → Value) : Prop := ∀ k, k < n → ∃ (K : ByteArray) (G : Bool) (D : ByteArray) (A N : Int), f (k * 5) = .string K ∧ f (k * 5 + 1) = .bool G ∧ f (k * 5 + 2) = .string D ∧ f (k * 5 + 3) = .int .i64 A ∧ f (k * 5 + 4) = .int .i64 N
/-- the marks of a row of records -/
def mkR (k0 p : Nat) : Value := if p % 5 = 0 ∨ p % 5 = 2 then .string (markB (k0 + p)) else if p % 5 = 1 then .bool ((k0 + p) % 3 == 0) else .int .i64 ((k0 + p : Nat) : Int)
def mkG (k0 k : Nat) (f : Nat → Value) (p : Nat) : Value := if p < k then mkR k0 p else f p
theorem mkG_put (k0 k : Nat) (f : Nat → Value) (v : Value) (hv : v = mkR k0 k) (p : Nat) : putF (mkG k0 k f) k v p = mkG k0 (k + 1) f p := by
  subst hv
  unfold putF mkG
  by_cases e : p = k
  · rw [if_pos e, if_pos (by omega), e]
  · rw [if_neg e]
    by_cases e2 : p < k
    · rw [if_pos e2, if_pos (by omega)]
    · rw [if_neg e2, if_neg (by omega)]
theorem mkR_0 (k0 k q : Nat) (h : q = k0 + k * 5) : Value.string (markB q) = mkR k0 (k * 5) := by unfold mkR; rw [if_pos (by omega), h]
theorem mkR_1 (k0 k q : Nat) (h : q = k0 + k * 5) : Value.bool ((q + 1) % 3 == 0) = mkR k0 (k * 5 + 1) := by unfold mkR; rw [if_neg (by omega), if_pos (by omega), h]; rfl
theorem mkR_2 (k0 k q : Nat) (h : q = k0 + k * 5) : Value.string (markB (q + 2)) = mkR k0 (k * 5 + 2) := by unfold mkR; rw [if_pos (by omega), h]; rfl
theorem mkR_3 (k0 k q : Nat) (h : q = k0 + k * 5) : Value.int .i64 ((q + 3 : Nat) : Int) = mkR k0 (k * 5 + 3) := by unfold mkR; rw [if_neg (by omega), if_neg (by omega), h]; rfl
theorem mkR_4 (k0 k q : Nat) (h : q = k0 + k * 5) : Value.int .i64 ((q + 4 : Nat) : Int) = mkR k0 (k * 5 + 4) := by unfold mkR; rw [if_neg (by omega), if_neg (by omega), h]; rfl
end Go.Proofs.YtngkiokibldfjaaGreatDoor
namespace Go.Proofs.YtngkiokibldfjaaGreatDoor
open Go.RowKit
/-! All records of a text; the specification's l07Scan. -/
def scanN (s : ByteArray) : Nat → Nat → List Fr
  | 0, _ => []
  | f + 1, p => if s.size ≤ p then [] else
    match getRec s (p : Nat) with
    | none => scanN s f (p + 1)
    | some r => r :: scanN s f r.next
theorem getRec_in (s : ByteArray) (p : Nat) (f : Fr) (h : getRec s (p : Nat) = some f) : f.at' = p ∧ p + 4 < f.next ∧ f.next ≤ s.size ∧ f.kat + f.ksz ≤ s.size ∧ f.bat + f.bsz ≤ s.size := by
  unfold getRec at h
  split at h
  · split at h
    · cases h
    · rename_i g hg
      have := frm_in s _ g hg
      rw [Int.toNat_natCast] at this
      split at h
      · have e := Option.some.inj h
        subst e
        omega
      · cases h
  · cases h
theorem scan_fuel (s : ByteArray) : ∀ f g p, s.size ≤ p + f → s.size ≤ p + g → scanN s f p = scanN s g p := by
  intro f
  induction f with
  | zero =>
    intro g p h1 h2
    cases g with
    | zero => rfl
    | succ g => simp only [scanN]; rw [if_pos (by omega)]
  | succ f ih =>
    intro g p h1 h2
    by_cases c : s.size ≤ p
    · cases g with
      | zero => simp only [scanN]; rw [if_pos c]
      | succ g => simp only [scanN]; rw [if_pos c, if_pos c]
    · cases g with
      | zero => omega
      | succ g =>
        simp only [scanN]
        rw [if_neg c, if_neg c]
        cases hr : getRec s (p : Nat) with
        | none => exact ih g (p + 1) (by omega) (by omega)
        | some r =>
          have := getRec_in s p r hr
          simp only
          rw [ih g r.next (by omega) (by omega)]
def sc (s : ByteArray) (p : Nat) : List Fr := scanN s (s.size + 1) p
theorem sc_end (s : ByteArray) (p : Nat) (h : s.size ≤ p) : sc s p = [] := by unfold sc scanN; rw [if_pos h]
theorem sc_none (s : ByteArray) (p : Nat) (h : p < s.size) (hr : getRec s (p : Nat) = none) : sc s p = sc s (p + 1) := by
  have : sc s p = scanN s s.size (p + 1) := by unfold sc; simp only [scanN]; rw [if_neg (by omega), hr]
  rw [this]; exact scan_fuel s _ _ _ (by omega) (by omega)
theorem sc_some (s : ByteArray) (p : Nat) (h : p < s.size) (r : Fr) (hr : getRec s (p : Nat) = some r) : sc s p = r :: sc s r.next := by
  have : sc s p = r :: scanN s s.size r.next := by unfold sc; simp only [scanN]; rw [if_neg (by omega), hr]
  have hn := getRec_in s p r hr
  rw [this]; congr 1; exact scan_fuel s _ _ _ (by omega) (by omega)
theorem sc_len (s : ByteArray) : ∀ f p, (scanN s f p).length ≤ s.size - p := by
  intro f
  induction f with
  | zero => intro p; simp [scanN]
  | succ f ih =>
    intro p
    simp only [scanN]
    by_cases c : s.size ≤ p
    · rw [if_pos c]; simp
    · rw [if_neg c]
      cases hr : getRec s (p : Nat) with
      | none => have := ih (p + 1); simp only; omega
      | some r => have := ih r.next; have := getRec_in s p r hr; simp only [List.length_cons]; omega
def rc5 (s : ByteArray) (f : Fr) : List Value := [.string (rcK s (some f)), .bool f.gone, .string (rcD s (some f)), .int .i64 (f.at' : Nat), .int .i64 (f.next : Nat)]
def rcL (s : ByteArray) (L : List Fr) : List Value := L.flatMap (rc5 s)
theorem rcL_len (s : ByteArray) (L : List Fr) : (rcL s L).length = 5 * L.length := by
  induction L with
  | nil => rfl
  | cons f L ih => simp only [rcL, List.flatMap_cons, List.length_append, List.length_cons] at ih ⊢; rw [ih]; simp [rc5]; omega
theorem rcL_snoc (s : ByteArray) (L : List Fr) (f : Fr) : rcL s (L ++ [f]) = rcL s L ++ rc5 s f := by simp [rcL]
theorem rcL_at (s : ByteArray) : ∀ (L : List Fr) (k j : Nat) (f : Fr), L[k]? = some f → j < 5 → (rcL s L)[k * 5 + j]? = (rc5 s f)[j]?
  | [], k, j, f, h, _ => by simp at h
  | g :: L, 0, j, f, h, hj => by
    simp at h; subst h
    simp only [rcL, List.flatMap_cons, Nat.zero_mul, Nat.zero_add]
    rw [List.getElem?_append_left (by simp [rc5]; omega)]
  | g :: L, k + 1, j, f, h, hj => by
    simp only [rcL, List.flatMap_cons]
    rw [List.getElem?_append_right (by simp [rc5]; omega), show (k + 1) * 5 + j - (rc5 s g).length = k * 5 + j by simp [rc5]; omega]
    exact rcL_at s L k j f (by simpa using h) hj
def rcF (s : ByteArray) (L : List Fr) (p : Nat) : Value := ((rcL s L)[p]?).getD undef
theorem rcF_shape (s : ByteArray) (L : List Fr) : RcShape L.length (rcF s L) := by
  intro k hk
  obtain ⟨f, hf⟩ : ∃ f, L[k]? = some f := ⟨L[k], List.getElem?_eq_getElem hk⟩
  refine ⟨rcK s (some f), f.gone, rcD s (some f), (f.at' : Nat), (f.next : Nat), ?_, ?_, ?_, ?_, ?_⟩
  · unfold rcF; have := rcL_at s L k 0 f hf (by decide); rw [Nat.add_zero] at this; rw [this]; rfl
  · unfold rcF; rw [rcL_at s L k 1 f hf (by decide)]; rfl
  · unfold rcF; rw [rcL_at s L k 2 f hf (by decide)]; rfl
  · unfold rcF; rw [rcL_at s L k 3 f hf (by decide)]; rfl
  · unfold rcF; rw [rcL_at s L k 4 f hf (by decide)]; rfl
abbrev rz5 : Value := .agg #[.string ⟨#[]⟩, .bool false, .string ⟨#[]⟩, .int .i64 0, .int .i64 0]
theorem Tryz.infoRc : (Tryz.prog.info? 44).map (fun i => (i.zero, i.size, i.bytes)) = some (some rz5, 5, 56) := by kernel_rfl
def OwnRc (w : World) (base : Nat) (v : Value) (n : Nat) (xs : List Value) : Prop := w.ownsRow base 44 5 v n xs
theorem append_rec {P : Program} (base : Nat) (wr : World) {ops : Array Oper} {rest : List Oper} {o : Oper} {a : Act} {Q : Exit → Act → World → Prop} (hgd : o.guard = none) (s x : Operand) (t : TypeId)
    (ho : o.op = .call { callee := .builtin .append, args := #[s, x], argTypes := #[t, t] })
    (ht : P.underlying t = some (.slice 44)) (hinfo : (P.info? 44).map (fun i => (i.zero, i.size, i.bytes)) = some (some rz5, 5, 56))
    (v : Value) (n : Nat) (xs : List Value) (k : ByteArray) (g : Bool) (d : ByteArray) (y3 y4 : Int) (hs : a.eval s = v) (hown : OwnRc wr base v n xs) (hsz : base ≤ wr.heap.size)
    (hx : a.eval x = .slice (some ⟨wr.heap.size, 0, none⟩) 1 1) (hlen : n ≤ 1048576)
    (h : ∀ v' w', OwnRc w' base v' (n + 1) (xs ++ [.string k, .bool g, .string d, .int .i64 y3, .int .i64 y4]) → wr.grownBy w' v.ownBlock → wpList P ops Q rest (a.put o.dst v') w') :
    wpList P ops Q (o :: rest) a (wr.alloc (.cells #[.string k, .bool g, .string d, .int .i64 y3, .int .i64 y4] 44)) := by
  obtain ⟨i0, hi, hz0, hz1, hz2⟩ := info_parts hinfo
  refine wpList_append_own _ hgd s x t ho base 44 i0 rz5 5 56 ht hi hz0 hz1 hz2 rfl (by decide) v n _ hs (World.ownsRow.alloc hown _) ⟨wr.heap.size, 0, none⟩ 1 1 [.string k, .bool g, .string d, .int .i64 y3, .int .i64 y4] hx rfl ?_ ?_ ?_ ?_ ?_ ?_
  · intro j u hj
    have R := RowAt.new wr 44 #[.string k, .bool g, .string d, .int .i64 y3, .int .i64 y4]
    match j, hj with
    | 0, hj => simp at hj; subst hj; exact R.cell 0
    | 1, hj => simp at hj; subst hj; exact R.cell 1
    | 2, hj => simp at hj; subst hj; exact R.cell 2
    | 3, hj => simp at hj; subst hj; exact R.cell 3
    | 4, hj => simp at hj; subst hj; exact R.cell 4
  · intro u hu; simp at hu; rcases hu with rfl | rfl | rfl | rfl | rfl <;> rfl
  · unfold maxLen; omega
  · omega
  · simp; omega
  · intro v' w' h1 h2 h3
    exact h v' w' h1 (grown_trans (World.grownBy_alloc wr _ _) h2)
theorem OwnRc.rcs {w : World} {base : Nat} {v : Value} {s : ByteArray} {L : List Fr} (h : OwnRc w base v L.length (rcL s L)) : ∃ a c, v = .slice a L.length c ∧ Rcs w a L.length c (rcF s L) := by
  rcases h.2 with ⟨h0, h1⟩ | ⟨g, cap, cur, he, hb, hr, hnc, hm, hsz, htk⟩
  · exact ⟨none, 0, by rw [h0, h1], by omega, Or.inl h1⟩
  · have R : RowAt w g 44 cur := hr
    refine ⟨_, cap, he, hnc, Or.inr ⟨g, rfl, R.lt, fun p hp => ?_⟩⟩
    have hl := rcL_len s L
    have := congrArg (·[p]?) htk
    simp only [List.getElem?_take] at this
    rw [if_pos (by omega)] at this
    rw [R.cell p]
    unfold rcF
    rw [← this, List.getElem?_eq_getElem (by have := congrArg List.length htk; simp at this; simp; omega)]
    simp
def AnsSS (s : ByteArray) (w : World) (e : Ending) (w' : World) : Prop := ∃ a c, e = .returned (.slice a (sc s 0).length c) ∧ Rcs w' a (sc s 0).length c (rcF s (sc s 0)) ∧ Below w.heap.size w w'
set_option maxRecDepth 20000 in
set_option maxHeartbeats 2000000 in
theorem sScan (s : ByteArray) (hs : s.size ≤ 1048576) (w : World) :
    Calls Tryz.prog 33 #[.string s] w fun e w' => AnsSS s w e w' := by
  go_enter Tryz.func33, Tryz.ntmps33
  go_wp2_with fail
  go_loopw [3, 4] (fun v i wr => ∃ (p : Nat) (L : List Fr), p ≤ s.size ∧ L.length ≤ p ∧ i = .int .i64 (p : Nat) ∧ OwnRc wr w.heap.size v L.length (rcL s L) ∧ L ++ sc s p = sc s 0 ∧ Below w.heap.size w wr) (fun _ i _ => s.size - (intOf i).toNat)
  case atStart => exact ⟨0, [], Nat.zero_le _, Nat.le_refl _, rfl, World.ownsRow_made w #[] 0 (Nat.le_refl _) (by decide) rfl, rfl, (Below.refl _ _).alloc (Nat.le_refl _) _⟩
  case round =>
    obtain ⟨p, L, hp, hLp, rfl, hO, hL, hB⟩ := hrel
    have HO := hid hO
    have HL := hid hL
    have HB := hid hB
    clear hO hL hB
    by_cases c : p < s.size
    · have d0 : (p : Int) < (s.size : Int) := by omega
      have G := fun w => hid (sGetRec s (p : Nat) hs w)
      have wp1 : IntKind.i64.wrap ((p : Int) + 1) = (p : Int) + 1 := by simp [IntKind.wrap, IntKind.bits, IntKind.signed]; omega
      cases hr : getRec s (p : Nat) with
      | none =>
        rw [hr] at G
        have N1 : Hid (L ++ sc s (p + 1) = sc s 0) := by show _ = _; rw [← sc_none s p c hr]; exact HL.out
        clear hr HL
        unfold recordV rcK rcD rcG rcA rcN at G
        simp only at G
        go_wp2_with fail
        refine (G _).out.mono ?_
        rintro e w1 ⟨rfl, hb1⟩
        have O1 : Hid (OwnRc w1 w.heap.size u3 L.length (rcL s L)) := World.ownsRow.kept HO.out (below_grown hb1 none) (Classical.em _)
        have B1 : Hid (Below w.heap.size w w1) := HB.out.trans (hb1.mono HB.out.size)
        clear hb1 HO HB
        go_wp2
        go_roundw
        case rel => exact ⟨p + 1, L, by omega, by omega, by go_num, World.ownsRow.alloc O1.out _, N1.out, B1.out.alloc B1.out.size _⟩
        case measure => simp [intOf]; omega
      | some r =>
        have hin := getRec_in s p r hr
        rw [hr] at G
        have N1 : Hid ((L ++ [r]) ++ sc s r.next = sc s 0) := by show _ = _; rw [List.append_assoc, List.singleton_append, ← sc_some s p c r hr]; exact HL.out
        have N2 : Hid (rcL s (L ++ [r]) = rcL s L ++ [.string (rcK s (some r)), .bool (rcG (some r)), .string (rcD s (some r)), .int .i64 (rcA (some r)), .int .i64 (rcN (some r))]) := rcL_snoc s L r
        have eN : rcN (some r) = (r.next : Nat) := rfl
        unfold recordV at G
        obtain ⟨K, hK⟩ : ∃ K, K = rcK s (some r) := ⟨_, rfl⟩
        obtain ⟨Gg, hG⟩ : ∃ K, K = rcG (some r) := ⟨_, rfl⟩
        obtain ⟨D, hD⟩ : ∃ K, K = rcD s (some r) := ⟨_, rfl⟩
        obtain ⟨A, hA⟩ : ∃ K, K = rcA (some r) := ⟨_, rfl⟩
        rw [← hK, ← hG, ← hD, ← hA, eN] at G N2
        obtain ⟨x, hx⟩ : ∃ x, x = r.next := ⟨_, rfl⟩
        rw [← hx] at G N1 N2 hin
        have dx : ((x : Int) == 0) = false := by simp; omega
        have X1 : Hid (p + 4 < x) := hin.2.1
        have X2 : Hid (x ≤ s.size) := hin.2.2.1
        clear hr hK hG hD hA eN hx hin HL
        go_wp2_with fail
        refine (G _).out.mono ?_
        rintro e w1 ⟨rfl, hb1⟩
        have O1 : OwnRc w1 w.heap.size u3 L.length (rcL s L) := World.ownsRow.kept HO.out (below_grown hb1 none) (Classical.em _)
        have B1 : Hid (Below w.heap.size w w1) := HB.out.trans (hb1.mono HB.out.size)
        have z1 : w.heap.size ≤ w1.heap.size := B1.out.size
        have hn9 : some w1.heap.size ≠ u3.ownBlock := fun q => by have := (World.ownsRow.lt O1 _ q.symm).2; omega
        obtain ⟨W2, hW2⟩ : ∃ W, W = w1.alloc (.cells #[.string K, .bool Gg, .string D, .int .i64 A, .int .i64 (x : Nat)] 44) := ⟨_, rfl⟩
        have O2 : OwnRc W2 w.heap.size u3 L.length (rcL s L) := by rw [hW2]; exact World.ownsRow.alloc O1 _
        have B2 : Hid (Below w.heap.size w W2) := by show Below _ _ _; rw [hW2]; exact B1.out.alloc z1 _
        have hB2 : Blk W2 w1.heap.size #[.string K, .bool Gg, .string D, .int .i64 A, .int .i64 (x : Nat)] 44 := by rw [hW2]; exact Blk.made w1 _ _
        have z2 : w.heap.size ≤ W2.heap.size := B2.out.size
        have HW2 := hid hW2
        clear hb1 HO HB O1 B1 hW2
        go_upto_region 7 with fail
        rw [← HW2.out]
        have c0 := hB2.cell 0 _ rfl
        have c1 := hB2.cell 1 _ rfl
        have c2 := hB2.cell 2 _ rfl
        have c3 := hB2.cell 3 _ rfl
        have c4 := hB2.cell 4 _ rfl
        go_wp2_with (first | (at_builtin; (refine append_rec w.heap.size W2 rfl (.tmp 19) (.tmp 21) 41 rfl Tryz.underlying41 Tryz.infoRc _ _ _ K Gg D A (x : Nat) rfl O2 z2 rfl ?_ ?_; (omega))) | go_in)
        intro v3 w3 hO3 hg3
        have hB3 := hB2.far hg3 hB2.lt hn9
        have e4 := hB3.cell 4 _ rfl
        have B3 : Hid (Below w.heap.size w w3) := B2.out.grown hg3 z2 (fun k hk => (World.ownsRow.lt O2 k hk).1)
        have O3 := hid hO3
        clear hO3 hg3 O2 B2 hB2 hB3 c0 c1 c2 c3 c4 hn9
        go_wp2
        go_roundw
        case rel => exact ⟨x, L ++ [r], X2.out, by have := X1.out; simp; omega, rfl, by rw [N2.out, List.length_append]; exact O3.out, N1.out, B3.out⟩
        case measure => simp [intOf]; have := X1.out; have := X2.out; omega
    · have d0 : ¬ (p : Int) < (s.size : Int) := by omega
      have N1 : Hid (L = sc s 0) := by have := HL.out; rw [sc_end s p (by omega), List.append_nil] at this; exact this
      obtain ⟨a, cp, hv, hR⟩ := OwnRc.rcs HO.out
      go_wp2
      go_ret
      exact ⟨a, cp, by rw [← N1.out]; rfl, by rw [← N1.out]; exact hR, HB.out⟩
end Go.Proofs.YtngkiokibldfjaaGreatDoor
