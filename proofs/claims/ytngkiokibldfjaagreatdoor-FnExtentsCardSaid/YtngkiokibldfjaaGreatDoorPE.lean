import Derived.Test.YtngkiokibldfjaaGreatDoorPA
import Derived.Test.YtngkiokibldfjaaGreatDoorPD
import Derived.Shelf.Pu.Clone
import Derived.Lib.Strings
import Derived.Test.YtngkiokibldfjaaGreatDoorPC
namespace Go.Proofs.YtngkiokibldfjaaGreatDoor
open Go.RowKit Go.Shelf
/-- How the shelf's numbers read in this program. -/
def cloneRen : Ren := ⟨fun x => if x = 25 then 55 else x, fun x => if x = 37 then 22 else if x = 47 then 131 else if x = 9 then 9 else if x = 5 then 5 else if x = 3 then 3 else if x = 4 then 4 else x, fun x => x⟩
theorem cloneLays : LaysPu.n25 Tryz.prog cloneRen := { mixed := by kernel_rfl, f25 := by kernel_rfl, t0 := by kernel_rfl, a0 := fun _ => by kernel_rfl, z0 := fun _ => by kernel_rfl, v0 := fun _ => by kernel_rfl, i0 := by kernel_rfl, t3 := by kernel_rfl, a3 := fun _ => by kernel_rfl, z3 := fun _ => by kernel_rfl, v3 := fun _ => by kernel_rfl, i3 := by kernel_rfl, t4 := by kernel_rfl, a4 := fun _ => by kernel_rfl, z4 := fun _ => by kernel_rfl, v4 := fun _ => by kernel_rfl, i4 := by kernel_rfl, t5 := by kernel_rfl, a5 := fun _ => by kernel_rfl, z5 := fun _ => by kernel_rfl, v5 := fun _ => by kernel_rfl, i5 := by kernel_rfl, t9 := by kernel_rfl, a9 := fun _ => by kernel_rfl, z9 := fun _ => by kernel_rfl, v9 := fun _ => by kernel_rfl, i9 := by kernel_rfl, t37 := by kernel_rfl, a37 := fun _ => by kernel_rfl, z37 := fun _ => by kernel_rfl, v37 := fun _ => by kernel_rfl, i37 := by kernel_rfl, t47 := by kernel_rfl, a47 := fun _ => by kernel_rfl, z47 := fun _ => by kernel_rfl, v47 := fun _ => by kernel_rfl, i47 := by kernel_rfl }
theorem lite_clone (s : ByteArray) (w : World) (hs : s.size ≤ 281474976710656) :
    Calls Tryz.prog 55 #[.string s] w fun e w' => e = .returned (.string s) ∧ Below w.heap.size w w' := AnyPu.stringslite_Clone cloneLays s w hs
set_option maxHeartbeats 400000 in
theorem clone_any (s : ByteArray) (w : World) (hs : s.size ≤ 281474976710656) :
    Calls Tryz.prog 27 #[.string s] w fun e w' => e = .returned (.string s) ∧ Below w.heap.size w w' := by
  go_enter Tryz.func27, Tryz.ntmps27
  go_wp2_with fail
  refine (lite_clone s _ hs).mono ?_
  rintro e w1 ⟨rfl, hb⟩
  go_wp2
  go_ret
  exact ⟨rfl, hb⟩
end Go.Proofs.YtngkiokibldfjaaGreatDoor
namespace Go.Proofs.YtngkiokibldfjaaGreatDoor
open Go.RowKit
theorem CurAt.below {w w' : World} {c : Nat} {s : ByteArray} {p : Int} (h : CurAt w c s p) (hb : Below w.heap.size w w') : CurAt w' c s p := (hb.block c h.lt).trans h

theorem extract_none {s : ByteArray} (k : Nat) : s.extract k (k + 0) = ByteArray.empty := by
  have h : (s.extract k (k + 0)).data.toList = [] := by rw [Lib.extract_data]; simp
  apply ByteArray.ext
  exact Array.toList_inj.1 (by rw [h]; rfl)
/-- The text that begins at a place, and the place behind it. -/
def getText (s : ByteArray) (p : Int) : Option (ByteArray × Int) :=
  match getNum s p with
  | none => none
  | some (v, n) => if 100000 < v ∨ (s.size : Int) - (p + n) < v then none else some (s.extract (p + n).toNat (p + n + v).toNat, p + n + v)
theorem cnt_le : ∀ (f : Nat) (l : List UInt8) (n : Nat), cnt f l = some n → 1 ≤ n ∧ n ≤ f ∧ n ≤ l.length
  | 0, _, _, h => by simp [cnt] at h
  | f + 1, [], _, h => by simp [cnt] at h
  | f + 1, b :: l, n, h => by
    unfold cnt at h
    split at h
    · simp at h; subst h; simp
    · obtain ⟨m, hm, rfl⟩ := Option.map_eq_some_iff.1 h
      have := cnt_le f l m hm
      simp; omega
theorem getNum_in (s : ByteArray) (p : Int) (v n : Nat) (h : getNum s p = some (v, n)) : ∃ a : Nat, p = a ∧ a + n ≤ s.size ∧ 1 ≤ n ∧ n ≤ 9 ∧ v < 9223372036854775808 := by
  unfold getNum at h
  split at h
  · cases h
  · rename_i m hm
    have h1 := cnt_le 9 _ m hm
    split at h
    · have h2 := Option.some.inj h
      obtain ⟨rfl, rfl⟩ := Prod.mk.inj h2
      by_cases hp : p < 0 ∨ s.size < p
      · rw [rest_bad s p hp] at h1; simp at h1; omega
      · obtain ⟨a, rfl⟩ := Int.eq_ofNat_of_zero_le (show 0 ≤ p by omega)
        rw [rest_len s a (by omega)] at h1
        refine ⟨a, rfl, by omega, h1.1, h1.2.1, ?_⟩
        exact Nat.lt_of_lt_of_le (take_lt _ _) (Nat.pow_le_pow_right (n := 128) (by decide) h1.2.1)
    · cases h

end Go.Proofs.YtngkiokibldfjaaGreatDoor
namespace Go.Proofs.YtngkiokibldfjaaGreatDoor
open Go.RowKit
/-! What a record at a place is. -/
theorem ba_ext {a b : ByteArray} (h : a.data.toList = b.data.toList) : a = b := ByteArray.ext (Array.toList_inj.1 h)
theorem ex_data (s : ByteArray) (a b : Nat) : (s.extract a b).data.toList = (s.data.toList.drop a).take (b - a) := Lib.extract_data ..
theorem ex_size (s : ByteArray) (a b : Nat) (h : b ≤ s.size) : (s.extract a b).size = b - a := by rw [ByteArray.size_extract]; omega
theorem ex_join (s : ByteArray) (a b c : Nat) (h1 : a ≤ b) (h2 : b ≤ c) : s.extract a b ++ s.extract b c = s.extract a c := by
  apply ba_ext
  rw [ba_app, ex_data, ex_data, ex_data, show s.data.toList.drop b = (s.data.toList.drop a).drop (b - a) by rw [List.drop_drop, show a + (b - a) = b by omega], show c - a = (b - a) + (c - b) by omega, List.take_add]
theorem ex_one (s : ByteArray) (k : Nat) (h : k < s.size) : (s.extract k (k + 1)).data.toList = [s[k]] := by
  rw [ex_data, Nat.add_sub_cancel_left]
  have h' : k < s.data.toList.length := by simpa using h
  rw [List.drop_eq_getElem_cons h']
  simp; rfl
def byteAt (s : ByteArray) (k : Nat) : Nat := (s.data.toList.getD k 0).toNat
theorem byteAt_get (s : ByteArray) (k : Nat) (h : k < s.size) : byteAt s k = s[k].toNat := by
  unfold byteAt; rw [List.getD_eq_getElem?_getD, data_get s k h]; rfl
theorem byteAt_lt (s : ByteArray) (k : Nat) : byteAt s k < 256 := (s.data.toList.getD k 0).toNat_lt
/-- where a text of at most 'most' bytes lies whose length stands at a place -/
def spanN (s : ByteArray) (p most : Nat) : Option (Nat × Nat) :=
  match getNum s (p : Nat) with
  | none => none
  | some (v, n) => if v ≤ most ∧ p + n + v ≤ s.size then some (p + n, v) else none
structure Fr where
  kat : Nat
  ksz : Nat
  gone : Bool
  bat : Nat
  bsz : Nat
  at' : Nat
  next : Nat
def headN (s : ByteArray) (p : Nat) : Option (Nat × Nat × Bool) :=
  match spanN s p 200 with
  | none => none
  | some (ka, ks) => if ks = 0 ∨ s.size ≤ ka + ks ∨ 1 < byteAt s (ka + ks) then none else some (ka, ks, byteAt s (ka + ks) == 1)
def frmN (s : ByteArray) (p : Nat) : Option Fr :=
  match headN s (p + 1) with
  | none => none
  | some (ka, ks, g) => match spanN s (ka + ks + 1) 100000 with
    | none => none
    | some (ba, bs) => if (g = true ∧ 0 < bs) ∨ s.size < ba + bs + 4 then none else some ⟨ka, ks, g, ba, bs, p, ba + bs + 4⟩
def Marked (s : ByteArray) (p : Int) : Prop := 0 ≤ p ∧ p < (s.size : Int) ∧ byteAt s p.toNat = 231
instance (s : ByteArray) (p : Int) : Decidable (Marked s p) := inferInstanceAs (Decidable (_ ∧ _ ∧ _))
def sum4 (s : ByteArray) (k : Nat) : Int := ((((byteAt s k * 256 + byteAt s (k + 1)) * 256 + byteAt s (k + 2)) * 256 + byteAt s (k + 3) : Nat) : Int)
def getRec (s : ByteArray) (p : Int) : Option Fr :=
  if Marked s p then
    match frmN s p.toNat with
    | none => none
    | some f => if sumOf (s.extract f.at' (f.next - 4)) 5 = sum4 s (f.next - 4) then some f else none
  else none
def rcK (s : ByteArray) : Option Fr → ByteArray
  | none => ByteArray.empty
  | some f => s.extract f.kat (f.kat + f.ksz)
def rcD (s : ByteArray) : Option Fr → ByteArray
  | none => ByteArray.empty
  | some f => s.extract f.bat (f.bat + f.bsz)
def rcG : Option Fr → Bool
  | none => false
  | some f => f.gone
def rcA : Option Fr → Int
  | none => 0
  | some f => (f.at' : Nat)
def rcN : Option Fr → Int
  | none => 0
  | some f => (f.next : Nat)
def recordV (s : ByteArray) (r : Option Fr) : Value := .agg #[.string (rcK s r), .bool (rcG r), .string (rcD s r), .int .i64 (rcA r), .int .i64 (rcN r)]

theorem cnt_take : ∀ (f : Nat) (l : List UInt8) (n : Nat), cnt f l = some n → form (l.take n) ∧ l.getD (n - 1) 0 = lastB (l.take n)
  | 0, _, _, h => by simp [cnt] at h
  | f + 1, [], _, h => by simp [cnt] at h
  | f + 1, b :: l, n, h => by
    unfold cnt at h
    split at h
    · rename_i hb; simp at h; subst h; exact ⟨by simpa [form] using hb, by simp [lastB]⟩
    · rename_i hb
      obtain ⟨m, hm, rfl⟩ := Option.map_eq_some_iff.1 h
      have ih := cnt_take f l m hm
      have hl := cnt_le f l m hm
      obtain ⟨x, l', hx⟩ : ∃ x l', l.take m = x :: l' := by
        cases hq : l.take m with
        | nil => rw [hq] at ih; exact ih.1.elim
        | cons x l' => exact ⟨x, l', rfl⟩
      rw [List.take_succ_cons, hx]
      rw [hx] at ih
      refine ⟨⟨by omega, ih.1⟩, ?_⟩
      show (b :: l).getD (m + 1 - 1) 0 = lastB (x :: l')
      obtain ⟨m', rfl⟩ : ∃ m', m = m' + 1 := ⟨m - 1, by omega⟩
      rw [← ih.2]; simp
/-- A number that is read was put so. -/
theorem get_back (s : ByteArray) (a v n : Nat) (h : getNum s (a : Nat) = some (v, n)) : putNum v = s.extract a (a + n) := by
  obtain ⟨a', e, han, h1, h9, hv⟩ := getNum_in s a v n h
  obtain rfl : a = a' := by omega
  unfold getNum at h
  split at h
  · cases h
  · rename_i m hm
    split at h
    · rename_i hc
      obtain ⟨rfl, rfl⟩ := Prod.mk.inj (Option.some.inj h)
      have ht := cnt_take 9 _ m hm
      have hl := cnt_le 9 _ m hm
      have hlen : ((restL s a).take m).length = m := by rw [List.length_take]; omega
      have hp := (put_iff _ ht.1 (by omega)).2 (by rw [hlen, ← ht.2]; exact hc)
      have e1 : putNum ((valL ((restL s a).take m) : Nat) : Int) = strOfNums (putL 8 (valL ((restL s a).take m))) := by unfold putNum; rw [if_neg (by omega), Int.toNat_natCast]
      rw [e1, hp]
      apply ba_ext
      rw [strOfNums_data, ofNat_map, ex_data, Nat.add_sub_cancel_left]
      unfold restL
      rw [if_neg (by omega), Int.toNat_natCast]
    · cases h
theorem span_in (s : ByteArray) (p most a n : Nat) (h : spanN s p most = some (a, n)) : p < a ∧ a + n ≤ s.size ∧ n ≤ most ∧ ∃ c, getNum s (p : Nat) = some (n, c) ∧ a = p + c := by
  unfold spanN at h
  split at h
  · cases h
  · rename_i v c hg
    split at h
    · rename_i hc
      obtain ⟨rfl, rfl⟩ := Prod.mk.inj (Option.some.inj h)
      obtain ⟨_, _, _, h1, _⟩ := getNum_in s p _ _ hg
      exact ⟨by omega, hc.2, hc.1, c, hg, rfl⟩
    · cases h
theorem span_text (s : ByteArray) (p : Nat) : getText s (p : Nat) = (spanN s p 100000).map fun x => (s.extract x.1 (x.1 + x.2), ((x.1 + x.2 : Nat) : Int)) := by
  unfold getText spanN
  cases hg : getNum s (p : Nat) with
  | none => rfl
  | some vn =>
    obtain ⟨v, n⟩ := vn
    obtain ⟨_, e, hn, _⟩ := getNum_in s p _ _ hg
    simp only
    by_cases hc : v ≤ 100000 ∧ p + n + v ≤ s.size
    · rw [if_neg (by omega), if_pos hc]
      simp only [Option.map_some]
      rw [show ((p : Int) + (n : Int)).toNat = p + n by omega, show ((p : Int) + (n : Int) + (v : Int)).toNat = p + n + v by omega]
      simp
    · rw [if_pos (by omega), if_neg hc]; rfl
theorem text_bad (s : ByteArray) (p : Int) (h : p < 0 ∨ s.size < p) : getText s p = none := by
  unfold getText
  have : getNum s p = none := getNum_none s p (by rw [rest_bad s p h]; rfl)
  rw [this]
theorem span_back (s : ByteArray) (p most a n : Nat) (hm : most ≤ 100000) (h : spanN s p most = some (a, n)) : putText (s.extract a (a + n)) = s.extract p (a + n) := by
  obtain ⟨h1, h2, h3, c, hg, rfl⟩ := span_in s p most a n h
  unfold putText
  rw [ex_size s _ _ h2, if_neg (by omega), show p + c + n - (p + c) = n by omega, get_back s p n c hg, ex_join s p (p + c) (p + c + n) (by omega) (by omega)]
theorem span_less (s : ByteArray) (p m M a n : Nat) (h : m ≤ M) : spanN s p m = some (a, n) ↔ spanN s p M = some (a, n) ∧ n ≤ m := by
  unfold spanN
  cases hg : getNum s (p : Nat) with
  | none => simp
  | some vn =>
    obtain ⟨v, c⟩ := vn
    simp only
    constructor
    · intro q
      split at q
      · rename_i hc
        obtain ⟨rfl, rfl⟩ := Prod.mk.inj (Option.some.inj q)
        rw [if_pos (by omega)]; exact ⟨rfl, hc.1⟩
      · cases q
    · rintro ⟨q, hn⟩
      split at q
      · rename_i hc
        obtain ⟨rfl, rfl⟩ := Prod.mk.inj (Option.some.inj q)
        rw [if_pos (by omega)]
      · cases q
theorem four_data (n : Int) : (four n).data.toList = [UInt8.ofNat (n / 16777216).toNat, UInt8.ofNat (n / 65536 % 256).toNat, UInt8.ofNat (n / 256 % 256).toNat, UInt8.ofNat (n % 256).toNat] := by
  unfold four; rw [strOfNums_data]; rfl
theorem ex_four (s : ByteArray) (k : Nat) (h : k + 4 ≤ s.size) : (s.extract k (k + 4)).data.toList = [s[k], s[k + 1], s[k + 2], s[k + 3]] := by
  rw [← ex_join s k (k + 1) (k + 4) (by omega) (by omega), ← ex_join s (k + 1) (k + 2) (k + 4) (by omega) (by omega), ← ex_join s (k + 2) (k + 3) (k + 4) (by omega) (by omega), ba_app, ba_app, ba_app, ex_one s k, ex_one s (k + 1), ex_one s (k + 2), ex_one s (k + 3)]
  rfl
theorem four_iff (s : ByteArray) (k : Nat) (h : k + 4 ≤ s.size) (n : Int) (h0 : 0 ≤ n) (h1 : n ≤ 2147483647) : four n = s.extract k (k + 4) ↔ n = sum4 s k := by
  have e : sum4 s k = ((((s[k].toNat * 256 + s[k + 1].toNat) * 256 + s[k + 2].toNat) * 256 + s[k + 3].toNat : Nat) : Int) := by
    unfold sum4; rw [byteAt_get s k (by omega), byteAt_get s (k + 1) (by omega), byteAt_get s (k + 2) (by omega), byteAt_get s (k + 3) (by omega)]
  rw [e]
  have b0 := s[k].toNat_lt
  have b1 := s[k + 1].toNat_lt
  have b2 := s[k + 2].toNat_lt
  have b3 := s[k + 3].toNat_lt
  constructor
  · intro q
    have q2 := congrArg (fun b => b.data.toList) q
    simp only [four_data n, ex_four s k h] at q2
    obtain ⟨q0, q2⟩ := List.cons.inj q2
    obtain ⟨q1, q2⟩ := List.cons.inj q2
    obtain ⟨q2, q3⟩ := List.cons.inj q2
    have q3 := (List.cons.inj q3).1
    have r0 := congrArg UInt8.toNat q0
    have r1 := congrArg UInt8.toNat q1
    have r2 := congrArg UInt8.toNat q2
    have r3 := congrArg UInt8.toNat q3
    simp only [UInt8.toNat_ofNat'] at r0 r1 r2 r3
    omega
  · intro q
    apply ba_ext
    rw [four_data n, ex_four s k h]
    have f : ∀ (x : Int) (b : UInt8), x = (b.toNat : Nat) → UInt8.ofNat x.toNat = b := by
      intro x b hx; subst hx; simp
    rw [f _ s[k] (by omega), f _ s[k + 1] (by omega), f _ s[k + 2] (by omega), f _ s[k + 3] (by omega)]
/-- A record stands there exactly if its form and its sum are right. -/
theorem rec_iff (s : ByteArray) (p ka ks ba bs : Nat) (hp : p < s.size) (hm : byteAt s p = 231) (h1 : spanN s (p + 1) 100000 = some (ka, ks)) (hq : ka + ks < s.size)
    (h2 : spanN s (ka + ks + 1) 100000 = some (ba, bs)) (he : ba + bs + 4 ≤ s.size) (g : Bool) (hg : g = (byteAt s (ka + ks) == 1)) :
    (RecOk (s.extract ka (ka + ks)) g (s.extract ba (ba + bs)) ∧ recV (s.extract ka (ka + ks)) g (s.extract ba (ba + bs)) = s.extract p (ba + bs + 4)) ↔
      (1 ≤ ks ∧ ks ≤ 200 ∧ byteAt s (ka + ks) ≤ 1 ∧ (g = true → bs = 0) ∧ sumOf (s.extract p (ba + bs)) 5 = sum4 s (ba + bs)) := by
  obtain ⟨i1, i2, i3, _⟩ := span_in s _ _ _ _ h1
  obtain ⟨j1, j2, j3, _⟩ := span_in s _ _ _ _ h2
  have ok : RecOk (s.extract ka (ka + ks)) g (s.extract ba (ba + bs)) ↔ (1 ≤ ks ∧ ks ≤ 200 ∧ (g = true → bs = 0)) := by
    unfold RecOk
    rw [ex_size s _ _ i2, ex_size s _ _ j2, show ka + ks - ka = ks by omega, show ba + bs - ba = bs by omega]
    constructor
    · rintro ⟨a, b, c, _⟩; exact ⟨a, b, c⟩
    · rintro ⟨a, b, c⟩; exact ⟨a, b, c, j3⟩
  have e231 : s.extract p (p + 1) = ⟨#[231]⟩ := by
    apply ba_ext
    rw [ex_one s p hp]
    have : s[p] = 231 := UInt8.toNat_inj.1 (by rw [← byteAt_get s p hp, hm]; rfl)
    rw [this]
  have eT : recT (s.extract ka (ka + ks)) g (s.extract ba (ba + bs)) = s.extract p (ka + ks) ++ (if g then ⟨#[1]⟩ else ⟨#[0]⟩) ++ s.extract (ka + ks + 1) (ba + bs) := by
    unfold recT
    rw [span_back s _ _ _ _ (Nat.le_refl _) h1, span_back s _ _ _ _ (Nat.le_refl _) h2, ← e231, ex_join s p (p + 1) (ka + ks) (by omega) (by omega)]
  have eB : byteAt s (ka + ks) ≤ 1 → (if g then (⟨#[1]⟩ : ByteArray) else ⟨#[0]⟩) = s.extract (ka + ks) (ka + ks + 1) := by
    intro hb
    apply ba_ext
    rw [ex_one s _ hq]
    have hb' := byteAt_get s (ka + ks) hq
    by_cases h : byteAt s (ka + ks) = 1
    · have : s[ka + ks] = 1 := UInt8.toNat_inj.1 (by rw [← hb', h]; rfl)
      rw [this, hg, h]; rfl
    · have : s[ka + ks] = 0 := UInt8.toNat_inj.1 (by rw [← hb', show byteAt s (ka + ks) = 0 by omega]; rfl)
      rw [this, hg]; simp [h]
  have eX : byteAt s (ka + ks) ≤ 1 → recT (s.extract ka (ka + ks)) g (s.extract ba (ba + bs)) = s.extract p (ba + bs) := by
    intro hb
    rw [eT, eB hb, ex_join s p (ka + ks) (ka + ks + 1) (by omega) (by omega), ex_join s p (ka + ks + 1) (ba + bs) (by omega) (by omega)]
  have sbd : ∀ x, 0 ≤ sumOf x 5 ∧ sumOf x 5 ≤ 2147483647 := by
    intro x; unfold sumOf; split
    · decide
    · exact sumL_bd _ _ (by decide) (by decide)
  constructor
  · rintro ⟨hok, hv⟩
    unfold recV at hv
    rw [if_pos hok] at hv
    obtain ⟨o1, o2, o3⟩ := ok.1 hok
    -- the byte for gone
    have hb : byteAt s (ka + ks) ≤ 1 := by
      have d := congrArg (fun b => b.data.toList.getD (ka + ks - p) 0) hv
      simp only [eT, ba_app, ex_data] at d
      have l1 : ((s.data.toList.drop p).take (ka + ks - p)).length = ka + ks - p := by simp; omega
      have d1 : (((((s.data.toList.drop p).take (ka + ks - p)) ++ (if g then (⟨#[1]⟩ : ByteArray) else ⟨#[0]⟩).data.toList) ++ (s.data.toList.drop (ka + ks + 1)).take (ba + bs - (ka + ks + 1))) ++ (four (sumOf (s.extract p (ka + ks) ++ (if g then (⟨#[1]⟩ : ByteArray) else ⟨#[0]⟩) ++ s.extract (ka + ks + 1) (ba + bs)) 5)).data.toList).getD (ka + ks - p) 0 = if g then 1 else 0 := by
        rw [List.append_assoc, List.append_assoc, List.getD_eq_getElem?_getD, List.getElem?_append_right (by omega), l1, Nat.sub_self]
        cases g <;> rfl
      rw [d1] at d
      have d2 : ((s.data.toList.drop p).take (ba + bs + 4 - p)).getD (ka + ks - p) 0 = s.data.toList.getD (ka + ks) 0 := by
        rw [List.getD_eq_getElem?_getD, List.getD_eq_getElem?_getD, List.getElem?_take_of_lt (by omega), List.getElem?_drop, show p + (ka + ks - p) = ka + ks by omega]
      rw [d2] at d
      unfold byteAt
      rw [← d]; cases g <;> decide
    refine ⟨o1, o2, hb, o3, ?_⟩
    rw [eX hb, ← ex_join s p (ba + bs) (ba + bs + 4) (by omega) (by omega)] at hv
    have hv2 : four (sumOf (s.extract p (ba + bs)) 5) = s.extract (ba + bs) (ba + bs + 4) := by
      have := congrArg (fun b => b.data.toList) hv
      simp only [ba_app] at this
      exact ba_ext (List.append_cancel_left this)
    exact (four_iff s (ba + bs) he _ (sbd _).1 (sbd _).2).1 hv2
  · rintro ⟨o1, o2, hb, o3, hs⟩
    have hok := ok.2 ⟨o1, o2, o3⟩
    refine ⟨hok, ?_⟩
    unfold recV
    rw [if_pos hok, eX hb, (four_iff s (ba + bs) he _ (sbd _).1 (sbd _).2).2 hs, ex_join s p (ba + bs) (ba + bs + 4) (by omega) (by omega)]
end Go.Proofs.YtngkiokibldfjaaGreatDoor
