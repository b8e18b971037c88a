import Derived.Test.YtngkiokibldfjaaGreatDoorPO
import Derived.Test.YtngkiokibldfjaaGreatDoorPP
namespace Go.Proofs.YtngkiokibldfjaaGreatDoor
open Go.RowKit
set_option linter.unusedVariables false
/-! A right record hangs on its own bytes alone: the next 100211. -/
/-- the frame of a record that stands at p -/
def frOf (p : Nat) (k : ByteArray) (g : Bool) (d : ByteArray) : Fr := ⟨p + 1 + (putNum k.size).size, k.size, g, p + 1 + (putText k).size + 1 + (putNum d.size).size, d.size, p, p + 1 + (putText k).size + 1 + (putNum d.size).size + d.size + 4⟩
theorem rec_put2 (s k d : ByteArray) (g : Bool) (H R : List UInt8) (hok : RecOk k g d) (hs : s.data.toList = H ++ (recV k g d).data.toList ++ R) :
    getRec s (H.length : Nat) = some (frOf H.length k g d) ∧ s.extract (frOf H.length k g d).kat ((frOf H.length k g d).kat + k.size) = k ∧ s.extract (frOf H.length k g d).bat ((frOf H.length k g d).bat + d.size) = d ∧ (frOf H.length k g d).next = H.length + (recV k g d).size := by
  have hv : recV k g d = recT k g d ++ four (sumOf (recT k g d) 5) := if_pos hok
  obtain ⟨o1, o2, o3, o4⟩ := id hok
  obtain ⟨gb, hgb⟩ : ∃ b : UInt8, b = if g then 1 else 0 := ⟨_, rfl⟩
  have hT : (recT k g d).data.toList = 231 :: ((putText k).data.toList ++ gb :: (putText d).data.toList) := by
    unfold recT
    rw [ba_app, ba_app, ba_app, hgb]
    cases g <;> simp
  have hd : s.data.toList = H ++ 231 :: ((putText k).data.toList ++ gb :: ((putText d).data.toList ++ ((four (sumOf (recT k g d) 5)).data.toList ++ R))) := by
    rw [hs, hv, ba_app, hT]; simp [List.append_assoc]
  have f4 : (four (sumOf (recT k g d) 5)).data.toList.length = 4 := by have := four_size (sumOf (recT k g d) 5); simpa using this
  have hd1 : s.data.toList = (H ++ [231]) ++ (putText k).data.toList ++ (gb :: ((putText d).data.toList ++ ((four (sumOf (recT k g d) 5)).data.toList ++ R))) := by rw [hd]; simp [List.append_assoc]
  obtain ⟨s1, x1, z1⟩ := span_put s k (H ++ [231]) _ 100000 (by omega) (Nat.le_refl _) hd1
  have l1 : (H ++ [(231 : UInt8)]).length = H.length + 1 := by simp
  rw [l1] at s1 x1
  have hd2 : s.data.toList = (H ++ 231 :: (putText k).data.toList) ++ gb :: ((putText d).data.toList ++ ((four (sumOf (recT k g d) 5)).data.toList ++ R)) := by rw [hd]; simp [List.append_assoc]
  have l2 : (H ++ 231 :: (putText k).data.toList).length = H.length + 1 + (putText k).size := by simp; omega
  have b2 := byteAt_mid s _ _ gb hd2
  rw [l2] at b2
  have hd3 : s.data.toList = (H ++ 231 :: (putText k).data.toList ++ [gb]) ++ (putText d).data.toList ++ ((four (sumOf (recT k g d) 5)).data.toList ++ R) := by rw [hd]; simp [List.append_assoc]
  obtain ⟨s3, x3, z3⟩ := span_put s d _ _ 100000 o4 (Nat.le_refl _) hd3
  have l3 : (H ++ 231 :: (putText k).data.toList ++ [gb]).length = H.length + 1 + (putText k).size + 1 := by simp; omega
  rw [l3] at s3 x3
  have hlen : s.size = H.length + 1 + (putText k).size + 1 + (putText d).size + 4 + R.length := by
    have := congrArg List.length hd
    simp [-ByteArray.size_data] at this
    have e1 : (putText k).data.size = (putText k).size := rfl
    have e2 : (putText d).data.size = (putText d).size := rfl
    have e3 : s.data.size = s.size := rfl
    have e4 : (four (sumOf (recT k g d) 5)).data.size = 4 := four_size _
    omega
  have bm := byteAt_mid s H _ 231 hd
  obtain ⟨ka, hka⟩ : ∃ x, x = H.length + 1 + (putNum k.size).size := ⟨_, rfl⟩
  obtain ⟨ba, hba⟩ : ∃ x, x = H.length + 1 + (putText k).size + 1 + (putNum d.size).size := ⟨_, rfl⟩
  rw [← hka] at s1 x1
  rw [← hba] at s3 x3
  have eq : H.length + 1 + (putText k).size = ka + k.size := by omega
  rw [eq] at b2 s3
  have szV : (recV k g d).size = 1 + (putText k).size + 1 + (putText d).size + 4 := by
    rw [hv, ByteArray.size_append, four_size]
    have := congrArg List.length hT
    have e0 : (recT k g d).data.toList.length = (recT k g d).size := by simp
    have e1 : (putText k).data.toList.length = (putText k).size := by simp
    have e2 : (putText d).data.toList.length = (putText d).size := by simp
    rw [e0] at this
    simp only [List.length_cons, List.length_append, e1, e2] at this
    omega
  have gg : g = (byteAt s (ka + k.size) == 1) := by rw [b2, hgb]; cases g <;> rfl
  have C := (rec_iff s H.length ka k.size ba d.size (by omega) bm s1 (by omega) s3 (by omega) g gg).1 (by
    rw [x1, x3]
    refine ⟨hok, ?_⟩
    apply ba_ext
    rw [ex_data, hs, List.append_assoc, List.drop_left, List.take_left']
    have : (recV k g d).data.toList.length = (recV k g d).size := by simp
    rw [this, szV]; omega)
  have EF : frOf H.length k g d = ⟨ka, k.size, g, ba, d.size, H.length, ba + d.size + 4⟩ := by rw [hka, hba]; rfl
  rw [EF]
  refine ⟨?_, x1, x3, ?_⟩
  · rw [getRec_at s H.length (by omega) bm, s1]
    simp only
    rw [if_neg (by omega), s3]
    simp only
    rw [if_neg (by omega), if_pos (show RecC s H.length ka k.size ba d.size from ⟨C.1, C.2.1, C.2.2.1, by rw [← gg]; exact C.2.2.2.1, C.2.2.2.2⟩), ← gg]
  · show ba + d.size + 4 = _
    rw [szV]; omega
theorem putNum_sz (n : Nat) (h : n < 2097152) : (putNum n).size ≤ 3 := by
  unfold putNum
  rw [if_neg (by omega), strOfNums_size, Int.toNat_natCast]
  by_cases h1 : n < 128
  · rw [putL_small 8 n h1]; simp
  · rw [putL_big 7 n (by omega)]
    by_cases h2 : n / 128 < 128
    · rw [putL_small 7 _ h2]; simp
    · rw [putL_big 6 _ (by omega), putL_small 6 _ (by omega)]; simp
theorem putNum_sz2 (n : Nat) (h : n < 16384) : (putNum n).size ≤ 2 := by
  unfold putNum
  rw [if_neg (by omega), strOfNums_size, Int.toNat_natCast]
  by_cases h1 : n < 128
  · rw [putL_small 8 n h1]; simp
  · rw [putL_big 7 n (by omega), putL_small 7 _ (by omega)]; simp
theorem recV_sz (k : ByteArray) (g : Bool) (d : ByteArray) : (recV k g d).size ≤ 100211 := by
  unfold recV
  split
  · rename_i h
    obtain ⟨h1, h2, h3, h4⟩ := h
    rw [ByteArray.size_append, four_size]
    have a1 := putNum_sz2 k.size (by omega)
    have a2 := putNum_sz d.size (by omega)
    have pk : (putText k).size = (putNum k.size).size + k.size := by unfold putText; rw [if_neg (show ¬ 100000 < k.size by omega), ByteArray.size_append]
    have pd : (putText d).size = (putNum d.size).size + d.size := by unfold putText; rw [if_neg (show ¬ 100000 < d.size by omega), ByteArray.size_append]
    have e : (recT k g d).size = 1 + (putText k).size + 1 + (putText d).size := by
      unfold recT
      simp only [ByteArray.size_append]
      cases g <;> rfl
    rw [e, pk, pd]
    omega
  · exact Nat.zero_le _
theorem bsz (s : ByteArray) : s.data.toList.length = s.size := by simp
/-- what stands in a window -/
theorem rec_win {s s' : ByteArray} {p : Nat} {f : Fr} (h : getRec s (p : Nat) = some f) (hw : ∀ k, p ≤ k → k < p + 100211 → s'.data.toList[k]? = s.data.toList[k]?) : getRec s' (p : Nat) = some f ∧ rcK s' (some f) = rcK s (some f) ∧ rcD s' (some f) = rcD s (some f) ∧ f.next ≤ p + 100211 ∧ f.next ≤ s'.size := by
  obtain ⟨ok, tx, hp⟩ := rec_ext h
  have hin := getRec_in s p f h
  have hz : (s.extract p f.next).size = f.next - p := by rw [ex_size s _ _ hin.2.2.1]
  have hb : f.next ≤ p + 100211 := by have := recV_sz (rcK s (some f)) f.gone (rcD s (some f)); rw [tx, hz] at this; omega
  have gen : ∀ t : ByteArray, (∀ k, p ≤ k → k < p + 100211 → t.data.toList[k]? = s.data.toList[k]?) → t.data.toList = t.data.toList.take p ++ (recV (rcK s (some f)) f.gone (rcD s (some f))).data.toList ++ t.data.toList.drop f.next ∧ (t.data.toList.take p).length = p ∧ f.next ≤ t.size := by
    intro t ht
    have hn : f.next ≤ t.size := by
      have q := ht (f.next - 1) (by omega) (by omega)
      rw [List.getElem?_eq_getElem (show f.next - 1 < s.data.toList.length by rw [bsz]; omega)] at q
      have := (List.getElem?_eq_some_iff.1 q).1
      rw [bsz] at this
      omega
    have e : t.extract p f.next = s.extract p f.next := by
      apply ba_ext
      rw [ex_data, ex_data]
      apply List.ext_getElem?
      intro i
      by_cases c : i < f.next - p
      · rw [List.getElem?_take_of_lt c, List.getElem?_take_of_lt c, List.getElem?_drop, List.getElem?_drop, ht (p + i) (by omega) (by omega)]
      · rw [List.getElem?_eq_none (by simp; omega), List.getElem?_eq_none (by simp; omega)]
    refine ⟨?_, by rw [List.length_take, bsz]; omega, hn⟩
    rw [tx, ← e, ex_data]
    conv => lhs; rw [← List.take_append_drop p t.data.toList, ← List.take_append_drop (f.next - p) (t.data.toList.drop p), List.drop_drop, show p + (f.next - p) = f.next by omega]
    rw [List.append_assoc]
  obtain ⟨a1, a2, a3⟩ := gen s' hw
  obtain ⟨b1, b2, b3⟩ := gen s (fun _ _ _ => rfl)
  have pa := rec_put2 s' _ _ _ _ _ ok a1
  have pb := rec_put2 s _ _ _ _ _ ok b1
  rw [a2] at pa
  rw [b2] at pb
  have e : f = frOf p (rcK s (some f)) f.gone (rcD s (some f)) := by
    have := pb.1
    rw [h] at this
    exact Option.some.inj this
  refine ⟨pa.1.trans (by rw [← e]), ?_, ?_, hb, a3⟩
  · have q := pa.2.1
    rw [← e] at q
    have zk : (rcK s (some f)).size = f.ksz := (congrArg Fr.ksz e).symm
    show s'.extract f.kat (f.kat + f.ksz) = _
    rw [← zk]; exact q
  · have q := pa.2.2.1
    rw [← e] at q
    have zk : (rcD s (some f)).size = f.bsz := (congrArg Fr.bsz e).symm
    show s'.extract f.bat (f.bat + f.bsz) = _
    rw [← zk]; exact q
theorem rec_same {s s' : ByteArray} {p : Nat} (hw : ∀ k, p ≤ k → k < p + 100211 → s'.data.toList[k]? = s.data.toList[k]?) : getRec s' (p : Nat) = getRec s (p : Nat) := by
  cases h : getRec s (p : Nat) with
  | some f => exact (rec_win h hw).1
  | none =>
    cases h' : getRec s' (p : Nat) with
    | none => rfl
    | some f =>
      have := (rec_win h' (fun k a b => (hw k a b).symm)).1
      rw [h] at this
      cases this
end Go.Proofs.YtngkiokibldfjaaGreatDoor
namespace Go.Proofs.YtngkiokibldfjaaGreatDoor
open Go.RowKit
set_option linter.unusedVariables false
/-! An extent's shelf: all right records by place, the greedy reading of them. -/
/-- all right records that begin at one of n places from p on -/
def rg (d : ByteArray) : Nat → Nat → List Fr
  | 0, _ => []
  | n + 1, p => match getRec d (p : Nat) with
    | none => rg d n (p + 1)
    | some f => f :: rg d n (p + 1)
theorem rg_no (d : ByteArray) (n p : Nat) (h : getRec d (p : Nat) = none) : rg d (n + 1) p = rg d n (p + 1) := by simp [rg, h]
theorem rg_yes (d : ByteArray) (n p : Nat) (f : Fr) (h : getRec d (p : Nat) = some f) : rg d (n + 1) p = f :: rg d n (p + 1) := by simp [rg, h]
theorem rg_add (d : ByteArray) : ∀ m n p, rg d (m + n) p = rg d m p ++ rg d n (p + m) := by
  intro m
  induction m with
  | zero => intro n p; rw [Nat.zero_add]; rfl
  | succ m ih =>
    intro n p
    rw [show m + 1 + n = (m + n) + 1 by omega]
    cases h : getRec d (p : Nat) with
    | none => rw [rg_no d _ p h, rg_no d _ p h, ih, show p + 1 + m = p + (m + 1) by omega]
    | some f => rw [rg_yes d _ p f h, rg_yes d _ p f h, ih, show p + 1 + m = p + (m + 1) by omega]; rfl
theorem rg_none (d : ByteArray) : ∀ n p, (∀ k, p ≤ k → k < p + n → getRec d (k : Nat) = none) → rg d n p = [] := by
  intro n
  induction n with
  | zero => intro p _; rfl
  | succ n ih =>
    intro p h
    rw [rg_no d n p (h p (by omega) (by omega))]
    exact ih (p + 1) (fun k a b => h k (by omega) (by omega))
theorem rg_mem (d : ByteArray) : ∀ n p f, f ∈ rg d n p → p ≤ f.at' ∧ f.at' < p + n ∧ getRec d (f.at' : Nat) = some f := by
  intro n
  induction n with
  | zero => intro p f h; cases h
  | succ n ih =>
    intro p f h
    cases hr : getRec d (p : Nat) with
    | none =>
      rw [rg_no d n p hr] at h
      have := ih (p + 1) f h
      exact ⟨by omega, by omega, this.2.2⟩
    | some g =>
      rw [rg_yes d n p g hr] at h
      rcases List.mem_cons.1 h with rfl | h
      · have := (getRec_in d p f hr).1
        exact ⟨by omega, by omega, by rw [this]; exact hr⟩
      · have := ih (p + 1) f h
        exact ⟨by omega, by omega, this.2.2⟩
theorem rg_len (d : ByteArray) : ∀ n p, (rg d n p).length ≤ n := by
  intro n
  induction n with
  | zero => intro p; exact Nat.le_refl _
  | succ n ih =>
    intro p
    cases hr : getRec d (p : Nat) with
    | none => rw [rg_no d n p hr]; have := ih (p + 1); omega
    | some g => rw [rg_yes d n p g hr]; have := ih (p + 1); simp only [List.length_cons]; omega
theorem rg_same {d d' : ByteArray} : ∀ n p, (∀ k, p ≤ k → k < p + n → getRec d' (k : Nat) = getRec d (k : Nat)) → rg d' n p = rg d n p := by
  intro n
  induction n with
  | zero => intro p _; rfl
  | succ n ih =>
    intro p h
    have h0 := h p (by omega) (by omega)
    have hi := ih (p + 1) (fun k a b => h k (by omega) (by omega))
    cases hr : getRec d (p : Nat) with
    | none => rw [hr] at h0; rw [rg_no d n p hr, rg_no d' n p h0, hi]
    | some g => rw [hr] at h0; rw [rg_yes d n p g hr, rg_yes d' n p g h0, hi]
theorem rg_sorted (d : ByteArray) : ∀ n p, (rg d n p).Pairwise (fun a b => a.at' < b.at') := by
  intro n
  induction n with
  | zero => intro p; exact List.Pairwise.nil
  | succ n ih =>
    intro p
    cases hr : getRec d (p : Nat) with
    | none => rw [rg_no d n p hr]; exact ih (p + 1)
    | some g =>
      rw [rg_yes d n p g hr]
      refine List.pairwise_cons.2 ⟨fun x hx => ?_, ih (p + 1)⟩
      have := (rg_mem d n (p + 1) x hx).1
      have := (getRec_in d p g hr).1
      omega
theorem rg_first (d : ByteArray) (n p : Nat) (f : Fr) (h : getRec d (f.at' : Nat) = some f) (h1 : p ≤ f.at') (h2 : f.at' < p + n) (hn : ∀ k, p ≤ k → k < f.at' → getRec d (k : Nat) = none) : rg d n p = f :: rg d (p + n - (f.at' + 1)) (f.at' + 1) := by
  obtain ⟨a, ha⟩ : ∃ a, a = f.at' - p := ⟨_, rfl⟩
  obtain ⟨b, hb⟩ : ∃ b, b = p + n - (f.at' + 1) := ⟨_, rfl⟩
  have e : n = a + (b + 1) := by omega
  rw [← hb, e, rg_add, rg_none d a p (fun k q1 q2 => hn k q1 (by omega)), show p + a = f.at' by omega, rg_yes d b _ f h]
  rfl
theorem rg_past (d : ByteArray) (n p : Nat) (h : d.size ≤ p) : rg d n p = [] := rg_none d n p fun k a _ => getRec_no d _ fun q => by have := q.2.1; omega
theorem rg_cut (d : ByteArray) (n p m : Nat) (hm : m ≤ n) (h : d.size ≤ p + m) : rg d n p = rg d m p := by
  rw [show n = m + (n - m) by omega, rg_add, rg_past d _ _ h, List.append_nil]
/-- all of them -/
def allR (d : ByteArray) : List Fr := rg d 300000 0
theorem allR_split (d : ByteArray) (q : Nat) (h : q ≤ 300000) : allR d = rg d q 0 ++ rg d (300000 - q) q := by
  have := rg_add d q (300000 - q) 0
  rw [Nat.zero_add, show q + (300000 - q) = 300000 by omega] at this
  exact this
/-- where data are others: from one place on, to another -/
def Chg (d d' : ByteArray) (fr t : Nat) : Prop := ∀ k, k < fr ∨ t ≤ k → d'.data.toList[k]? = d.data.toList[k]?
theorem Chg.ahead {d d' : ByteArray} {fr t : Nat} (h : Chg d d' fr t) {k : Nat} (hk : k < fr - 100210) : ∀ j, k ≤ j → j < k + 100211 → d'.data.toList[j]? = d.data.toList[j]? := fun j _ _ => h j (by omega)
theorem Chg.behind {d d' : ByteArray} {fr t : Nat} (h : Chg d d' fr t) {k : Nat} (hk : t ≤ k) : ∀ j, k ≤ j → j < k + 100211 → d'.data.toList[j]? = d.data.toList[j]? := fun j _ _ => h j (by omega)
theorem Chg.all {d d' : ByteArray} {fr t : Nat} (h : Chg d d' fr t) (h1 : fr ≤ t) (h2 : t ≤ 300000) : allR d' = rg d (fr - 100210) 0 ++ rg d' (t - (fr - 100210)) (fr - 100210) ++ rg d (300000 - t) t := by
  have e1 : rg d' (fr - 100210) 0 = rg d (fr - 100210) 0 := rg_same _ _ fun k _ b => rec_same (h.ahead (by omega))
  have e2 : rg d' (300000 - t) t = rg d (300000 - t) t := rg_same _ _ fun k a _ => rec_same (h.behind a)
  have e := rg_add d' (fr - 100210) (t - (fr - 100210)) 0
  rw [Nat.zero_add, show fr - 100210 + (t - (fr - 100210)) = t by omega] at e
  rw [allR_split d' t h2, e, e1, e2]
theorem Chg.key {d d' : ByteArray} {fr t : Nat} (h : Chg d d' fr t) {f : Fr} (hf : getRec d (f.at' : Nat) = some f) (hp : f.at' < fr - 100210 ∨ t ≤ f.at') : rcK d' (some f) = rcK d (some f) := by
  rcases hp with hp | hp
  · exact (rec_win hf (h.ahead hp)).2.1
  · exact (rec_win hf (h.behind hp)).2.1
/-- the greedy reading, with the index of each -/
def gri : Nat → Nat → List Fr → List (Nat × Fr)
  | _, _, [] => []
  | p, i, f :: L => if f.at' < p then gri p (i + 1) L else (i, f) :: gri f.next (i + 1) L
theorem gri_le : ∀ (L : List Fr) (p p' i : Nat), p ≤ p' → (∀ f ∈ L, p' ≤ f.at') → gri p i L = gri p' i L
  | [], _, _, _, _, _ => rfl
  | f :: L, p, p', i, h, hL => by
    have := hL f (by simp)
    simp only [gri]
    rw [if_neg (by omega), if_neg (by omega)]
theorem gri_sc (d : ByteArray) : ∀ n q p i, q ≤ p → d.size ≤ q + n → (gri p i (rg d n q)).map Prod.snd = sc d p := by
  intro n
  induction n with
  | zero => intro q p i h1 h2; rw [sc_end d p (by omega)]; rfl
  | succ n ih =>
    intro q p i h1 h2
    by_cases hp : d.size ≤ p
    · rw [sc_end d p hp]
      have : ∀ (L : List Fr) i, (∀ f ∈ L, f.at' < d.size) → gri p i L = [] := by
        intro L
        induction L with
        | nil => intro i _; rfl
        | cons f L ihL =>
          intro i hL
          have := hL f (by simp)
          simp only [gri]
          rw [if_pos (by omega)]
          exact ihL _ (fun g hg => hL g (by simp [hg]))
      rw [this _ _ (fun f hf => by have := getRec_in d f.at' f (rg_mem d _ _ f hf).2.2; omega)]
      rfl
    cases hr : getRec d (q : Nat) with
    | none =>
      rw [rg_no d n q hr]
      by_cases hqp : q = p
      · subst hqp
        rw [gri_le _ q (q + 1) i (by omega) (fun f hf => (rg_mem d _ _ f hf).1), ih (q + 1) (q + 1) i (by omega) (by omega), sc_none d q (by omega) hr]
      · exact ih (q + 1) p i (by omega) (by omega)
    | some f =>
      rw [rg_yes d n q f hr]
      have hin := getRec_in d q f hr
      simp only [gri]
      by_cases hqp : q = p
      · subst hqp
        rw [if_neg (by omega), List.map_cons, ih (q + 1) f.next (i + 1) (by omega) (by omega), sc_some d q (by omega) f hr]
      · rw [if_pos (by omega)]
        exact ih (q + 1) p (i + 1) (by omega) (by omega)
theorem gri_idx : ∀ (L : List Fr) (p i : Nat) (x : Nat × Fr), x ∈ gri p i L → i ≤ x.1 ∧ L[x.1 - i]? = some x.2
  | [], _, _, _, h => by cases h
  | f :: L, p, i, x, h => by
    simp only [gri] at h
    split at h
    · have := gri_idx L p (i + 1) x h
      refine ⟨by omega, ?_⟩
      rw [show x.1 - i = (x.1 - (i + 1)) + 1 by omega, List.getElem?_cons_succ]
      exact this.2
    · rcases List.mem_cons.1 h with rfl | h
      · refine ⟨Nat.le_refl _, ?_⟩
        rw [Nat.sub_self]; rfl
      · have := gri_idx L f.next (i + 1) x h
        refine ⟨by omega, ?_⟩
        rw [show x.1 - i = (x.1 - (i + 1)) + 1 by omega, List.getElem?_cons_succ]
        exact this.2
theorem gri_inc : ∀ (L : List Fr) (p i : Nat), (gri p i L).Pairwise (fun a b => a.1 < b.1)
  | [], _, _ => List.Pairwise.nil
  | f :: L, p, i => by
    simp only [gri]
    split
    · exact gri_inc L p (i + 1)
    · refine List.pairwise_cons.2 ⟨fun x hx => ?_, gri_inc L _ _⟩
      have := (gri_idx L f.next (i + 1) x hx).1
      show i < x.1
      omega
/-- the reading of all -/
def grA (d : ByteArray) : List (Nat × Fr) := gri 0 0 (allR d)
theorem grA_sc (d : ByteArray) (h : d.size ≤ 300000) : (grA d).map Prod.snd = sc d 0 := gri_sc d 300000 0 0 0 (Nat.le_refl _) (by omega)
theorem grA_at (d : ByteArray) (h : d.size ≤ 300000) {k i : Nat} {f : Fr} (hk : (grA d)[k]? = some (i, f)) : (allR d)[i]? = some f ∧ (sc d 0)[k]? = some f := by
  refine ⟨?_, ?_⟩
  · have := (gri_idx _ _ _ _ (List.mem_of_getElem? hk)).2
    simpa using this
  · rw [← grA_sc d h, List.getElem?_map, hk]; rfl
theorem grA_inj (d : ByteArray) {k k' i : Nat} {f f' : Fr} (hk : (grA d)[k]? = some (i, f)) (hk' : (grA d)[k']? = some (i, f')) : k = k' := by
  have hp := gri_inc (allR d) 0 0
  have lt : ∀ {a b : Nat} {x y : Nat × Fr}, (grA d)[a]? = some x → (grA d)[b]? = some y → a < b → x.1 < y.1 := by
    intro a b x y ha hb hab
    obtain ⟨h1, e1⟩ := List.getElem?_eq_some_iff.1 ha
    obtain ⟨h2, e2⟩ := List.getElem?_eq_some_iff.1 hb
    have := List.pairwise_iff_getElem.1 hp a b h1 h2 hab
    have e1' : (gri 0 0 (allR d))[a] = x := e1
    have e2' : (gri 0 0 (allR d))[b] = y := e2
    rw [e1', e2'] at this
    exact this
  rcases Nat.lt_trichotomy k k' with c | c | c
  · have := lt hk hk' c; omega
  · exact c
  · have := lt hk' hk c; omega
/-- the index of the last of the first m that has a key, or -1 -/
def lx (d : ByteArray) (key : ByteArray) : Nat → Int
  | 0 => -1
  | m + 1 => match (grA d)[m]? with
    | some x => if rcK d (some x.2) = key then (x.1 : Int) else lx d key m
    | none => lx d key m
theorem lx_step (d key : ByteArray) (m i : Nat) (f : Fr) (h : (grA d)[m]? = some (i, f)) : lx d key (m + 1) = if rcK d (some f) = key then (i : Int) else lx d key m := by simp [lx, h]
theorem lx_last (d key : ByteArray) (hd : d.size ≤ 300000) : ∀ m, m ≤ (grA d).length → (lastF d (sc d 0) key m = -1 ∧ lx d key m = -1) ∨ ∃ (k i : Nat) (f : Fr), lastF d (sc d 0) key m = (k : Int) ∧ (grA d)[k]? = some (i, f) ∧ lx d key m = (i : Int)
  | 0, _ => Or.inl ⟨rfl, rfl⟩
  | m + 1, hm => by
    obtain ⟨x, hx⟩ : ∃ x, (grA d)[m]? = some x := ⟨_, List.getElem?_eq_getElem (by omega)⟩
    obtain ⟨i, f⟩ := x
    have hs := (grA_at d hd hx).2
    rw [lx_step d key m i f hx]
    have e : lastF d (sc d 0) key (m + 1) = if rcK d (some f) = key then (m : Int) else lastF d (sc d 0) key m := by
      show (if keyAt d (sc d 0) m = key then (m : Int) else lastF d (sc d 0) key m) = _
      unfold keyAt; rw [hs]
    rw [e]
    by_cases c : rcK d (some f) = key
    · rw [if_pos c, if_pos c]
      exact Or.inr ⟨m, i, f, rfl, hx, rfl⟩
    · rw [if_neg c, if_neg c]
      exact lx_last d key hd m (by omega)
theorem grA_len (d : ByteArray) (h : d.size ≤ 300000) : (grA d).length = (sc d 0).length := by rw [← grA_sc d h, List.length_map]
/-- at the end -/
def lxA (d key : ByteArray) : Int := lx d key (grA d).length
theorem lxA_no (d key : ByteArray) (hd : d.size ≤ 300000) (h : lxA d key = -1) : lstN d key = -1 ∧ thrB d key = false := by
  rcases lx_last d key hd _ (Nat.le_refl _) with ⟨h1, _⟩ | ⟨k, i, f, _, _, h3⟩
  · have e : lstN d key = -1 := by unfold lstN; rw [← grA_len d hd]; exact h1
    refine ⟨e, ?_⟩
    unfold thrB
    rw [e]; rfl
  · unfold lxA at h; omega
theorem lxA_yes (d key : ByteArray) (hd : d.size ≤ 300000) (h : lxA d key ≠ -1) : ∃ (k i : Nat) (f : Fr), lstN d key = (k : Int) ∧ (grA d)[k]? = some (i, f) ∧ lxA d key = (i : Int) ∧ (allR d)[i]? = some f ∧ (sc d 0)[k]? = some f ∧ thrB d key = !f.gone := by
  rcases lx_last d key hd _ (Nat.le_refl _) with ⟨_, h1⟩ | ⟨k, i, f, h1, h2, h3⟩
  · exact absurd h1 h
  · have e : lstN d key = (k : Int) := by unfold lstN; rw [← grA_len d hd]; exact h1
    have hs := grA_at d hd h2
    refine ⟨k, i, f, e, h2, h3, hs.1, hs.2, ?_⟩
    unfold thrB goneAt rcG
    rw [e, Int.toNat_natCast, hs.2]
    simp
/-- compaction takes a record exactly if its index is its key's last -/
theorem take_iff (d : ByteArray) (hd : d.size ≤ 300000) {m i : Nat} {f : Fr} (hm : (grA d)[m]? = some (i, f)) : (lxA d (rcK d (some f)) = (i : Int) ∧ f.gone = false) ↔ (goneAt (sc d 0) m = false ∧ lstN d (keyAt d (sc d 0) m) = (m : Int)) := by
  have hs := (grA_at d hd hm).2
  have e1 : goneAt (sc d 0) m = f.gone := by unfold goneAt; rw [hs]; rfl
  have e2 : keyAt d (sc d 0) m = rcK d (some f) := by unfold keyAt; rw [hs]
  rw [e1, e2]
  constructor
  · rintro ⟨h1, h2⟩
    refine ⟨h2, ?_⟩
    obtain ⟨k, i', f', a1, a2, a3, _⟩ := lxA_yes d (rcK d (some f)) hd (by omega)
    have : i' = i := by omega
    subst this
    rw [a1, grA_inj d a2 hm]
  · rintro ⟨h1, h2⟩
    refine ⟨?_, h1⟩
    rcases Classical.em (lxA d (rcK d (some f)) = -1) with c | c
    · have := (lxA_no d _ hd c).1; omega
    · obtain ⟨k, i', f', a1, a2, a3, _⟩ := lxA_yes d (rcK d (some f)) hd c
      have : k = m := by omega
      subst this
      rw [hm] at a2
      cases a2
      exact a3
/-- the keys' last places, behind m of the reading -/
theorem lx_set (d : ByteArray) (nk : List ByteArray) (hn : nk.Nodup) {m i j : Nat} {f : Fr} (hm : (grA d)[m]? = some (i, f)) (hj : nk[j]? = some (rcK d (some f))) : (nk.map fun key => lx d key m).set j (i : Int) = nk.map fun key => lx d key (m + 1) := by
  apply List.ext_getElem?
  intro a
  obtain ⟨hjl, hje⟩ := List.getElem?_eq_some_iff.1 hj
  by_cases c : a = j
  · subst c
    rw [List.getElem?_set_self (by simpa using hjl), List.getElem?_map, hj, Option.map_some, lx_step d _ m i f hm, if_pos rfl]
  · rw [List.getElem?_set_ne (by omega), List.getElem?_map, List.getElem?_map]
    cases ha : nk[a]? with
    | none => rfl
    | some key =>
      rw [Option.map_some, Option.map_some, lx_step d _ m i f hm, if_neg]
      intro e
      obtain ⟨hal, hae⟩ := List.getElem?_eq_some_iff.1 ha
      exact c ((List.getElem_inj hn).1 (by rw [hae, hje, e]))
theorem lx_zero (d : ByteArray) (nk : List ByteArray) : nk.map (fun key => lx d key 0) = List.replicate nk.length (-1) := by
  induction nk with
  | nil => rfl
  | cons a l ih => rw [List.map_cons, ih]; rfl
/-- how many keys have data -/
theorem countP_one (a : ByteArray) : ∀ l : List ByteArray, l.Nodup → a ∈ l → l.countP (fun x => decide (x = a)) = 1
  | [], _, h => by cases h
  | b :: l, hn, h => by
    have hn' := List.nodup_cons.1 hn
    by_cases c : b = a
    · subst c
      have e0 : l.countP (fun x => decide (x = b)) = 0 := List.countP_eq_zero.2 fun x hx => by
        have : x ≠ b := fun e => hn'.1 (e ▸ hx)
        simpa using this
      rw [List.countP_cons_of_pos (by simp), e0]
    · rw [List.countP_cons_of_neg (by simpa using c)]
      exact countP_one a l hn'.2 (by
        rcases List.mem_cons.1 h with e | e
        · exact absurd e.symm c
        · exact e)
theorem last_key (s : ByteArray) (L : List Fr) (key : ByteArray) : ∀ m k : Nat, lastF s L key m = (k : Int) → keyAt s L k = key
  | 0, k, h => by unfold lastF at h; omega
  | m + 1, k, h => by
    unfold lastF at h
    split at h
    · rename_i c
      have : m = k := by omega
      subst this; exact c
    · exact last_key s L key m k h
theorem countP_add (p q : ByteArray → Bool) (h : ∀ x, ¬ (p x = true ∧ q x = true)) : ∀ l : List ByteArray, l.countP (fun x => p x || q x) = l.countP p + l.countP q
  | [] => rfl
  | a :: l => by
    have ih := countP_add p q h l
    have ha := h a
    cases hp : p a <;> cases hq : q a
    · rw [List.countP_cons_of_neg (by simp [hp, hq]), List.countP_cons_of_neg (by simp [hp]), List.countP_cons_of_neg (by simp [hq]), ih]
    · rw [List.countP_cons_of_pos (by simp [hp, hq]), List.countP_cons_of_neg (by simp [hp]), List.countP_cons_of_pos (by simp [hq]), ih]; omega
    · rw [List.countP_cons_of_pos (by simp [hp, hq]), List.countP_cons_of_pos (by simp [hp]), List.countP_cons_of_neg (by simp [hq]), ih]; omega
    · exact absurd ⟨hp, hq⟩ ha
theorem held_count (d : ByteArray) (nk : List ByteArray) (hn : nk.Nodup) (hk : ∀ k, k < (sc d 0).length → keyAt d (sc d 0) k ∈ nk) : nk.countP (thrB d) = hldN d := by
  have key : ∀ n, n ≤ (sc d 0).length → heldF d (sc d 0) n = nk.countP (fun x => thrB d x && decide (lstN d x < (n : Int))) := by
    intro n
    induction n with
    | zero =>
      intro _
      refine Eq.symm (List.countP_eq_zero.2 fun x _ q => ?_)
      simp only [thrB, Bool.and_eq_true, decide_eq_true_eq] at q
      omega
    | succ n ih =>
      intro hl
      have ih := ih (by omega)
      have e : nk.countP (fun x => thrB d x && decide (lstN d x < ((n + 1 : Nat) : Int))) = nk.countP (fun x => (thrB d x && decide (lstN d x < (n : Int))) || (thrB d x && decide (lstN d x = (n : Int)))) := by
        congr 1
        funext x
        cases thrB d x
        · rfl
        · simp only [Bool.true_and]
          rw [Bool.eq_iff_iff]
          simp only [Bool.or_eq_true, decide_eq_true_eq]
          omega
      rw [e, countP_add _ _ (by
        intro x q
        simp only [Bool.and_eq_true, decide_eq_true_eq] at q
        omega), ← ih]
      show heldF d (sc d 0) n + (if goneAt (sc d 0) n = false ∧ lastF d (sc d 0) (keyAt d (sc d 0) n) (sc d 0).length = (n : Int) then 1 else 0) = _
      congr 1
      by_cases c : goneAt (sc d 0) n = false ∧ lastF d (sc d 0) (keyAt d (sc d 0) n) (sc d 0).length = (n : Int)
      · rw [if_pos c, ← countP_one (keyAt d (sc d 0) n) nk hn (hk n (by omega))]
        congr 1
        funext x
        rw [Bool.eq_iff_iff]
        simp only [Bool.and_eq_true, decide_eq_true_eq]
        constructor
        · rintro rfl
          refine ⟨?_, c.2⟩
          have e2 : lstN d (keyAt d (sc d 0) n) = (n : Int) := c.2
          unfold thrB
          rw [e2, Int.toNat_natCast, c.1]
          simp
        · rintro ⟨_, q⟩
          exact (last_key d (sc d 0) x _ n q).symm
      · rw [if_neg c]
        refine Eq.symm (List.countP_eq_zero.2 fun x _ q => c ?_)
        simp only [Bool.and_eq_true, decide_eq_true_eq] at q
        obtain ⟨q1, q2⟩ := q
        have ek := last_key d (sc d 0) x _ n q2
        rw [ek]
        refine ⟨?_, q2⟩
        unfold thrB at q1
        rw [q2, Int.toNat_natCast] at q1
        simpa using q1
  have := key _ (Nat.le_refl _)
  unfold hldN
  rw [this]
  congr 1
  funext x
  have := (lstN_bd d x).2
  cases thrB d x
  · rfl
  · simp only [Bool.true_and]; exact (decide_eq_true this).symm
/-- the marks of n places from p on -/
def mks (d : ByteArray) : Nat → Nat → List Nat
  | 0, _ => []
  | n + 1, p => if byteAt d p = 231 then p :: mks d n (p + 1) else mks d n (p + 1)
theorem mks_skip (d : ByteArray) : ∀ n p q, p ≤ q → q ≤ p + n → (∀ k, p ≤ k → k < q → byteAt d k ≠ 231) → mks d n p = mks d (p + n - q) q := by
  intro n
  induction n with
  | zero =>
    intro p q h1 h2 _
    obtain rfl : p = q := by omega
    rw [show p + 0 - p = 0 by omega]
  | succ n ih =>
    intro p q h1 h2 hb
    by_cases c : p = q
    · subst c; rw [show p + (n + 1) - p = n + 1 by omega]
    · simp only [mks]
      rw [if_neg (hb p (by omega) (by omega)), ih (p + 1) q (by omega) (by omega) (fun k a b => hb k (by omega) b)]
      congr 1
      omega
theorem mks_hit (d : ByteArray) (n p : Nat) (hn : 0 < n) (h : byteAt d p = 231) : mks d n p = p :: mks d (n - 1) (p + 1) := by
  obtain ⟨m, rfl⟩ : ∃ m, n = m + 1 := ⟨n - 1, by omega⟩
  simp only [mks]
  rw [if_pos h]
  rfl
theorem mk_run (d : ByteArray) (k : Nat) : ∀ n p, p + n ≤ d.size → (∀ r, (sc d 0)[k]? = some r → p + n ≤ r.at') → mkF d p k = mks d n p ++ mkF d (p + n) k := by
  intro n
  induction n with
  | zero => intro p _ _; rfl
  | succ n ih =>
    intro p h1 h2
    rw [mk_step d (by omega) (fun r hr => by have := h2 r hr; omega), ih (p + 1) (by omega) (fun r hr => by have := h2 r hr; omega)]
    simp only [mks]
    rw [show p + 1 + n = p + (n + 1) by omega]
    split
    · rfl
    · rfl
theorem mk_span (d : ByteArray) {p k : Nat} {r : Fr} (hk : (sc d 0)[k]? = some r) (hp : p ≤ r.at') : mkF d p k = mks d (r.at' - p) p ++ mkF d r.next (k + 1) := by
  have hr := ((chn_sc d 0).drop k r hk).1
  have hin := getRec_in d r.at' r hr
  rw [mk_run d k (r.at' - p) p (by omega) (fun x hx => by rw [hk] at hx; cases hx; omega), show p + (r.at' - p) = r.at' by omega, mk_rec d (by omega) hk rfl]
theorem mk_tail (d : ByteArray) {p k : Nat} (hk : (sc d 0)[k]? = none) (hp : p ≤ d.size) : mkF d p k = mks d (d.size - p) p := by
  rw [mk_run d k (d.size - p) p (by omega) (fun x hx => by rw [hk] at hx; cases hx), show p + (d.size - p) = d.size by omega, mk_end d (Nat.le_refl _), List.append_nil]
/-- what is told from M, behind A -/
def tellN (A : List ByteArray) (M : List Nat) : List ByteArray := A ++ (M.take (100 - A.length)).map decB
theorem tell_app (A : List ByteArray) (M N : List Nat) : tellN (tellN A M) N = tellN A (M ++ N) := by
  unfold tellN
  rw [List.append_assoc, List.take_append, List.map_append]
  congr 3
  rw [List.length_append, List.length_map, List.length_take]
  congr 1
  omega
theorem tell_nil (A : List ByteArray) : tellN A [] = A := by unfold tellN; simp
theorem tell_scr (d : ByteArray) : tellN [] (mkF d 0 0) = scrN d := by unfold tellN scrN mkF; simp
/-- compaction that takes all takes it as it is -/
theorem cmp_all (d : ByteArray) : ∀ k, k ≤ (sc d 0).length → (cmpN d k).size = endN (sc d 0) k → cmpN d k = d.extract 0 (endN (sc d 0) k)
  | 0, _, _ => by
    show ByteArray.empty = d.extract 0 0
    apply ba_ext
    rw [ex_data]; rfl
  | k + 1, hk, he => by
    have ends := (chn_sc d 0).ends k (by omega)
    have sz := cmp_size d k (by omega)
    obtain ⟨f, hf⟩ : ∃ f, (sc d 0)[k]? = some f := ⟨(sc d 0)[k], List.getElem?_eq_getElem (by omega)⟩
    have e : endN (sc d 0) (k + 1) = f.next := by show (match (sc d 0)[k]? with | some f => f.next | none => endN (sc d 0) k) = _; rw [hf]
    obtain ⟨a1, a2, a3⟩ := ends.2 f hf
    rw [e] at he ⊢
    by_cases c : goneAt (sc d 0) k = false ∧ lstN d (keyAt d (sc d 0) k) = (k : Int)
    · have g0 : f.gone = false := by have := c.1; unfold goneAt rcG at this; rw [hf] at this; exact this
      have r := rec_ext ((chn_sc d 0).drop k f hf).1
      rw [g0] at r
      have ek : keyAt d (sc d 0) k = rcK d (some f) := by unfold keyAt; rw [hf]
      rw [cmp_take d k c, ek, hf, r.2.1] at he ⊢
      rw [ByteArray.size_append, ex_size d _ _ a3] at he
      have ha : endN (sc d 0) k = f.at' := by omega
      rw [cmp_all d k (by omega) (by omega), ha, ex_join d 0 f.at' f.next (by omega) (by omega)]
    · rw [cmp_pass d k c] at he
      omega
theorem ex_all (d : ByteArray) : d.extract 0 d.size = d := by
  apply ba_ext
  rw [ex_data, List.drop_zero, List.take_of_length_le (by rw [bsz]; omega)]
theorem cmp_full (d : ByteArray) (h : ¬ (cmpN d (sc d 0).length).size < d.size) : cmpN d (sc d 0).length = d := by
  have h1 := cmp_size d _ (Nat.le_refl (sc d 0).length)
  have h2 := ((chn_sc d 0).ends _ (Nat.le_refl (sc d 0).length)).1
  have e : endN (sc d 0) (sc d 0).length = d.size := by omega
  rw [cmp_all d _ (Nat.le_refl _) (by omega), e, ex_all]
end Go.Proofs.YtngkiokibldfjaaGreatDoor
