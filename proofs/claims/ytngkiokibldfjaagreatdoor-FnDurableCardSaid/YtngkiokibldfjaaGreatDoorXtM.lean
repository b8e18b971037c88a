import Derived.Test.YtngkiokibldfjaaGreatDoorPQ
namespace Go.Proofs.YtngkiokibldfjaaGreatDoor
open Go.RowKit
set_option linter.unusedVariables false
/-! What is read of an extent, by its records as plain things; what compaction leaves. -/
abbrev Trp := ByteArray × Bool × ByteArray
def trp (s : ByteArray) (f : Fr) : Trp := (rcK s (some f), f.gone, rcD s (some f))
def trps (s : ByteArray) (p : Nat) : List Trp := (sc s p).map (trp s)
/-- what a key has, by records in their order -/
def getT : List Trp → ByteArray → Option ByteArray → Option ByteArray
  | [], _, a => a
  | t :: T, key, a => getT T key (if t.1 = key then (if t.2.1 then none else some t.2.2) else a)
theorem getT_app : ∀ (S T : List Trp) (key : ByteArray) (a : Option ByteArray), getT (S ++ T) key a = getT T key (getT S key a)
  | [], _, _, _ => rfl
  | t :: S, T, key, a => getT_app S T key _
/-- what is read of a key -/
def rdX (d key : ByteArray) : Option ByteArray := if thrB d key then some (datN d key) else none
def lstT (s : ByteArray) (L : List Fr) (j : Int) : Option ByteArray := if 0 ≤ j ∧ goneAt L j.toNat = false then some (rcD s L[j.toNat]?) else none
theorem getT_last (s : ByteArray) (L : List Fr) (key : ByteArray) : ∀ k, k ≤ L.length → getT ((L.take k).map (trp s)) key none = lstT s L (lastF s L key k)
  | 0, _ => by simp [getT, lastF, lstT]
  | k + 1, hk => by
    have ih := getT_last s L key k (by omega)
    have hlt : k < L.length := by omega
    have e : L.take (k + 1) = L.take k ++ [L[k]] := by rw [List.take_add_one, List.getElem?_eq_getElem hlt]; rfl
    have ek : L[k]? = some L[k] := List.getElem?_eq_getElem hlt
    rw [e, List.map_append, getT_app, ih]
    show (if rcK s (some L[k]) = key then (if L[k].gone then none else some (rcD s (some L[k]))) else lstT s L (lastF s L key k)) = _
    have e1 : keyAt s L k = rcK s (some L[k]) := by unfold keyAt; rw [ek]
    have e2 : goneAt L k = L[k].gone := by unfold goneAt; rw [ek]; rfl
    rw [show lastF s L key (k + 1) = if keyAt s L k = key then (k : Int) else lastF s L key k from rfl, e1]
    by_cases c : rcK s (some L[k]) = key
    · rw [if_pos c, if_pos c]
      unfold lstT
      rw [Int.toNat_natCast, e2, ek]
      cases L[k].gone <;> simp
    · rw [if_neg c, if_neg c]
theorem rd_trps (d key : ByteArray) : rdX d key = getT (trps d 0) key none := by
  have h := getT_last d (sc d 0) key (sc d 0).length (Nat.le_refl _)
  rw [List.take_length] at h
  unfold trps
  rw [h]
  unfold rdX thrB datN lstT lstN
  by_cases c : 0 ≤ lastF d (sc d 0) key (sc d 0).length
  · cases hg : goneAt (sc d 0) (lastF d (sc d 0) key (sc d 0).length).toNat <;> simp [c]
  · simp [c]
/-- records one behind the other, as bytes -/
def catT : List Trp → List UInt8
  | [] => []
  | t :: T => (recV t.1 t.2.1 t.2.2).data.toList ++ catT T
theorem catT_app : ∀ S T : List Trp, catT (S ++ T) = catT S ++ catT T
  | [], _ => rfl
  | t :: S, T => by
    show _ ++ catT (S ++ T) = (_ ++ catT S) ++ catT T
    rw [catT_app S T, List.append_assoc]
def OkT (T : List Trp) : Prop := ∀ t ∈ T, RecOk t.1 t.2.1 t.2.2
theorem recV_ge (k : ByteArray) (g : Bool) (d : ByteArray) (h : RecOk k g d) : 9 ≤ (recV k g d).size := by
  have hv : recV k g d = recT k g d ++ four (sumOf (recT k g d) 5) := if_pos h
  have e : (recT k g d).size = 1 + (putText k).size + 1 + (putText d).size := by
    unfold recT
    simp only [ByteArray.size_append]
    cases g <;> rfl
  obtain ⟨h1, h2, h3, h4⟩ := h
  have pk : (putText k).size = (putNum k.size).size + k.size := by unfold putText; rw [if_neg (show ¬ 100000 < k.size by omega), ByteArray.size_append]
  have pd : (putText d).size = (putNum d.size).size + d.size := by unfold putText; rw [if_neg (show ¬ 100000 < d.size by omega), ByteArray.size_append]
  have pn : ∀ n : Nat, n < 2097152 → 1 ≤ (putNum n).size := by
    intro n h
    unfold putNum
    rw [if_neg (by omega), strOfNums_size, Int.toNat_natCast]
    by_cases h1 : n < 128
    · rw [putL_small 8 n h1]; simp
    · rw [putL_big 7 n (by omega)]; simp
  have := pn k.size (by omega)
  have := pn d.size (by omega)
  rw [hv, ByteArray.size_append, four_size, e, pk, pd]
  omega
/-- a record's place in a text that goes on with it -/
theorem at_cat {s : ByteArray} {p : Nat} {t : Trp} {R : List UInt8} (hp : p ≤ s.size) (ok : RecOk t.1 t.2.1 t.2.2) (h : s.data.toList.drop p = (recV t.1 t.2.1 t.2.2).data.toList ++ R) :
    ∃ f : Fr, getRec s (p : Nat) = some f ∧ trp s f = t ∧ f.at' = p ∧ f.next = p + (recV t.1 t.2.1 t.2.2).size ∧ s.data.toList.drop f.next = R ∧ p < s.size ∧ f.next ≤ s.size := by
  have hl : (s.data.toList.take p).length = p := by rw [List.length_take, bsz]; omega
  have hs : s.data.toList = s.data.toList.take p ++ (recV t.1 t.2.1 t.2.2).data.toList ++ R := by rw [List.append_assoc, ← h, List.take_append_drop]
  have P := rec_put2 s t.1 t.2.2 t.2.1 _ _ ok hs
  rw [hl] at P
  obtain ⟨p1, p2, p3, p4⟩ := P
  have hz := recV_ge _ _ _ ok
  have len : s.size = p + (recV t.1 t.2.1 t.2.2).size + R.length := by
    have := congrArg List.length hs
    rw [List.length_append, List.length_append, hl, bsz, bsz] at this
    exact this
  refine ⟨_, p1, ?_, rfl, p4, ?_, by omega, by rw [p4]; omega⟩
  · obtain ⟨k, g, dt⟩ := t
    show (s.extract _ _, _, s.extract _ _) = _
    exact Prod.ext p2 (Prod.ext rfl p3)
  · rw [p4, ← List.drop_drop, h, List.drop_left' (bsz _)]
theorem scan_cat : ∀ (T : List Trp) (s : ByteArray) (p : Nat) (R : List UInt8), p ≤ s.size → OkT T → s.data.toList.drop p = catT T ++ R →
    trps s p = T ++ trps s (p + (catT T).length)
  | [], s, p, R, hp, ok, h => by simp [catT]
  | t :: T, s, p, R, hp, ok, h => by
    obtain ⟨f, h1, h2, h3, h4, h5, h6, h7⟩ := at_cat (t := t) (R := catT T ++ R) hp (ok t (by simp)) (by rw [h]; simp [catT])
    have ih := scan_cat T s f.next R h7 (fun x hx => ok x (by simp [hx])) h5
    have e : p + (catT (t :: T)).length = f.next + (catT T).length := by
      rw [h4]
      show p + ((recV t.1 t.2.1 t.2.2).data.toList ++ catT T).length = _
      rw [List.length_append, bsz]
      omega
    rw [e]
    unfold trps
    rw [sc_some s p h6 f h1, List.map_cons, h2]
    have ih' : List.map (trp s) (sc s f.next) = _ := ih
    rw [ih']
    rfl
theorem scan_all (T : List Trp) (s : ByteArray) (ok : OkT T) (h : s.data.toList = catT T) : trps s 0 = T := by
  have := scan_cat T s 0 [] (Nat.zero_le _) ok (by simpa using h)
  rw [this]
  have e : s.size ≤ 0 + (catT T).length := by rw [← h, bsz]; omega
  unfold trps
  rw [sc_end s _ e]
  simp
/-- between records that stand one behind the other nothing is told -/
theorem mrk_cat : ∀ (T : List Trp) (s : ByteArray) (p n : Nat), p ≤ s.size → OkT T → s.data.toList.drop p = catT T → s.size < p + n → mrkN s n p (sc s p) = []
  | [], s, p, n, hp, ok, h, hn => by
    have : s.size ≤ p := by
      have := congrArg List.length h
      rw [List.length_drop, bsz] at this
      have e : (catT []).length = 0 := rfl
      omega
    exact mrk_e s n p _ this
  | t :: T, s, p, n, hp, ok, h, hn => by
    obtain ⟨f, h1, h2, h3, h4, h5, h6, h7⟩ := at_cat (t := t) (R := catT T) hp (ok t (by simp)) (by rw [h]; simp [catT])
    have hz := recV_ge _ _ _ (ok t (by simp))
    cases n with
    | zero => omega
    | succ n =>
      rw [sc_some s p h6 f h1, mrk_c s n p f _ (by omega), if_pos h3.symm]
      exact mrk_cat T s f.next n h7 (fun x hx => ok x (by simp [hx])) h5 (by omega)
/-- what compaction keeps of the first k records -/
def keptT (d : ByteArray) : Nat → List Trp
  | 0 => []
  | k + 1 => if goneAt (sc d 0) k = false ∧ lstN d (keyAt d (sc d 0) k) = (k : Int) then keptT d k ++ [(keyAt d (sc d 0) k, false, rcD d (sc d 0)[k]?)] else keptT d k
theorem kept_cat (d : ByteArray) : ∀ k, (cmpN d k).data.toList = catT (keptT d k)
  | 0 => rfl
  | k + 1 => by
    unfold cmpN keptT
    split
    · rw [ba_app, kept_cat d k, catT_app]
      show _ = _ ++ ((recV _ false _).data.toList ++ [])
      rw [List.append_nil]
    · exact kept_cat d k
theorem kept_ok (d : ByteArray) : ∀ k, k ≤ (sc d 0).length → OkT (keptT d k)
  | 0, _ => fun t ht => by cases ht
  | k + 1, hk => by
    have ih := kept_ok d k (by omega)
    unfold keptT
    split
    · rename_i c
      intro t ht
      rcases List.mem_append.1 ht with ht | ht
      · exact ih t ht
      · rw [List.mem_singleton] at ht
        subst ht
        obtain ⟨f, hf⟩ : ∃ f, (sc d 0)[k]? = some f := ⟨(sc d 0)[k], List.getElem?_eq_getElem (by omega)⟩
        have r := (rec_ext ((chn_sc d 0).drop k f hf).1).1
        have g0 : f.gone = false := by have := c.1; unfold goneAt rcG at this; rw [hf] at this; exact this
        rw [g0] at r
        have ek : keyAt d (sc d 0) k = rcK d (some f) := by unfold keyAt; rw [hf]
        show RecOk (keyAt d (sc d 0) k) false (rcD d (sc d 0)[k]?)
        rw [ek, hf]
        exact r
    · exact ih
theorem kept_get (d key : ByteArray) : ∀ k, k ≤ (sc d 0).length → getT (keptT d k) key none = if lstN d key < (k : Int) then lstT d (sc d 0) (lstN d key) else none
  | 0, _ => by
    have e : lstT d (sc d 0) (lstN d key) = none ∨ ¬ lstN d key < ((0 : Nat) : Int) := by
      by_cases c : 0 ≤ lstN d key
      · exact .inr (by omega)
      · left; unfold lstT; rw [if_neg (fun h => c h.1)]
    show none = _
    rcases e with e | e
    · rw [e]; simp
    · rw [if_neg e]
  | k + 1, hk => by
    have ih := kept_get d key k (by omega)
    unfold keptT
    by_cases c : goneAt (sc d 0) k = false ∧ lstN d (keyAt d (sc d 0) k) = (k : Int)
    · rw [if_pos c, getT_app]
      show (if keyAt d (sc d 0) k = key then some (rcD d (sc d 0)[k]?) else getT (keptT d k) key none) = _
      by_cases e : keyAt d (sc d 0) k = key
      · have hl := c.2
        rw [e] at hl
        rw [if_pos e, hl, if_pos (by omega)]
        unfold lstT
        rw [if_pos ⟨by omega, by rw [Int.toNat_natCast]; exact c.1⟩, Int.toNat_natCast]
      · rw [if_neg e, ih]
        have hne : lstN d key ≠ (k : Int) := fun h => e (last_key d (sc d 0) key _ k h)
        by_cases q : lstN d key < (k : Int)
        · rw [if_pos q, if_pos (by omega)]
        · rw [if_neg q, if_neg (by omega)]
    · rw [if_neg c, ih]
      by_cases hl : lstN d key = (k : Int)
      · have e := last_key d (sc d 0) key _ k hl
        have hg : ¬ goneAt (sc d 0) k = false := fun g => c ⟨g, by rw [e]; exact hl⟩
        rw [if_neg (by omega), if_pos (by omega)]
        unfold lstT
        rw [hl, Int.toNat_natCast, if_neg (fun h => hg h.2)]
      · by_cases q : lstN d key < (k : Int)
        · rw [if_pos q, if_pos (by omega)]
        · rw [if_neg q, if_neg (by omega)]
/-- COMPACTION CHANGES NO READ -/
theorem cmp_rd (d key : ByteArray) : rdX (cmpN d (sc d 0).length) key = rdX d key := by
  rw [rd_trps, scan_all (keptT d (sc d 0).length) _ (kept_ok d _ (Nat.le_refl _)) (kept_cat d _), kept_get d key _ (Nat.le_refl _), if_pos (lstN_bd d key).2]
  unfold rdX thrB datN lstT
  by_cases c : 0 ≤ lstN d key
  · cases hg : goneAt (sc d 0) (lstN d key).toNat <;> simp [c]
  · simp [c]
theorem cmp_scr (d : ByteArray) : scrN (cmpN d (sc d 0).length) = [] := by
  unfold scrN
  rw [mrk_cat (keptT d (sc d 0).length) _ 0 _ (Nat.zero_le _) (kept_ok d _ (Nat.le_refl _)) (by rw [List.drop_zero]; exact kept_cat d _) (by omega)]
  rfl
/-- each record has at least nine bytes -/
theorem scan_nine (s : ByteArray) : ∀ n p, 9 * (scanN s n p).length ≤ s.size - p
  | 0, p => by simp [scanN]
  | n + 1, p => by
    rw [scanN]
    by_cases c : s.size ≤ p
    · rw [if_pos c]; simp
    · rw [if_neg c]
      cases hr : getRec s (p : Nat) with
      | none => have := scan_nine s n (p + 1); simp only; omega
      | some r =>
        have := scan_nine s n r.next
        have hin := getRec_in s p r hr
        have ex := rec_ext hr
        have ge := recV_ge _ _ _ ex.1
        rw [ex.2.1, ex_size s _ _ hin.2.2.1] at ge
        simp only [List.length_cons]
        omega
theorem sc_nine (s : ByteArray) : 9 * (sc s 0).length ≤ s.size := by have := scan_nine s (s.size + 1) 0; unfold sc; omega
end Go.Proofs.YtngkiokibldfjaaGreatDoor
