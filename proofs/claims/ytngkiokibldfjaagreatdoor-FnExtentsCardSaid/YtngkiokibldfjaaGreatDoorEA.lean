import Derived.Test.YtngkiokibldfjaaGreatDoorPQ
namespace Go.Proofs.YtngkiokibldfjaaGreatDoor
open Go.RowKit
set_option linter.unusedVariables false
/-! What is read of an extent, by its records as plain things; what compaction leaves. -/
abbrev Trp := ByteArray × Bool × ByteArray
def trp (s : ByteArray) (f : Fr) : Trp := (rcK s (some f), f.gone, rcD s (some f))
def trps (s : ByteArray) (p : Nat) : List Trp := (sc s p).map (trp s)
/-- what a key has, by records in their order -/
def getT : List Trp → ByteArray → Option ByteArray → Option ByteArray
  | [], _, a => a
  | t :: T, key, a => getT T key (if t.1 = key then (if t.2.1 then none else some t.2.2) else a)
theorem getT_app : ∀ (S T : List Trp) (key : ByteArray) (a : Option ByteArray), getT (S ++ T) key a = getT T key (getT S key a)
  | [], _, _, _ => rfl
  | t :: S, T, key, a => getT_app S T key _
/-- what is read of a key -/
def rdX (d key : ByteArray) : Option ByteArray := if thrB d key then some (datN d key) else none
def lstT (s : ByteArray) (L : List Fr) (j : Int) : Option ByteArray := if 0 ≤ j ∧ goneAt L j.toNat = false then some (rcD s L[j.toNat]?) else none
theorem getT_last (s : ByteArray) (L : List Fr) (key : ByteArray) : ∀ k, k ≤ L.length → getT ((L.take k).map (trp s)) key none = lstT s L (lastF s L key k)
  | 0, _ => by simp [getT, lastF, lstT]
  | k + 1, hk => by
    have ih := getT_last s L key k (by omega)
    have hlt : k < L.length := by omega
    have e : L.take (k + 1) = L.take k ++ [L[k]] := by rw [List.take_add_one, List.getElem?_eq_getElem hlt]; rfl
    have ek : L[k]? = some L[k] := List.getElem?_eq_getElem hlt
    rw [e, List.map_append, getT_app, ih]
    show (if rcK s (some L[k]) = key then (if L[k].gone then none else some (rcD s (some L[k]))) else lstT s L (lastF s L key k)) = _
    have e1 : keyAt s L k = rcK s (some L[k]) := by unfold keyAt; rw [ek]
    have e2 : goneAt L k = L[k].gone := by unfold goneAt; rw [ek]; rfl
    rw [show lastF s L key (k + 1) = if keyAt s L k = key then (k : Int) else lastF s L key k from rfl, e1]
    by_cases c : rcK s (some L[k]) = key
    · rw [if_pos c, if_pos c]
      unfold lstT
      rw [Int.toNat_natCast, e2, ek]
      cases L[k].gone <;> simp
    · rw [if_neg c, if_neg c]
theorem rd_trps (d key : ByteArray) : rdX d key = getT (trps d 0) key none := by
  have h := getT_last d (sc d 0) key (sc d 0).length (Nat.le_refl _)
  rw [List.take_length] at h
  unfold trps
  rw [h]
  unfold rdX thrB datN lstT lstN
  by_cases c : 0 ≤ lastF d (sc d 0) key (sc d 0).length
  · cases hg : goneAt (sc d 0) (lastF d (sc d 0) key (sc d 0).length).toNat <;> simp [c]
  · simp [c]
/-- records one behind the other, as bytes -/
def catT : List Trp → List UInt8
  | [] => []
  | t :: T => (recV t.1 t.2.1 t.2.2).data.toList ++ catT T
theorem catT_app : ∀ S T : List Trp, catT (S ++ T) = catT S ++ catT T
  | [], _ => rfl
  | t :: S, T => by
    show _ ++ catT (S ++ T) = (_ ++ catT S) ++ catT T
    rw [catT_app S T, List.append_assoc]
def OkT (T : List Trp) : Prop := ∀ t ∈ T, RecOk t.1 t.2.1 t.2.2
theorem recV_ge (k : ByteArray) (g : Bool) (d : ByteArray) (h : RecOk k g d) : 9 ≤ (recV k g d).size := by
  have hv : recV k g d = recT k g d ++ four (sumOf (recT k g d) 5) := if_pos h
  have e : (recT k g d).size = 1 + (putText k).size + 1 + (putText d).size := by
    unfold recT
    simp only [ByteArray.size_append]
    cases g <;> rfl
  obtain ⟨h1, h2, h3, h4⟩ := h
  have pk : (putText k).size = (putNum k.size).size + k.size := by unfold putText; rw [if_neg (show ¬ 100000 < k.size by omega), ByteArray.size_append]
  have pd : (putText d).size = (putNum d.size).size + d.size := by unfold putText; rw [if_neg (show ¬ 100000 < d.size by omega), ByteArray.size_append]
  have pn : ∀ n : Nat, n < 2097152 → 1 ≤ (putNum n).size := by
    intro n h
    unfold putNum
    rw [if_neg (by omega), strOfNums_size, Int.toNat_natCast]
    by_cases h1 : n < 128
    · rw [putL_small 8 n h1]; simp
    · rw [putL_big 7 n (by omega)]; simp
  have := pn k.size (by omega)
  have := pn d.size (by omega)
  rw [hv, ByteArray.size_append, four_size, e, pk, pd]
  omega
/-- a record's place in a text that goes on with it -/
theorem at_cat {s : ByteArray} {p : Nat} {t : Trp} {R : List UInt8} (hp : p ≤ s.size) (ok : RecOk t.1 t.2.1 t.2.2) (h : s.data.toList.drop p = (recV t.1 t.2.1 t.2.2).data.toList ++ R) :
    ∃ f : Fr, getRec s (p : Nat) = some f ∧ trp s f = t ∧ f.at' = p ∧ f.next = p + (recV t.1 t.2.1 t.2.2).size ∧ s.data.toList.drop f.next = R ∧ p < s.size ∧ f.next ≤ s.size := by
  have hl : (s.data.toList.take p).length = p := by rw [List.length_take, bsz]; omega
  have hs : s.data.toList = s.data.toList.take p ++ (recV t.1 t.2.1 t.2.2).data.toList ++ R := by rw [List.append_assoc, ← h, List.take_append_drop]
  have P := rec_put2 s t.1 t.2.2 t.2.1 _ _ ok hs
  rw [hl] at P
  obtain ⟨p1, p2, p3, p4⟩ := P
  have hz := recV_ge _ _ _ ok
  have len : s.size = p + (recV t.1 t.2.1 t.2.2).size + R.length := by
    have := congrArg List.length hs
    rw [List.length_append, List.length_append, hl, bsz, bsz] at this
    exact this
  refine ⟨_, p1, ?_, rfl, p4, ?_, by omega, by rw [p4]; omega⟩
  · obtain ⟨k, g, dt⟩ := t
    show (s.extract _ _, _, s.extract _ _) = _
    exact Prod.ext p2 (Prod.ext rfl p3)
  · rw [p4, ← List.drop_drop, h, List.drop_left' (bsz _)]
theorem scan_cat : ∀ (T : List Trp) (s : ByteArray) (p : Nat) (R : List UInt8), p ≤ s.size → OkT T → s.data.toList.drop p = catT T ++ R →
    trps s p = T ++ trps s (p + (catT T).length)
  | [], s, p, R, hp, ok, h => by simp [catT]
  | t :: T, s, p, R, hp, ok, h => by
    obtain ⟨f, h1, h2, h3, h4, h5, h6, h7⟩ := at_cat (t := t) (R := catT T ++ R) hp (ok t (by simp)) (by rw [h]; simp [catT])
    have ih := scan_cat T s f.next R h7 (fun x hx => ok x (by simp [hx])) h5
    have e : p + (catT (t :: T)).length = f.next + (catT T).length := by
      rw [h4]
      show p + ((recV t.1 t.2.1 t.2.2).data.toList ++ catT T).length = _
      rw [List.length_append, bsz]
      omega
    rw [e]
    unfold trps
    rw [sc_some s p h6 f h1, List.map_cons, h2]
    have ih' : List.map (trp s) (sc s f.next) = _ := ih
    rw [ih']
    rfl
theorem scan_all (T : List Trp) (s : ByteArray) (ok : OkT T) (h : s.data.toList = catT T) : trps s 0 = T := by
  have := scan_cat T s 0 [] (Nat.zero_le _) ok (by simpa using h)
  rw [this]
  have e : s.size ≤ 0 + (catT T).length := by rw [← h, bsz]; omega
  unfold trps
  rw [sc_end s _ e]
  simp
/-- between records that stand one behind the other nothing is told -/
theorem mrk_cat : ∀ (T : List Trp) (s : ByteArray) (p n : Nat), p ≤ s.size → OkT T → s.data.toList.drop p = catT T → s.size < p + n → mrkN s n p (sc s p) = []
  | [], s, p, n, hp, ok, h, hn => by
    have : s.size ≤ p := by
      have := congrArg List.length h
      rw [List.length_drop, bsz] at this
      have e : (catT []).length = 0 := rfl
      omega
    exact mrk_e s n p _ this
  | t :: T, s, p, n, hp, ok, h, hn => by
    obtain ⟨f, h1, h2, h3, h4, h5, h6, h7⟩ := at_cat (t := t) (R := catT T) hp (ok t (by simp)) (by rw [h]; simp [catT])
    have hz := recV_ge _ _ _ (ok t (by simp))
    cases n with
    | zero => omega
    | succ n =>
      rw [sc_some s p h6 f h1, mrk_c s n p f _ (by omega), if_pos h3.symm]
      exact mrk_cat T s f.next n h7 (fun x hx => ok x (by simp [hx])) h5 (by omega)
/-- what compaction keeps of the first k records -/
def keptT (d : ByteArray) : Nat → List Trp
  | 0 => []
  | k + 1 => if goneAt (sc d 0) k = false ∧ lstN d (keyAt d (sc d 0) k) = (k : Int) then keptT d k ++ [(keyAt d (sc d 0) k, false, rcD d (sc d 0)[k]?)] else keptT d k
theorem kept_cat (d : ByteArray) : ∀ k, (cmpN d k).data.toList = catT (keptT d k)
  | 0 => rfl
  | k + 1 => by
    unfold cmpN keptT
    split
    · rw [ba_app, kept_cat d k, catT_app]
      show _ = _ ++ ((recV _ false _).data.toList ++ [])
      rw [List.append_nil]
    · exact kept_cat d k
theorem kept_ok (d : ByteArray) : ∀ k, k ≤ (sc d 0).length → OkT (keptT d k)
  | 0, _ => fun t ht => by cases ht
  | k + 1, hk => by
    have ih := kept_ok d k (by omega)
    unfold keptT
    split
    · rename_i c
      intro t ht
      rcases List.mem_append.1 ht with ht | ht
      · exact ih t ht
      · rw [List.mem_singleton] at ht
        subst ht
        obtain ⟨f, hf⟩ : ∃ f, (sc d 0)[k]? = some f := ⟨(sc d 0)[k], List.getElem?_eq_getElem (by omega)⟩
        have r := (rec_ext ((chn_sc d 0).drop k f hf).1).1
        have g0 : f.gone = false := by have := c.1; unfold goneAt rcG at this; rw [hf] at this; exact this
        rw [g0] at r
        have ek : keyAt d (sc d 0) k = rcK d (some f) := by unfold keyAt; rw [hf]
        show RecOk (keyAt d (sc d 0) k) false (rcD d (sc d 0)[k]?)
        rw [ek, hf]
        exact r
    · exact ih
theorem kept_get (d key : ByteArray) : ∀ k, k ≤ (sc d 0).length → getT (keptT d k) key none = if lstN d key < (k : Int) then lstT d (sc d 0) (lstN d key) else none
  | 0, _ => by
    have e : lstT d (sc d 0) (lstN d key) = none ∨ ¬ lstN d key < ((0 : Nat) : Int) := by
      by_cases c : 0 ≤ lstN d key
      · exact .inr (by omega)
      · left; unfold lstT; rw [if_neg (fun h => c h.1)]
    show none = _
    rcases e with e | e
    · rw [e]; simp
    · rw [if_neg e]
  | k + 1, hk => by
    have ih := kept_get d key k (by omega)
    unfold keptT
    by_cases c : goneAt (sc d 0) k = false ∧ lstN d (keyAt d (sc d 0) k) = (k : Int)
    · rw [if_pos c, getT_app]
      show (if keyAt d (sc d 0) k = key then some (rcD d (sc d 0)[k]?) else getT (keptT d k) key none) = _
      by_cases e : keyAt d (sc d 0) k = key
      · have hl := c.2
        rw [e] at hl
        rw [if_pos e, hl, if_pos (by omega)]
        unfold lstT
        rw [if_pos ⟨by omega, by rw [Int.toNat_natCast]; exact c.1⟩, Int.toNat_natCast]
      · rw [if_neg e, ih]
        have hne : lstN d key ≠ (k : Int) := fun h => e (last_key d (sc d 0) key _ k h)
        by_cases q : lstN d key < (k : Int)
        · rw [if_pos q, if_pos (by omega)]
        · rw [if_neg q, if_neg (by omega)]
    · rw [if_neg c, ih]
      by_cases hl : lstN d key = (k : Int)
      · have e := last_key d (sc d 0) key _ k hl
        have hg : ¬ goneAt (sc d 0) k = false := fun g => c ⟨g, by rw [e]; exact hl⟩
        rw [if_neg (by omega), if_pos (by omega)]
        unfold lstT
        rw [hl, Int.toNat_natCast, if_neg (fun h => hg h.2)]
      · by_cases q : lstN d key < (k : Int)
        · rw [if_pos q, if_pos (by omega)]
        · rw [if_neg q, if_neg (by omega)]
/-- COMPACTION CHANGES NO READ -/
theorem cmp_rd (d key : ByteArray) : rdX (cmpN d (sc d 0).length) key = rdX d key := by
  rw [rd_trps, scan_all (keptT d (sc d 0).length) _ (kept_ok d _ (Nat.le_refl _)) (kept_cat d _), kept_get d key _ (Nat.le_refl _), if_pos (lstN_bd d key).2]
  unfold rdX thrB datN lstT
  by_cases c : 0 ≤ lstN d key
  · cases hg : goneAt (sc d 0) (lstN d key).toNat <;> simp [c]
  · simp [c]
theorem cmp_scr (d : ByteArray) : scrN (cmpN d (sc d 0).length) = [] := by
  unfold scrN
  rw [mrk_cat (keptT d (sc d 0).length) _ 0 _ (Nat.zero_le _) (kept_ok d _ (Nat.le_refl _)) (by rw [List.drop_zero]; exact kept_cat d _) (by omega)]
  rfl
/-- each record has at least nine bytes -/
theorem scan_nine (s : ByteArray) : ∀ n p, 9 * (scanN s n p).length ≤ s.size - p
  | 0, p => by simp [scanN]
  | n + 1, p => by
    rw [scanN]
    by_cases c : s.size ≤ p
    · rw [if_pos c]; simp
    · rw [if_neg c]
      cases hr : getRec s (p : Nat) with
      | none => have := scan_nine s n (p + 1); simp only; omega
      | some r =>
        have := scan_nine s n r.next
        have hin := getRec_in s p r hr
        have ex := rec_ext hr
        have ge := recV_ge _ _ _ ex.1
        rw [ex.2.1, ex_size s _ _ hin.2.2.1] at ge
        simp only [List.length_cons]
        omega
theorem sc_nine (s : ByteArray) : 9 * (sc s 0).length ≤ s.size := by have := scan_nine s (s.size + 1) 0; unfold sc; omega
end Go.Proofs.YtngkiokibldfjaaGreatDoor
namespace Go.Proofs.YtngkiokibldfjaaGreatDoor
open Go.RowKit
set_option linter.unusedVariables false
/-! Puts, a sync, puts, a crash, reads: the mathematics of FnDurable. -/
def opZ : Op := ⟨0, ⟨#[]⟩, ⟨#[]⟩, 0, 0, 0⟩
def opPut (k v : ByteArray) : Op := ⟨1, k, v, 0, 0, 0⟩
def opSy : Op := ⟨3, ⟨#[]⟩, ⟨#[]⟩, 0, 0, 0⟩
def opCr (kp : Int) : Op := ⟨4, ⟨#[]⟩, ⟨#[]⟩, kp, 0, 0⟩
def opRd (k : ByteArray) : Op := ⟨6, k, ⟨#[]⟩, 0, 0, 0⟩
def xF (d : ByteArray) (sy : Nat) (L : List Op) : (ByteArray × Nat) × List XOt := L.foldl (fun s o => ((xDo s.1.1 s.1.2 o).1, s.2 ++ [(xDo s.1.1 s.1.2 o).2])) ((d, sy), [])
theorem xF_snoc (d : ByteArray) (sy : Nat) (L : List Op) (o : Op) : xF d sy (L ++ [o]) = ((xDo (xF d sy L).1.1 (xF d sy L).1.2 o).1, (xF d sy L).2 ++ [(xDo (xF d sy L).1.1 (xF d sy L).1.2 o).2]) := by
  unfold xF
  rw [List.foldl_append]
  rfl
theorem xRun_congr (d : ByteArray) (sy : Nat) (o o' : Nat → Op) : ∀ i, (∀ k, k < i → o k = o' k) → xRun d sy o i = xRun d sy o' i
  | 0, _ => rfl
  | i + 1, h => by
    have ih := xRun_congr d sy o o' i (fun k hk => h k (by omega))
    show ((xDo (xRun d sy o i).1.1 (xRun d sy o i).1.2 (o i)).1, _) = _
    rw [ih, h i (by omega)]
    rfl
theorem xF_run (d : ByteArray) (sy : Nat) (L : List Op) : xF d sy L = xRun d sy (fun k => L.getD k opZ) L.length := by
  have gen : ∀ i, i ≤ L.length → xF d sy (L.take i) = xRun d sy (fun k => L.getD k opZ) i := by
    intro i
    induction i with
    | zero => intro _; simp [xF, xRun]
    | succ i ih =>
      intro hi
      have hlt : i < L.length := by omega
      have e : L.take (i + 1) = L.take i ++ [L.getD i opZ] := by rw [List.take_add_one, List.getElem?_eq_getElem hlt, List.getD_eq_getElem?_getD, List.getElem?_eq_getElem hlt]; rfl
      rw [e, xF_snoc, ih (by omega)]
      rfl
  have := gen L.length (Nat.le_refl _)
  rwa [List.take_length] at this
/-- what a read answers -/
theorem x_rd (d : ByteArray) (sy : Nat) (k : ByteArray) : (xDo d sy (opRd k)).1 = (d, sy) ∧ (xDo d sy (opRd k)).2.cd = (if (rdX d k).isSome then 0 else 5) ∧ (xDo d sy (opRd k)).2.dt = (rdX d k).getD ⟨#[]⟩ := by
  unfold opRd rdX
  cases h : thrB d k with
  | true => rw [x6y d sy k _ _ _ _ h]; exact ⟨rfl, rfl, rfl⟩
  | false => rw [x6n d sy k _ _ _ _ h]; exact ⟨rfl, rfl, rfl⟩
structure Dur (K V : Nat → ByteArray) : Prop where
  k1 : ∀ i, (K i).size = 1
  v2 : ∀ i, (V i).size = 2
theorem Dur.ok {K V : Nat → ByteArray} (h : Dur K V) (i : Nat) : RecOk (K i) false (V i) := by
  have := h.k1 i
  have := h.v2 i
  exact ⟨by omega, by omega, fun q => absurd q (by decide), by omega⟩
theorem putText_lt (t : ByteArray) (h : t.size < 128) : (putText t).data.toList = UInt8.ofNat t.size :: t.data.toList := by
  unfold putText
  rw [if_neg (by omega), ba_app]
  unfold putNum
  rw [if_neg (by omega), strOfNums_data, Int.toNat_natCast, putL_small 8 _ h]
  simp
theorem Dur.bytes {K V : Nat → ByteArray} (h : Dur K V) (i : Nat) : ∃ X : List UInt8, (recV (K i) false (V i)).data.toList = 231 :: 1 :: X ∧ X.length = 9 := by
  have hv : recV (K i) false (V i) = recT (K i) false (V i) ++ four (sumOf (recT (K i) false (V i)) 5) := if_pos (h.ok i)
  have hT : (recT (K i) false (V i)).data.toList = 231 :: ((putText (K i)).data.toList ++ 0 :: (putText (V i)).data.toList) := by
    unfold recT
    rw [ba_app, ba_app, ba_app]
    simp
  have h1 := h.k1 i
  have h2 := h.v2 i
  have f4 : (four (sumOf (recT (K i) false (V i)) 5)).data.toList.length = 4 := by have := four_size (sumOf (recT (K i) false (V i)) 5); rw [bsz]; exact this
  rw [hv, ba_app, hT, putText_lt _ (by omega), putText_lt _ (by omega), h1, h2]
  refine ⟨(K i).data.toList ++ 0 :: UInt8.ofNat 2 :: (V i).data.toList ++ (four (sumOf (recT (K i) false (V i)) 5)).data.toList, by simp, ?_⟩
  have e1 := bsz (K i)
  have e2 := bsz (V i)
  rw [List.length_append, List.length_append, List.length_cons, List.length_cons, f4, e1, e2, h1, h2]
theorem Dur.size {K V : Nat → ByteArray} (h : Dur K V) (i : Nat) : (recV (K i) false (V i)).size = 11 := by
  obtain ⟨X, e, hl⟩ := h.bytes i
  rw [← bsz, e]
  show X.length + 1 + 1 = 11
  omega
def dT (K V : Nat → ByteArray) : Nat → List Trp
  | 0 => []
  | i + 1 => dT K V i ++ [(K i, false, V i)]
def dB (K V : Nat → ByteArray) : Nat → ByteArray
  | 0 => ⟨#[]⟩
  | i + 1 => dB K V i ++ recV (K i) false (V i)
theorem dB_cat (K V : Nat → ByteArray) : ∀ i, (dB K V i).data.toList = catT (dT K V i)
  | 0 => rfl
  | i + 1 => by
    show (dB K V i ++ _).data.toList = catT (dT K V i ++ _)
    rw [ba_app, dB_cat K V i, catT_app]
    show _ = _ ++ (_ ++ [])
    rw [List.append_nil]
theorem dT_ok {K V : Nat → ByteArray} (h : Dur K V) : ∀ i, OkT (dT K V i)
  | 0 => fun t ht => by cases ht
  | i + 1 => fun t ht => by
    rcases List.mem_append.1 ht with ht | ht
    · exact dT_ok h i t ht
    · rw [List.mem_singleton] at ht; subst ht; exact h.ok i
theorem dB_size {K V : Nat → ByteArray} (h : Dur K V) : ∀ i, (dB K V i).size = 11 * i
  | 0 => rfl
  | i + 1 => by
    show (dB K V i ++ _).size = _
    rw [ByteArray.size_append, dB_size h i, h.size i]
    omega
theorem dB_len {K V : Nat → ByteArray} (h : Dur K V) (i : Nat) : (catT (dT K V i)).length = 11 * i := by rw [← dB_cat, bsz, dB_size h]
theorem dB_pre {K V : Nat → ByteArray} (h : Dur K V) (i : Nat) : ∀ j, ∃ R, (dB K V (i + j)).data.toList = (dB K V i).data.toList ++ R
  | 0 => ⟨[], by simp⟩
  | j + 1 => by
    obtain ⟨R, hR⟩ := dB_pre h i j
    refine ⟨R ++ (recV (K (i + j)) false (V (i + j))).data.toList, ?_⟩
    show (dB K V (i + j) ++ _).data.toList = _
    rw [ba_app, hR, List.append_assoc]
    rfl
/-- a record that stands in a piece stands in the whole -/
theorem rec_more {s S : ByteArray} {p : Nat} {f : Fr} {R : List UInt8} (h : getRec s (p : Nat) = some f) (hS : S.data.toList = s.data.toList ++ R) : ∃ g : Fr, getRec S (p : Nat) = some g ∧ g.next = f.next := by
  obtain ⟨ok, tx, hp⟩ := rec_ext h
  have hin := getRec_in s p f h
  have e : s.data.toList = s.data.toList.take p ++ (recV (rcK s (some f)) f.gone (rcD s (some f))).data.toList ++ s.data.toList.drop f.next := by
    rw [tx, ex_data]
    conv => lhs; rw [← List.take_append_drop p s.data.toList, ← List.take_append_drop (f.next - p) (s.data.toList.drop p), List.drop_drop, show p + (f.next - p) = f.next by omega]
    rw [List.append_assoc]
  have P := rec_put2 S _ _ _ _ (s.data.toList.drop f.next ++ R) ok (by rw [hS]; conv => lhs; rw [e]; rw [List.append_assoc])
  have hl : (s.data.toList.take p).length = p := by rw [List.length_take, bsz]; omega
  rw [hl] at P
  refine ⟨_, P.1, ?_⟩
  rw [P.2.2.2, tx, ex_size s _ _ hin.2.2.1]
  omega
theorem sc_void (s : ByteArray) : ∀ n p, (∀ q, p ≤ q → getRec s (q : Nat) = none) → scanN s n p = []
  | 0, p, _ => rfl
  | n + 1, p, h => by
    rw [scanN]
    split
    · rfl
    · rw [h p (Nat.le_refl _)]
      exact sc_void s n (p + 1) fun q hq => h q (by omega)
/-- a piece of records of eleven bytes: just the whole ones are there -/
theorem dur_cut {K V : Nat → ByteArray} (h : Dur K V) (N c : Nat) (hc : c ≤ 11 * N) : trps ((dB K V N).extract 0 c) 0 = dT K V (c / 11) := by
  obtain ⟨q, hq⟩ : ∃ q, q = c / 11 := ⟨_, rfl⟩
  rw [← hq]
  obtain ⟨s, hs⟩ : ∃ s, s = (dB K V N).extract 0 c := ⟨_, rfl⟩
  rw [← hs]
  have sz : s.size = c := by rw [hs, ex_size _ _ _ (by rw [dB_size h]; exact hc)]; omega
  have dd : s.data.toList = (dB K V N).data.toList.take c := by rw [hs, ex_data, List.drop_zero, Nat.sub_zero]
  have whole : (dB K V N).data.toList = s.data.toList ++ (dB K V N).data.toList.drop c := by rw [dd, List.take_append_drop]
  obtain ⟨R, hR⟩ := dB_pre h q (N - q)
  rw [show q + (N - q) = N by omega] at hR
  have l1 : (dB K V q).data.toList.length = 11 * q := by rw [bsz, dB_size h]
  have sd : s.data.toList = catT (dT K V q) ++ R.take (c - 11 * q) := by
    rw [dd, hR, List.take_append, l1, List.take_of_length_le (by omega), dB_cat]
  have T := scan_cat (dT K V q) s 0 (R.take (c - 11 * q)) (Nat.zero_le _) (dT_ok h q) (by rw [List.drop_zero]; exact sd)
  rw [T, dB_len h, Nat.zero_add]
  suffices hv : trps s (11 * q) = [] by rw [hv, List.append_nil]
  unfold trps sc
  rw [sc_void s _ _ ?_]
  · rfl
  intro p hp
  cases hg : getRec s (p : Nat) with
  | none => rfl
  | some f =>
    exfalso
    have hin := getRec_in s p f hg
    have ex := rec_ext hg
    have ge := recV_ge _ _ _ ex.1
    rw [ex.2.1, ex_size s _ _ hin.2.2.1] at ge
    have hqN : q < N := by omega
    -- the record that begins at 11 q in the whole
    obtain ⟨R', hR'⟩ := dB_pre h (q + 1) (N - (q + 1))
    rw [show q + 1 + (N - (q + 1)) = N by omega] at hR'
    have at_q : (dB K V N).data.toList.drop (11 * q) = (recV (K q) false (V q)).data.toList ++ R' := by
      rw [hR']
      show ((dB K V q ++ _).data.toList ++ R').drop (11 * q) = _
      rw [ba_app, List.append_assoc, List.drop_left' l1]
    rcases (show p = 11 * q ∨ p = 11 * q + 1 by omega) with e | e
    · subst e
      obtain ⟨g, g1, g2⟩ := rec_more hg whole
      obtain ⟨g', g3, _, _, g4, _⟩ := at_cat (s := dB K V N) (p := 11 * q) (t := (K q, false, V q)) (R := R') (by rw [dB_size h]; omega) (h.ok q) at_q
      rw [g1] at g3
      obtain rfl := Option.some.inj g3
      have e4 : g.next = 11 * q + (recV (K q) false (V q)).size := g4
      rw [h.size q] at e4
      omega
    · subst e
      have hM : Marked s ((11 * q + 1 : Nat) : Int) := by
        refine Classical.byContradiction fun z => ?_
        rw [getRec_no s _ z] at hg
        cases hg
      have hb := hM.2.2
      rw [Int.toNat_natCast] at hb
      obtain ⟨X, hX, _⟩ := h.bytes q
      have b1 : (dB K V N).data.toList[11 * q + 1]? = some 1 := by
        have := congrArg (fun l : List UInt8 => l[1]?) at_q
        simp only [List.getElem?_drop] at this
        rw [this, hX]
        rfl
      have b2 : s.data.toList[11 * q + 1]? = some 1 := by rw [dd, List.getElem?_take_of_lt (by omega), b1]
      unfold byteAt at hb
      rw [List.getD_eq_getElem?_getD, b2] at hb
      exact absurd hb (by decide)
/-- what the law looks for: the last one of the first ones, or of those that were kept whole -/
def fN (K V : Nat → ByteArray) (n kp : Nat) (key : ByteArray) : Nat → ByteArray
  | 0 => ⟨#[]⟩
  | i + 1 => if K i = key ∧ (i < n ∨ 11 * (i + 1 - n) ≤ kp) then V i else fN K V n kp key i
theorem fN_get {K V : Nat → ByteArray} (h : Dur K V) (n kp : Nat) (key : ByteArray) : ∀ i, getT (dT K V (min i (n + kp / 11))) key none = if (fN K V n kp key i).size = 0 then none else some (fN K V n kp key i)
  | 0 => by rw [Nat.zero_min]; rfl
  | i + 1 => by
    have ih := fN_get h n kp key i
    by_cases c : i < n + kp / 11
    · rw [show min (i + 1) (n + kp / 11) = i + 1 by omega]
      rw [show min i (n + kp / 11) = i by omega] at ih
      show getT (dT K V i ++ [(K i, false, V i)]) key none = _
      rw [getT_app, ih]
      show (if K i = key then some (V i) else _) = _
      have v2 := h.v2 i
      by_cases e : K i = key
      · have f1 : fN K V n kp key (i + 1) = V i := if_pos ⟨e, by omega⟩
        rw [if_pos e, f1, if_neg (by omega)]
      · have f1 : fN K V n kp key (i + 1) = fN K V n kp key i := if_neg (fun q => e q.1)
        rw [if_neg e, f1]
    · have f1 : fN K V n kp key (i + 1) = fN K V n kp key i := if_neg (fun q => by omega)
      rw [show min (i + 1) (n + kp / 11) = min i (n + kp / 11) by omega, ih, f1]
/-- the operations, as the law makes them -/
def bldL (K V : Nat → ByteArray) (n : Nat) : Nat → List Op
  | 0 => []
  | i + 1 => (if i = n then bldL K V n i ++ [opSy] else bldL K V n i) ++ [opPut (K i) (V i)]
theorem put_step {K V : Nat → ByteArray} (h : Dur K V) (i sy : Nat) (hi : i ≤ 1000) : (xDo (dB K V i) sy (opPut (K i) (V i))).1 = (dB K V (i + 1), sy) := by
  unfold opPut
  rw [x1]
  have hz := h.size i
  have hs := dB_size h i
  rw [px0 sy (by omega) (by omega)]
  rfl
theorem bld_state {K V : Nat → ByteArray} (h : Dur K V) (n : Nat) : ∀ i, i ≤ 1000 → (xF ⟨#[]⟩ 0 (bldL K V n i)).1 = (dB K V i, if i ≤ n then 0 else 11 * n)
  | 0, _ => rfl
  | i + 1, hi => by
    have ih := bld_state h n i (by omega)
    unfold bldL
    rw [xF_snoc]
    by_cases c : i = n
    · subst c
      rw [if_pos rfl, xF_snoc, ih]
      unfold opSy
      simp only [x3]
      rw [put_step h i _ (by omega), dB_size h, if_neg (by omega)]
    · rw [if_neg c, ih]
      simp only
      rw [put_step h i _ (by omega)]
      by_cases c1 : i + 1 ≤ n
      · rw [if_pos c1, if_pos (by omega)]
      · rw [if_neg c1, if_neg (by omega)]
def durL (K V : Nat → ByteArray) (n m : Nat) (kp : Int) : List Op := (if m = 0 then bldL K V n (n + m) ++ [opSy] else bldL K V n (n + m)) ++ [opCr kp]
theorem dur_state {K V : Nat → ByteArray} (h : Dur K V) (n m : Nat) (kp : Nat) (hn : n + m ≤ 1000) : ∃ sy, (xF ⟨#[]⟩ 0 (durL K V n m kp)).1 = ((dB K V (n + m)).extract 0 (11 * n + min kp (11 * m)), sy) := by
  have b := bld_state h n (n + m) hn
  have b2 : (xF ⟨#[]⟩ 0 (if m = 0 then bldL K V n (n + m) ++ [opSy] else bldL K V n (n + m))).1 = (dB K V (n + m), 11 * n) := by
    by_cases c : m = 0
    · rw [if_pos c, xF_snoc, b]
      unfold opSy
      simp only [x3]
      rw [dB_size h, c, Nat.add_zero]
    · rw [if_neg c, b, if_neg (by omega)]
  unfold durL opCr
  rw [xF_snoc, b2]
  simp only [x4]
  have e : (crsK (dB K V (n + m)) (11 * n) (kp : Nat)).toNat = min kp (11 * m) := by
    unfold crsK
    rw [dB_size h, if_neg (show ¬ (kp : Int) < 0 by omega)]
    split <;> omega
  rw [e]
  exact ⟨_, rfl⟩
/-- what is read behind the crash -/
theorem dur_read {K V : Nat → ByteArray} (h : Dur K V) (n m : Nat) (kp : Nat) (hn : n + m ≤ 1000) (key : ByteArray) :
    rdX (xF ⟨#[]⟩ 0 (durL K V n m kp)).1.1 key = if (fN K V n kp key (n + m)).size = 0 then none else some (fN K V n kp key (n + m)) := by
  obtain ⟨sy, e⟩ := dur_state h n m kp hn
  rw [e, rd_trps, dur_cut h (n + m) _ (by omega), ← fN_get h n kp key (n + m)]
  congr 2
  omega
/-- the three reads: their answers are the last three -/
theorem dur_outs (L : List Op) (d : ByteArray) (sy : Nat) (a b c : ByteArray) : ∃ x y z : XOt, (xF d sy (L ++ [opRd a] ++ [opRd b] ++ [opRd c])).2 = (xF d sy L).2 ++ [x, y, z] ∧
    (x.cd = (if (rdX (xF d sy L).1.1 a).isSome then 0 else 5) ∧ x.dt = (rdX (xF d sy L).1.1 a).getD ⟨#[]⟩) ∧
    (y.cd = (if (rdX (xF d sy L).1.1 b).isSome then 0 else 5) ∧ y.dt = (rdX (xF d sy L).1.1 b).getD ⟨#[]⟩) ∧
    (z.cd = (if (rdX (xF d sy L).1.1 c).isSome then 0 else 5) ∧ z.dt = (rdX (xF d sy L).1.1 c).getD ⟨#[]⟩) := by
  obtain ⟨d1, hd⟩ : ∃ x, x = (xF d sy L).1.1 := ⟨_, rfl⟩
  obtain ⟨s1, hs⟩ : ∃ x, x = (xF d sy L).1.2 := ⟨_, rfl⟩
  rw [xF_snoc, xF_snoc, xF_snoc, ← hd, ← hs]
  have ea := x_rd d1 s1 a
  have eb := x_rd d1 s1 b
  have ec := x_rd d1 s1 c
  simp only [ea.1, eb.1]
  refine ⟨_, _, _, ?_, ea.2, eb.2, ec.2⟩
  simp
end Go.Proofs.YtngkiokibldfjaaGreatDoor
namespace Go.Proofs.YtngkiokibldfjaaGreatDoor
open Go.RowKit
set_option linter.unusedVariables false
/-! Reads, and reads behind compacting: the mathematics of FnExtents. -/
def opCm : Op := ⟨8, ⟨#[]⟩, ⟨#[]⟩, 0, 0, 0⟩
def opSc : Op := ⟨7, ⟨#[]⟩, ⟨#[]⟩, 0, 0, 0⟩
def rdsL (K : Nat → ByteArray) : Nat → List Op
  | 0 => []
  | k + 1 => rdsL K k ++ [opRd (K k)]
theorem rdsL_len (K : Nat → ByteArray) : ∀ k, (rdsL K k).length = k
  | 0 => rfl
  | k + 1 => by show (rdsL K k ++ [_]).length = _; rw [List.length_append, rdsL_len K k]; rfl
theorem rdsL_sz (K : Nat → ByteArray) (hK : ∀ k, (K k).size ≤ 1048576) : ∀ n, ∀ o ∈ rdsL K n, o.ky.size ≤ 1048576 ∧ o.dt.size ≤ 1048576
  | 0, o, h => by cases h
  | n + 1, o, h => by
    rcases List.mem_append.1 h with h | h
    · exact rdsL_sz K hK n o h
    · rw [List.mem_singleton] at h; subst h; exact ⟨hK n, Nat.zero_le _⟩
theorem xF_len (d : ByteArray) (sy : Nat) (L : List Op) : (xF d sy L).2.length = L.length := by rw [xF_run, xRun_len]
theorem rds_run (d : ByteArray) (sy : Nat) (A : List Op) (K : Nat → ByteArray) : ∀ n, (xF d sy (A ++ rdsL K n)).1 = (xF d sy A).1 ∧ ∀ i, i < n → ∃ x, (xF d sy (A ++ rdsL K n)).2[A.length + i]? = some x ∧ x.cd = (if (rdX (xF d sy A).1.1 (K i)).isSome then 0 else 5) ∧ x.dt = (rdX (xF d sy A).1.1 (K i)).getD ⟨#[]⟩
  | 0 => ⟨by show (xF d sy (A ++ [])).1 = _; rw [List.append_nil], fun i hi => by omega⟩
  | n + 1 => by
    obtain ⟨e, ih⟩ := rds_run d sy A K n
    have ex : A ++ rdsL K (n + 1) = (A ++ rdsL K n) ++ [opRd (K n)] := by show A ++ (_ ++ _) = _; rw [List.append_assoc]
    obtain ⟨s1, hs1⟩ : ∃ x, x = (xF d sy A).1 := ⟨_, rfl⟩
    rw [ex, xF_snoc, e, ← hs1]
    have r := x_rd s1.1 s1.2 (K n)
    refine ⟨by show (xDo s1.1 s1.2 (opRd (K n))).1 = s1; rw [r.1], fun i hi => ?_⟩
    have ln : (xF d sy (A ++ rdsL K n)).2.length = A.length + n := by rw [xF_len, List.length_append, rdsL_len]
    by_cases c : i < n
    · obtain ⟨x, h1, h2, h3⟩ := ih i c
      rw [← hs1] at h2 h3
      refine ⟨x, ?_, h2, h3⟩
      show ((xF d sy (A ++ rdsL K n)).2 ++ [_])[A.length + i]? = _
      rw [List.getElem?_append_left (by omega)]
      exact h1
    · have e2 : i = n := by omega
      subst e2
      refine ⟨_, ?_, r.2.1, r.2.2⟩
      show ((xF d sy (A ++ rdsL K i)).2 ++ [_])[A.length + i]? = _
      rw [List.getElem?_append_right (by omega), ln, Nat.sub_self]
      rfl
/-- compaction, then a scrub: the data are compact, nothing is told -/
theorem cmp_scrub (d : ByteArray) (sy : Nat) : (xF d sy [opCm, opSc]).1.1 = cmpN d (sc d 0).length ∧ ∃ x y, (xF d sy [opCm, opSc]).2 = [x, y] ∧ y.ks = [] := by
  have e : ([opCm, opSc] : List Op) = ([] ++ [opCm]) ++ [opSc] := rfl
  rw [e, xF_snoc, xF_snoc]
  unfold opCm opSc
  simp only [x8, x7]
  exact ⟨rfl, _, _, rfl, cmp_scr d⟩
/-- what the law sees of read i, ahead of compacting and behind it -/
theorem ext_sees (d : ByteArray) (sy : Nat) (K : Nat → ByteArray) (n i : Nat) (hi : i < n) (x y : XOt) (hx : (xF d sy (rdsL K n)).2[i]? = some x) (hy : (xF d sy ([opCm, opSc] ++ rdsL K n)).2[i + 2]? = some y) : x.cd = y.cd ∧ x.dt = y.dt := by
  obtain ⟨_, ha⟩ := rds_run d sy [] K n
  obtain ⟨_, hb⟩ := rds_run d sy [opCm, opSc] K n
  obtain ⟨x', h1, h2, h3⟩ := ha i hi
  obtain ⟨y', g1, g2, g3⟩ := hb i hi
  have ex : ([] : List Op).length + i = i := by show 0 + i = i; omega
  have ey : ([opCm, opSc] : List Op).length + i = i + 2 := by show 2 + i = i + 2; omega
  rw [ex, List.nil_append] at h1
  rw [ey] at g1
  rw [hx] at h1
  rw [hy] at g1
  obtain rfl := Option.some.inj h1
  obtain rfl := Option.some.inj g1
  have e0 : (xF d sy []).1.1 = d := rfl
  rw [e0] at h2 h3
  rw [(cmp_scrub d sy).1, cmp_rd] at g2 g3
  exact ⟨h2.trans g2.symm, h3.trans g3.symm⟩
/-- the second answer behind compacting -/
theorem ext_scrub (d : ByteArray) (sy : Nat) (K : Nat → ByteArray) (n : Nat) (y : XOt) (hy : (xF d sy ([opCm, opSc] ++ rdsL K n)).2[1]? = some y) : y.ks = [] := by
  obtain ⟨_, x, z, e, hz⟩ := cmp_scrub d sy
  have pre : ∀ m, (xF d sy ([opCm, opSc] ++ rdsL K m)).2[1]? = some z := by
    intro m
    induction m with
    | zero => show (xF d sy ([opCm, opSc] ++ [])).2[1]? = _; rw [List.append_nil, e]; rfl
    | succ m ih =>
      have ex : [opCm, opSc] ++ rdsL K (m + 1) = ([opCm, opSc] ++ rdsL K m) ++ [opRd (K m)] := by show _ ++ (_ ++ _) = _; rw [List.append_assoc]
      rw [ex, xF_snoc]
      show ((xF d sy ([opCm, opSc] ++ rdsL K m)).2 ++ [_])[1]? = _
      rw [List.getElem?_append_left (by rw [xF_len, List.length_append]; show 1 < 2 + _; omega)]
      exact ih
  rw [pre n] at hy
  obtain rfl := Option.some.inj hy
  exact hz
/-- what both RunExtent answer -/
def rBad (d : ByteArray) (s : Int) (L : List Op) : Prop := 2000 < L.length ∨ 300000 < d.size ∨ s < 0 ∨ (d.size : Int) < s
instance (d : ByteArray) (s : Int) (L : List Op) : Decidable (rBad d s L) := inferInstanceAs (Decidable (_ ∨ _ ∨ _ ∨ _))
def rRes (d : ByteArray) (s : Int) (L : List Op) : (ByteArray × Int) × List XOt := if rBad d s L then ((⟨#[]⟩, 0), []) else (((xF d s.toNat L).1.1, ((xF d s.toNat L).1.2 : Nat)), (xF d s.toNat L).2)
theorem rRes_ok {d : ByteArray} {s : Int} {L : List Op} (h : (rRes d s L).2 ≠ []) : ∃ sy : Nat, (rRes d s L).1.2 = (sy : Int) ∧ XOk (rRes d s L).1.1 sy := by
  unfold rRes at h ⊢
  by_cases c : rBad d s L
  · rw [if_pos c] at h; exact absurd rfl h
  · rw [if_neg c]
    refine ⟨_, rfl, ?_⟩
    have c' : ¬ (2000 < L.length ∨ 300000 < d.size ∨ s < 0 ∨ (d.size : Int) < s) := c
    rw [xF_run]
    exact xRun_ok ⟨by omega, by omega⟩ _ _
theorem rRes_len {d : ByteArray} {s : Int} {L : List Op} : (rRes d s L).2.length ≤ 2000 := by
  unfold rRes
  by_cases c : rBad d s L
  · rw [if_pos c]; exact Nat.zero_le _
  · rw [if_neg c]
    show (xF d s.toNat L).2.length ≤ 2000
    have c' : ¬ (2000 < L.length ∨ 300000 < d.size ∨ s < 0 ∨ (d.size : Int) < s) := c
    rw [xF_len]; omega
theorem xDo_ksE (d : ByteArray) (sy : Nat) (o : Op) : (xDo d sy o).2.ks.length ≤ 100 := by
  unfold xDo
  simp only
  repeat' split
  all_goals first | exact Nat.zero_le _ | (unfold scrN; rw [List.length_map, List.length_take]; omega)
theorem xRun_ksE (d : ByteArray) (sy : Nat) (o : Nat → Op) : ∀ i, ∀ x ∈ (xRun d sy o i).2, x.ks.length ≤ 100
  | 0, x, h => by cases h
  | i + 1, x, h => by
    rcases List.mem_append.1 h with h | h
    · exact xRun_ksE d sy o i x h
    · rw [List.mem_singleton] at h; subst h; exact xDo_ksE _ _ _
theorem rRes_ks {d : ByteArray} {s : Int} {L : List Op} : ∀ x ∈ (rRes d s L).2, x.ks.length ≤ 100 := by
  unfold rRes
  by_cases c : rBad d s L
  · rw [if_pos c]; intro x hx; cases hx
  · rw [if_neg c]
    intro x hx
    have hx' : x ∈ (xF d s.toNat L).2 := hx
    rw [xF_run] at hx'
    exact xRun_ksE _ _ _ _ x hx'
theorem rRes_yes {d : ByteArray} {sy : Nat} {L : List Op} (h : XOk d sy) (hl : L.length ≤ 2000) : rRes d (sy : Int) L = (((xF d sy L).1.1, (((xF d sy L).1.2 : Nat) : Int)), (xF d sy L).2) := by
  unfold rRes
  have h1 := h.bd
  have h2 := h.bs
  have c : ¬ rBad d (sy : Int) L := fun c => by
    have c' : 2000 < L.length ∨ 300000 < d.size ∨ (sy : Int) < 0 ∨ (d.size : Int) < (sy : Int) := c
    omega
  rw [if_neg c, Int.toNat_natCast]
end Go.Proofs.YtngkiokibldfjaaGreatDoor
