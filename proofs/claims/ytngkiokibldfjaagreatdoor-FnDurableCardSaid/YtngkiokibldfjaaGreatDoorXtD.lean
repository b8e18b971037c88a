import Derived.Test.YtngkiokibldfjaaGreatDoorXtM
namespace Go.Proofs.YtngkiokibldfjaaGreatDoor
open Go.RowKit
set_option linter.unusedVariables false
/-! Puts, a sync, puts, a crash, reads: the mathematics of FnDurable. -/
def opZ : Op := ⟨0, ⟨#[]⟩, ⟨#[]⟩, 0, 0, 0⟩
def opPut (k v : ByteArray) : Op := ⟨1, k, v, 0, 0, 0⟩
def opSy : Op := ⟨3, ⟨#[]⟩, ⟨#[]⟩, 0, 0, 0⟩
def opCr (kp : Int) : Op := ⟨4, ⟨#[]⟩, ⟨#[]⟩, kp, 0, 0⟩
def opRd (k : ByteArray) : Op := ⟨6, k, ⟨#[]⟩, 0, 0, 0⟩
def xF (d : ByteArray) (sy : Nat) (L : List Op) : (ByteArray × Nat) × List XOt := L.foldl (fun s o => ((xDo s.1.1 s.1.2 o).1, s.2 ++ [(xDo s.1.1 s.1.2 o).2])) ((d, sy), [])
theorem xF_snoc (d : ByteArray) (sy : Nat) (L : List Op) (o : Op) : xF d sy (L ++ [o]) = ((xDo (xF d sy L).1.1 (xF d sy L).1.2 o).1, (xF d sy L).2 ++ [(xDo (xF d sy L).1.1 (xF d sy L).1.2 o).2]) := by
  unfold xF
  rw [List.foldl_append]
  rfl
theorem xRun_congr (d : ByteArray) (sy : Nat) (o o' : Nat → Op) : ∀ i, (∀ k, k < i → o k = o' k) → xRun d sy o i = xRun d sy o' i
  | 0, _ => rfl
  | i + 1, h => by
    have ih := xRun_congr d sy o o' i (fun k hk => h k (by omega))
    show ((xDo (xRun d sy o i).1.1 (xRun d sy o i).1.2 (o i)).1, _) = _
    rw [ih, h i (by omega)]
    rfl
theorem xF_run (d : ByteArray) (sy : Nat) (L : List Op) : xF d sy L = xRun d sy (fun k => L.getD k opZ) L.length := by
  have gen : ∀ i, i ≤ L.length → xF d sy (L.take i) = xRun d sy (fun k => L.getD k opZ) i := by
    intro i
    induction i with
    | zero => intro _; simp [xF, xRun]
    | succ i ih =>
      intro hi
      have hlt : i < L.length := by omega
      have e : L.take (i + 1) = L.take i ++ [L.getD i opZ] := by rw [List.take_add_one, List.getElem?_eq_getElem hlt, List.getD_eq_getElem?_getD, List.getElem?_eq_getElem hlt]; rfl
      rw [e, xF_snoc, ih (by omega)]
      rfl
  have := gen L.length (Nat.le_refl _)
  rwa [List.take_length] at this
/-- what a read answers -/
theorem x_rd (d : ByteArray) (sy : Nat) (k : ByteArray) : (xDo d sy (opRd k)).1 = (d, sy) ∧ (xDo d sy (opRd k)).2.cd = (if (rdX d k).isSome then 0 else 5) ∧ (xDo d sy (opRd k)).2.dt = (rdX d k).getD ⟨#[]⟩ := by
  unfold opRd rdX
  cases h : thrB d k with
  | true => rw [x6y d sy k _ _ _ _ h]; exact ⟨rfl, rfl, rfl⟩
  | false => rw [x6n d sy k _ _ _ _ h]; exact ⟨rfl, rfl, rfl⟩
structure Dur (K V : Nat → ByteArray) : Prop where
  k1 : ∀ i, (K i).size = 1
  v2 : ∀ i, (V i).size = 2
theorem Dur.ok {K V : Nat → ByteArray} (h : Dur K V) (i : Nat) : RecOk (K i) false (V i) := by
  have := h.k1 i
  have := h.v2 i
  exact ⟨by omega, by omega, fun q => absurd q (by decide), by omega⟩
theorem putText_lt (t : ByteArray) (h : t.size < 128) : (putText t).data.toList = UInt8.ofNat t.size :: t.data.toList := by
  unfold putText
  rw [if_neg (by omega), ba_app]
  unfold putNum
  rw [if_neg (by omega), strOfNums_data, Int.toNat_natCast, putL_small 8 _ h]
  simp
theorem Dur.bytes {K V : Nat → ByteArray} (h : Dur K V) (i : Nat) : ∃ X : List UInt8, (recV (K i) false (V i)).data.toList = 231 :: 1 :: X ∧ X.length = 9 := by
  have hv : recV (K i) false (V i) = recT (K i) false (V i) ++ four (sumOf (recT (K i) false (V i)) 5) := if_pos (h.ok i)
  have hT : (recT (K i) false (V i)).data.toList = 231 :: ((putText (K i)).data.toList ++ 0 :: (putText (V i)).data.toList) := by
    unfold recT
    rw [ba_app, ba_app, ba_app]
    simp
  have h1 := h.k1 i
  have h2 := h.v2 i
  have f4 : (four (sumOf (recT (K i) false (V i)) 5)).data.toList.length = 4 := by have := four_size (sumOf (recT (K i) false (V i)) 5); rw [bsz]; exact this
  rw [hv, ba_app, hT, putText_lt _ (by omega), putText_lt _ (by omega), h1, h2]
  refine ⟨(K i).data.toList ++ 0 :: UInt8.ofNat 2 :: (V i).data.toList ++ (four (sumOf (recT (K i) false (V i)) 5)).data.toList, by simp, ?_⟩
  have e1 := bsz (K i)
  have e2 := bsz (V i)
  rw [List.length_append, List.length_append, List.length_cons, List.length_cons, f4, e1, e2, h1, h2]
theorem Dur.size {K V : Nat → ByteArray} (h : Dur K V) (i : Nat) : (recV (K i) false (V i)).size = 11 := by
  obtain ⟨X, e, hl⟩ := h.bytes i
  rw [← bsz, e]
  show X.length + 1 + 1 = 11
  omega
def dT (K V : Nat → ByteArray) : Nat → List Trp
  | 0 => []
  | i + 1 => dT K V i ++ [(K i, false, V i)]
def dB (K V : Nat → ByteArray) : Nat → ByteArray
  | 0 => ⟨#[]⟩
  | i + 1 => dB K V i ++ recV (K i) false (V i)
theorem dB_cat (K V : Nat → ByteArray) : ∀ i, (dB K V i).data.toList = catT (dT K V i)
  | 0 => rfl
  | i + 1 => by
    show (dB K V i ++ _).data.toList = catT (dT K V i ++ _)
    rw [ba_app, dB_cat K V i, catT_app]
    show _ = _ ++ (_ ++ [])
    rw [List.append_nil]
theorem dT_ok {K V : Nat → ByteArray} (h : Dur K V) : ∀ i, OkT (dT K V i)
  | 0 => fun t ht => by cases ht
  | i + 1 => fun t ht => by
    rcases List.mem_append.1 ht with ht | ht
    · exact dT_ok h i t ht
    · rw [List.mem_singleton] at ht; subst ht; exact h.ok i
theorem dB_size {K V : Nat → ByteArray} (h : Dur K V) : ∀ i, (dB K V i).size = 11 * i
  | 0 => rfl
  | i + 1 => by
    show (dB K V i ++ _).size = _
    rw [ByteArray.size_append, dB_size h i, h.size i]
    omega
theorem dB_len {K V : Nat → ByteArray} (h : Dur K V) (i : Nat) : (catT (dT K V i)).length = 11 * i := by rw [← dB_cat, bsz, dB_size h]
theorem dB_pre {K V : Nat → ByteArray} (h : Dur K V) (i : Nat) : ∀ j, ∃ R, (dB K V (i + j)).data.toList = (dB K V i).data.toList ++ R
  | 0 => ⟨[], by simp⟩
  | j + 1 => by
    obtain ⟨R, hR⟩ := dB_pre h i j
    refine ⟨R ++ (recV (K (i + j)) false (V (i + j))).data.toList, ?_⟩
    show (dB K V (i + j) ++ _).data.toList = _
    rw [ba_app, hR, List.append_assoc]
    rfl
/-- a record that stands in a piece stands in the whole -/
theorem rec_more {s S : ByteArray} {p : Nat} {f : Fr} {R : List UInt8} (h : getRec s (p : Nat) = some f) (hS : S.data.toList = s.data.toList ++ R) : ∃ g : Fr, getRec S (p : Nat) = some g ∧ g.next = f.next := by
  obtain ⟨ok, tx, hp⟩ := rec_ext h
  have hin := getRec_in s p f h
  have e : s.data.toList = s.data.toList.take p ++ (recV (rcK s (some f)) f.gone (rcD s (some f))).data.toList ++ s.data.toList.drop f.next := by
    rw [tx, ex_data]
    conv => lhs; rw [← List.take_append_drop p s.data.toList, ← List.take_append_drop (f.next - p) (s.data.toList.drop p), List.drop_drop, show p + (f.next - p) = f.next by omega]
    rw [List.append_assoc]
  have P := rec_put2 S _ _ _ _ (s.data.toList.drop f.next ++ R) ok (by rw [hS]; conv => lhs; rw [e]; rw [List.append_assoc])
  have hl : (s.data.toList.take p).length = p := by rw [List.length_take, bsz]; omega
  rw [hl] at P
  refine ⟨_, P.1, ?_⟩
  rw [P.2.2.2, tx, ex_size s _ _ hin.2.2.1]
  omega
theorem sc_void (s : ByteArray) : ∀ n p, (∀ q, p ≤ q → getRec s (q : Nat) = none) → scanN s n p = []
  | 0, p, _ => rfl
  | n + 1, p, h => by
    rw [scanN]
    split
    · rfl
    · rw [h p (Nat.le_refl _)]
      exact sc_void s n (p + 1) fun q hq => h q (by omega)
/-- a piece of records of eleven bytes: just the whole ones are there -/
theorem dur_cut {K V : Nat → ByteArray} (h : Dur K V) (N c : Nat) (hc : c ≤ 11 * N) : trps ((dB K V N).extract 0 c) 0 = dT K V (c / 11) := by
  obtain ⟨q, hq⟩ : ∃ q, q = c / 11 := ⟨_, rfl⟩
  rw [← hq]
  obtain ⟨s, hs⟩ : ∃ s, s = (dB K V N).extract 0 c := ⟨_, rfl⟩
  rw [← hs]
  have sz : s.size = c := by rw [hs, ex_size _ _ _ (by rw [dB_size h]; exact hc)]; omega
  have dd : s.data.toList = (dB K V N).data.toList.take c := by rw [hs, ex_data, List.drop_zero, Nat.sub_zero]
  have whole : (dB K V N).data.toList = s.data.toList ++ (dB K V N).data.toList.drop c := by rw [dd, List.take_append_drop]
  obtain ⟨R, hR⟩ := dB_pre h q (N - q)
  rw [show q + (N - q) = N by omega] at hR
  have l1 : (dB K V q).data.toList.length = 11 * q := by rw [bsz, dB_size h]
  have sd : s.data.toList = catT (dT K V q) ++ R.take (c - 11 * q) := by
    rw [dd, hR, List.take_append, l1, List.take_of_length_le (by omega), dB_cat]
  have T := scan_cat (dT K V q) s 0 (R.take (c - 11 * q)) (Nat.zero_le _) (dT_ok h q) (by rw [List.drop_zero]; exact sd)
  rw [T, dB_len h, Nat.zero_add]
  suffices hv : trps s (11 * q) = [] by rw [hv, List.append_nil]
  unfold trps sc
  rw [sc_void s _ _ ?_]
  · rfl
  intro p hp
  cases hg : getRec s (p : Nat) with
  | none => rfl
  | some f =>
    exfalso
    have hin := getRec_in s p f hg
    have ex := rec_ext hg
    have ge := recV_ge _ _ _ ex.1
    rw [ex.2.1, ex_size s _ _ hin.2.2.1] at ge
    have hqN : q < N := by omega
    -- the record that begins at 11 q in the whole
    obtain ⟨R', hR'⟩ := dB_pre h (q + 1) (N - (q + 1))
    rw [show q + 1 + (N - (q + 1)) = N by omega] at hR'
    have at_q : (dB K V N).data.toList.drop (11 * q) = (recV (K q) false (V q)).data.toList ++ R' := by
      rw [hR']
      show ((dB K V q ++ _).data.toList ++ R').drop (11 * q) = _
      rw [ba_app, List.append_assoc, List.drop_left' l1]
    rcases (show p = 11 * q ∨ p = 11 * q + 1 by omega) with e | e
    · subst e
      obtain ⟨g, g1, g2⟩ := rec_more hg whole
      obtain ⟨g', g3, _, _, g4, _⟩ := at_cat (s := dB K V N) (p := 11 * q) (t := (K q, false, V q)) (R := R') (by rw [dB_size h]; omega) (h.ok q) at_q
      rw [g1] at g3
      obtain rfl := Option.some.inj g3
      have e4 : g.next = 11 * q + (recV (K q) false (V q)).size := g4
      rw [h.size q] at e4
      omega
    · subst e
      have hM : Marked s ((11 * q + 1 : Nat) : Int) := by
        refine Classical.byContradiction fun z => ?_
        rw [getRec_no s _ z] at hg
        cases hg
      have hb := hM.2.2
      rw [Int.toNat_natCast] at hb
      obtain ⟨X, hX, _⟩ := h.bytes q
      have b1 : (dB K V N).data.toList[11 * q + 1]? = some 1 := by
        have := congrArg (fun l : List UInt8 => l[1]?) at_q
        simp only [List.getElem?_drop] at this
        rw [this, hX]
        rfl
      have b2 : s.data.toList[11 * q + 1]? = some 1 := by rw [dd, List.getElem?_take_of_lt (by omega), b1]
      unfold byteAt at hb
      rw [List.getD_eq_getElem?_getD, b2] at hb
      exact absurd hb (by decide)
/-- what the law looks for: the last one of the first ones, or of those that were kept whole -/
def fN (K V : Nat → ByteArray) (n kp : Nat) (key : ByteArray) : Nat → ByteArray
  | 0 => ⟨#[]⟩
  | i + 1 => if K i = key ∧ (i < n ∨ 11 * (i + 1 - n) ≤ kp) then V i else fN K V n kp key i
theorem fN_get {K V : Nat → ByteArray} (h : Dur K V) (n kp : Nat) (key : ByteArray) : ∀ i, getT (dT K V (min i (n + kp / 11))) key none = if (fN K V n kp key i).size = 0 then none else some (fN K V n kp key i)
  | 0 => by rw [Nat.zero_min]; rfl
  | i + 1 => by
    have ih := fN_get h n kp key i
    by_cases c : i < n + kp / 11
    · rw [show min (i + 1) (n + kp / 11) = i + 1 by omega]
      rw [show min i (n + kp / 11) = i by omega] at ih
      show getT (dT K V i ++ [(K i, false, V i)]) key none = _
      rw [getT_app, ih]
      show (if K i = key then some (V i) else _) = _
      have v2 := h.v2 i
      by_cases e : K i = key
      · have f1 : fN K V n kp key (i + 1) = V i := if_pos ⟨e, by omega⟩
        rw [if_pos e, f1, if_neg (by omega)]
      · have f1 : fN K V n kp key (i + 1) = fN K V n kp key i := if_neg (fun q => e q.1)
        rw [if_neg e, f1]
    · have f1 : fN K V n kp key (i + 1) = fN K V n kp key i := if_neg (fun q => by omega)
      rw [show min (i + 1) (n + kp / 11) = min i (n + kp / 11) by omega, ih, f1]
/-- the operations, as the law makes them -/
def bldL (K V : Nat → ByteArray) (n : Nat) : Nat → List Op
  | 0 => []
  | i + 1 => (if i = n then bldL K V n i ++ [opSy] else bldL K V n i) ++ [opPut (K i) (V i)]
theorem put_step {K V : Nat → ByteArray} (h : Dur K V) (i sy : Nat) (hi : i ≤ 1000) : (xDo (dB K V i) sy (opPut (K i) (V i))).1 = (dB K V (i + 1), sy) := by
  unfold opPut
  rw [x1]
  have hz := h.size i
  have hs := dB_size h i
  rw [px0 sy (by omega) (by omega)]
  rfl
theorem bld_state {K V : Nat → ByteArray} (h : Dur K V) (n : Nat) : ∀ i, i ≤ 1000 → (xF ⟨#[]⟩ 0 (bldL K V n i)).1 = (dB K V i, if i ≤ n then 0 else 11 * n)
  | 0, _ => rfl
  | i + 1, hi => by
    have ih := bld_state h n i (by omega)
    unfold bldL
    rw [xF_snoc]
    by_cases c : i = n
    · subst c
      rw [if_pos rfl, xF_snoc, ih]
      unfold opSy
      simp only [x3]
      rw [put_step h i _ (by omega), dB_size h, if_neg (by omega)]
    · rw [if_neg c, ih]
      simp only
      rw [put_step h i _ (by omega)]
      by_cases c1 : i + 1 ≤ n
      · rw [if_pos c1, if_pos (by omega)]
      · rw [if_neg c1, if_neg (by omega)]
def durL (K V : Nat → ByteArray) (n m : Nat) (kp : Int) : List Op := (if m = 0 then bldL K V n (n + m) ++ [opSy] else bldL K V n (n + m)) ++ [opCr kp]
theorem dur_state {K V : Nat → ByteArray} (h : Dur K V) (n m : Nat) (kp : Nat) (hn : n + m ≤ 1000) : ∃ sy, (xF ⟨#[]⟩ 0 (durL K V n m kp)).1 = ((dB K V (n + m)).extract 0 (11 * n + min kp (11 * m)), sy) := by
  have b := bld_state h n (n + m) hn
  have b2 : (xF ⟨#[]⟩ 0 (if m = 0 then bldL K V n (n + m) ++ [opSy] else bldL K V n (n + m))).1 = (dB K V (n + m), 11 * n) := by
    by_cases c : m = 0
    · rw [if_pos c, xF_snoc, b]
      unfold opSy
      simp only [x3]
      rw [dB_size h, c, Nat.add_zero]
    · rw [if_neg c, b, if_neg (by omega)]
  unfold durL opCr
  rw [xF_snoc, b2]
  simp only [x4]
  have e : (crsK (dB K V (n + m)) (11 * n) (kp : Nat)).toNat = min kp (11 * m) := by
    unfold crsK
    rw [dB_size h, if_neg (show ¬ (kp : Int) < 0 by omega)]
    split <;> omega
  rw [e]
  exact ⟨_, rfl⟩
/-- what is read behind the crash -/
theorem dur_read {K V : Nat → ByteArray} (h : Dur K V) (n m : Nat) (kp : Nat) (hn : n + m ≤ 1000) (key : ByteArray) :
    rdX (xF ⟨#[]⟩ 0 (durL K V n m kp)).1.1 key = if (fN K V n kp key (n + m)).size = 0 then none else some (fN K V n kp key (n + m)) := by
  obtain ⟨sy, e⟩ := dur_state h n m kp hn
  rw [e, rd_trps, dur_cut h (n + m) _ (by omega), ← fN_get h n kp key (n + m)]
  congr 2
  omega
/-- the three reads: their answers are the last three -/
theorem dur_outs (L : List Op) (d : ByteArray) (sy : Nat) (a b c : ByteArray) : ∃ x y z : XOt, (xF d sy (L ++ [opRd a] ++ [opRd b] ++ [opRd c])).2 = (xF d sy L).2 ++ [x, y, z] ∧
    (x.cd = (if (rdX (xF d sy L).1.1 a).isSome then 0 else 5) ∧ x.dt = (rdX (xF d sy L).1.1 a).getD ⟨#[]⟩) ∧
    (y.cd = (if (rdX (xF d sy L).1.1 b).isSome then 0 else 5) ∧ y.dt = (rdX (xF d sy L).1.1 b).getD ⟨#[]⟩) ∧
    (z.cd = (if (rdX (xF d sy L).1.1 c).isSome then 0 else 5) ∧ z.dt = (rdX (xF d sy L).1.1 c).getD ⟨#[]⟩) := by
  obtain ⟨d1, hd⟩ : ∃ x, x = (xF d sy L).1.1 := ⟨_, rfl⟩
  obtain ⟨s1, hs⟩ : ∃ x, x = (xF d sy L).1.2 := ⟨_, rfl⟩
  rw [xF_snoc, xF_snoc, xF_snoc, ← hd, ← hs]
  have ea := x_rd d1 s1 a
  have eb := x_rd d1 s1 b
  have ec := x_rd d1 s1 c
  simp only [ea.1, eb.1]
  refine ⟨_, _, _, ?_, ea.2, eb.2, ec.2⟩
  simp
end Go.Proofs.YtngkiokibldfjaaGreatDoor
