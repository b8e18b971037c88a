import Derived.Test.YtmjolkagkeonfaaGreatDoorG4
import Derived.Test.YtmjolkagkeonfaaGreatDoorG4
import Derived.Test.YtmjolkagkeonfaaGreatDoorG4
namespace Go.Proofs.YtmjolkagkeonfaaGreatDoor
open Go.RowKit
/-! Texts asked for their front, read as numbers, cut at a byte: the specification's. -/
theorem eqL (a b : ByteArray) : (a.toList == b.toList) = decide (a = b) := by
  have e : ∀ x : ByteArray, x.toList = x.data.toList := fun x => by rw [ByteArray.toList_eq]
  rw [e, e]
  by_cases h : a = b
  · subst h; simp
  · rw [decide_eq_false h]
    simp only [beq_eq_false_iff_ne]
    exact fun hh => h (ba_extL hh)
theorem emptyL (s : ByteArray) : s.toList.isEmpty = decide (s.size = 0) := by
  rw [ByteArray.toList_eq]
  by_cases h : s.size = 0
  · rw [decide_eq_true h]
    have : s.data.toList.length = 0 := by simpa using h
    rw [List.eq_nil_of_length_eq_zero this]
    rfl
  · rw [decide_eq_false h]
    cases hl : s.data.toList with
    | nil => exact absurd (by have := congrArg List.length hl; simpa using this) h
    | cons a b => rfl
theorem ext_take (s : ByteArray) (k : Nat) : (s.extract 0 k).data.toList = s.data.toList.take k := by
  rw [ByteArray.data_extract]; simp
theorem ext_mid (s : ByteArray) (i k : Nat) : (s.extract i k).data.toList = (s.data.toList.take k).drop i := by
  rw [ByteArray.data_extract]; simp [List.drop_take]
/-! Numbers read. -/
def dgC (c : UInt8) : Prop := 48 ≤ c.toNat ∧ c.toNat ≤ 57
def numL (l : List UInt8) : Nat := l.foldl (fun n c => n * 10 + (c.toNat - 48)) 0
theorem numL_snoc (l : List UInt8) (c : UInt8) : numL (l ++ [c]) = numL l * 10 + (c.toNat - 48) := by simp [numL]
theorem numL_lt : ∀ (n : Nat) (l : List UInt8), l.length = n → (∀ c ∈ l, dgC c) → numL l < 10 ^ n := by
  intro n
  induction n with
  | zero => intro l hl _; rw [List.eq_nil_of_length_eq_zero hl]; decide
  | succ n ih =>
    intro l hl hd
    have hne : l ≠ [] := fun e => by rw [e] at hl; simp at hl
    rw [← List.dropLast_concat_getLast hne] at hd ⊢
    have h1 := ih l.dropLast (by simp; omega) (fun c hc => hd c (List.mem_append.2 (.inl hc)))
    have h2 := hd (l.getLast hne) (by simp)
    unfold dgC at h2
    rw [numL_snoc, Nat.pow_succ]
    omega
theorem decDigits_dg (n : Nat) : ∀ c ∈ Lib.decDigits n, dgC c := by
  induction n using Nat.strongRecOn with
  | _ n ih =>
    intro c hc
    by_cases h : n < 10
    · rw [Lib.decDigits_one h] at hc
      rw [List.mem_singleton.1 hc]
      unfold dgC
      rw [UInt8.toNat_ofNat']
      omega
    · rw [Lib.decDigits, dif_neg h] at hc
      rcases List.mem_append.1 hc with hc | hc
      · exact ih (n / 10) (by omega) c hc
      · rw [List.mem_singleton.1 hc]
        unfold dgC
        rw [UInt8.toNat_ofNat']
        omega
theorem numL_dec (n : Nat) : numL (Lib.decDigits n) = n := by
  induction n using Nat.strongRecOn with
  | _ n ih =>
    by_cases h : n < 10
    · rw [Lib.decDigits_one h]
      unfold numL
      simp only [List.foldl_cons, List.foldl_nil]
      rw [UInt8.toNat_ofNat']
      omega
    · rw [Lib.decDigits, dif_neg h, numL_snoc, ih (n / 10) (by omega), UInt8.toNat_ofNat']
      omega
theorem decDigits_pos (n : Nat) : 1 ≤ (Lib.decDigits n).length := by
  by_cases h : n < 10
  · rw [Lib.decDigits_one h]; simp
  · rw [Lib.decDigits, dif_neg h]; simp
def dgP (s : ByteArray) (most : Nat) : Prop := 1 ≤ s.size ∧ s.size ≤ most ∧ ∀ i (h : i < s.size), dgC (s[i]'h)
noncomputable def numV (s : ByteArray) (most : Nat) : Int := if pb (dgP s most) then (numL s.data.toList : Int) else -1
theorem numV_t {s : ByteArray} {most : Nat} (h : dgP s most) : numV s most = (numL s.data.toList : Int) := by unfold numV; rw [pb_t h]; rfl
theorem numV_f {s : ByteArray} {most : Nat} (h : ¬ dgP s most) : numV s most = -1 := by unfold numV; rw [pb_f h]; rfl
theorem take_oneN (s : ByteArray) (k : Nat) (h : k < s.size) : s.data.toList.take (k + 1) = s.data.toList.take k ++ [s[k]] := by
  rw [List.take_succ_eq_append_getElem (by simpa using h)]; rfl
theorem take_mem {s : ByteArray} {k : Nat} {c : UInt8} (hk : k ≤ s.size) (h : c ∈ s.data.toList.take k) : ∃ i, ∃ hi : i < s.size, i < k ∧ s[i]'hi = c := by
  obtain ⟨i, hi, e⟩ := List.getElem_of_mem h
  have hl : i < k := by have := hi; simp at this; omega
  refine ⟨i, by omega, hl, ?_⟩
  rw [← e, List.getElem_take]
  rfl
set_option maxRecDepth 20000 in
set_option maxHeartbeats 4000000 in
theorem sNumber (s : ByteArray) (hs : s.size ≤ 1048576) (most : Nat) (hm : most ≤ 10) (w : World) :
    Calls Tryz.prog 119 #[.string s, .int .i64 (most : Int)] w fun e w' => e = .returned (.int .i64 (numV s most)) ∧ w' = w := by
  by_cases h0 : 1 ≤ s.size
  case neg =>
    have e0 : s.toList.isEmpty = true := by rw [emptyL]; exact decide_eq_true (by omega)
    have E : Hid (numV s most = -1) := numV_f fun hh => h0 hh.1
    go_enter Tryz.func119, Tryz.ntmps119
    go_wp2
    go_ret
    exact ⟨by rw [E.out]; rfl, rfl⟩
  have e0 : s.toList.isEmpty = false := by rw [emptyL]; exact decide_eq_false (by omega)
  by_cases h1 : s.size ≤ most
  case neg =>
    have d1 : (most : Int) < (s.size : Int) := by omega
    have E : Hid (numV s most = -1) := numV_f fun hh => h1 hh.2.1
    go_enter Tryz.func119, Tryz.ntmps119
    go_wp2
    go_ret
    exact ⟨by rw [E.out]; rfl, rfl⟩
  have d1 : ¬ (most : Int) < (s.size : Int) := by omega
  go_enter Tryz.func119, Tryz.ntmps119
  go_wp2
  go_loop [5, 6] (fun n v => ∃ k : Nat, k ≤ s.size ∧ v = .int .i64 (k : Int) ∧ n = .int .i64 (numL (s.data.toList.take k) : Nat) ∧ ∀ i (h : i < s.size), i < k → dgC (s[i]'h)) (fun _ v => s.size - (intOf v).toNat)
  case atStart => exact ⟨0, Nat.zero_le _, rfl, rfl, fun i _ hi => absurd hi (Nat.not_lt_zero _)⟩
  case round =>
    obtain ⟨k, hk, rfl, rfl, hr⟩ := hrel
    have HR := hid hr
    clear hr
    by_cases hlt : k < s.size
    · have d3 : (k : Int) < (s.size : Int) := by omega
      have nb : numL (s.data.toList.take k) < 10 ^ 10 := by
        have h2 := numL_lt k (s.data.toList.take k) (by simp; omega) (fun c hc => by obtain ⟨i, hi, h3, rfl⟩ := take_mem hk hc; exact HR.out i hi h3)
        exact Nat.lt_of_lt_of_le h2 (Nat.pow_le_pow_right (by omega) (by omega))
      have NS : Hid (numL (s.data.toList.take (k + 1)) = numL (s.data.toList.take k) * 10 + ((s[k]'hlt).toNat - 48)) := by show _ = _; rw [take_oneN s k hlt, numL_snoc]
      obtain ⟨N, hN⟩ : ∃ N, N = numL (s.data.toList.take k) := ⟨_, rfl⟩
      rw [← hN] at nb NS
      rw [← hN]
      clear hN
      have nb2 : N < 10000000000 := by simpa using nb
      clear nb
      have cb := (s[k]'hlt).toNat_lt
      rcases (by omega : (s[k]'hlt).toNat < 48 ∨ (48 ≤ (s[k]'hlt).toNat ∧ (s[k]'hlt).toNat ≤ 57) ∨ 57 < (s[k]'hlt).toNat) with h | ⟨h, h'⟩ | h
      · have k0 : ((s[k]'hlt).toNat : Int) < 48 := by omega
        have E : Hid (numV s most = -1) := numV_f fun hh => by have := (hh.2.2 k hlt).1; omega
        clear h cb
        go_wp2
        go_ret
        exact ⟨by rw [E.out]; rfl, rfl⟩
      · have k0 : ¬ ((s[k]'hlt).toNat : Int) < 48 := by omega
        have k1 : ¬ (57 : Int) < ((s[k]'hlt).toNat : Int) := by omega
        have N1 : Hid (∀ i (h : i < s.size), i < k + 1 → dgC (s[i]'h)) := fun i hi h2 => by
          by_cases e : i = k
          · subst e; exact ⟨h, h'⟩
          · exact HR.out i hi (by omega)
        obtain ⟨D, hD⟩ : ∃ D : Nat, (s[k]'hlt).toNat = D + 48 := ⟨(s[k]'hlt).toNat - 48, by omega⟩
        have hD9 : D ≤ 9 := by omega
        have w1 : IntKind.u8.wrap (((s[k]'hlt).toNat : Int) - 48) = (D : Int) := by rw [hD, IntKind.wrap_u8']; omega
        have NS2 : Hid ((N : Int) * 10 + (D : Int) = ((numL (s.data.toList.take (k + 1)) : Nat) : Int)) := by show _ = _; rw [NS.out, hD]; omega
        clear hD h h' cb NS
        go_wp2
        exact ⟨⟨k + 1, by omega, by go_num, by rw [← NS2.out], N1.out⟩, by simp [intOf]; omega⟩
      · have k0 : ¬ ((s[k]'hlt).toNat : Int) < 48 := by omega
        have k1 : (57 : Int) < ((s[k]'hlt).toNat : Int) := by omega
        have E : Hid (numV s most = -1) := numV_f fun hh => by have := (hh.2.2 k hlt).2; omega
        clear h cb
        go_wp2
        go_ret
        exact ⟨by rw [E.out]; rfl, rfl⟩
    · have d3 : ¬ (k : Int) < (s.size : Int) := by omega
      have E : Hid (numV s most = ((numL (s.data.toList.take k) : Nat) : Int)) := by
        show _ = _
        rw [numV_t ⟨h0, h1, fun i h => HR.out i h (by omega)⟩, List.take_of_length_le (by simp; omega)]
      go_wp2
      go_ret
      exact ⟨by rw [E.out]; rfl, rfl⟩
def tmP (s : ByteArray) : Prop := ∃ n, n ≤ 4102444800 ∧ s.data.toList = Lib.decDigits n
noncomputable def timV (s : ByteArray) : Int := if pb (tmP s) then (numL s.data.toList : Int) else -1
theorem decD_lenN : ∀ d n, n < 10 ^ (d + 1) → (Lib.decDigits n).length ≤ d + 1
  | 0, n, h => by rw [Lib.decDigits_one (by omega)]; simp
  | d + 1, n, h => by
    by_cases h1 : n < 10
    · rw [Lib.decDigits_one h1]; simp
    · rw [Lib.decDigits, dif_neg h1, List.length_append]
      have := decD_lenN d (n / 10) (by rw [Nat.pow_succ] at h; omega)
      simp
      omega
theorem dgP_dec {s : ByteArray} {n d : Nat} (h : s.data.toList = Lib.decDigits n) (hn : n < 10 ^ (d + 1)) : dgP s (d + 1) := by
  have h1 := decDigits_pos n
  have h2 := decD_lenN d n hn
  rw [← h, baLen] at h1 h2
  refine ⟨h1, h2, fun i hi => decDigits_dg n _ ?_⟩
  rw [← h]
  exact List.getElem_mem (l := s.data.toList) (by simpa using hi)
set_option maxRecDepth 20000 in
set_option maxHeartbeats 2000000 in
theorem sTime (s : ByteArray) (hs : s.size ≤ 1048576) (w : World) :
    Calls Tryz.prog 77 #[.string s] w fun e w' => e = .returned (.int .i64 (timV s)) ∧ Below w.heap.size w w' := by
  have K := hid (sNumber s hs 10 (by omega) w)
  by_cases h0 : dgP s 10
  case neg =>
    rw [numV_f h0] at K
    have E : Hid (timV s = -1) := by
      show _ = _
      unfold timV
      rw [pb_f fun ⟨n, h1, h2⟩ => h0 (dgP_dec h2 (by omega))]
      rfl
    go_enter Tryz.func77, Tryz.ntmps77
    go_wp2_with fail
    refine K.out.mono ?_
    rintro e w1 ⟨rfl, hw1⟩
    obtain rfl := hw1.symm
    go_wp2
    go_ret
    exact ⟨by rw [E.out]; rfl, Below.refl _ _⟩
  rw [numV_t h0] at K
  have TV := fun h => hid (show timV s = -1 by unfold timV; rw [pb_f h]; rfl)
  have TT := fun h => hid (show timV s = (numL s.data.toList : Int) by unfold timV; rw [pb_t h]; rfl)
  have UN : Hid (tmP s → numL s.data.toList ≤ 4102444800 ∧ s.data.toList = Lib.decDigits (numL s.data.toList)) := fun ⟨n, h1, h2⟩ => by
    have : numL s.data.toList = n := by rw [h2, numL_dec]
    rw [this]
    exact ⟨h1, h2⟩
  have UP : Hid (numL s.data.toList ≤ 4102444800 → s.data.toList = Lib.decDigits (numL s.data.toList) → tmP s) := fun h1 h2 => ⟨_, h1, h2⟩
  have DC := fun n hn wx => hid (sDec n hn wx)
  obtain ⟨N, hN⟩ : ∃ N, N = numL s.data.toList := ⟨_, rfl⟩
  rw [← hN] at K TT UN UP
  clear hN
  by_cases h1 : N ≤ 4102444800
  case neg =>
    have d1 : (4102444800 : Int) < (N : Int) := by omega
    have d0 : ¬ (N : Int) < 0 := by omega
    have E := TV fun hh => h1 (UN.out hh).1
    clear TV TT UN UP DC
    go_enter Tryz.func77, Tryz.ntmps77
    go_wp2_with fail
    refine K.out.mono ?_
    rintro e w1 ⟨rfl, hw1⟩
    obtain rfl := hw1.symm
    go_wp2
    go_ret
    exact ⟨by rw [E.out]; rfl, Below.refl _ _⟩
  have d1 : ¬ (4102444800 : Int) < (N : Int) := by omega
  have d0 : ¬ (N : Int) < 0 := by omega
  have D0 := DC N h1
  clear DC
  go_enter Tryz.func77, Tryz.ntmps77
  go_wp2_with fail
  refine K.out.mono ?_
  rintro e w1 ⟨rfl, hw1⟩
  obtain rfl := hw1.symm
  go_wp2_with fail
  refine (D0 _).out.mono ?_
  rintro e w2 ⟨⟨t, rfl, ht, _⟩, hb2⟩
  have HT := hid ht
  have B2 := hid hb2
  clear ht hb2
  by_cases h2 : t = s
  · have b2 : (t.toList == s.toList) = true := (eqL _ _).trans (decide_eq_true h2)
    have E := TT (UP.out h1 (by rw [← HT.out, h2]))
    clear h2 TV TT UN UP
    go_wp2
    go_ret
    exact ⟨by rw [E.out]; rfl, B2.out⟩
  · have b2 : (t.toList == s.toList) = false := (eqL _ _).trans (decide_eq_false h2)
    have E := TV fun hh => h2 (ba_extL (by rw [HT.out, ← (UN.out hh).2]))
    clear h2 TV TT UN UP
    go_wp2
    go_ret
    exact ⟨by rw [E.out]; rfl, B2.out⟩
end Go.Proofs.YtmjolkagkeonfaaGreatDoor
namespace Go.Proofs.YtmjolkagkeonfaaGreatDoor
open Go.RowKit
/-! A text cut at the first place of another; at every byte of a kind: the specification's l01Index, l01Split. -/
/-! Cut at every byte of a kind. -/
def splA (c : UInt8) : List UInt8 → List UInt8 → List (List UInt8)
  | cur, [] => [cur]
  | cur, x :: r => if x = c then cur :: splA c [] r else splA c (cur ++ [x]) r
def splB (c : UInt8) (s : ByteArray) : List ByteArray := (splA c [] s.data.toList).map ofL
theorem splA_len (c : UInt8) : ∀ (l cur : List UInt8), 1 ≤ (splA c cur l).length ∧ (splA c cur l).length ≤ l.length + 1
  | [], cur => by simp [splA]
  | x :: r, cur => by
    unfold splA
    split
    · have := splA_len c r []; simp; omega
    · have := splA_len c r (cur ++ [x]); simp; omega
set_option maxRecDepth 20000 in
set_option maxHeartbeats 2000000 in
theorem sSplit (s : ByteArray) (hs : s.size ≤ 1048576) (c : UInt8) (w : World) :
    Calls Tryz.prog 42 #[.string s, .int .u8 (c.toNat : Int)] w fun e w' => (∃ v, e = .returned v ∧ OwnStrs w' w.heap.size v (splB c s)) ∧ Below w.heap.size w w' := by
  have INF := Tryz.infoS'
  have FIN : Hid (∀ (xs : List ByteArray) (f : Nat), f ≤ s.size → xs.map (fun b => b.data.toList) ++ splA c ((s.data.toList.take s.size).drop f) (s.data.toList.drop s.size) = splA c [] s.data.toList → xs ++ [s.extract f s.size] = splB c s) := fun xs f hf h => by
    unfold splB
    have e0 : s.data.toList.drop s.size = [] := List.drop_of_length_le (by rw [baLen]; exact Nat.le_refl _)
    rw [e0] at h
    rw [← h, List.map_append, List.map_map]
    congr 1
    · rw [show (ofL ∘ fun b : ByteArray => b.data.toList) = id from funext fun b => (ofL_of (l := b.data.toList) rfl).symm]; simp
    · simp only [splA, List.map_cons, List.map_nil]
      rw [ofL_of (ext_mid s f s.size)]
  have B0 : Hid (Below w.heap.size w (w.alloc (.cells #[] 9))) := (Below.refl _ _).alloc (Nat.le_refl _) _
  go_enter Tryz.func42, Tryz.ntmps42
  go_wp2_with fail
  go_loopw [5, 6, 7] (fun v fv iv wr => ∃ (xs : List ByteArray) (f k : Nat), f ≤ k ∧ k ≤ s.size ∧ fv = .int .i64 (f : Int) ∧ iv = .int .i64 (k : Int) ∧ xs.length ≤ k ∧ OwnStrs wr w.heap.size v xs ∧ Below w.heap.size w wr ∧ xs.map (fun b => b.data.toList) ++ splA c ((s.data.toList.take k).drop f) (s.data.toList.drop k) = splA c [] s.data.toList) (fun _ _ iv _ => s.size - (intOf iv).toNat)
  case atStart => exact ⟨[], 0, 0, Nat.le_refl _, Nat.zero_le _, rfl, rfl, Nat.le_refl _, World.ownsRow_made w #[] 0 (Nat.le_refl _) (by decide) rfl, B0.out, by simp⟩
  case round =>
    obtain ⟨xs, f, k, hfk, hk, rfl, rfl, hxl, hO, hB, hsp⟩ := hrel
    have O := hid hO
    have B := hid hB
    have HSP := hid hsp
    clear hO hB hsp
    by_cases hlt : k < s.size
    · have d3 : (k : Int) < (s.size : Int) := by omega
      have d4 : (f : Int) ≤ (k : Int) := by omega
      have d5 : (k : Int) ≤ (s.size : Int) := by omega
      have f0 : (0 : Int) ≤ (f : Int) := by omega
      have DK : s.data.toList.drop k = s[k] :: s.data.toList.drop (k + 1) := by
        rw [List.drop_eq_getElem_cons (by rw [baLen]; exact hlt)]; rfl
      have TK : (s.data.toList.take (k + 1)).drop f = (s.data.toList.take k).drop f ++ [s[k]] := by
        rw [take_oneN s k hlt, List.drop_append_of_le_length (by rw [List.length_take, baLen]; omega)]
      rw [DK] at HSP
      by_cases q : s[k] = c
      · have b1 : ((s[k].toNat : Int) == (c.toNat : Int)) = true := by rw [q]; simp
        have N : Hid ((xs ++ [s.extract f k]).map (fun b => b.data.toList) ++ splA c ((s.data.toList.take (k + 1)).drop (k + 1)) (s.data.toList.drop (k + 1)) = splA c [] s.data.toList) := by
          show _ = _
          rw [← HSP.out, List.map_append, List.drop_of_length_le (by rw [List.length_take, baLen]; omega)]
          conv => rhs; unfold splA
          rw [if_pos q]
          simp only [List.map_cons, List.map_nil, ext_mid, List.append_assoc, List.cons_append, List.nil_append]
        have YL : Hid ((xs ++ [s.extract f k]).length ≤ k + 1) := by show _ ≤ _; simp; omega
        clear q DK TK HSP
        go_wp2_with (first | (at_builtin; refine append_str2 w.heap.size wr rfl (.tmp 20) (.tmp 25) 70 rfl Tryz.underlying70 INF _ xs (s.extract f k) rfl O.out B.out.size rfl (by omega) ?_) | go_in)
        intro v' w' hO' hg'
        have B' := hid (B.out.grown hg' B.out.size fun k hk => (World.ownsRow.lt O.out k hk).1)
        have O' := hid hO'
        clear hO' hg'
        go_wp2
        go_roundw
        case rel => exact ⟨_, k + 1, k + 1, Nat.le_refl _, by omega, by go_num, by go_num, YL.out, O'.out, B'.out, N.out⟩
        case measure => simp [intOf]; omega
      · have b1 : ((s[k].toNat : Int) == (c.toNat : Int)) = false := by
          rw [beq_eq_false_iff_ne]
          intro hh
          exact q (UInt8.toNat_inj.1 (by omega))
        have N : Hid (xs.map (fun b => b.data.toList) ++ splA c ((s.data.toList.take (k + 1)).drop f) (s.data.toList.drop (k + 1)) = splA c [] s.data.toList) := by
          show _ = _
          rw [← HSP.out, TK]
          conv => rhs; unfold splA
          rw [if_neg q]
        clear q DK TK HSP
        go_wp2
        go_roundw
        case rel => exact ⟨xs, f, k + 1, by omega, by omega, rfl, by go_num, by omega, O.out, B.out, N.out⟩
        case measure => simp [intOf]; omega
    · have d3 : ¬ (k : Int) < (s.size : Int) := by omega
      have ek : k = s.size := by omega
      have d4 : (f : Int) ≤ (s.size : Int) := by omega
      have f0 : (0 : Int) ≤ (f : Int) := by omega
      have Z := hid (FIN.out xs f (by omega) (by rw [← ek]; exact HSP.out))
      clear HSP ek
      go_wp2_with (first | (at_builtin; refine append_str2 w.heap.size wr rfl (.tmp 29) (.tmp 33) 70 rfl Tryz.underlying70 INF _ xs (s.extract f s.size) rfl O.out B.out.size rfl (by omega) ?_) | go_in)
      intro v' w' hO' hg'
      have B' := hid (B.out.grown hg' B.out.size fun k hk => (World.ownsRow.lt O.out k hk).1)
      rw [Z.out] at hO'
      have O' := hid hO'
      clear hO' hg'
      go_wp2
      go_ret
      exact ⟨⟨_, rfl, O'.out⟩, B'.out⟩
end Go.Proofs.YtmjolkagkeonfaaGreatDoor
