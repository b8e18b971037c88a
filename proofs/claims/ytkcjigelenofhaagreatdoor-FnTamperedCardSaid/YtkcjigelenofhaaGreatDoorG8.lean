import Derived.Test.YtkcjigelenofhaaGreatDoorBase
import Derived.RegionTactic
import Derived.Test.YtkcjigelenofhaaGreatDoorG3
import Derived.Test.YtkcjigelenofhaaGreatDoorG2
import Derived.Test.YtkcjigelenofhaaGreatDoorG4
import Derived.Deep.AppendLies
namespace Go.Proofs.YtkcjigelenofhaaGreatDoor
open Go.RowKit
theorem count_set : ∀ {l : List Bool} {i : Nat}, l[i]? = some false → (l.set i true).countP (fun b => !b) + 1 = l.countP (fun b => !b)
 | [], i, h => by simp at h
 | b :: l, 0, h => by simp at h; subst h; simp
 | b :: l, i + 1, h => by
  have := count_set (l := l) (i := i) (by simpa using h)
  cases b <;> simp [List.set_cons_succ] at this ⊢ <;> omega
section
variable {P : Program} {md : Region.Mode} {ops : Array Oper} {Q : Exit → Act → World → Prop}
theorem listed_false {l : Array Bool} {i : Nat} (h : l.getD i true = false) : l.toList[i]? = some false := by
 obtain ⟨l⟩ := l
 rcases Nat.lt_or_ge i l.length with hi | hi
 · simp [Array.getD, hi] at h ⊢; exact h
 · simp [Array.getD, Nat.not_lt.2 hi] at h
theorem wpAny_inv (I : Array Bool → Act → World → Prop)
 (step : ∀ l a w, I l a w → ∀ i ∈ Region.ready md ops l, wpOp P ops Q i (I (l.setIfInBounds i true)) a w)
 (fin : ∀ l a w, I l a w → Region.ready md ops l = [] → Q .normal a w) :
 ∀ (fuel : Nat) (l : Array Bool) (a : Act) (w : World), l.toList.countP (fun b => !b) ≤ fuel → I l a w → wpAny P md ops Q fuel l a w
 | 0, l, a, w, hc, h => by
  have hr : Region.ready md ops l = [] := by
   cases e : Region.ready md ops l with
   | nil => rfl
   | cons i rs =>
    have hi : i ∈ Region.ready md ops l := by rw [e]; simp
    have := count_set (listed_false (mem_ready.1 hi).1)
    omega
  exact ⟨hr, fin l a w h hr⟩
 | fuel + 1, l, a, w, hc, h => by
  refine ⟨fin l a w h, fun i hi => wpOp_mono (fun a' w' h' => wpAny_inv I step fin fuel _ a' w' ?_ h') (step l a w h i hi)⟩
  have := count_set (listed_false (mem_ready.1 hi).1)
  rw [Array.toList_setIfInBounds]
  omega
def topoB (ops : Array Oper) : Bool := (List.range ops.size).all fun i => ((ops[i]?).map (·.after.all fun e => decide (e.on < i))).getD true
theorem ready_all (hT : topoB ops = true) {l : Array Bool} (hs : l.size = ops.size) (hr : Region.ready md ops l = []) : ∀ i, i < l.size → l.getD i false = true := by
 intro i
 induction i using Nat.strongRecOn with
 | ind i ih =>
  intro hi
  cases e : l.getD i false with
  | true => rfl
  | false =>
   exfalso
   have h0 : l.getD i true = false := by
    simp [Array.getD, hi] at e ⊢; exact e
   have hio : i < ops.size := by omega
   obtain ⟨o, ho⟩ : ∃ o, ops[i]? = some o := ⟨ops[i], by simp [hio]⟩
   have : i ∈ Region.ready md ops l := mem_ready.2 ⟨h0, o, ho, fun e he _ => ih e.on (by
    have := List.all_eq_true.1 hT i (List.mem_range.2 hio)
    rw [ho] at this
    simp only [Option.map_some, Option.getD_some, Array.all_eq_true] at this
    obtain ⟨k, hk, rfl⟩ := Array.getElem_of_mem he
    simpa using this k hk) (by
    have := List.all_eq_true.1 hT i (List.mem_range.2 hio)
    rw [ho] at this
    simp only [Option.map_some, Option.getD_some, Array.all_eq_true] at this
    obtain ⟨k, hk, rfl⟩ := Array.getElem_of_mem he
    have := this k hk
    simp at this
    omega)⟩
   rw [hr] at this
   cases this
def Closed (ops : Array Oper) (l : Array Bool) : Prop := ∀ i o, ops[i]? = some o → l.getD i false = true → ∀ e ∈ o.after, Region.binds .any e = true → l.getD e.on false = true
theorem getD_set_mono {l : Array Bool} {i j : Nat} (h : l.getD j false = true) : (l.setIfInBounds i true).getD j false = true := by
 obtain ⟨l⟩ := l
 simp only [Array.getD_eq_getD_getElem?, List.setIfInBounds_toArray, List.getElem?_toArray] at h ⊢
 rw [List.getElem?_set]
 split
 · rename_i e; subst e
   split
   · rfl
   · rename_i hl; simp [List.getElem?_eq_none (Nat.not_lt.1 hl)] at h
 · exact h
theorem Closed.next {l : Array Bool} (h : Closed ops l) {i : Nat} {o : Oper} (ho : ops[i]? = some o) (h1 : ∀ e ∈ o.after, Region.binds .any e = true → l.getD e.on false = true) : Closed ops (l.setIfInBounds i true) := by
 intro k ok hk hl e he hb
 by_cases hki : k = i
 · subst hki
   rw [ho] at hk; cases hk
   exact getD_set_mono (h1 e he hb)
 · refine getD_set_mono (h k ok hk ?_ e he hb)
   obtain ⟨l⟩ := l
   simp only [Array.getD_eq_getD_getElem?, List.setIfInBounds_toArray, List.getElem?_toArray] at hl ⊢
   rw [List.getElem?_set_ne (Ne.symm hki)] at hl
   exact hl
theorem wp_region_inv {id : Nat} {a : Act} {w : World} (I : Array Bool → Act → World → Prop) (hm : P.follows .mixedOrders = true) (hT : topoB ops = true)
 (hsz : ∀ l a w, I l a w → l.size = ops.size)
 (step : ∀ l a w, Closed ops l → I l a w → ∀ i, l.getD i true = false → ∀ o, ops[i]? = some o → (∀ e ∈ o.after, Region.binds .any e = true → l.getD e.on false = true) → wpOp P ops Q i (I (l.setIfInBounds i true)) a w)
 (fin : ∀ l a w, I l a w → (∀ i, i < l.size → l.getD i false = true) → Q .normal a w)
 (h : I (Array.replicate ops.size false) a w.drew) : (Code.region id ops true).wp P Q a w := by
 refine wp_region_any hm (wpAny_inv (fun l a w => Closed ops l ∧ I l a w) (fun l a w hI i hi => ?_) (fun l a w hI hr => fin l a w hI.2 (ready_all hT (hsz l a w hI.2) hr)) ops.size _ a _ ?_ ⟨?_, h⟩)
 · obtain ⟨h0, o, ho, h1⟩ := mem_ready.1 hi
   exact wpOp_mono (fun _ _ h => ⟨hI.1.next ho h1, h⟩) (step l a w hI.1 hI.2 i h0 o ho h1)
 · simp [List.countP_replicate]
 · intro k ok hk hl
   rcases Nat.lt_or_ge k ops.size with hlt | hge
   · simp [Array.getD, hlt] at hl
   · simp [Array.getD, Nat.not_lt.2 hge] at hl
end
end Go.Proofs.YtkcjigelenofhaaGreatDoor
namespace Go.Proofs.YtkcjigelenofhaaGreatDoor
open Go.RowKit
theorem eqL (a b : ByteArray) : (a.toList == b.toList) = decide (a = b) := by
 have e : ∀ x : ByteArray, x.toList = x.data.toList := fun x => by rw [ByteArray.toList_eq]
 rw [e, e]
 by_cases h : a = b
 · subst h; simp
 · rw [decide_eq_false h]
   simp only [beq_eq_false_iff_ne]
   exact fun hh => h (ba_extL hh)
theorem emptyL (s : ByteArray) : s.toList.isEmpty = decide (s.size = 0) := by
 rw [ByteArray.toList_eq]
 by_cases h : s.size = 0
 · rw [decide_eq_true h]
   have : s.data.toList.length = 0 := by simpa using h
   rw [List.eq_nil_of_length_eq_zero this]
   rfl
 · rw [decide_eq_false h]
   cases hl : s.data.toList with
   | nil => exact absurd (by have := congrArg List.length hl; simpa using this) h
   | cons a b => rfl
def bgP (s h : ByteArray) : Prop := h.data.toList <+: s.data.toList
theorem ext_take (s : ByteArray) (k : Nat) : (s.extract 0 k).data.toList = s.data.toList.take k := by
 rw [ByteArray.data_extract]; simp
theorem ext_mid (s : ByteArray) (i k : Nat) : (s.extract i k).data.toList = (s.data.toList.take k).drop i := by
 rw [ByteArray.data_extract]; simp [List.drop_take]
theorem bgP_iff (s h : ByteArray) : bgP s h ↔ h.size ≤ s.size ∧ s.extract 0 h.size = h := by
 unfold bgP
 constructor
 · rintro ⟨r, e⟩
   have hl := congrArg List.length e
   rw [List.length_append, baLen, baLen] at hl
   refine ⟨by omega, ba_extL ?_⟩
   rw [ext_take, ← e, List.take_append_of_le_length (by rw [baLen]; exact Nat.le_refl _), List.take_of_length_le (by rw [baLen]; exact Nat.le_refl _)]
 · rintro ⟨h1, h2⟩
   have := congrArg (fun b : ByteArray => b.data.toList) h2
   rw [ext_take] at this
   rw [← this]
   exact List.take_prefix _ _
set_option maxRecDepth 20000 in
set_option maxHeartbeats 1000000 in
theorem sBegins (s h : ByteArray) (_hs : s.size ≤ 1048576) (_hh : h.size ≤ 1048576) (w : World) :
 Calls Tryz.prog 49 #[.string s, .string h] w fun e w' => e = .returned (.bool (pb (bgP s h))) ∧ w' = w := by
 have B := hid (bgP_iff s h)
 by_cases h1 : h.size ≤ s.size
 · have d1 : (h.size : Int) ≤ (s.size : Int) := by omega
   by_cases h2 : s.extract 0 h.size = h
   · have E : Hid (pb (bgP s h) = true) := pb_t (B.out.2 ⟨h1, h2⟩)
     have b2 : ((s.extract 0 h.size).toList == h.toList) = true := (eqL _ _).trans (decide_eq_true h2)
     clear h2 B
     go_enter Tryz.func49, Tryz.ntmps49
     go_wp2
     go_ret
     exact ⟨by rw [E.out]; rfl, rfl⟩
   · have E : Hid (pb (bgP s h) = false) := pb_f fun hb => h2 (B.out.1 hb).2
     have b2 : ((s.extract 0 h.size).toList == h.toList) = false := (eqL _ _).trans (decide_eq_false h2)
     clear h2 B
     go_enter Tryz.func49, Tryz.ntmps49
     go_wp2
     go_ret
     exact ⟨by rw [E.out]; rfl, rfl⟩
 · have d1 : ¬ (h.size : Int) ≤ (s.size : Int) := by omega
   have E : Hid (pb (bgP s h) = false) := pb_f fun hb => h1 (B.out.1 hb).1
   clear B
   go_enter Tryz.func49, Tryz.ntmps49
   go_wp2
   go_ret
   exact ⟨by rw [E.out]; rfl, rfl⟩
def dgC (c : UInt8) : Prop := 48 ≤ c.toNat ∧ c.toNat ≤ 57
def numL (l : List UInt8) : Nat := l.foldl (fun n c => n * 10 + (c.toNat - 48)) 0
theorem numL_snoc (l : List UInt8) (c : UInt8) : numL (l ++ [c]) = numL l * 10 + (c.toNat - 48) := by simp [numL]
theorem numL_lt : ∀ (n : Nat) (l : List UInt8), l.length = n → (∀ c ∈ l, dgC c) → numL l < 10 ^ n := by
 intro n
 induction n with
 | zero => intro l hl _; rw [List.eq_nil_of_length_eq_zero hl]; decide
 | succ n ih =>
  intro l hl hd
  have hne : l ≠ [] := fun e => by rw [e] at hl; simp at hl
  rw [← List.dropLast_concat_getLast hne] at hd ⊢
  have h1 := ih l.dropLast (by simp; omega) (fun c hc => hd c (List.mem_append.2 (.inl hc)))
  have h2 := hd (l.getLast hne) (by simp)
  unfold dgC at h2
  rw [numL_snoc, Nat.pow_succ]
  omega
theorem decDigits_dg (n : Nat) : ∀ c ∈ Lib.decDigits n, dgC c := by
 induction n using Nat.strongRecOn with
 | _ n ih =>
  intro c hc
  by_cases h : n < 10
  · rw [Lib.decDigits_one h] at hc
    rw [List.mem_singleton.1 hc]
    unfold dgC
    rw [UInt8.toNat_ofNat']
    omega
  · rw [Lib.decDigits, dif_neg h] at hc
    rcases List.mem_append.1 hc with hc | hc
    · exact ih (n / 10) (by omega) c hc
    · rw [List.mem_singleton.1 hc]
      unfold dgC
      rw [UInt8.toNat_ofNat']
      omega
theorem numL_dec (n : Nat) : numL (Lib.decDigits n) = n := by
 induction n using Nat.strongRecOn with
 | _ n ih =>
  by_cases h : n < 10
  · rw [Lib.decDigits_one h]
    unfold numL
    simp only [List.foldl_cons, List.foldl_nil]
    rw [UInt8.toNat_ofNat']
    omega
  · rw [Lib.decDigits, dif_neg h, numL_snoc, ih (n / 10) (by omega), UInt8.toNat_ofNat']
    omega
theorem decDigits_pos (n : Nat) : 1 ≤ (Lib.decDigits n).length := by
 by_cases h : n < 10
 · rw [Lib.decDigits_one h]; simp
 · rw [Lib.decDigits, dif_neg h]; simp
def dgP (s : ByteArray) (most : Nat) : Prop := 1 ≤ s.size ∧ s.size ≤ most ∧ ∀ i (h : i < s.size), dgC (s[i]'h)
noncomputable def numV (s : ByteArray) (most : Nat) : Int := if pb (dgP s most) then (numL s.data.toList : Int) else -1
theorem numV_t {s : ByteArray} {most : Nat} (h : dgP s most) : numV s most = (numL s.data.toList : Int) := by unfold numV; rw [pb_t h]; rfl
theorem numV_f {s : ByteArray} {most : Nat} (h : ¬ dgP s most) : numV s most = -1 := by unfold numV; rw [pb_f h]; rfl
theorem take_oneN (s : ByteArray) (k : Nat) (h : k < s.size) : s.data.toList.take (k + 1) = s.data.toList.take k ++ [s[k]] := by
 rw [List.take_succ_eq_append_getElem (by simpa using h)]; rfl
theorem take_mem {s : ByteArray} {k : Nat} {c : UInt8} (hk : k ≤ s.size) (h : c ∈ s.data.toList.take k) : ∃ i, ∃ hi : i < s.size, i < k ∧ s[i]'hi = c := by
 obtain ⟨i, hi, e⟩ := List.getElem_of_mem h
 have hl : i < k := by have := hi; simp at this; omega
 refine ⟨i, by omega, hl, ?_⟩
 rw [← e, List.getElem_take]
 rfl
set_option maxRecDepth 20000 in
set_option maxHeartbeats 4000000 in
theorem sNumber (s : ByteArray) (hs : s.size ≤ 1048576) (most : Nat) (hm : most ≤ 10) (w : World) :
 Calls Tryz.prog 60 #[.string s, .int .i64 (most : Int)] w fun e w' => e = .returned (.int .i64 (numV s most)) ∧ w' = w := by
 by_cases h0 : 1 ≤ s.size
 case neg =>
  have e0 : s.toList.isEmpty = true := by rw [emptyL]; exact decide_eq_true (by omega)
  have E : Hid (numV s most = -1) := numV_f fun hh => h0 hh.1
  go_enter Tryz.func60, Tryz.ntmps60
  go_wp2
  go_ret
  exact ⟨by rw [E.out]; rfl, rfl⟩
 have e0 : s.toList.isEmpty = false := by rw [emptyL]; exact decide_eq_false (by omega)
 by_cases h1 : s.size ≤ most
 case neg =>
  have d1 : (most : Int) < (s.size : Int) := by omega
  have E : Hid (numV s most = -1) := numV_f fun hh => h1 hh.2.1
  go_enter Tryz.func60, Tryz.ntmps60
  go_wp2
  go_ret
  exact ⟨by rw [E.out]; rfl, rfl⟩
 have d1 : ¬ (most : Int) < (s.size : Int) := by omega
 go_enter Tryz.func60, Tryz.ntmps60
 go_wp2
 go_loop [5, 6] (fun n v => ∃ k : Nat, k ≤ s.size ∧ v = .int .i64 (k : Int) ∧ n = .int .i64 (numL (s.data.toList.take k) : Nat) ∧ ∀ i (h : i < s.size), i < k → dgC (s[i]'h)) (fun _ v => s.size - (intOf v).toNat)
 case atStart => exact ⟨0, Nat.zero_le _, rfl, rfl, fun i _ hi => absurd hi (Nat.not_lt_zero _)⟩
 case round =>
  obtain ⟨k, hk, rfl, rfl, hr⟩ := hrel
  have HR := hid hr
  clear hr
  by_cases hlt : k < s.size
  · have d3 : (k : Int) < (s.size : Int) := by omega
    have nb : numL (s.data.toList.take k) < 10 ^ 10 := by
     have h2 := numL_lt k (s.data.toList.take k) (by simp; omega) (fun c hc => by obtain ⟨i, hi, h3, rfl⟩ := take_mem hk hc; exact HR.out i hi h3)
     exact Nat.lt_of_lt_of_le h2 (Nat.pow_le_pow_right (by omega) (by omega))
    have NS : Hid (numL (s.data.toList.take (k + 1)) = numL (s.data.toList.take k) * 10 + ((s[k]'hlt).toNat - 48)) := by show _ = _; rw [take_oneN s k hlt, numL_snoc]
    obtain ⟨N, hN⟩ : ∃ N, N = numL (s.data.toList.take k) := ⟨_, rfl⟩
    rw [← hN] at nb NS
    rw [← hN]
    clear hN
    have nb2 : N < 10000000000 := by simpa using nb
    clear nb
    have cb := (s[k]'hlt).toNat_lt
    rcases (by omega : (s[k]'hlt).toNat < 48 ∨ (48 ≤ (s[k]'hlt).toNat ∧ (s[k]'hlt).toNat ≤ 57) ∨ 57 < (s[k]'hlt).toNat) with h | ⟨h, h'⟩ | h
    · have k0 : ((s[k]'hlt).toNat : Int) < 48 := by omega
      have E : Hid (numV s most = -1) := numV_f fun hh => by have := (hh.2.2 k hlt).1; omega
      clear h cb
      go_wp2
      go_ret
      exact ⟨by rw [E.out]; rfl, rfl⟩
    · have k0 : ¬ ((s[k]'hlt).toNat : Int) < 48 := by omega
      have k1 : ¬ (57 : Int) < ((s[k]'hlt).toNat : Int) := by omega
      have N1 : Hid (∀ i (h : i < s.size), i < k + 1 → dgC (s[i]'h)) := fun i hi h2 => by
       by_cases e : i = k
       · subst e; exact ⟨h, h'⟩
       · exact HR.out i hi (by omega)
      obtain ⟨D, hD⟩ : ∃ D : Nat, (s[k]'hlt).toNat = D + 48 := ⟨(s[k]'hlt).toNat - 48, by omega⟩
      have hD9 : D ≤ 9 := by omega
      have w1 : IntKind.u8.wrap (((s[k]'hlt).toNat : Int) - 48) = (D : Int) := by rw [hD, IntKind.wrap_u8']; omega
      have NS2 : Hid ((N : Int) * 10 + (D : Int) = ((numL (s.data.toList.take (k + 1)) : Nat) : Int)) := by show _ = _; rw [NS.out, hD]; omega
      clear hD h h' cb NS
      go_wp2
      exact ⟨⟨k + 1, by omega, by go_num, by rw [← NS2.out], N1.out⟩, by simp [intOf]; omega⟩
    · have k0 : ¬ ((s[k]'hlt).toNat : Int) < 48 := by omega
      have k1 : (57 : Int) < ((s[k]'hlt).toNat : Int) := by omega
      have E : Hid (numV s most = -1) := numV_f fun hh => by have := (hh.2.2 k hlt).2; omega
      clear h cb
      go_wp2
      go_ret
      exact ⟨by rw [E.out]; rfl, rfl⟩
  · have d3 : ¬ (k : Int) < (s.size : Int) := by omega
    have E : Hid (numV s most = ((numL (s.data.toList.take k) : Nat) : Int)) := by
     show _ = _
     rw [numV_t ⟨h0, h1, fun i h => HR.out i h (by omega)⟩, List.take_of_length_le (by simp; omega)]
    go_wp2
    go_ret
    exact ⟨by rw [E.out]; rfl, rfl⟩
def tmP (s : ByteArray) : Prop := ∃ n, n ≤ 4102444800 ∧ s.data.toList = Lib.decDigits n
noncomputable def timV (s : ByteArray) : Int := if pb (tmP s) then (numL s.data.toList : Int) else -1
theorem decD_lenN : ∀ d n, n < 10 ^ (d + 1) → (Lib.decDigits n).length ≤ d + 1
 | 0, n, h => by rw [Lib.decDigits_one (by omega)]; simp
 | d + 1, n, h => by
  by_cases h1 : n < 10
  · rw [Lib.decDigits_one h1]; simp
  · rw [Lib.decDigits, dif_neg h1, List.length_append]
    have := decD_lenN d (n / 10) (by rw [Nat.pow_succ] at h; omega)
    simp
    omega
theorem dgP_dec {s : ByteArray} {n d : Nat} (h : s.data.toList = Lib.decDigits n) (hn : n < 10 ^ (d + 1)) : dgP s (d + 1) := by
 have h1 := decDigits_pos n
 have h2 := decD_lenN d n hn
 rw [← h, baLen] at h1 h2
 refine ⟨h1, h2, fun i hi => decDigits_dg n _ ?_⟩
 rw [← h]
 exact List.getElem_mem (l := s.data.toList) (by simpa using hi)
set_option maxRecDepth 20000 in
set_option maxHeartbeats 2000000 in
theorem sTime (s : ByteArray) (hs : s.size ≤ 1048576) (w : World) :
 Calls Tryz.prog 58 #[.string s] w fun e w' => e = .returned (.int .i64 (timV s)) ∧ Below w.heap.size w w' := by
 have K := hid (sNumber s hs 10 (by omega) w)
 by_cases h0 : dgP s 10
 case neg =>
  rw [numV_f h0] at K
  have E : Hid (timV s = -1) := by
   show _ = _
   unfold timV
   rw [pb_f fun ⟨n, h1, h2⟩ => h0 (dgP_dec h2 (by omega))]
   rfl
  go_enter Tryz.func58, Tryz.ntmps58
  go_wp2_with fail
  refine K.out.mono ?_
  rintro e w1 ⟨rfl, hw1⟩
  obtain rfl := hw1.symm
  go_wp2
  go_ret
  exact ⟨by rw [E.out]; rfl, Below.refl _ _⟩
 rw [numV_t h0] at K
 have TV := fun h => hid (show timV s = -1 by unfold timV; rw [pb_f h]; rfl)
 have TT := fun h => hid (show timV s = (numL s.data.toList : Int) by unfold timV; rw [pb_t h]; rfl)
 have UN : Hid (tmP s → numL s.data.toList ≤ 4102444800 ∧ s.data.toList = Lib.decDigits (numL s.data.toList)) := fun ⟨n, h1, h2⟩ => by
  have : numL s.data.toList = n := by rw [h2, numL_dec]
  rw [this]
  exact ⟨h1, h2⟩
 have UP : Hid (numL s.data.toList ≤ 4102444800 → s.data.toList = Lib.decDigits (numL s.data.toList) → tmP s) := fun h1 h2 => ⟨_, h1, h2⟩
 have DC := fun n hn wx => hid (sDec n hn wx)
 obtain ⟨N, hN⟩ : ∃ N, N = numL s.data.toList := ⟨_, rfl⟩
 rw [← hN] at K TT UN UP
 clear hN
 by_cases h1 : N ≤ 4102444800
 case neg =>
  have d1 : (4102444800 : Int) < (N : Int) := by omega
  have d0 : ¬ (N : Int) < 0 := by omega
  have E := TV fun hh => h1 (UN.out hh).1
  clear TV TT UN UP DC
  go_enter Tryz.func58, Tryz.ntmps58
  go_wp2_with fail
  refine K.out.mono ?_
  rintro e w1 ⟨rfl, hw1⟩
  obtain rfl := hw1.symm
  go_wp2
  go_ret
  exact ⟨by rw [E.out]; rfl, Below.refl _ _⟩
 have d1 : ¬ (4102444800 : Int) < (N : Int) := by omega
 have d0 : ¬ (N : Int) < 0 := by omega
 have D0 := DC N h1
 clear DC
 go_enter Tryz.func58, Tryz.ntmps58
 go_wp2_with fail
 refine K.out.mono ?_
 rintro e w1 ⟨rfl, hw1⟩
 obtain rfl := hw1.symm
 go_wp2_with fail
 refine (D0 _).out.mono ?_
 rintro e w2 ⟨⟨t, rfl, ht, _⟩, hb2⟩
 have HT := hid ht
 have B2 := hid hb2
 clear ht hb2
 by_cases h2 : t = s
 · have b2 : (t.toList == s.toList) = true := (eqL _ _).trans (decide_eq_true h2)
   have E := TT (UP.out h1 (by rw [← HT.out, h2]))
   clear h2 TV TT UN UP
   go_wp2
   go_ret
   exact ⟨by rw [E.out]; rfl, B2.out⟩
 · have b2 : (t.toList == s.toList) = false := (eqL _ _).trans (decide_eq_false h2)
   have E := TV fun hh => h2 (ba_extL (by rw [HT.out, ← (UN.out hh).2]))
   clear h2 TV TT UN UP
   go_wp2
   go_ret
   exact ⟨by rw [E.out]; rfl, B2.out⟩
end Go.Proofs.YtkcjigelenofhaaGreatDoor
namespace Go.Proofs.YtkcjigelenofhaaGreatDoor
open Go.RowKit
def splA (c : UInt8) : List UInt8 → List UInt8 → List (List UInt8)
 | cur, [] => [cur]
 | cur, x :: r => if x = c then cur :: splA c [] r else splA c (cur ++ [x]) r
def splB (c : UInt8) (s : ByteArray) : List ByteArray := (splA c [] s.data.toList).map ofL
theorem splA_len (c : UInt8) : ∀ (l cur : List UInt8), 1 ≤ (splA c cur l).length ∧ (splA c cur l).length ≤ l.length + 1
 | [], cur => by simp [splA]
 | x :: r, cur => by
  unfold splA
  split
  · have := splA_len c r []; simp; omega
  · have := splA_len c r (cur ++ [x]); simp; omega
set_option maxRecDepth 20000 in
set_option maxHeartbeats 2000000 in
theorem sSplit (s : ByteArray) (hs : s.size ≤ 1048576) (c : UInt8) (w : World) :
 Calls Tryz.prog 59 #[.string s, .int .u8 (c.toNat : Int)] w fun e w' => (∃ v, e = .returned v ∧ OwnStrs w' w.heap.size v (splB c s)) ∧ Below w.heap.size w w' := by
 have INF := Tryz.infoS'
 have FIN : Hid (∀ (xs : List ByteArray) (f : Nat), f ≤ s.size → xs.map (fun b => b.data.toList) ++ splA c ((s.data.toList.take s.size).drop f) (s.data.toList.drop s.size) = splA c [] s.data.toList → xs ++ [s.extract f s.size] = splB c s) := fun xs f hf h => by
  unfold splB
  have e0 : s.data.toList.drop s.size = [] := List.drop_of_length_le (by rw [baLen]; exact Nat.le_refl _)
  rw [e0] at h
  rw [← h, List.map_append, List.map_map]
  congr 1
  · rw [show (ofL ∘ fun b : ByteArray => b.data.toList) = id from funext fun b => (ofL_of (l := b.data.toList) rfl).symm]; simp
  · simp only [splA, List.map_cons, List.map_nil]
    rw [ofL_of (ext_mid s f s.size)]
 have B0 : Hid (Below w.heap.size w (w.alloc (.cells #[] 9))) := (Below.refl _ _).alloc (Nat.le_refl _) _
 go_enter Tryz.func59, Tryz.ntmps59
 go_wp2_with fail
 go_loopw [5, 6, 7] (fun v fv iv wr => ∃ (xs : List ByteArray) (f k : Nat), f ≤ k ∧ k ≤ s.size ∧ fv = .int .i64 (f : Int) ∧ iv = .int .i64 (k : Int) ∧ xs.length ≤ k ∧ OwnStrs wr w.heap.size v xs ∧ Below w.heap.size w wr ∧ xs.map (fun b => b.data.toList) ++ splA c ((s.data.toList.take k).drop f) (s.data.toList.drop k) = splA c [] s.data.toList) (fun _ _ iv _ => s.size - (intOf iv).toNat)
 case atStart => exact ⟨[], 0, 0, Nat.le_refl _, Nat.zero_le _, rfl, rfl, Nat.le_refl _, World.ownsRow_made w #[] 0 (Nat.le_refl _) (by decide) rfl, B0.out, by simp⟩
 case round =>
  obtain ⟨xs, f, k, hfk, hk, rfl, rfl, hxl, hO, hB, hsp⟩ := hrel
  have O := hid hO
  have B := hid hB
  have HSP := hid hsp
  clear hO hB hsp
  by_cases hlt : k < s.size
  · have d3 : (k : Int) < (s.size : Int) := by omega
    have d4 : (f : Int) ≤ (k : Int) := by omega
    have d5 : (k : Int) ≤ (s.size : Int) := by omega
    have f0 : (0 : Int) ≤ (f : Int) := by omega
    have DK : s.data.toList.drop k = s[k] :: s.data.toList.drop (k + 1) := by
     rw [List.drop_eq_getElem_cons (by rw [baLen]; exact hlt)]; rfl
    have TK : (s.data.toList.take (k + 1)).drop f = (s.data.toList.take k).drop f ++ [s[k]] := by
     rw [take_oneN s k hlt, List.drop_append_of_le_length (by rw [List.length_take, baLen]; omega)]
    rw [DK] at HSP
    by_cases q : s[k] = c
    · have b1 : ((s[k].toNat : Int) == (c.toNat : Int)) = true := by rw [q]; simp
      have N : Hid ((xs ++ [s.extract f k]).map (fun b => b.data.toList) ++ splA c ((s.data.toList.take (k + 1)).drop (k + 1)) (s.data.toList.drop (k + 1)) = splA c [] s.data.toList) := by
       show _ = _
       rw [← HSP.out, List.map_append, List.drop_of_length_le (by rw [List.length_take, baLen]; omega)]
       conv => rhs; unfold splA
       rw [if_pos q]
       simp only [List.map_cons, List.map_nil, ext_mid, List.append_assoc, List.cons_append, List.nil_append]
      have YL : Hid ((xs ++ [s.extract f k]).length ≤ k + 1) := by show _ ≤ _; simp; omega
      clear q DK TK HSP
      go_wp2_with (first | (at_builtin; refine append_str2 w.heap.size wr rfl (.tmp 20) (.tmp 25) 28 rfl Tryz.underlying28 INF _ xs (s.extract f k) rfl O.out B.out.size rfl (by omega) ?_) | go_in)
      intro v' w' hO' hg'
      have B' := hid (B.out.grown hg' B.out.size fun k hk => (World.ownsRow.lt O.out k hk).1)
      have O' := hid hO'
      clear hO' hg'
      go_wp2
      go_roundw
      case rel => exact ⟨_, k + 1, k + 1, Nat.le_refl _, by omega, by go_num, by go_num, YL.out, O'.out, B'.out, N.out⟩
      case measure => simp [intOf]; omega
    · have b1 : ((s[k].toNat : Int) == (c.toNat : Int)) = false := by
       rw [beq_eq_false_iff_ne]
       intro hh
       exact q (UInt8.toNat_inj.1 (by omega))
      have N : Hid (xs.map (fun b => b.data.toList) ++ splA c ((s.data.toList.take (k + 1)).drop f) (s.data.toList.drop (k + 1)) = splA c [] s.data.toList) := by
       show _ = _
       rw [← HSP.out, TK]
       conv => rhs; unfold splA
       rw [if_neg q]
      clear q DK TK HSP
      go_wp2
      go_roundw
      case rel => exact ⟨xs, f, k + 1, by omega, by omega, rfl, by go_num, by omega, O.out, B.out, N.out⟩
      case measure => simp [intOf]; omega
  · have d3 : ¬ (k : Int) < (s.size : Int) := by omega
    have ek : k = s.size := by omega
    have d4 : (f : Int) ≤ (s.size : Int) := by omega
    have f0 : (0 : Int) ≤ (f : Int) := by omega
    have Z := hid (FIN.out xs f (by omega) (by rw [← ek]; exact HSP.out))
    clear HSP ek
    go_wp2_with (first | (at_builtin; refine append_str2 w.heap.size wr rfl (.tmp 29) (.tmp 33) 28 rfl Tryz.underlying28 INF _ xs (s.extract f s.size) rfl O.out B.out.size rfl (by omega) ?_) | go_in)
    intro v' w' hO' hg'
    have B' := hid (B.out.grown hg' B.out.size fun k hk => (World.ownsRow.lt O.out k hk).1)
    rw [Z.out] at hO'
    have O' := hid hO'
    clear hO' hg'
    go_wp2
    go_ret
    exact ⟨⟨_, rfl, O'.out⟩, B'.out⟩
end Go.Proofs.YtkcjigelenofhaaGreatDoor
namespace Go.Proofs.YtkcjigelenofhaaGreatDoor
open Go.RowKit
def mkRq (m p : ByteArray) (L H : List Hp) (b : ByteArray) : Rq := ⟨m, p, ⟨none, L.length, L.length, hAt L⟩, ⟨none, H.length, H.length, hAt H⟩, b⟩
theorem OwnHp.hps {w : World} {base : Nat} {v : Value} {L : List Hp} (h : OwnHp w base v L) : ∃ a cap, v = .slice a L.length cap ∧ Hps w a L.length cap (hAt L) := by
 by_cases h0 : 0 < L.length
 · obtain ⟨g, cap, rfl, hb, hl, hc, hx⟩ := h.shape h0
   exact ⟨_, cap, rfl, hc, .inr ⟨g, 0, rfl, hl, fun k hk => by rw [Nat.zero_add]; exact hx k hk⟩⟩
 · rcases h.2 with ⟨h1, h2⟩ | ⟨g, cap, cur, h1, _⟩
   · exact ⟨none, 0, by rw [h1, h2], by rw [h2]; exact Nat.le_refl _, .inl h2⟩
   · exact ⟨_, cap, h1, by omega, .inl (by omega)⟩
theorem OwnHp.nil (w : World) (base : Nat) : OwnHp w base (.slice none 0 0) [] := ⟨rfl, .inl ⟨rfl, rfl⟩⟩
theorem append_hp1 {P : Program} (base : Nat) (wr : World) {ops : Array Oper} {rest : List Oper} {op : Oper} {a : Act} {Q : Exit → Act → World → Prop} (hgd : op.guard = none) (s x : Operand) (t : TypeId)
 (ho : op.op = .call { callee := .builtin .append, args := #[s, x], argTypes := #[t, t] })
 (ht : P.underlying t = some (.slice 66)) (hinfo : (P.info? 66).map (fun i => (i.zero, i.size, i.bytes)) = some (some hz2, 2, 32))
 (v : Value) (L : List Hp) (n y : ByteArray) (hs : a.eval s = v) (hown : OwnHp wr base v L) (hsz : base ≤ wr.heap.size)
 (hx : a.eval x = .slice (some ⟨wr.heap.size, 0, none⟩) 1 1) (hlen : L.length + 1 ≤ 1048576)
 (h : ∀ v' w', OwnHp w' base v' (L ++ [⟨n, y⟩]) → wr.grownBy w' v.ownBlock → wpList P ops Q rest (a.put op.dst v') w') :
 wpList P ops Q (op :: rest) a (wr.alloc (.cells #[.string n, .string y] 66)) := by
 have R := RowAt.new wr 66 #[.string n, .string y]
 refine append_hps base _ hgd s x t ho ht hinfo v L hs (World.ownsRow.alloc hown _) (by simp; omega) wr.heap.size 0 1 1 [⟨n, y⟩] hx rfl (fun k hk => ?_) hlen fun v' w' h1 h2 => h v' w' h1 (grown_trans (World.grownBy_alloc wr _ _) h2)
 have e : k = 0 := by omega
 subst e
 exact ⟨R.cell 0, R.cell 1⟩
theorem row_grown {w w' : World} {b : Nat} {t : TypeId} {c : Array Value} {r : Option Nat} (h : RowAt w b t c) (hg : w.grownBy w' r) (hne : some b ≠ r) : RowAt w' b t c := (hg.block b h.lt hne).trans h
theorem OwnHp.apart {w : World} {base b : Nat} {v : Value} {L : List Hp} (h : OwnHp w base v L) (hb : b < base) : some b ≠ v.ownBlock := fun e => by
 have := (World.ownsRow.lt h b e.symm).1
 omega
end Go.Proofs.YtkcjigelenofhaaGreatDoor
namespace Go.Proofs.YtkcjigelenofhaaGreatDoor
open Go.RowKit
theorem Tryz.infoHpG : (Tryz.prog.info? 66).map (fun i => (i.zero, i.size, i.bytes)) = some (some hz2, 2, 32) := by kernel_rfl
def selS (b : Bool) (v o : Value) : Value := cond b v o
theorem step_append_hps {P : Program} (base : Nat) (w : World) {ops : Array Oper} {op : Oper} {a : Act} {K : Act → World → Prop} {Q : Exit → Act → World → Prop} {E : Prop} (hgd : op.guard = none) (s x : Operand) (t : TypeId)
 (ho : op.op = .call { callee := .builtin .append, args := #[s, x], argTypes := #[t, t] })
 (ht : P.underlying t = some (.slice 66)) (hinfo : (P.info? 66).map (fun i => (i.zero, i.size, i.bytes)) = some (some hz2, 2, 32))
 (v : Value) (L : List Hp) (M : List Hp) (hM : 0 < M.length) (hs : a.eval s = v) (hown : OwnHp w base v L) (hsz : base ≤ w.heap.size)
 (b : Nat) (hbox : RowAt w b 66 (hpL M).toArray) (m : Nat) (hm : M.length = m) (hx : a.eval x = .slice (some ⟨b, 0, none⟩) m m) (hlen : L.length + M.length ≤ 1048576)
 (h : ∀ g cap w', OwnHp w' base (.slice (some ⟨g, 0, none⟩) (L.length + m) cap) (L ++ M) → w.grownBy w' v.ownBlock → (v.ownBlock = some g ∨ g = w.heap.size) → K (a.put op.dst (.slice (some ⟨g, 0, none⟩) (L.length + m) cap)) w') :
 if Region.wanted op (yielded ops a.tmps) = true then Oper.wp P op a w K Q else E := by
 subst hm
 obtain ⟨i0, hi, hz0, hz1, hz2⟩ := info_parts hinfo
 refine step_append_lies _ hgd s x t ho base 66 i0 _ 2 32 ht hi hz0 hz1 hz2 rfl (by decide) v L.length (hpL L) hs hown ⟨b, 0, none⟩ M.length M.length (hpL M) hx (hpL_len M) ?_ ?_ hM ?_ ?_ hsz w.heap.size rfl ?_
 · intro j u hj
   have hadd : (⟨b, 0, none⟩ : Addr).add j = ⟨b, j, none⟩ := by unfold Addr.add; split <;> simp_all
   rw [hadd, hbox.cell]
   simpa using hj
 · intro u hu
   unfold hpL at hu
   obtain ⟨p, _, hp⟩ := List.mem_flatMap.1 hu
   simp at hp
   rcases hp with rfl | rfl <;> rfl
 · unfold maxLen; omega
 · omega
 · intro g cap w' h1 h2 h3 _
   exact h g cap w' (by unfold OwnHp; rw [hpL_app, List.length_append]; exact h1) h2 h3
theorem apartG {w : World} {BH g3 : Nat} {vH vL : Value} {LH : List Hp} (h : OwnHp w BH vH LH) (hap : vH.ownBlock = none ∨ vH.ownBlock ≠ vL.ownBlock) (hl : vL.ownBlock = some g3 ∨ g3 = w.heap.size) : vH.ownBlock = none ∨ vH.ownBlock ≠ some g3 := by
 rcases hap with h0 | h0
 · exact .inl h0
 · refine .inr fun e => ?_
   rcases hl with h1 | h1
   · exact h0 (e.trans h1.symm)
   · have := (World.ownsRow.lt h g3 e).2
     omega
theorem OwnHp.neRowS {w : World} {B X : Nat} {v : Value} {L : List Hp} {t : TypeId} {cs : Array Value} (h : OwnHp w B v L) (hr : RowAt w X t cs) (ht : t ≠ 66) : some X ≠ v.ownBlock := fun e => by
 rcases h.2 with ⟨rfl, _⟩ | ⟨g, cap, cur, rfl, _, hg, _⟩
 · simp [Value.ownBlock] at e
 · simp [Value.ownBlock] at e
   subst e
   have := Option.some.inj (Eq.trans (Eq.symm hr) hg)
   injection this with _ h2
   exact ht h2
theorem grown_setCellS (w : World) (b k : Nat) (v : Value) : w.grownBy (w.setCell ⟨b, k, none⟩ v) (some b) :=
 ⟨rfl, rfl, rfl, by simp, fun j _ hj => heap_setCell_other w ⟨b, k, none⟩ j v (fun e => hj (by rw [e]))⟩
theorem OwnHp.setCellS {w : World} {B b k : Nat} {v u : Value} {L : List Hp} (h : OwnHp w B v L) (hne : some b ≠ v.ownBlock) : OwnHp (w.setCell ⟨b, k, none⟩ u) B v L :=
 World.ownsRow.kept h (grown_setCellS w b k u) (.inr (Ne.symm hne))
theorem OwnHp.setRowS {w : World} {B b : Nat} {v : Value} {L : List Hp} (h : OwnHp w B v L) (hne : some b ≠ v.ownBlock) (cs : Array Value) : OwnHp (w.setRow b cs) B v L :=
 World.ownsRow.kept h (row := some b) ⟨rfl, rfl, rfl, by simp [World.setRow], fun j _ hr => setRow_other w b j cs (fun e => hr (by rw [e]))⟩ (.inr (Ne.symm hne))
theorem RowAt.nxS {X w1 : World} {b : Nat} {t : TypeId} {c : Array Value} (hb : Below X.heap.size X w1) (h : RowAt X b t c) : RowAt w1 b t c := h.below hb h.lt
end Go.Proofs.YtkcjigelenofhaaGreatDoor
namespace Go.Proofs.YtkcjigelenofhaaGreatDoor
open Go.RowKit
section
variable {P : Program} {ops : Array Oper} {Q : Exit → Act → World → Prop}
def topoG (ops : Array Oper) : Bool := (List.range ops.size).all fun i => ((ops[i]?).map (·.after.all fun e => !(Region.binds .any e) || decide (e.on < i))).getD true
theorem ready_allG (hT : topoG ops = true) {l : Array Bool} (hs : l.size = ops.size) (hr : Region.ready .any ops l = []) : ∀ i, i < l.size → l.getD i false = true := by
 intro i
 induction i using Nat.strongRecOn with
 | ind i ih =>
  intro hi
  cases e : l.getD i false with
  | true => rfl
  | false =>
   exfalso
   have h0 : l.getD i true = false := by
    simp [Array.getD, hi] at e ⊢; exact e
   have hio : i < ops.size := by omega
   obtain ⟨o, ho⟩ : ∃ o, ops[i]? = some o := ⟨ops[i], by simp [hio]⟩
   have : i ∈ Region.ready .any ops l := mem_ready.2 ⟨h0, o, ho, fun e he hb => by
    have h9 : e.on < i := by
     have := List.all_eq_true.1 hT i (List.mem_range.2 hio)
     rw [ho] at this
     simp only [Option.map_some, Option.getD_some, Array.all_eq_true] at this
     obtain ⟨k, hk, rfl⟩ := Array.getElem_of_mem he
     have := this k hk
     rw [hb] at this
     simpa using this
    exact ih e.on h9 (by omega)⟩
   rw [hr] at this
   cases this
theorem wp_region_invG {id : Nat} {a : Act} {w : World} (I : Array Bool → Act → World → Prop) (hm : P.follows .mixedOrders = true) (hT : topoG ops = true)
 (hsz : ∀ l a w, I l a w → l.size = ops.size)
 (step : ∀ l a w, Closed ops l → I l a w → ∀ i, l.getD i true = false → ∀ o, ops[i]? = some o → (∀ e ∈ o.after, Region.binds .any e = true → l.getD e.on false = true) → wpOp P ops Q i (I (l.setIfInBounds i true)) a w)
 (fin : ∀ l a w, I l a w → (∀ i, i < l.size → l.getD i false = true) → Q .normal a w)
 (h : I (Array.replicate ops.size false) a w.drew) : (Code.region id ops true).wp P Q a w := by
 refine wp_region_any hm (wpAny_inv (fun l a w => Closed ops l ∧ I l a w) (fun l a w hI i hi => ?_) (fun l a w hI hr => fin l a w hI.2 (ready_allG hT (hsz l a w hI.2) hr)) ops.size _ a _ ?_ ⟨?_, h⟩)
 · obtain ⟨h0, o, ho, h1⟩ := mem_ready.1 hi
   exact wpOp_mono (fun _ _ h => ⟨hI.1.next ho h1, h⟩) (step l a w hI.1 hI.2 i h0 o ho h1)
 · simp [List.countP_replicate]
 · intro k ok hk hl
   rcases Nat.lt_or_ge k ops.size with hlt | hge
   · simp [Array.getD, hlt] at hl
   · simp [Array.getD, Nat.not_lt.2 hge] at hl
end
end Go.Proofs.YtkcjigelenofhaaGreatDoor
namespace Go.Proofs.YtkcjigelenofhaaGreatDoor
open Go.RowKit
section
variable {ops : Array Oper} {l : Array Bool} {o : Oper} {j : Nat}
def edgeB (o : Oper) (j : Nat) : Bool := o.after.toList.any fun e => e.on == j && Region.binds .any e
theorem clO (h1 : ∀ e ∈ o.after, Region.binds .any e = true → l.getD e.on false = true) (h : edgeB o j = true) : l.getD j false = true := by
 unfold edgeB at h
 obtain ⟨e, he, hb⟩ := List.any_eq_true.1 h
 rw [Bool.and_eq_true, beq_iff_eq] at hb
 have := h1 e (by simpa using he) hb.2
 rw [hb.1] at this
 exact this
theorem clP (hC : Closed ops l) (k : Nat) (ho : ops[k]? = some o) (hk : l.getD k false = true) (h : edgeB o j = true) : l.getD j false = true := clO (hC k o ho hk) h
theorem clN (hC : Closed ops l) (k : Nat) (ho : ops[k]? = some o) (hj : l.getD j false = false) (h : edgeB o j = true) : l.getD k false = false := by
 cases e : l.getD k false with
 | false => rfl
 | true =>
  have := clP hC k ho e h
  rw [hj] at this
  cases this
def AllL (p : Nat → Prop) : List Nat → Prop
 | [] => True
 | k :: r => p k ∧ AllL p r
def wayN (ops : Array Oper) (from0 : Nat) : List Nat → List (Nat × Nat) → Bool
 | _, [] => true
 | known, (k, j) :: r => (known.contains j || j == from0) && (match ops[k]? with | some o => edgeB o j | none => false) && wayN ops from0 (k :: known) r
theorem wayN_all (hC : Closed ops l) {i : Nat} (h0 : l.getD i false = false) : ∀ (ps : List (Nat × Nat)) (known : List Nat), (∀ k ∈ known, l.getD k false = false) → wayN ops i known ps = true → AllL (fun k => l.getD k false = false) (ps.map (·.1))
 | [], _, _, _ => trivial
 | (k, j) :: r, known, hk, h => by
  unfold wayN at h
  rw [Bool.and_eq_true, Bool.and_eq_true, Bool.or_eq_true] at h
  obtain ⟨⟨h1, h2⟩, h3⟩ := h
  have hj : l.getD j false = false := by
   rcases h1 with h1 | h1
   · exact hk j (by simpa using h1)
   · rw [beq_iff_eq] at h1; rw [h1]; exact h0
  have hkf : l.getD k false = false := by
   cases ho : ops[k]? with
   | none => rw [ho] at h2; cases h2
   | some o => rw [ho] at h2; exact clN hC k ho hj h2
  exact ⟨hkf, wayN_all hC h0 r (k :: known) (fun q hq => by
   rcases List.mem_cons.1 hq with e | e
   · rw [e]; exact hkf
   · exact hk q e) h3⟩
def wayP (ops : Array Oper) (o : Oper) : List Nat → List (Nat × Option Nat) → Bool
 | _, [] => true
 | known, (j, none) :: r => edgeB o j && wayP ops o (j :: known) r
 | known, (j, some k) :: r => known.contains k && (match ops[k]? with | some q => edgeB q j | none => false) && wayP ops o (j :: known) r
theorem wayP_all (hC : Closed ops l) (h1 : ∀ e ∈ o.after, Region.binds .any e = true → l.getD e.on false = true) : ∀ (ps : List (Nat × Option Nat)) (known : List Nat), (∀ k ∈ known, l.getD k false = true) → wayP ops o known ps = true → AllL (fun k => l.getD k false = true) (ps.map (·.1))
 | [], _, _, _ => trivial
 | (j, none) :: r, known, hk, h => by
  unfold wayP at h
  rw [Bool.and_eq_true] at h
  have hj := clO h1 h.1
  exact ⟨hj, wayP_all hC h1 r (j :: known) (fun q hq => by
   rcases List.mem_cons.1 hq with e | e
   · rw [e]; exact hj
   · exact hk q e) h.2⟩
 | (j, some k) :: r, known, hk, h => by
  unfold wayP at h
  rw [Bool.and_eq_true, Bool.and_eq_true] at h
  obtain ⟨⟨h2, h3⟩, h4⟩ := h
  have hj : l.getD j false = true := by
   cases ho : ops[k]? with
   | none => rw [ho] at h3; cases h3
   | some q => rw [ho] at h3; exact clP hC k ho (hk k (by simpa using h2)) h3
  exact ⟨hj, wayP_all hC h1 r (j :: known) (fun q hq => by
   rcases List.mem_cons.1 hq with e | e
   · rw [e]; exact hj
   · exact hk q e) h4⟩
theorem allT (h : ∀ i, i < l.size → l.getD i false = true) : ∀ (ks : List Nat), ks.all (fun k => decide (k < l.size)) = true → AllL (fun k => l.getD k false = true) ks
 | [], _ => trivial
 | k :: r, hk => by
  rw [List.all_cons, Bool.and_eq_true] at hk
  exact ⟨h k (of_decide_eq_true hk.1), allT h r hk.2⟩
theorem nk {p : Nat → Prop} : ∀ k ∈ ([] : List Nat), p k := fun _ h => by cases h
end
end Go.Proofs.YtkcjigelenofhaaGreatDoor
namespace Go.Proofs.YtkcjigelenofhaaGreatDoor
open Go.RowKit
theorem selS_t (v o : Value) : selS true v o = v := rfl
theorem selS_f (v o : Value) : selS false v o = o := rfl
end Go.Proofs.YtkcjigelenofhaaGreatDoor
