import Derived.Test.YtcbmgpdpjagaoaaGreatProg
import Derived.Test.YtcbmgpdpjagaoaaGreatG2
import Derived.Test.YtcbmgpdpjagaoaaGreatG3
import Derived.Test.YtcbmgpdpjagaoaaGreatG1
namespace Go.Proofs.YtcbmgpdpjagaoaaGreat
section
variable {ι : Type} (nb : ι → ι → Prop)
structure Ord0 : Prop where
 refl : ∀ a, nb a a
 trans : ∀ {a b c}, nb a b → nb b c → nb a c
 tot : ∀ a b, nb a b ∨ nb b a
def Heap (H : Nat → ι) (n : Nat) : Prop := ∀ k, 0 < k → k < n → nb (H k) (H ((k - 1) / 2))
def swH (H : Nat → ι) (i j : Nat) (k : Nat) : ι := if k = i then H j else if k = j then H i else H k
theorem swH_i (H : Nat → ι) (i j : Nat) : swH H i j i = H j := if_pos rfl
theorem swH_j (H : Nat → ι) (i j : Nat) : swH H i j j = H i := by unfold swH; by_cases h : j = i <;> simp [h]
theorem swH_o (H : Nat → ι) {i j k : Nat} (h1 : k ≠ i) (h2 : k ≠ j) : swH H i j k = H k := by unfold swH; rw [if_neg h1, if_neg h2]
theorem heap_min {H : Nat → ι} {n : Nat} (o : Ord0 nb) (h : Heap nb H n) : ∀ k, k < n → nb (H k) (H 0) := by
 intro k
 induction k using Nat.strongRecOn with
 | _ k ih =>
  intro hk
  by_cases k0 : k = 0
  · subst k0; exact o.refl _
  · exact o.trans (h k (by omega) hk) (ih ((k - 1) / 2) (by omega) (by omega))
structure UpI (H : Nat → ι) (n j : Nat) : Prop where
 lt : j < n
 oth : ∀ k, 0 < k → k < n → k ≠ j → nb (H k) (H ((k - 1) / 2))
 kid : ∀ k, 0 < k → k < n → (k - 1) / 2 = j → 0 < j → nb (H k) (H ((j - 1) / 2))
theorem UpI.done {H : Nat → ι} {n j : Nat} (h : UpI nb H n j) (hj : j = 0 ∨ nb (H j) (H ((j - 1) / 2))) : Heap nb H n := fun k k0 kn => by
 by_cases e : k = j
 · rcases hj with hj | hj
   · omega
   · rw [e]; exact hj
 · exact h.oth k k0 kn e
theorem UpI.step {H : Nat → ι} {n j : Nat} (o : Ord0 nb) (h : UpI nb H n j) (j0 : 0 < j) (hl : ¬ nb (H j) (H ((j - 1) / 2))) : UpI nb (swH H ((j - 1) / 2) j) n ((j - 1) / 2) := by
 have hlt := h.lt; have up : nb (H ((j - 1) / 2)) (H j) := (o.tot _ _).resolve_left hl; refine ⟨by omega, fun k k0 kn kp => ?_, fun k k0 kn kp p0 => ?_⟩
 · by_cases e1 : k = j
   · subst e1
     rw [swH_j, swH_i]; exact up
   · rw [swH_o H kp e1]
     by_cases e2 : (k - 1) / 2 = j
     · rw [e2, swH_j]; exact h.kid k k0 kn e2 j0
     · by_cases e3 : (k - 1) / 2 = (j - 1) / 2
       · rw [e3, swH_i]; have := h.oth k k0 kn e1; rw [e3] at this; exact o.trans this up
       · rw [swH_o H e3 e2]; exact h.oth k k0 kn e1
 · have gp : nb (H ((j - 1) / 2)) (H (((j - 1) / 2 - 1) / 2)) := h.oth _ p0 (by omega) (by omega)
   rw [swH_o H (i := (j - 1) / 2) (j := j) (k := ((j - 1) / 2 - 1) / 2) (by omega) (by omega)]
   by_cases e1 : k = j
   · rw [e1, swH_j]; exact gp
   · rw [swH_o H (by omega) e1]
     have := h.oth k k0 kn e1; rw [kp] at this; exact o.trans this gp
structure DnI (H : Nat → ι) (n i : Nat) : Prop where
 oth : ∀ k, 0 < k → k < n → (k - 1) / 2 ≠ i → nb (H k) (H ((k - 1) / 2))
 kid : ∀ k, 0 < k → k < n → (k - 1) / 2 = i → 0 < i → nb (H k) (H ((i - 1) / 2))
theorem DnI.done {H : Nat → ι} {n i : Nat} (h : DnI nb H n i) (hi : ∀ k, 0 < k → k < n → (k - 1) / 2 = i → nb (H k) (H i)) : Heap nb H n := fun k k0 kn => by
 by_cases e : (k - 1) / 2 = i
 · rw [e]; exact hi k k0 kn e
 · exact h.oth k k0 kn e
theorem DnI.step {H : Nat → ι} {n i j : Nat} (o : Ord0 nb) (h : DnI nb H n i) (j0 : 0 < j) (jn : j < n) (jp : (j - 1) / 2 = i) (hm : ∀ k, 0 < k → k < n → (k - 1) / 2 = i → nb (H k) (H j)) (hl : ¬ nb (H j) (H i)) : DnI nb (swH H i j) n j := by
 have ij : i ≠ j := by omega
 have up : nb (H i) (H j) := (o.tot _ _).resolve_right hl; refine ⟨fun k k0 kn kp => ?_, fun k k0 kn kp _ => ?_⟩
 · by_cases e1 : k = j
   · subst e1; rw [jp, swH_j, swH_i]; exact up
   · by_cases e2 : k = i
     · subst e2
       rw [swH_i, swH_o H (by omega) kp]; exact h.kid j j0 jn jp k0
     · rw [swH_o H e2 e1]
       by_cases e3 : (k - 1) / 2 = i
       · rw [e3, swH_i]; exact hm k k0 kn e3
       · rw [swH_o H e3 kp]; exact h.oth k k0 kn e3
 · rw [jp, swH_i]
   have e1 : k ≠ i := by omega
   have e2 : k ≠ j := by omega
   rw [swH_o H e1 e2]; have := h.oth k k0 kn (by rw [kp]; exact fun e => ij e.symm); rw [kp] at this; exact this
theorem Heap.dn0 {H : Nat → ι} {n : Nat} (h : ∀ k, 0 < k → k < n → (k - 1) / 2 ≠ 0 → nb (H k) (H ((k - 1) / 2))) : DnI nb H n 0 := ⟨h, fun _ _ _ _ q => absurd q (Nat.lt_irrefl _)⟩
theorem Heap.up_last {H : Nat → ι} {n : Nat} (h : Heap nb H n) : UpI nb H (n + 1) n := ⟨by omega, fun k k0 kn e => h k k0 (by omega), fun k k0 kn kp _ => by omega⟩
theorem Heap.less {H : Nat → ι} {n m : Nat} (h : Heap nb H n) (hm : m ≤ n) : Heap nb H m := fun k k0 km => h k k0 (by omega)
end
end Go.Proofs.YtcbmgpdpjagaoaaGreat
namespace Go.Proofs.YtcbmgpdpjagaoaaGreat
open Go.RowKit
set_option linter.unusedVariables false
theorem bl_trans : ∀ (a b c : List UInt8), Op.bytesLess a b = true → Op.bytesLess b c = true → Op.bytesLess a c = true
 | [], _, [], h1, h2 => by cases ‹List UInt8› <;> simp [Op.bytesLess] at h1 h2
 | [], _, _ :: _, h1, h2 => by simp [Op.bytesLess]
 | _ :: _, [], _, h1, h2 => by simp [Op.bytesLess] at h1
 | _ :: _, _ :: _, [], h1, h2 => by simp [Op.bytesLess] at h2
 | x :: a, y :: b, z :: c, h1, h2 => by
  unfold Op.bytesLess at h1 h2 ⊢
  by_cases e1 : x = y
  · subst e1
    by_cases e2 : x = z
    · subst e2
      simp at h1 h2 ⊢
      exact bl_trans a b c h1 h2
    · simp [e2] at h1 h2 ⊢
      exact h2
  · by_cases e2 : y = z
    · subst e2
      simp [e1] at h1 h2 ⊢
      exact h1
    · simp [e1, e2] at h1 h2
      have h3 := UInt8.lt_trans h1 h2
      simp [h3]
theorem kLt_trans {a b c : ByteArray} (h1 : kLt a b = true) (h2 : kLt b c = true) : kLt a c = true := bl_trans _ _ _ h1 h2
theorem kLt_asymm {a b : ByteArray} (h1 : kLt a b = true) : ¬ kLt b a = true := fun h2 => by
 have e1 := (kCmp_lt a b).2 h1; have e2 := (kCmp_lt b a).2 h2; have := kCmp_swap a b
 omega
theorem kLt_irrefl (a : ByteArray) : ¬ kLt a a = true := fun h => kLt_asymm h h
theorem kLt_tri (a b : ByteArray) : kLt a b = true ∨ a = b ∨ kLt b a = true := by
 have e1 := kCmp_lt a b; have e2 := kCmp_lt b a; have e3 := kCmp_swap a b; have e4 := kCmp_zero a b
 rcases Int.lt_trichotomy (kCmp a b) 0 with h | h | h
 · exact .inl (e1.1 h)
 · exact .inr (.inl (e4.1 h))
 · exact .inr (.inr (e2.1 (by omega)))
theorem enLt_trans {a b c : En} (h1 : enLt a b) (h2 : enLt b c) : enLt a c := by
 rcases h1 with h1 | ⟨e1, h1⟩
 · rcases h2 with h2 | ⟨e2, h2⟩
   · exact .inl (kLt_trans h1 h2)
   · exact .inl (by rw [← e2]; exact h1)
 · rcases h2 with h2 | ⟨e2, h2⟩
   · exact .inl (by rw [e1]; exact h2)
   · exact .inr ⟨e1.trans e2, by omega⟩
theorem enLt_asymm {a b : En} (h1 : enLt a b) : ¬ enLt b a := fun h2 => by
 have e1 := (enCmp_lt a b).2 h1; have e2 := (enCmp_lt b a).2 h2; have := enCmp_swap a b
 omega
theorem enLt_tri (a b : En) : enLt a b ∨ (a.ky = b.ky ∧ a.sq = b.sq) ∨ enLt b a := by
 have e1 := enCmp_lt a b; have e2 := enCmp_lt b a; have e3 := enCmp_swap a b; have e4 := enCmp_zero a b
 rcases Int.lt_trichotomy (enCmp a b) 0 with h | h | h
 · exact .inl (e1.1 h)
 · exact .inr (.inl (e4.1 h))
 · exact .inr (.inr (e2.1 (by omega)))
theorem enLt_nt {a b c : En} (h : enLt a b) (hn : ¬ enLt c b) : enLt a c := by
 rcases enLt_tri b c with h2 | ⟨h2, h3⟩ | h2
 · exact enLt_trans h h2
 · rcases h with h | ⟨e, h⟩
   · exact .inl (by rw [← h2]; exact h)
   · exact .inr ⟨e.trans h2, by omega⟩
 · exact absurd h2 hn
abbrev Tg := En × Nat
def tLt (a b : Tg) : Prop := enLt a.1 b.1 ∨ (¬ enLt b.1 a.1 ∧ a.2 < b.2)
theorem tLt_asymm {a b : Tg} (h : tLt a b) : ¬ tLt b a := fun h2 => by
 rcases h with h | ⟨h, h3⟩
 · rcases h2 with h2 | ⟨h2, _⟩
   · exact enLt_asymm h h2
   · exact h2 h
 · rcases h2 with h2 | ⟨_, h4⟩
   · exact h h2
   · omega
theorem tLt_irrefl (a : Tg) : ¬ tLt a a := fun h => tLt_asymm h h
theorem tLt_trans {a b c : Tg} (h1 : tLt a b) (h2 : tLt b c) : tLt a c := by
 rcases h1 with h1 | ⟨h1, h3⟩
 · rcases h2 with h2 | ⟨h2, h4⟩
   · exact .inl (enLt_trans h1 h2)
   · exact .inl (enLt_nt h1 h2)
 · rcases h2 with h2 | ⟨h2, h4⟩
   · refine .inl ?_
     rcases enLt_tri a.1 c.1 with q | ⟨q, q2⟩ | q
     · exact q
     · exact absurd (by rcases h2 with h2 | ⟨e, h2⟩; exact .inl (by rw [q]; exact h2); exact .inr ⟨e.trans q.symm, by omega⟩) h1
     · exact absurd (enLt_trans h2 q) h1
   · refine .inr ⟨fun q => ?_, by omega⟩
     exact h1 (enLt_nt (b := a.1) (a := b.1) (c := a.1) (by
      rcases enLt_tri b.1 a.1 with r | ⟨r, r2⟩ | r
      · exact r
      · exact absurd (by rcases q with q | ⟨e, q⟩; exact .inl (by rw [r]; exact q); exact .inr ⟨e.trans r.symm, by omega⟩) h2
      · exact absurd (enLt_trans q r) h2) (fun z => enLt_asymm z z))
theorem tUniq : ∀ {A B : List Tg}, A.Pairwise tLt → B.Pairwise tLt → (∀ x, x ∈ A ↔ x ∈ B) → A = B
 | [], [], _, _, _ => rfl
 | [], b :: B, _, _, h => by have := (h b).2 (by simp); simp at this
 | a :: A, [], _, _, h => by have := (h a).1 (by simp); simp at this
 | a :: A, b :: B, hA, hB, h => by
  rw [List.pairwise_cons] at hA hB
  have e : a = b := by
   rcases List.mem_cons.1 ((h a).1 (by simp)) with q | q
   · exact q
   · rcases List.mem_cons.1 ((h b).2 (by simp)) with r | r
     · exact r.symm
     · exact absurd (hB.1 a q) (tLt_asymm (hA.1 b r))
  subst e; rw [tUniq hA.2 hB.2 fun x => ?_]
  constructor
  · intro hx
    rcases List.mem_cons.1 ((h x).1 (by simp [hx])) with q | q
    · subst q; exact absurd (hA.1 x hx) (tLt_irrefl x)
    · exact q
  · intro hx
    rcases List.mem_cons.1 ((h x).2 (by simp [hx])) with q | q
    · subst q; exact absurd (hB.1 x hx) (tLt_irrefl x)
    · exact q
def insT (T : List Tg) (k : Nat) (x : Tg) : List Tg := T.take k ++ x :: T.drop k
theorem insT_mem {T : List Tg} {k : Nat} {x y : Tg} : y ∈ insT T k x ↔ y = x ∨ y ∈ T := by
 unfold insT; have e := List.take_append_drop k T
 constructor
 · intro h
   rcases List.mem_append.1 h with h | h
   · exact .inr (List.mem_of_mem_take h)
   · rcases List.mem_cons.1 h with h | h
     · exact .inl h
     · exact .inr (List.mem_of_mem_drop h)
 · rintro (rfl | h)
   · simp
   · rw [← e] at h
     rcases List.mem_append.1 h with h | h
     · exact List.mem_append.2 (.inl h)
     · exact List.mem_append.2 (.inr (List.mem_cons_of_mem _ h))
theorem insT_pw {T : List Tg} (hT : T.Pairwise tLt) {k : Nat} {x : Tg} (h1 : ∀ y ∈ T.take k, ¬ enLt x.1 y.1) (h2 : ∀ y ∈ T.drop k, enLt x.1 y.1) (h3 : ∀ y ∈ T, y.2 < x.2) : (insT T k x).Pairwise tLt := by
 have e := List.take_append_drop k T; rw [← e, List.pairwise_append] at hT; unfold insT; rw [List.pairwise_append, List.pairwise_cons]; refine ⟨hT.1, ⟨fun y hy => .inl (h2 y hy), hT.2.1⟩, fun a ha b hb => ?_⟩
 rcases List.mem_cons.1 hb with rfl | hb
 · exact .inr ⟨h1 a ha, h3 a (List.mem_of_mem_take ha)⟩
 · exact hT.2.2 a ha b hb
theorem ahead_not {T : List Tg} (hT : T.Pairwise tLt) {x : En} {k : Nat} (h : k = 0 ∨ ∃ y, T[k - 1]? = some y ∧ ¬ enLt x y.1) : ∀ y ∈ T.take k, ¬ enLt x y.1 := fun z hz hxz => by
 obtain ⟨i, hi, rfl⟩ := List.getElem_of_mem hz; have hik : i < k := by rw [List.length_take] at hi; omega
 have hil : i < T.length := by rw [List.length_take] at hi; omega
 rcases h with h | ⟨y, hy, hn⟩
 · omega
 · obtain ⟨hkl, rfl⟩ := List.getElem?_eq_some_iff.1 hy
   rw [List.getElem_take] at hxz
   by_cases e : i = k - 1
   · subst e; exact hn hxz
   · have := List.pairwise_iff_getElem.1 hT i (k - 1) hil hkl (by omega)
     rcases this with q | ⟨q, _⟩
     · exact hn (enLt_trans hxz q)
     · exact hn (enLt_nt hxz q)
structure Sd (a : Nat → En) (i : Nat) (T : List Tg) : Prop where
 pw : T.Pairwise tLt
 mem : ∀ x, x ∈ T ↔ ∃ j, j < i ∧ x = (a j, j)
theorem Sd.zero (a : Nat → En) : Sd a 0 [] := ⟨List.Pairwise.nil, fun x => by simp⟩
theorem Sd.next {a : Nat → En} {i : Nat} {T : List Tg} (h : Sd a i T) {k : Nat} (h1 : k = 0 ∨ ∃ y, T[k - 1]? = some y ∧ ¬ enLt (a i) y.1) (h2 : ∀ y ∈ T.drop k, enLt (a i) y.1) : Sd a (i + 1) (insT T k (a i, i)) := by
 refine ⟨insT_pw h.pw (ahead_not h.pw h1) h2 fun y hy => ?_, fun x => ?_⟩
 · obtain ⟨j, hj, rfl⟩ := (h.mem y).1 hy
   exact hj
 · rw [insT_mem, h.mem]
   constructor
   · rintro (rfl | ⟨j, hj, rfl⟩)
     · exact ⟨i, by omega, rfl⟩
     · exact ⟨j, by omega, rfl⟩
   · rintro ⟨j, hj, rfl⟩
     by_cases e : j = i
     · subst e; exact .inl rfl
     · exact .inr ⟨j, by omega, rfl⟩
theorem Sd.len {a : Nat → En} : ∀ {i : Nat} {T : List Tg}, Sd a i T → T.length = i := by
 intro i T h; have nd : T.Nodup := h.pw.imp fun {x y} hxy e => by subst e; exact tLt_irrefl _ hxy
 have p : List.Perm T ((List.range i).map fun j => (a j, j)) := by
  refine (List.perm_ext_iff_of_nodup nd ?_).2 fun x => ?_
  · exact (List.nodup_range).map _ (fun u v huv e => huv (by have := congrArg Prod.snd e; exact this))
  · rw [h.mem]; simp [eq_comm]
 rw [p.length_eq]; simp
theorem least_next {S : List Tg} (hS : S.Pairwise tLt) {k : Nat} {h : Tg} (hm : h ∈ S.drop k) (hl : ∀ x ∈ S.drop k, x = h ∨ tLt h x) : S[k]? = some h := by
 have hp : (S.drop k).Pairwise tLt := hS.sublist (List.drop_sublist _ _)
 cases e : S.drop k with
 | nil => rw [e] at hm; cases hm
 | cons a r =>
  rw [e] at hm hl hp; rw [List.pairwise_cons] at hp
  have ea : a = h := by
   rcases hl a (by simp) with q | q
   · exact q
   · rcases List.mem_cons.1 hm with r2 | r2
     · exact r2.symm
     · exact absurd (hp.1 h r2) (tLt_asymm q)
  have : (S.drop k)[0]? = some a := by rw [e]; rfl
  rw [List.getElem?_drop] at this; rw [← ea]; simpa using this
theorem drop_next {S : List Tg} (hS : S.Pairwise tLt) {k : Nat} {h : Tg} (hk : S[k]? = some h) (x : Tg) : x ∈ S.drop (k + 1) ↔ x ∈ S.drop k ∧ x ≠ h := by
 have hp : (S.drop k).Pairwise tLt := hS.sublist (List.drop_sublist _ _); obtain ⟨hl, rfl⟩ := List.getElem?_eq_some_iff.1 hk; have ed := List.drop_eq_getElem_cons hl; rw [ed] at hp; rw [List.pairwise_cons] at hp
 constructor
 · intro hx
   exact ⟨by rw [ed]; exact List.mem_cons_of_mem _ hx, fun e => by subst e; exact tLt_irrefl _ (hp.1 _ hx)⟩
 · rintro ⟨hx, hn⟩
   rw [ed] at hx
   rcases List.mem_cons.1 hx with q | q
   · exact absurd q hn
   · exact q
end Go.Proofs.YtcbmgpdpjagaoaaGreat
namespace Go.Proofs.YtcbmgpdpjagaoaaGreat
open Go.RowKit
set_option linter.unusedVariables false
def sel (b : Bool) (v o : Value) : Value := cond b v o
theorem sel_t (v o : Value) : sel true v o = v := rfl
theorem sel_f (v o : Value) : sel false v o = o := rfl
theorem grown_setCellQ (w : World) (b k : Nat) (v : Value) : w.grownBy (w.setCell ⟨b, k, none⟩ v) (some b) := grown_set
theorem grown_drewQ (w : World) (r : Option Nat) : w.grownBy w.drew r := ⟨rfl, rfl, rfl, Nat.le_refl _, fun _ _ _ => rfl⟩
theorem FRow.at_ {w : World} {b : Nat} {t : TypeId} {n : Nat} {f : Nat → Value} (h : FRow w b t n f) (p : Nat) (hp : p < n) : w.cell? ⟨b, p, none⟩ = some (f p) := h.cell hp
structure Cu where
 no : Nat
 ad : Option Addr
 n : Nat
 cap : Nat
 o : Nat → En
def cuCmp (a b : Cu) : Int := orI (enCmp (a.o 0) (b.o 0)) (cmpI (a.no : Int) (b.no : Int))
structure CuAt (w : World) (b : Nat) (c : Cu) : Prop where
 row : RA w b 114 #[.int .i64 (c.no : Int), .slice c.ad c.n c.cap]
 ens : Ens w c.ad c.n c.cap c.o
 pos : 0 < c.n
theorem CuAt.below {w w' : World} {b : Nat} {c : Cu} (h : CuAt w b c) (hb : Below w.heap.size w w') : CuAt w' b c := ⟨h.row.below hb h.row.lt, h.ens.below hb, h.pos⟩
set_option maxRecDepth 20000 in
theorem iCompareI (x y : Int) (w : World) :
 Calls Tryz.prog 92 #[.int .i64 x, .int .i64 y] w fun e w' => e = .returned (.int .i64 (cmpI x y)) ∧ w' = w := by
 have N : ∀ (x : Int) (w : World), Calls Tryz.prog 107 #[.int .i64 x] w fun e w' => e = .returned (.bool false) ∧ w' = w := fun x w => by
  have dm : (x != x) = false := by simp
  go_enter Tryz.func107, Tryz.ntmps107
  go_wp2
  go_ret
  exact ⟨rfl, rfl⟩
 have NH := fun x w => hid (N x w); clear N
 by_cases h1 : x < y
 · have E : Hid (cmpI x y = -1) := if_pos h1
   have d1 : decide (x < y) = true := by simp; omega
   go_enter Tryz.func92, Tryz.ntmps92
   go_wp2_with fail
   refine (NH _ _).out.mono ?_
   rintro e w1 ⟨rfl, rfl⟩
   go_wp2_with fail
   refine (NH _ _).out.mono ?_
   rintro e w2 ⟨rfl, rfl⟩
   go_wp2
   go_ret
   exact ⟨by rw [E.out]; rfl, rfl⟩
 have d1 : decide (x < y) = false := by simp; omega
 by_cases h2 : y < x
 · have E : Hid (cmpI x y = 1) := by show _ = _; unfold cmpI; rw [if_neg h1, if_pos h2]
   have d2 : decide (y < x) = true := by simp; omega
   go_enter Tryz.func92, Tryz.ntmps92
   go_wp2_with fail
   refine (NH _ _).out.mono ?_
   rintro e w1 ⟨rfl, rfl⟩
   go_wp2_with fail
   refine (NH _ _).out.mono ?_
   rintro e w2 ⟨rfl, rfl⟩
   go_wp2
   go_ret
   exact ⟨by rw [E.out]; rfl, rfl⟩
 · have d2 : decide (y < x) = false := by simp; omega
   have E : Hid (cmpI x y = 0) := by show _ = _; unfold cmpI; rw [if_neg h1, if_neg h2]
   go_enter Tryz.func92, Tryz.ntmps92
   go_wp2_with fail
   refine (NH _ _).out.mono ?_
   rintro e w1 ⟨rfl, rfl⟩
   go_wp2_with fail
   refine (NH _ _).out.mono ?_
   rintro e w2 ⟨rfl, rfl⟩
   go_wp2
   go_ret
   exact ⟨by rw [E.out]; rfl, rfl⟩
end Go.Proofs.YtcbmgpdpjagaoaaGreat
