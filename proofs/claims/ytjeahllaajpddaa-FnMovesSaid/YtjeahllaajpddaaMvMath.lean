import Derived.Test.YtjeahllaajpddaaGrMath
namespace Go.Proofs.Ytjeahllaajpddaa
open Go.RowKit
/-! One disk wants more: only it comes in. -/
theorem okP_iff {x sc : Nat → Int} {l : List Nat} {i : Nat} : okP x sc l i ↔ 0 ≤ sc i ∧ x i ∉ l.map x :=
  ⟨fun h => h.2, fun h => ⟨fun q => h.2 (List.mem_map_of_mem q), h⟩⟩
theorem pk_bef {x sc : Nat → Int} {l : List Nat} {n p : Nat} (h : pk x sc l n = (p : Int)) (i : Nat) (hi : i < n) (ho : okP x sc l i) : i = p ∨ bef sc p i := by
  have := pk_max x sc l n i hi ho
  rw [h, Int.toNat_natCast] at this
  unfold bef
  omega
theorem pk_at {x sc : Nat → Int} {l : List Nat} {n b : Nat} (hb : b < n) (ho : okP x sc l b) (hM : ∀ i, i < n → okP x sc l i → i = b ∨ bef sc b i) : pk x sc l n = (b : Int) := by
  have hm := pk_max x sc l n b hb ho
  have hbd := pk_bd x sc l n
  obtain ⟨p, hp⟩ := Int.eq_ofNat_of_zero_le hm.1
  rw [hp] at hm hbd ⊢
  rw [Int.toNat_natCast] at hm
  have ho' := pk_ok x sc l n (by omega)
  rw [hp, Int.toNat_natCast] at ho'
  rcases hM p (by omega) ho' with q | q
  · rw [q]
  · unfold bef at q; omega
theorem gr_step {x sc : Nat → Int} {n k : Nat} {l : List Nat} {p : Nat} (hg : gr x sc n k = some l) (hp : pk x sc l n = (p : Int)) : gr x sc n (k + 1) = some (l ++ [p]) := by
  show (match gr x sc n k with
    | none => none
    | some l => if pk x sc l n < 0 then none else some (l ++ [(pk x sc l n).toNat])) = _
  rw [hg]
  show (if pk x sc l n < 0 then none else some (l ++ [(pk x sc l n).toNat])) = _
  rw [if_neg (by omega), hp, Int.toNat_natCast]
theorem gr_last {x sc : Nat → Int} {n k : Nat} {l : List Nat} (h : gr x sc n (k + 1) = some l) : ∃ l0 p, gr x sc n k = some l0 ∧ pk x sc l0 n = ((p : Nat) : Int) ∧ l = l0 ++ [p] := by
  unfold gr at h
  cases hg : gr x sc n k with
  | none => rw [hg] at h; cases h
  | some l0 =>
    rw [hg] at h
    replace h : (if pk x sc l0 n < 0 then none else some (l0 ++ [(pk x sc l0 n).toNat])) = some l := h
    by_cases hp : pk x sc l0 n < 0
    · rw [if_pos hp] at h; cases h
    · rw [if_neg hp] at h
      cases h
      exact ⟨l0, (pk x sc l0 n).toNat, rfl, by omega, rfl⟩
/-- what has grown -/
structure Grew (x sc : Nat → Int) (n : Nat) (x' sc' : Nat → Int) (n' at' : Nat) : Prop where
  hx : ∀ i, i < n → i ≠ at' → x' i = x i
  hs : ∀ i, i < n → i ≠ at' → sc' i = sc i
  hat : at' < n'
  hn : n ≤ n'
  hi : ∀ i, i < n' → i ≠ at' → i < n
  up : at' < n → x' at' = x at' ∧ sc at' ≤ sc' at'
/-- how the disks behind it stand to those ahead of it -/
inductive Both (x sc : Nat → Int) (n : Nat) (x' : Nat → Int) (at' : Nat) : List Nat → List Nat → Prop
  | one {l : List Nat} : at' ∉ l → Both x sc n x' at' l l
  | same {l l' : List Nat} : at' ∈ l' → (∀ v, v ∈ l'.map x' ↔ v ∈ l.map x) → (∀ d ∈ l', d ≠ at' → d ∈ l) → Both x sc n x' at' l l'
  | ahead {l0 l' : List Nat} {c : Nat} : pk x sc l0 n = (c : Int) → x c ≠ x' at' → at' ∈ l' → x' at' ∉ l0.map x → (∀ v, v ∈ l'.map x' ↔ v ∈ l0.map x ∨ v = x' at') → (∀ d ∈ l', d ≠ at' → d ∈ l0) → Both x sc n x' at' (l0 ++ [c]) l'
theorem Both.new {x sc : Nat → Int} {n : Nat} {x' : Nat → Int} {at' : Nat} {l l' : List Nat} (h : Both x sc n x' at' l l') : ∀ d ∈ l', d ∉ l → d = at' := by
  intro d hd hn
  cases h with
  | one _ => exact absurd hd hn
  | same _ _ hs => exact Classical.byContradiction fun q => hn (hs d hd q)
  | ahead _ _ _ _ _ hs => exact Classical.byContradiction fun q => hn (List.mem_append.2 (.inl (hs d hd q)))
theorem mem_snoc_map {x : Nat → Int} {l : List Nat} {p : Nat} {v : Int} : v ∈ (l ++ [p]).map x ↔ v ∈ l.map x ∨ v = x p := by simp [eq_comm]
theorem both_step {x sc : Nat → Int} {n : Nat} {x' sc' : Nat → Int} {n' at' : Nat} (hG : Grew x sc n x' sc' n' at') {l l' : List Nat} {p : Nat} (hl : ∀ d ∈ l, d < n) (hp : pk x sc l n = (p : Int)) (h : Both x sc n x' at' l l') :
    ∃ p' : Nat, pk x' sc' l' n' = (p' : Int) ∧ Both x sc n x' at' (l ++ [p]) (l' ++ [p']) := by
  have hbd := pk_bd x sc l n
  have hpn : p < n := by omega
  have hpo := pk_ok x sc l n (by omega)
  rw [hp, Int.toNat_natCast] at hpo
  have hpo' := okP_iff.1 hpo
  have hpm := fun i hi ho => pk_bef hp i hi ho
  cases h with
  | one hat =>
    have hmap : l.map x' = l.map x := List.map_congr_left fun d hd => hG.hx d (hl d hd) (fun e => hat (e ▸ hd))
    have hcand : okP x' sc' l p := by
      rw [okP_iff, hmap]
      by_cases e : p = at'
      · have := hG.up (e ▸ hpn)
        rw [e, this.1]
        rw [e] at hpo'
        exact ⟨by omega, hpo'.2⟩
      · rw [hG.hx p hpn e, hG.hs p hpn e]; exact hpo'
    have hm := pk_max x' sc' l n' p (Nat.lt_of_lt_of_le hpn hG.hn) hcand
    obtain ⟨q, hq⟩ := Int.eq_ofNat_of_zero_le hm.1
    have hqb := pk_bd x' sc' l n'
    have hqo := pk_ok x' sc' l n' hm.1
    rw [hq, Int.toNat_natCast] at hqo
    have hqm := fun i hi ho => pk_bef hq i hi ho
    refine ⟨q, hq, ?_⟩
    have hqo' := okP_iff.1 hqo
    rw [hmap] at hqo'
    by_cases e : q = at'
    · subst e
      by_cases ea : x p = x' q
      · refine .same (by simp) (fun v => ?_) (fun d hd hne => ?_)
        · rw [mem_snoc_map, mem_snoc_map, hmap, ea]
        · rcases List.mem_append.1 hd with r | r
          · exact List.mem_append.2 (.inl r)
          · exact absurd (List.mem_singleton.1 r) hne
      · refine .ahead hp ea (by simp) hqo'.2 (fun v => ?_) (fun d hd hne => ?_)
        · rw [mem_snoc_map, hmap]
        · rcases List.mem_append.1 hd with r | r
          · exact r
          · exact absurd (List.mem_singleton.1 r) hne
    · have hqn : q < n := hG.hi q (by omega) e
      have hqo1 : okP x sc l q := by rw [okP_iff, ← hG.hx q hqn e, ← hG.hs q hqn e]; exact hqo'
      have r1 := hpm q hqn hqo1
      have r2 := hqm p (Nat.lt_of_lt_of_le hpn hG.hn) hcand
      have hqp : q = p := by
        rcases r1 with r1 | r1
        · exact r1
        · rcases r2 with r2 | r2
          · exact r2.symm
          · unfold bef at r1 r2
            have s1 := hG.hs q hqn e
            by_cases ep : p = at'
            · have := (hG.up (ep ▸ hpn)).2
              rw [ep] at r1 r2
              omega
            · have s2 := hG.hs p hpn ep
              omega
      subst hqp
      exact .one (fun r => by
        rcases List.mem_append.1 r with r | r
        · exact hat r
        · exact e (List.mem_singleton.1 r).symm)
  | same hat hdom hsub =>
    have hA : x' at' ∈ l.map x := (hdom _).1 (List.mem_map_of_mem hat)
    have hpa : p ≠ at' := fun e => hpo'.2 (by rw [e, ← (hG.up (e ▸ hpn)).1]; exact hA)
    have hq : pk x' sc' l' n' = (p : Int) := by
      refine pk_at (Nat.lt_of_lt_of_le hpn hG.hn) (okP_iff.2 ⟨by rw [hG.hs p hpn hpa]; exact hpo'.1, fun r => hpo'.2 ((hdom _).1 (by rw [hG.hx p hpn hpa] at r; exact r))⟩) (fun i hi ho => ?_)
      have ho' := okP_iff.1 ho
      have hia : i ≠ at' := fun e => ho'.2 ((hdom _).2 (by rw [e]; exact hA))
      have hin := hG.hi i hi hia
      rcases hpm i hin (okP_iff.2 ⟨by rw [← hG.hs i hin hia]; exact ho'.1, fun r => ho'.2 ((hdom _).2 (by rw [hG.hx i hin hia]; exact r))⟩) with r | r
      · exact .inl r
      · right
        unfold bef at r ⊢
        rw [hG.hs i hin hia, hG.hs p hpn hpa]; exact r
    refine ⟨p, hq, .same (List.mem_append.2 (.inl hat)) (fun v => ?_) (fun d hd hne => ?_)⟩
    · rw [mem_snoc_map, mem_snoc_map, hdom, hG.hx p hpn hpa]
    · rcases List.mem_append.1 hd with r | r
      · exact List.mem_append.2 (.inl (hsub d r hne))
      · exact List.mem_append.2 (.inr r)
  | @ahead l0 _ c hc hca hat hA hdom hsub =>
    have hcb := pk_bd x sc l0 n
    have hcn : c < n := by omega
    have hco := pk_ok x sc l0 n (by omega)
    rw [hc, Int.toNat_natCast] at hco
    have hco' := okP_iff.1 hco
    have hne : c ≠ at' := fun e => hca (by rw [e, (hG.up (e ▸ hcn)).1])
    have hq : pk x' sc' l' n' = (c : Int) := by
      refine pk_at (Nat.lt_of_lt_of_le hcn hG.hn) (okP_iff.2 ⟨by rw [hG.hs c hcn hne]; exact hco'.1, fun r => ?_⟩) (fun i hi ho => ?_)
      · rw [hG.hx c hcn hne] at r
        rcases (hdom _).1 r with r | r
        · exact hco'.2 r
        · exact hca r
      · have ho' := okP_iff.1 ho
        have hia : i ≠ at' := fun e => ho'.2 ((hdom _).2 (.inr (by rw [e])))
        have hin := hG.hi i hi hia
        rcases pk_bef hc i hin (okP_iff.2 ⟨by rw [← hG.hs i hin hia]; exact ho'.1, fun r => ho'.2 ((hdom _).2 (.inl (by rw [hG.hx i hin hia]; exact r)))⟩) with r | r
        · exact .inl r
        · right
          unfold bef at r ⊢
          rw [hG.hs i hin hia, hG.hs c hcn hne]; exact r
    have hd1 : ∀ v, v ∈ (l' ++ [c]).map x' ↔ v ∈ (l0 ++ [c]).map x ∨ v = x' at' := fun v => by
      rw [mem_snoc_map, mem_snoc_map, hdom, hG.hx c hcn hne]
      constructor
      · rintro ((r | r) | r)
        · exact .inl (.inl r)
        · exact .inr r
        · exact .inl (.inr r)
      · rintro ((r | r) | r)
        · exact .inl (.inl r)
        · exact .inr r
        · exact .inl (.inr r)
    have hs1 : ∀ d ∈ l' ++ [c], d ≠ at' → d ∈ l0 ++ [c] := fun d hd hne' => by
      rcases List.mem_append.1 hd with r | r
      · exact List.mem_append.2 (.inl (hsub d r hne'))
      · exact List.mem_append.2 (.inr r)
    refine ⟨c, hq, ?_⟩
    by_cases ea : x p = x' at'
    · refine .same (List.mem_append.2 (.inl hat)) (fun v => ?_) (fun d hd hne' => List.mem_append.2 (.inl (hs1 d hd hne')))
      rw [hd1, mem_snoc_map (l := l0 ++ [c]) (p := p), ea]
    · exact .ahead hp ea (List.mem_append.2 (.inl hat)) (fun r => by
        rw [mem_snoc_map] at r
        rcases r with r | r
        · exact hA r
        · exact hca r.symm) hd1 hs1
theorem both_all {x sc : Nat → Int} {n : Nat} {x' sc' : Nat → Int} {n' at' : Nat} (hG : Grew x sc n x' sc' n' at') : ∀ k l, gr x sc n k = some l → ∃ l', gr x' sc' n' k = some l' ∧ Both x sc n x' at' l l'
  | 0, l, h => by cases h; exact ⟨[], rfl, .one (by simp)⟩
  | k + 1, l, h => by
    obtain ⟨l0, p, hg, hp, rfl⟩ := gr_last h
    obtain ⟨l0', hg', hB⟩ := both_all hG k l0 hg
    obtain ⟨p', hp', hB'⟩ := both_step hG (fun d hd => ((gr_props x sc n k l0 hg).1 d hd).1) hp hB
    exact ⟨l0' ++ [p'], gr_step hg' hp', hB'⟩
theorem best_mono (key : ByteArray) (d : Int) : ∀ t k, best key d t ≤ best key d (t + k)
  | t, 0 => Int.le_refl _
  | t, k + 1 => by
    have := best_mono key d t k
    show _ ≤ (if best key d (t + k) < mixV key d ((t + k : Nat) : Int) then mixV key d ((t + k : Nat) : Int) else best key d (t + k))
    split <;> omega
end Go.Proofs.Ytjeahllaajpddaa
