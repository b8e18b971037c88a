import Derived.Test.YthdmaamocejodaaDoorBase
import Derived.Test.YthdmaamocejodaaDoorT1
namespace Go.Proofs.YthdmaamocejodaaDoor
/-! Where the bytes of a range lie: the entries, one by one. -/
/-- how many entries there are -/
def rgN (u f t : Nat) : Nat := if f < t then (t - 1) / u - f / u + 1 else 0
/-- where the i-th entry begins -/
def rgAt (u f t i : Nat) : Nat := if i = 0 then f else min ((f / u + i) * u) t
/-- the entries' numbers, four an entry -/
def rgC (K u f t p : Nat) : Nat :=
  if p % 4 = 0 then rgAt u f t (p / 4) / (K * u)
  else if p % 4 = 1 then rgAt u f t (p / 4) / u % K
  else if p % 4 = 2 then rgAt u f t (p / 4) % u
  else rgAt u f t (p / 4 + 1) - rgAt u f t (p / 4)
theorem rgC0 (K u f t i : Nat) : rgC K u f t (4 * i) = rgAt u f t i / (K * u) := by
  unfold rgC; rw [if_pos (by omega), show 4 * i / 4 = i by omega]
theorem rgC1 (K u f t i : Nat) : rgC K u f t (4 * i + 1) = rgAt u f t i / u % K := by
  unfold rgC; rw [if_neg (by omega), if_pos (by omega), show (4 * i + 1) / 4 = i by omega]
theorem rgC2 (K u f t i : Nat) : rgC K u f t (4 * i + 2) = rgAt u f t i % u := by
  unfold rgC; rw [if_neg (by omega), if_neg (by omega), if_pos (by omega), show (4 * i + 2) / 4 = i by omega]
theorem rgC3 (K u f t i : Nat) : rgC K u f t (4 * i + 3) = rgAt u f t (i + 1) - rgAt u f t i := by
  unfold rgC; rw [if_neg (by omega), if_neg (by omega), if_neg (by omega), show (4 * i + 3) / 4 = i by omega]
theorem rgN_pos {u f t i : Nat} (h : i < rgN u f t) : f < t := by
  unfold rgN at h
  by_cases h1 : f < t
  · exact h1
  · rw [if_neg h1] at h; omega
/-- an entry's shard, counted through, and that it begins ahead of the end -/
theorem rgAt_div {u f t i : Nat} (hu : 1 ≤ u) (h : i < rgN u f t) : rgAt u f t i / u = f / u + i ∧ rgAt u f t i < t := by
  have hf := rgN_pos h
  unfold rgN at h
  rw [if_pos hf] at h
  unfold rgAt
  by_cases h0 : i = 0
  · subst h0; rw [if_pos rfl]; exact ⟨rfl, hf⟩
  · rw [if_neg h0]
    have h1 : (f / u + i) * u ≤ (t - 1) / u * u := Nat.mul_le_mul_right _ (by omega)
    have h2 : (t - 1) / u * u ≤ t - 1 := Nat.div_mul_le_self _ _
    rw [Nat.min_eq_left (by omega)]
    exact ⟨Nat.mul_div_cancel _ (by omega), by omega⟩
/-- the next entry begins where this one's shard ends, or the range does -/
theorem rgAt_next {u f t i : Nat} (hu : 1 ≤ u) (h : i < rgN u f t) : rgAt u f t (i + 1) = min (rgAt u f t i + (u - rgAt u f t i % u)) t := by
  obtain ⟨h1, h2⟩ := rgAt_div hu h
  rw [show rgAt u f t (i + 1) = min ((f / u + (i + 1)) * u) t from if_neg (by omega)]
  have h3 : rgAt u f t i + (u - rgAt u f t i % u) = (f / u + (i + 1)) * u := by
    have e := Nat.div_add_mod (rgAt u f t i) u
    have hm : rgAt u f t i % u < u := Nat.mod_lt _ (by omega)
    rw [h1, Nat.mul_comm] at e
    rw [show f / u + (i + 1) = (f / u + i) + 1 by omega, Nat.add_mul _ 1, Nat.one_mul]
    omega
  rw [h3]
/-- an entry has a byte at least, and no more than are left -/
theorem rgAt_step {u f t i : Nat} (hu : 1 ≤ u) (h : i < rgN u f t) :
    rgAt u f t (i + 1) = rgAt u f t i + (if t - rgAt u f t i < u - rgAt u f t i % u then t - rgAt u f t i else u - rgAt u f t i % u) := by
  obtain ⟨_, h2⟩ := rgAt_div hu h
  rw [rgAt_next hu h]
  by_cases hh : t - rgAt u f t i < u - rgAt u f t i % u
  · rw [if_pos hh, Nat.min_eq_right (by omega)]; omega
  · rw [if_neg hh, Nat.min_eq_left (by omega)]
theorem rgAt_lt {u f t i : Nat} (hu : 1 ≤ u) (h : i < rgN u f t) : rgAt u f t i < rgAt u f t (i + 1) ∧ rgAt u f t (i + 1) ≤ t ∧ rgAt u f t i % u + (rgAt u f t (i + 1) - rgAt u f t i) ≤ u := by
  obtain ⟨_, h2⟩ := rgAt_div hu h
  have hm : rgAt u f t i % u < u := Nat.mod_lt _ (by omega)
  rw [rgAt_next hu h]
  omega
theorem rgAt_zero (u f t : Nat) : rgAt u f t 0 = f := if_pos rfl
/-- the entries end with the range -/
theorem rgAt_end {u f t : Nat} (hu : 1 ≤ u) (h : f < t) : rgAt u f t (rgN u f t) = t := by
  have hn : rgN u f t = (t - 1) / u - f / u + 1 := if_pos h
  rw [hn, rgAt, if_neg (by omega), Nat.min_eq_right]
  have h1 : f / u ≤ (t - 1) / u := Nat.div_le_div_right (by omega)
  rw [show f / u + ((t - 1) / u - f / u + 1) = (t - 1) / u + 1 by omega]
  have e := Nat.div_add_mod (t - 1) u
  have hm : (t - 1) % u < u := Nat.mod_lt _ (by omega)
  rw [Nat.add_mul, Nat.one_mul, Nat.mul_comm]
  omega
theorem rgAt_le {u f t : Nat} (hu : 1 ≤ u) : ∀ i, i ≤ rgN u f t → f ≤ t → f ≤ rgAt u f t i ∧ rgAt u f t i ≤ t
  | 0, _, h => by rw [rgAt_zero]; exact ⟨Nat.le_refl _, h⟩
  | i + 1, hi, h => by
    obtain ⟨h1, h2, _⟩ := rgAt_lt hu (show i < rgN u f t by omega)
    have := (rgAt_le hu i (by omega) h).1
    omega
/-- ahead of the end there is an entry more -/
theorem rgN_more {u f t i : Nat} (hu : 1 ≤ u) (hi : i ≤ rgN u f t) (h : rgAt u f t i < t) : i < rgN u f t := by
  by_cases e : i = rgN u f t
  · subst e
    by_cases h1 : f < t
    · rw [rgAt_end hu h1] at h; omega
    · have : rgN u f t = 0 := if_neg h1
      rw [this, rgAt_zero] at h; omega
  · omega
theorem rgN_last {u f t i : Nat} (hu : 1 ≤ u) (hi : i ≤ rgN u f t) (h : ¬ rgAt u f t i < t) : i = rgN u f t := by
  by_cases e : i < rgN u f t
  · exact absurd (rgAt_div hu e).2 h
  · omega
/-- how many there are at most -/
theorem rgN_le {u f t : Nat} (ht : t ≤ 100000) : rgN u f t ≤ 100001 := by
  unfold rgN
  split
  · have h1 : (t - 1) / u ≤ t - 1 := Nat.div_le_self _ _
    have h2 := Nat.sub_le ((t - 1) / u) (f / u)
    have h3 := Nat.le_trans h2 h1
    omega
  · omega
end Go.Proofs.YthdmaamocejodaaDoor
namespace Go.Proofs.YthdmaamocejodaaDoor
open Go.RowKit
/-! The bytes that the entries of a range name. -/
theorem sb_pcT (d : ByteArray) (U q p : Nat) (hp : p < U) : sb (pcT d U q) p = sb d (q * U + p) := by
  have h : (pcT d U q).data.getD p 0 = UInt8.ofNat (sb d (q * U + p)) := by
    simp [pcT, strOfNums, nl, Array.getD, hp]
  unfold sb at *
  rw [h]
  simp
theorem mix_unit (K M G i p : Nat) (ld : Nat → Nat → Nat) (hi : i < K) (hld : ∀ k, ld k p < 256) (h0 : ∀ k, K ≤ k → ld k p = 0) : ∀ k, mixN (rowN K M G) ld i p k = if i < k then ld i p else 0
  | 0 => by rw [if_neg (by omega)]; rfl
  | k + 1 => by
    show mixN (rowN K M G) ld i p k ^^^ gm 8 29 (rowN K M G i k) (ld k p) = _
    rw [mix_unit K M G i p ld hi hld h0 k]
    by_cases hk : k < K
    · have hr : rowN K M G i k = if i = k then 1 else 0 := by unfold rowN; rw [if_pos hk, if_pos hi]
      rw [hr]
      by_cases e : i = k
      · subst e
        rw [if_pos rfl, if_neg (by omega), if_pos (by omega), gm_comm fld8.toFld (by decide) (hld i), gm_one fld8.toFld, Nat.zero_xor]
      · rw [if_neg e, zero_gm fld8.toFld (hld k), Nat.xor_zero]
        by_cases h : i < k
        · rw [if_pos h, if_pos (by omega)]
        · rw [if_neg h, if_neg (by omega)]
    · rw [h0 k (by omega), gm_zero, Nat.xor_zero, if_pos (by omega), if_pos (by omega)]
theorem spT_data (d : ByteArray) (K M G U i k : Nat) (h2 : K ≤ 32) (hk : k < K) : spT d K M G U i k = pcT d U (i * K + k) := by
  unfold spT encT
  rw [pcT_size]
  conv => rhs; unfold pcT
  congr 2
  refine List.map_congr_left fun p hp => ?_
  have hp' : p < U := by simpa using hp
  rw [mix_unit K M G k p _ hk (fun q => by dsimp only; split <;> first | exact sb_lt _ _ | decide) (fun q hq => by dsimp only; rw [if_neg (by omega)]) 32, if_pos (by omega)]
  dsimp only
  rw [if_pos hk, sb_pcT d U _ p hp']
theorem byteArray_ext' {a b : ByteArray} (h : a.data = b.data) : a = b := by cases a; cases b; cases h; rfl
theorem piece_extract (d : ByteArray) (U at' c : Nat) (h : at' % U + c ≤ U) (hs : at' + c ≤ d.size) : (pcT d U (at' / U)).extract (at' % U) (at' % U + c) = d.extract at' (at' + c) := by
  have hsd : at' + c ≤ d.data.size := hs
  have hps : (pcT d U (at' / U)).data.size = U := pcT_size d U _
  refine byteArray_ext' ?_
  rw [ByteArray.data_extract, ByteArray.data_extract]
  refine Array.ext (by rw [Array.size_extract, Array.size_extract, hps]; omega) fun j hj1 hj2 => ?_
  rw [Array.size_extract, hps] at hj1
  rw [Array.getElem_extract, Array.getElem_extract]
  have e1 := sb_pcT d U (at' / U) (at' % U + j) (by omega)
  have e2 : at' / U * U + (at' % U + j) = at' + j := by have := Nat.div_add_mod at' U; rw [Nat.mul_comm] at this; omega
  rw [e2] at e1
  have g1 : sb (pcT d U (at' / U)) (at' % U + j) = ((pcT d U (at' / U)).data[at' % U + j]'(by omega)).toNat := by
    unfold sb; rw [Array.getD, dif_pos]; rfl
  have g2 : sb d (at' + j) = (d.data[at' + j]'(by omega)).toNat := by
    unfold sb; rw [Array.getD, dif_pos]; rfl
  rw [g1, g2] at e1
  exact UInt8.toNat_inj.1 e1
theorem extract_join (d : ByteArray) (f a b : Nat) (h1 : f ≤ a) (h2 : a ≤ b) : d.extract f a ++ d.extract a b = d.extract f b := by
  refine byteArray_ext' ?_
  rw [ByteArray.data_append, ByteArray.data_extract, ByteArray.data_extract, ByteArray.data_extract, Array.extract_append_extract, Nat.min_eq_left h1, Nat.max_eq_right h2]
theorem extract_none (d : ByteArray) (f : Nat) : d.extract f f = ⟨#[]⟩ := by
  refine byteArray_ext' ?_
  rw [ByteArray.data_extract]; simp; omega
end Go.Proofs.YthdmaamocejodaaDoor
