import Derived.Test.YtcfahbcpfjhajaaGreatDoorReqM
import Derived.Maps.OwnSet
import Derived.Maps.Views
namespace Go.Proofs.YtcfahbcpfjhajaaGreatDoor
open Go.RowKit
/-! Where each name stands: the program's placesOf. -/
def kN (o : Nat → Hp) (k : Nat) : Lit := .string (o k).nm.data.toList
def plD (o : Nat → Hp) : Nat → DataW Unit
  | 0 => .map []
  | k + 1 => (plD o k).put (kN o k) (.lit (.int .i64 (k : Int)))
theorem kN_key (o : Nat → Hp) (k : Nat) : WideAt.IsKeyLit (kN o k) := trivial
theorem plD_tidy (o : Nat → Hp) : ∀ n, Maps.Tidy (plD o n)
  | 0 => Maps.tidy_empty
  | n + 1 => (plD_tidy o n).put (kN_key o n) _
theorem kN_inj {o : Nat → Hp} {i k : Nat} : kN o i = kN o k ↔ (o i).nm = (o k).nm := by
  unfold kN
  constructor
  · intro h
    have h2 : (o i).nm.data.toList = (o k).nm.data.toList := by injection h
    cases hi : (o i).nm
    cases hk : (o k).nm
    rw [hi, hk] at h2
    congr 1
    exact Array.toList_inj.1 h2
  · intro h; rw [h]
theorem plD_has (o : Nat → Hp) (x : Lit) : ∀ n, Maps.has (plD o n) x = true ↔ ∃ i, i < n ∧ kN o i = x
  | 0 => by simp [plD, Maps.has]
  | n + 1 => by
    by_cases h : x = kN o n
    · subst h
      exact ⟨fun _ => ⟨n, by omega, rfl⟩, fun _ => Maps.has_put_same (plD_tidy o n).isMap (kN_key o n) _⟩
    · show Maps.has ((plD o n).put (kN o n) _) x = true ↔ _
      rw [Maps.has_put_other h, plD_has o x n]
      constructor
      · rintro ⟨i, hi, e⟩; exact ⟨i, by omega, e⟩
      · rintro ⟨i, hi, e⟩
        rcases Nat.lt_or_ge i n with h1 | h1
        · exact ⟨i, h1, e⟩
        · have : i = n := by omega
          subst this
          exact absurd e.symm h
theorem plD_size_le (o : Nat → Hp) : ∀ n, Maps.size (plD o n) ≤ n
  | 0 => Nat.le_refl _
  | n + 1 => by
    have h := plD_size_le o n
    show Maps.size ((plD o n).put (kN o n) _) ≤ _
    rw [Maps.size_put (plD_tidy o n)]
    split <;> omega
theorem plD_size (o : Nat → Hp) : ∀ n, Maps.size (plD o n) = n ↔ ∀ i, i < n → ∀ k, k < i → (o i).nm ≠ (o k).nm
  | 0 => ⟨fun _ i hi => absurd hi (Nat.not_lt_zero _), fun _ => rfl⟩
  | n + 1 => by
    have ih := plD_size o n
    have hl := plD_size_le o n
    have e : Maps.size (plD o (n + 1)) = if Maps.has (plD o n) (kN o n) then Maps.size (plD o n) else Maps.size (plD o n) + 1 := Maps.size_put (plD_tidy o n) _
    rw [e]
    by_cases hh : Maps.has (plD o n) (kN o n) = true
    · rw [if_pos hh]
      obtain ⟨i, hi, q⟩ := (plD_has o _ n).1 hh
      exact ⟨fun h => absurd h (by omega), fun h => absurd (kN_inj.1 q).symm (h n (by omega) i hi)⟩
    · rw [if_neg hh]
      constructor
      · intro h i hi k hk
        rcases Nat.lt_or_ge i n with h1 | h1
        · exact ih.1 (by omega) i h1 k hk
        · have : i = n := by omega
          subst this
          exact fun q => hh ((plD_has o _ i).2 ⟨k, hk, kN_inj.2 q.symm⟩)
      · intro h
        have := ih.2 fun i hi k hk => h i (by omega) k hk
        omega
/-- the last one that has the name -/
theorem plD_at (o : Nat → Hp) (n : Nat) (hd : ∀ i, i < n → ∀ k, k < i → (o i).nm ≠ (o k).nm) (i : Nat) (hi : i < n) (z : DataW Unit) : (plD o n).atKey (kN o i) z = .lit (.int .i64 (i : Int)) := by
  induction n with
  | zero => omega
  | succ n ih =>
    show ((plD o n).put (kN o n) _).atKey _ _ = _
    rcases Nat.lt_or_ge i n with h1 | h1
    · rw [Maps.atKey_put_other (fun q => hd n (by omega) i h1 (kN_inj.1 q).symm)]
      exact ih (fun a ha => hd a (by omega)) h1
    · have : i = n := by omega
      subst this
      exact Maps.atKey_put_same (plD_tidy o i).isMap (kN_key o i) _ _
theorem wf64 (n : Int) (h0 : 0 ≤ n) (h1 : n ≤ 9223372036854775807) : (Lit.int .i64 n).wf = true := by
  have a : IntKind.i64.min = -9223372036854775808 := rfl
  have b : IntKind.i64.max = 9223372036854775807 := rfl
  show (decide (IntKind.i64.min ≤ n) && decide (n ≤ IntKind.i64.max)) = true
  rw [a, b]
  simp
  omega
theorem lawS : Maps.Keyed Tryz.prog 9 := Maps.string_keyed Tryz.underlying9
theorem mkMap (n : Nat) (w : World) : (Instr.makeMap 116 (some (.int .i64 (n : Int)))).run Tryz.prog w = .ok (.map (some w.heap.size)) (w.alloc (.map #[] 0)) := by
  simp [Instr.makeMap, run_underlying Tryz.underlying116, asInt, asIntOf]
set_option maxRecDepth 20000 in
set_option maxHeartbeats 2000000 in
theorem iPlaces (a : Option Addr) (n cap : Nat) (o : Nat → Hp) (hn : n ≤ 1048576) (hs : ∀ i, i < n → (o i).nm.size ≤ 1048576) (w : World) (h : Hps w a n cap o) :
    Calls Tryz.prog 100 #[.slice a n cap] w fun e w' => ∃ b, e = .returned (.map (some b)) ∧ w'.ownsMap Tryz.prog 9 (plainElem Tryz.prog 3) b n (plD o n) ∧ w.heap.size ≤ b ∧ Below w.heap.size w w' := by
  have HH := hid h
  have HS := hid hs
  clear h hs
  have hmk := fun wx => mkMap n wx
  go_enter Tryz.func100, Tryz.ntmps100
  go_wp2_with fail
  go_loopw [11] (fun q wr => ∃ k : Nat, k ≤ n ∧ q = .int .i64 k ∧ wr.ownsMap Tryz.prog 9 (plainElem Tryz.prog 3) w.heap.size k (plD o k) ∧ Below w.heap.size w wr) (fun q _ => n - (intOf q).toNat)
  case atStart => exact ⟨0, Nat.zero_le _, rfl, World.ownsMap_made w _ _ _, (Below.refl _ _).alloc (Nat.le_refl _) _⟩
  case round =>
    obtain ⟨k, hk, rfl, hM, hB⟩ := hrel
    have HM := hid hM
    have HB := hid hB
    clear hB hM hmk
    by_cases hlt : k < n
    · have hlt' : (k : Int) < (n : Int) := by omega
      have k0 : (0 : Int) ≤ (k : Int) := by omega
      rcases (HH.out.below HB.out).2 with h00 | ⟨b, off, rfl, hbl, hc⟩
      · omega
      obtain ⟨c0, c1⟩ := hc k hlt
      have hsz := HS.out k hlt
      have HKY : Hid (keyOf Tryz.prog 9 (.string (o k).nm) = some (kN o k)) := WideMaps.keyOf_string_mk Tryz.underlying9 (by unfold maxLen; omega)
      have HEL : Hid (plainElem (H := Unit) Tryz.prog 3 (.int .i64 (k : Int)) = some (.lit (.int .i64 (k : Int)), [])) := plainElem_int Tryz.underlying3 (wf64 _ (by omega) (by omega))
      obtain ⟨X0, hX0⟩ : ∃ v, v = (o k).nm := ⟨_, rfl⟩
      obtain ⟨X1, hX1⟩ : ∃ v, v = (o k).vl := ⟨_, rfl⟩
      rw [← hX0] at c0 HKY hsz
      rw [← hX1] at c1
      clear hc hX0 hX1
      go_wp2_with (first | (refine wpList_mapUpdate_own (H := Unit) _ rfl (.tmp 16) (.tmp 18) (.tmp 19) 116 rfl 9 3 lawS Tryz.underlying116 (plainElem Tryz.prog 3) w.heap.size k (plD o k) rfl (HM.out.alloc _) (by unfold maxLen; omega) (.string X0) (.int .i64 (k : Int)) (kN o k) rfl rfl HKY.out _ _ HEL.out ?_) | go_in)
      intro w2 hM2 hg2
      have M2 := hid hM2
      have B2 : Hid (Below w.heap.size w w2) := (HB.out.alloc HB.out.size _).grown hg2 (Nat.le_trans HB.out.size (by simp)) (by intro j hj; cases hj; exact Nat.le_refl _)
      clear hM2 hg2 HM HB c0 c1
      go_wp2
      go_roundw
      case rel => exact ⟨k + 1, by omega, by go_num, M2.out, B2.out⟩
      case measure => simp [intOf]; omega
    · have hkn : k = n := by omega
      subst hkn
      go_wp2
      go_ret
      exact ⟨_, rfl, HM.out, Nat.le_refl _, HB.out⟩
end Go.Proofs.YtcfahbcpfjhajaaGreatDoor
