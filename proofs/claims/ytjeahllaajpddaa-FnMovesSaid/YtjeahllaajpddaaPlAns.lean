import Derived.Test.YtjeahllaajpddaaLawPl
import Derived.Test.YtjeahllaajpddaaIPlace
namespace Go.Proofs.Ytjeahllaajpddaa
open Go.RowKit
/-! Both PlaceKeys: one code, one list. -/
theorem plL_len (key : ByteArray) (n : Nat) (x y : Nat → Int) (k : Int) : (plL key n x y k).length ≤ 64 := by
  unfold plL
  split
  · rename_i h
    rw [List.length_map]
    cases hg : gr x (fun i => scoreV key n x y (i : Int)) n k.toNat with
    | none => simp
    | some l => have := gr_len _ _ _ _ _ hg; simp [this]; omega
  · simp
theorem ow_nil (w : World) (base : Nat) : Ow w base none 0 0 [] := ⟨rfl, Nat.le_refl _, .inl rfl⟩
theorem ans_of {key : ByteArray} {n : Nat} {x y : Nat → Int} {m : Nat} {w w' : World} {e : Ending} (hok : NdOk n x y ∧ 1 ≤ (m : Int) ∧ (m : Int) ≤ 64 ∧ key.size ≤ 1000) {sc : Nat → Int} (hsc : sc = fun (i : Nat) => scoreV key n x y (i : Int))
    (h : ((gr x sc n m = none ∧ e = .returned (plv 7 none 0 0)) ∨ ∃ l a' c, gr x sc n m = some l ∧ e = .returned (plv 0 a' m c) ∧ OwnNums w' (w.heap.size + 1) 2 .i64 (.slice a' m c) (l.map fun i => ((i : Nat) : Int))) ∧ Below w.heap.size w w') :
    AnsPl (plC key n x y m) (plL key n x y m) w e w' := by
  subst hsc
  obtain ⟨h, hb⟩ := h
  unfold plC plL
  rw [if_pos hok, if_pos hok, Int.toNat_natCast]
  rcases h with ⟨hg, rfl⟩ | ⟨l, a', c, hg, rfl, ho⟩
  · rw [hg]
    exact ⟨none, 0, rfl, ow_nil _ _, hb⟩
  · rw [hg]
    have hl := gr_len _ _ _ _ _ hg
    have ho' := (Ow.of_nums ho).mono (Nat.le_succ _)
    refine ⟨a', c, ?_, ho', hb⟩
    simp [hl]
theorem ans_no {key : ByteArray} {n : Nat} {x y : Nat → Int} {m : Int} {w w' : World} {e : Ending} (hno : ¬ (NdOk n x y ∧ 1 ≤ m ∧ m ≤ 64 ∧ key.size ≤ 1000)) (h : e = .returned (plv 1 none 0 0) ∧ Below w.heap.size w w') :
    AnsPl (plC key n x y m) (plL key n x y m) w e w' := by
  obtain ⟨rfl, hb⟩ := h
  unfold plC plL
  rw [if_neg hno, if_neg hno]
  exact ⟨none, 0, rfl, ow_nil _ _, hb⟩
theorem sAnsPl (a : Option Addr) (n cap : Nat) (x y : Nat → Int) (hl : n ≤ 1048576) (key : ByteArray) (hk : key.size ≤ 1048576) (m : Int) (w : World) (h : Prs w a n cap x y) :
    Calls Try.prog 16 #[.slice a n cap, .string key, .int .i64 m] w fun e w' => AnsPl (plC key n x y m) (plL key n x y m) w e w' := by
  by_cases hok : NdOk n x y ∧ 1 ≤ m ∧ m ≤ 64 ∧ key.size ≤ 1000
  · obtain ⟨m', rfl⟩ := Int.eq_ofNat_of_zero_le (show 0 ≤ m by omega)
    exact (splace_ok a n cap x y key m' hok.1 (by omega) (by omega) hok.2.2.2 (scN key n x y) (fun i hi => scN_eq key n x y hok.1 hok.2.2.2 i hi) w h).mono fun e w' q => ans_of hok rfl q
  · exact (splace_no a n cap x y hl key hk m hok w h).mono fun e w' q => ans_no hok q
theorem iAnsPl (a : Option Addr) (n cap : Nat) (x y : Nat → Int) (hl : n ≤ 1048576) (key : ByteArray) (hk : key.size ≤ 1048576) (m : Int) (w : World) (h : Prs w a n cap x y) :
    Calls Try.prog 15 #[.slice a n cap, .string key, .int .i64 m] w fun e w' => AnsPl (plC key n x y m) (plL key n x y m) w e w' := by
  by_cases hok : NdOk n x y ∧ 1 ≤ m ∧ m ≤ 64 ∧ key.size ≤ 1000
  · obtain ⟨m', rfl⟩ := Int.eq_ofNat_of_zero_le (show 0 ≤ m by omega)
    exact (iplace_ok a n cap x y key m' hok.1 (by omega) (by omega) hok.2.2.2 w h).mono fun e w' q => ans_of hok rfl q
  · exact (iplace_no a n cap x y hl key hk m hok w h).mono fun e w' q => ans_no hok q
end Go.Proofs.Ytjeahllaajpddaa
