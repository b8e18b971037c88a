import Derived.Test.YtekdphfifdfmbaaBsR
namespace Go.Proofs.Ytekdphfifdfmbaa
open Go.RowKit
set_option linter.unusedVariables false
/-! The search for the first entry of a key; entriesFrom. -/
/-- a place as an entry -/
def plE (k : ByteArray) (q : Int) : En := ⟨k, q, false, ⟨#[]⟩⟩
theorem Ens.dropE {w : World} {a : Option Addr} {n cap : Nat} {o : Nat → En} (h : Ens w a n cap o) {d : Nat} (hd : d ≤ n) : Ens w (Option.map (fun x => x.add (d * 4)) a) (n - d) (cap - d) (fun i => o (d + i)) := by
  refine ⟨by have := h.1; omega, ?_⟩
  rcases h.2 with h0 | ⟨b, off, rfl, hb, hc⟩
  · exact .inl (by omega)
  · refine .inr ⟨b, off + d * 4, by simp [Addr.add], hb, fun k hk => ?_⟩
    have e : off + d * 4 + k * 4 = off + (d + k) * 4 := by omega
    rw [e]
    exact hc (d + k) (by omega)
set_option maxRecDepth 20000 in
set_option maxHeartbeats 4000000 in
theorem iBS (a : Option Addr) (n cap : Nat) (o : Nat → En) (hn : n ≤ 1048576) (k : ByteArray) (q : Int) (w : World) (h : Ens w a n cap o) (hs : ∀ i j, i < j → j < n → enLt (o i) (o j)) :
    Calls Try.prog 88 #[.slice a n cap, .agg #[.string k, .int .i64 q], .func (.func 89) #[] #[]] w fun e w' => (∃ (at_ : Nat) (v : Value), e = .returned (.tuple #[.int .i64 (at_ : Int), v]) ∧ at_ ≤ n ∧ (∀ i, i < at_ → enLt (o i) (plE k q)) ∧ ∀ i, at_ ≤ i → i < n → ¬ enLt (o i) (plE k q)) ∧ Below w.heap.size w w' := by
  obtain ⟨W1, hW1⟩ : ∃ W, W = w.alloc (.cells #[.string k, .int .i64 q] 87) := ⟨_, rfl⟩
  have B1 : Hid (Below w.heap.size w W1) := by rw [hW1]; exact (Below.refl _ _).alloc (Nat.le_refl _) _
  have P1 : Hid (RowAt W1 w.heap.size 87 #[.string k, .int .i64 q]) := by rw [hW1]; exact RowAt.new _ _ _
  have E1 := hid (h.below B1.out)
  have HS := hid hs
  clear h hs
  go_enter Try.func88, Try.ntmps88
  go_upto_region 1 with fail
  rw [← hW1]
  clear hW1
  go_wp2_with fail
  go_loopw [9, 10] (fun vi vj wr => ∃ (i j : Nat), vi = .int .i64 (i : Int) ∧ vj = .int .i64 (j : Int) ∧ i ≤ j ∧ j ≤ n ∧ (∀ t, t < i → enLt (o t) (plE k q)) ∧ (∀ t, j ≤ t → t < n → ¬ enLt (o t) (plE k q)) ∧ Below W1.heap.size W1 wr) (fun vi vj _ => (intOf vj).toNat - (intOf vi).toNat)
  case atStart => exact ⟨0, n, rfl, rfl, Nat.zero_le _, Nat.le_refl _, fun t ht => absurd ht (Nat.not_lt_zero _), fun t h1 h2 => by omega, Below.refl _ _⟩
  case round =>
    obtain ⟨i, j, rfl, rfl, hij, hjn, hlo, hhi, hb⟩ := hrel
    obtain ⟨WR, hWR⟩ : ∃ v, v = wr := ⟨_, rfl⟩
    subst hWR
    have LO := hid hlo
    have HI := hid hhi
    have BR := hid hb
    clear hlo hhi hb
    by_cases hlt : i < j
    · have d0 : (i : Int) < (j : Int) := by omega
      obtain ⟨m, hm⟩ : ∃ m, m = (i + j) / 2 := ⟨_, rfl⟩
      have HM := hid hm
      have mi : i ≤ m := by omega
      have mj : m < j := by omega
      clear hm
      rcases E1.out.2 with h00 | ⟨g, og, rfl, hgl, hc⟩
      · omega
      obtain ⟨x0, x1, x2, x3⟩ := hc m (by omega)
      have X := hid (And.intro ((BR.out.cell (p := ⟨g, og + m * 4, none⟩) hgl).trans x0) (And.intro ((BR.out.cell (p := ⟨g, og + m * 4 + 1, none⟩) hgl).trans x1) (And.intro ((BR.out.cell (p := ⟨g, og + m * 4 + 2, none⟩) hgl).trans x2) (And.intro ((BR.out.cell (p := ⟨g, og + m * 4 + 3, none⟩) hgl).trans x3) (And.intro (Nat.lt_of_lt_of_le hgl BR.out.size) (show m < n by omega))))))
      have PR := hid (P1.out.below BR.out P1.out.lt)
      clear x0 x1 x2 x3 hc
      have em : ((i : Int) + (j : Int)) / 2 = (m : Int) := by have := HM.out; omega
      go_upto_region 5 with fail
      try rw [em]
      refine bs5_wp WR g og n cap m w.heap.size (o m).ky (o m).tx k (o m).sq q (o m).gn WR (Below.refl _ _) PR.out X.out ?_
      intro uu w2 hb2
      intros
      have B2 := hid (BR.out.trans (hb2.mono BR.out.size))
      clear hb2 em X PR
      have ec := enCmp_lt (o m) (plE k q)
      by_cases hc : enCmp (o m) (plE k q) < 0
      · have dc : decide (orI (kCmp (o m).ky k) (cmpI q (o m).sq) < 0) = true := decide_eq_true hc
        have L2 : Hid (∀ t, t < m + 1 → enLt (o t) (plE k q)) := fun t ht => by
          by_cases e : t = m
          · rw [e]; exact ec.1 hc
          · exact enLt_trans (HS.out t m (by omega) (by omega)) (ec.1 hc)
        generalize orI (kCmp (o m).ky k) (cmpI q (o m).sq) = Z at dc ⊢
        clear ec hc
        rw [dc]
        clear dc
        go_wp2
        go_roundw
        case rel => exact ⟨m + 1, j, by go_num, rfl, by omega, hjn, L2.out, HI.out, B2.out⟩
        case measure => simp [intOf]; omega
      · have dc : decide (orI (kCmp (o m).ky k) (cmpI q (o m).sq) < 0) = false := decide_eq_false hc
        have H2 : Hid (∀ t, m ≤ t → t < n → ¬ enLt (o t) (plE k q)) := fun t ht htn hl => by
          by_cases e : t = m
          · rw [e] at hl; exact hc (ec.2 hl)
          · exact hc (ec.2 (enLt_trans (HS.out m t (by omega) htn) hl))
        generalize orI (kCmp (o m).ky k) (cmpI q (o m).sq) = Z at dc ⊢
        clear ec hc
        rw [dc]
        clear dc
        go_wp2
        go_roundw
        case rel => exact ⟨i, m, rfl, rfl, mi, by omega, LO.out, H2.out, B2.out⟩
        case measure => simp [intOf]; omega
    · have d0 : ¬ (i : Int) < (j : Int) := by omega
      have ej : Hid (i = j) := by show i = j; omega
      by_cases hin : i < n
      · rcases E1.out.2 with h00 | ⟨g, og, rfl, hgl, hc⟩
        · omega
        obtain ⟨x0, x1, x2, x3⟩ := hc i hin
        have X := hid (And.intro ((BR.out.cell (p := ⟨g, og + i * 4, none⟩) hgl).trans x0) (And.intro ((BR.out.cell (p := ⟨g, og + i * 4 + 1, none⟩) hgl).trans x1) (And.intro ((BR.out.cell (p := ⟨g, og + i * 4 + 2, none⟩) hgl).trans x2) (And.intro ((BR.out.cell (p := ⟨g, og + i * 4 + 3, none⟩) hgl).trans x3) (And.intro (Nat.lt_of_lt_of_le hgl BR.out.size) hin)))))
        have PR := hid (P1.out.below BR.out P1.out.lt)
        clear x0 x1 x2 x3 hc
        go_upto_region 8 with fail
        refine bs8t_wp WR g og n cap i w.heap.size (o i).ky (o i).tx k (o i).sq q (o i).gn WR (Below.refl _ _) PR.out X.out ?_
        intro uu w2 hb2
        intros
        have B2 := hid (B1.out.trans ((BR.out.trans (hb2.mono BR.out.size)).mono B1.out.size))
        clear hb2 X PR
        go_wp2
        refine bodyPost_ret (results_tmp2 (by rfl) _ _ _) rfl ?_
        exact ⟨⟨i, ⟨_, rfl⟩, by omega, LO.out, fun t h1 h2 => HI.out t (by have := ej.out; omega) h2⟩, B2.out⟩
      · have PR := hid (P1.out.below BR.out P1.out.lt)
        go_upto_region 8 with fail
        refine bs8f_wp WR 0 0 n 0 i w.heap.size ⟨#[]⟩ ⟨#[]⟩ k 0 q false WR (Below.refl _ _) PR.out hin ?_
        intro uu w2 hb2
        intros
        have B2 := hid (B1.out.trans ((BR.out.trans (hb2.mono BR.out.size)).mono B1.out.size))
        clear hb2 PR
        go_wp2
        refine bodyPost_ret (results_tmp2 (by rfl) _ _ _) rfl ?_
        exact ⟨⟨i, ⟨_, rfl⟩, by omega, LO.out, fun t h1 h2 => HI.out t (by have := ej.out; omega) h2⟩, B2.out⟩
set_option maxRecDepth 20000 in
set_option maxHeartbeats 4000000 in
theorem iEF (a : Option Addr) (n cap : Nat) (o : Nat → En) (hn : n ≤ 1048576) (k : ByteArray) (w : World) (h : Ens w a n cap o) (hs : ∀ i j, i < j → j < n → enLt (o i) (o j)) :
    Calls Try.prog 71 #[.agg #[.slice a n cap], .string k] w fun e w' => (∃ (at_ : Nat) (a' : Option Addr) (c' : Nat), e = .returned (.slice a' (n - at_) c') ∧ at_ ≤ n ∧ (∀ wx, Ens wx a n cap o → Ens wx a' (n - at_) c' (fun i => o (at_ + i))) ∧ (∀ i, i < at_ → enLt (o i) (plE k 9223372036854775807)) ∧ ∀ i, at_ ≤ i → i < n → ¬ enLt (o i) (plE k 9223372036854775807)) ∧ Below w.heap.size w w' := by
  obtain ⟨W1, hW1⟩ : ∃ W, W = w.alloc (.cells #[.slice a n cap] 28) := ⟨_, rfl⟩
  obtain ⟨W2, hW2⟩ : ∃ W, W = W1.alloc (.cells #[.string k, .int .i64 9223372036854775807] 87) := ⟨_, rfl⟩
  have b1 : Hid (Below w.heap.size w W1) := by rw [hW1]; exact (Below.refl _ _).alloc (Nat.le_refl _) _
  have B2 : Hid (Below w.heap.size w W2) := by rw [hW2]; exact b1.out.alloc b1.out.size _
  have R2 : Hid (RowAt W2 w.heap.size 28 #[.slice a n cap]) := by rw [hW2, hW1]; exact (RowAt.new _ _ _).alloc _
  have P2 : Hid (RowAt W2 W1.heap.size 87 #[.string k, .int .i64 9223372036854775807]) := by rw [hW2]; exact RowAt.new _ _ _
  have K := hid (iBS a n cap o hn k 9223372036854775807 W2 (h.below B2.out) hs)
  have HE := hid h
  clear h hs
  go_enter Try.func71, Try.ntmps71
  go_upto_region 1 with fail
  rw [← hW1]
  clear hW1
  go_upto_region 2 with fail
  rw [← hW2]
  clear hW2
  have c0 := R2.out.cell 0
  have p0 := P2.out.cell 0
  have p1 := P2.out.cell 1
  go_wp2_with fail
  refine K.out.mono ?_
  rintro e w3 ⟨⟨at_, b, rfl, hat, hlo, hhi⟩, hb3⟩
  have LO := hid hlo
  have HI := hid hhi
  have B3 := hid (B2.out.trans (hb3.mono B2.out.size))
  have R3 := hid (R2.out.below hb3 R2.out.lt)
  clear hlo hhi hb3 c0 p0 p1 K
  have c0 := R3.out.cell 0
  have d1 : (at_ : Int) ≤ (n : Int) := by omega
  have d2 : (0 : Int) ≤ (at_ : Int) := by omega
  by_cases hcap : cap = at_
  · have en : n = at_ := by have := HE.out.1; omega
    have E0 : Hid (∀ wx, Ens wx a n cap o → Ens wx a (n - at_) 0 (fun i => o (at_ + i))) := fun _ _ => ⟨by omega, .inl (by omega)⟩
    have D1 : Hid (at_ ≤ n) := hat
    subst hcap
    clear en d1 d2
    go_wp2
    go_ret
    exact ⟨⟨_, a, 0, rfl, D1.out, E0.out, LO.out, HI.out⟩, B3.out⟩
  · have E0 : Hid (∀ wx, Ens wx a n cap o → Ens wx (Option.map (fun x => x.add (at_ * 4)) a) (n - at_) (cap - at_) (fun i => o (at_ + i))) := fun _ h => h.dropE hat
    have D1 : Hid (at_ ≤ n) := hat
    have hcc : at_ < cap := by have := HE.out.1; omega
    go_wp2
    go_ret
    exact ⟨⟨_, _, _, rfl, D1.out, E0.out, LO.out, HI.out⟩, B3.out⟩
end Go.Proofs.Ytekdphfifdfmbaa
