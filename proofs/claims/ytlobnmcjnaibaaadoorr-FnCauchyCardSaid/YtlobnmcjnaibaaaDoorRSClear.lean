import Derived.Test.YtlobnmcjnaibaaaDoorRSSwap
import Derived.Test.YtlobnmcjnaibaaaDoorRSCau
namespace Go.Proofs.YtlobnmcjnaibaaaDoorR
open Go.RowKit
/-- a row made 1 in its column, the others cleared of it -/
def clrN (A : Nat → Nat → Nat) (row col i j : Nat) : Nat :=
  if i = row then gm 8 29 (gp 8 29 (A row col) 254) (A row j) else A i j ^^^ gm 8 29 (A i col) (gm 8 29 (gp 8 29 (A row col) 254) (A row j))
def Sm (R C : Nat) (A : Nat → Nat → Nat) : Prop := ∀ i j, i < R → j < C → A i j < 256
structure ClSt (w wr : World) (R C q cp g : Nat) (zs : List Nat) : Prop where
  cap : q ≤ cp
  B : RowAt wr w.heap.size 25 #[.int .i64 R, .int .i64 C, .slice (some ⟨g, 0, none⟩) q cp]
  Z : Wr .i64 wr g 0 (nl zs)
  len : zs.length = q
  gr : w.grownBy wr (some g)
  gl : g < w.heap.size
theorem ClSt.ints {w wr : World} {R C q cp g : Nat} {zs : List Nat} (h : ClSt w wr R C q cp g zs) : Ints .i64 wr (some ⟨g, 0, none⟩) q cp (nl zs) := by
  have := h.Z.ints (cap := cp) (by rw [nl_len, h.len]; exact h.cap)
  rw [nl_len, h.len] at this; exact this
theorem ClSt.alloc {w wr : World} {R C q cp g : Nat} {zs : List Nat} (h : ClSt w wr R C q cp g zs) (o : Obj) : ClSt w (wr.alloc o) R C q cp g zs := ⟨h.cap, h.B.alloc o, h.Z.alloc o, h.len, grown_trans h.gr (World.grownBy_alloc wr o _), h.gl⟩
theorem grown_drew2 {a b : World} {r : Option Nat} (h : a.grownBy b r) : a.grownBy b.drew r := ⟨h.os, h.tape, h.output, h.size, h.block⟩
theorem ClSt.drew {w wr : World} {R C q cp g : Nat} {zs : List Nat} (h : ClSt w wr R C q cp g zs) : ClSt w wr.drew R C q cp g zs := ⟨h.cap, h.B, h.Z, h.len, grown_drew2 h.gr, h.gl⟩
theorem ClSt.set {w wr : World} {R C q cp g : Nat} {zs : List Nat} (h : ClSt w wr R C q cp g zs) (i x : Nat) (hi : i < q) : ClSt w (wr.setCell ⟨g, i, none⟩ (.int .i64 x)) R C q cp g (zs.set i x) := by
  have hl := h.gl
  refine ⟨h.cap, h.B.other _ _ (by dsimp only; omega), ?_, by rw [List.length_set]; exact h.len, grown_trans h.gr grown_set, h.gl⟩
  have := h.Z.set i (x : Int) (by rw [nl_len, h.len]; exact hi)
  rw [Nat.zero_add, nl_set] at this; exact this
theorem ClSt.at {w wr : World} {R C q cp g : Nat} {zs : List Nat} (h : ClSt w wr R C q cp g zs) {i : Nat} (hi : i < q) : wr.cell? ⟨g, i, none⟩ = some (.int .i64 ((nl zs).getD i 0)) := by
  have := h.Z.cell (i := i) (by rw [nl_len, h.len]; exact hi); rwa [Nat.zero_add] at this
set_option maxRecDepth 20000 in
set_option maxHeartbeats 4000000 in
theorem sclear (R C row col q cp g : Nat) (hcp : q ≤ cp) (xs : List Nat) (w : World) (hR : R ≤ 64) (hC : C ≤ 128) (hrow : row < R) (hcol : col < C) (hq : q = R * C) (hz : Wr .i64 w g 0 (nl xs)) (hl : xs.length = q) (hs : Sm R C (mo C xs)) :
    Calls Tryd.prog 30 #[mxv R C (some ⟨g, 0, none⟩) q cp, .int .i64 row, .int .i64 col] w fun e w' => e = .returned (.tuple #[]) ∧ (∃ zs, Wr .i64 w' g 0 (nl zs) ∧ zs.length = q ∧ ∀ i j, i < R → j < C → mo C zs i j = clrN (mo C xs) row col i j) ∧ w.grownBy w' (some g) := by
  have hqb : q ≤ 64 * 128 := by rw [hq]; exact Nat.mul_le_mul hR hC
  have hg := hz.lt
  obtain ⟨qr, hqr⟩ : ∃ qr, qr = row * C := ⟨_, rfl⟩
  have QR : (row : Int) * (C : Int) = (qr : Int) := by rw [hqr]; simp
  have BR : Hid (∀ j, j < C → qr + j < q) := fun j hj => by rw [hqr, hq]; exact mul_pos_lt hrow hj
  have HQR := hid hqr
  have HQ := hid hq
  have HS := hid hs
  obtain ⟨P, hP⟩ : ∃ P, xs.getD (qr + col) 0 = P := ⟨_, rfl⟩
  have hPl : P < 256 := by rw [← hP, hqr]; exact hs row col hrow hcol
  obtain ⟨f, hf⟩ : ∃ f, gp 8 29 P 254 = f := ⟨_, rfl⟩
  have hfl : f < 256 := by rw [← hf]; exact gp_lt fld8.toFld hPl 254
  have HP := hid hP
  have HF := hid hf
  have S0 : Hid (ClSt w (w.alloc (.cells #[.int .i64 R, .int .i64 C, .slice (some ⟨g, 0, none⟩) q cp] 25)) R C q cp g xs) := ⟨hcp, RowAt.new w _ _, hz.alloc _, hl, World.grownBy_alloc w _ _, hg⟩
  have brc := BR.out col hcol
  clear hqr hq hs hP hf hz hl
  go_enter Tryd.func30, Tryd.ntmps30
  go_wp2_with fail
  refine (satn R C row col qr P (some ⟨g, 0, none⟩) q cp xs _ S0.out.ints QR brc (by omega) HP).mono ?_
  rintro e w4 ⟨rfl, rfl⟩
  go_wp2_with fail
  refine (sinv8v P f hPl HF _).mono ?_
  rintro e w4 ⟨rfl, rfl⟩
  go_wp2
  have S1 := hid (S0.out.alloc (.cells #[.int .i64 R, .int .i64 C, .slice (some ⟨g, 0, none⟩) q cp] 25))
  clear S0
  go_loopw [7] (fun y wr => ∃ (J : Nat) (zs : List Nat), J ≤ C ∧ y = .int .i64 J ∧ ClSt w wr R C q cp g zs ∧ (∀ i j, i < R → j < C → mo C zs i j = if i = row ∧ j < J then gm 8 29 f (mo C xs i j) else mo C xs i j)) (fun y _ => C - (intOf y).toNat)
  case atStart => exact ⟨0, xs, Nat.zero_le _, rfl, S1.out, fun i j _ _ => by rw [if_neg (by omega)]⟩
  case round =>
    obtain ⟨J, zs, hJ, rfl, st, zf⟩ := hrel
    have ST := hid st
    have ZF := hid zf
    clear st zf S1
    have c0 := ST.out.B.cell 0
    have c1 := ST.out.B.cell 1
    have c2 := ST.out.B.cell 2
    have l0 := ST.out.B.lt
    have hne : w.heap.size ≠ g := by omega
    by_cases hlt : J < C
    · have hlt' : (J : Int) < (C : Int) := by omega
      have br := BR.out J hlt
      obtain ⟨X, hX⟩ : ∃ X, zs.getD (qr + J) 0 = X := ⟨_, rfl⟩
      have eX : X = mo C xs row J := by
        rw [← hX, HQR.out]
        have := ZF.out row J hrow hlt
        rw [if_neg (by omega)] at this; exact this
      have hXl : X < 256 := by rw [eX]; exact HS.out row J hrow hlt
      have HX := hid hX
      have EX := hid eX
      clear hX eX
      have W0 : IntKind.i64.wrap (qr : Int) = (qr : Int) := wrap_small _ (by omega) (by omega)
      have W2 : IntKind.i64.wrap ((qr : Int) + (J : Int)) = (qr : Int) + (J : Int) := wrap_small _ (by omega) (by omega)
      have i1 : ((qr : Int) + (J : Int)) < (q : Int) := by omega
      have i0 : (0 : Int) ≤ (qr : Int) + (J : Int) := by omega
      have e9 : ((qr : Int) + (J : Int)).toNat = qr + J := by omega
      have f2 := ST.out.Z.free (qr + J)
      have z2 := ST.out.at br
      have lg : g < wr.heap.size := ST.out.Z.lt
      have SN := hid (((ST.out.set (qr + J) (gm 8 29 f X) br).alloc (.cells #[.int .i64 R, .int .i64 C, .slice (some ⟨g, 0, none⟩) q cp] 25)).drew)
      have FN : Hid (∀ i j, i < R → j < C → mo C (zs.set (qr + J) (gm 8 29 f X)) i j = if i = row ∧ j < J + 1 then gm 8 29 f (mo C xs i j) else mo C xs i j) := fun i j hi hj => by
        rw [HQR.out, mo_set (by rw [ST.out.len, ← HQR.out]; exact br) hlt hj, ZF.out i j hi hj]
        by_cases e1 : i = row
        · by_cases e2 : j = J
          · subst e1; subst e2; simp [EX.out]
          · simp only [e1, e2, and_false, if_false, true_and]
            by_cases e3 : j < J
            · rw [if_pos e3, if_pos (show j < J + 1 by omega)]
            · rw [if_neg e3, if_neg (show ¬ j < J + 1 by omega)]
        · simp [e1]
      go_wp2_with fail
      go_region_held3 (fun wx => wx.cell? ⟨w.heap.size, 0, none⟩ = some (.int .i64 R) ∧ wx.cell? ⟨w.heap.size, 1, none⟩ = some (.int .i64 C) ∧ wx.cell? ⟨w.heap.size, 2, none⟩ = some (.slice (some ⟨g, 0, none⟩) q cp)) ((first | (go_keep; done) | exact ⟨SN.out.B.cell 0, SN.out.B.cell 1, SN.out.B.cell 2⟩)) ((first
        | (go_at_call 28; refine (satn R C row J qr X (some ⟨g, 0, none⟩) q cp zs _ ?_ QR br (by omega) HX).mono ?_; exact ST.out.drew.ints; rintro e w4 ⟨rfl, rfl⟩)
        | (go_at_call 38; refine (smul8n f X hfl hXl _).mono ?_; rintro e w4 ⟨rfl, rfl⟩)))
      all_goals go_wp2
      all_goals
        go_roundw
        case rel => exact ⟨J + 1, zs.set (qr + J) (gm 8 29 f X), by omega, by go_num, SN.out, FN.out⟩
        case measure => simp [intOf]; omega
    · have hJe : J = C := by omega
      subst hJe
      have ZI : Hid (∀ i j, i < R → j < J → mo J zs i j = if i = row then gm 8 29 f (mo J xs row j) else mo J xs i j) := fun i j hi hj => by
        rw [ZF.out i j hi hj]
        by_cases e : i = row
        · subst e; simp [hj]
        · simp [e]
      clear c0 c2 l0
      have EF : Hid (gp 8 29 (mo J xs row col) 254 = f) := by
        show gp 8 29 (xs.getD (row * J + col) 0) 254 = f
        rw [← HQR.out, HP.out]; exact HF.out
      go_wp2
      go_loopw [8] (fun y wr => ∃ (I : Nat) (zs : List Nat), I ≤ R ∧ y = .int .i64 I ∧ ClSt w wr R J q cp g zs ∧ (∀ i j, i < R → j < J → mo J zs i j = if i = row then gm 8 29 f (mo J xs row j) else if i < I then mo J xs i j ^^^ gm 8 29 (mo J xs i col) (gm 8 29 f (mo J xs row j)) else mo J xs i j)) (fun y _ => R - (intOf y).toNat)
      case atStart => exact ⟨0, zs, Nat.zero_le _, rfl, ST.out, fun i j hi hj => by rw [ZI.out i j hi hj]; simp⟩
      case round =>
        obtain ⟨I, zs, hI, rfl, st, zf⟩ := hrel
        have SI := hid st
        have FI := hid zf
        clear st zf c1
        have c0 := SI.out.B.cell 0
        have c1 := SI.out.B.cell 1
        have c2 := SI.out.B.cell 2
        have l0 := SI.out.B.lt
        by_cases hIR : I < R
        · have hIR' : (I : Int) < (R : Int) := by omega
          obtain ⟨qi, hqi⟩ : ∃ qi, qi = I * J := ⟨_, rfl⟩
          have QI : (I : Int) * (J : Int) = (qi : Int) := by rw [hqi]; simp
          have BI : Hid (∀ j, j < J → qi + j < q) := fun j hj => by rw [hqi, HQ.out]; exact mul_pos_lt hIR hj
          have HQI := hid hqi
          clear hqi
          have bc := BI.out col hcol
          obtain ⟨G, hG⟩ : ∃ G, zs.getD (qi + col) 0 = G := ⟨_, rfl⟩
          have eG : ¬ I = row → G = mo J xs I col := fun hne => by
            rw [← hG, HQI.out]
            have := FI.out I col hIR hcol
            rw [if_neg hne, if_neg (by omega)] at this; exact this
          have HG := hid hG
          have EG := hid eG
          clear hG eG
          by_cases hir : I = row
          · have d0 : ((I : Int) == (row : Int)) = true := by simp; omega
            have FN : Hid (∀ i j, i < R → j < J → mo J zs i j = if i = row then gm 8 29 f (mo J xs row j) else if i < I + 1 then mo J xs i j ^^^ gm 8 29 (mo J xs i col) (gm 8 29 f (mo J xs row j)) else mo J xs i j) := fun i j hi hj => by
              rw [FI.out i j hi hj]
              by_cases e : i = row
              · rw [if_pos e, if_pos e]
              · rw [if_neg e, if_neg e]
                by_cases e2 : i < I
                · rw [if_pos e2, if_pos (show i < I + 1 by omega)]
                · rw [if_neg e2, if_neg (show ¬ i < I + 1 by omega)]
            have HIR := hid hir
            clear hir
            go_wp2_with fail
            refine (satn R J I col qi G (some ⟨g, 0, none⟩) q cp zs _ SI.out.ints QI bc (by omega) HG).mono ?_
            rintro e w4 ⟨rfl, rfl⟩
            go_wp2
            go_roundw
            case rel => exact ⟨I + 1, zs, by omega, by go_num, SI.out.alloc _, FN.out⟩
            case measure => simp [intOf]; omega
          · have d0 : ((I : Int) == (row : Int)) = false := by simp; omega
            have hGe := EG.out hir
            have hGl : G < 256 := by rw [hGe]; exact HS.out I col hIR hcol
            have HGE := hid hGe
            have HIR := hid hir
            clear hGe hir
            by_cases hg0 : G = 0
            · have d1 : ((G : Int) == 0) = true := by simp; omega
              have FN : Hid (∀ i j, i < R → j < J → mo J zs i j = if i = row then gm 8 29 f (mo J xs row j) else if i < I + 1 then mo J xs i j ^^^ gm 8 29 (mo J xs i col) (gm 8 29 f (mo J xs row j)) else mo J xs i j) := fun i j hi hj => by
                rw [FI.out i j hi hj]
                by_cases e : i = row
                · rw [if_pos e, if_pos e]
                · rw [if_neg e, if_neg e]
                  by_cases e2 : i < I
                  · rw [if_pos e2, if_pos (show i < I + 1 by omega)]
                  · by_cases e3 : i = I
                    · subst e3
                      rw [if_neg e2, if_pos (show i < i + 1 by omega), ← HGE.out, hg0, zero_gm fld8.toFld (gm_lt fld8.toFld _ hfl), Nat.xor_zero]
                    · rw [if_neg e2, if_neg (show ¬ i < I + 1 by omega)]
              go_wp2_with fail
              refine (satn R J I col qi G (some ⟨g, 0, none⟩) q cp zs _ SI.out.ints QI bc (by omega) HG).mono ?_
              rintro e w4 ⟨rfl, rfl⟩
              go_wp2
              go_roundw
              case rel => exact ⟨I + 1, zs, by omega, by go_num, SI.out.alloc _, FN.out⟩
              case measure => simp [intOf]; omega
            · have d1 : ((G : Int) == 0) = false := by simp; omega
              go_wp2_with fail
              refine (satn R J I col qi G (some ⟨g, 0, none⟩) q cp zs _ SI.out.ints QI bc (by omega) HG).mono ?_
              rintro e w4 ⟨rfl, rfl⟩
              have SA := hid (SI.out.alloc (.cells #[.int .i64 R, .int .i64 J, .slice (some ⟨g, 0, none⟩) q cp] 25))
              clear c0 c1 c2 l0
              have c0 := SA.out.B.cell 0
              have c1 := SA.out.B.cell 1
              have c2 := SA.out.B.cell 2

              go_wp2
              go_loopw [10] (fun y wr => ∃ (L : Nat) (zs : List Nat), L ≤ J ∧ y = .int .i64 L ∧ ClSt w wr R J q cp g zs ∧ (∀ i j, i < R → j < J → mo J zs i j = if i = row then gm 8 29 f (mo J xs row j) else if i < I ∨ (i = I ∧ j < L) then mo J xs i j ^^^ gm 8 29 (mo J xs i col) (gm 8 29 f (mo J xs row j)) else mo J xs i j)) (fun y _ => J - (intOf y).toNat)
              case atStart =>
                refine ⟨0, zs, Nat.zero_le _, rfl, SA.out, fun i j hi hj => ?_⟩
                rw [FI.out i j hi hj]
                by_cases e : i = row
                · rw [if_pos e, if_pos e]
                · rw [if_neg e, if_neg e]
                  by_cases e2 : i < I
                  · rw [if_pos e2, if_pos (Or.inl e2)]
                  · rw [if_neg e2, if_neg (show ¬ (i < I ∨ (i = I ∧ j < 0)) by omega)]
              case round =>
                obtain ⟨L, zs, hL, rfl, st, zf⟩ := hrel
                have SL := hid st
                have FL := hid zf
                clear st zf c0 c1 c2
                have c0 := SL.out.B.cell 0
                have c1 := SL.out.B.cell 1
                have c2 := SL.out.B.cell 2
                have l0 := SL.out.B.lt
                by_cases hlt : L < J
                · have hlt' : (L : Int) < (J : Int) := by omega
                  have bi := BI.out L hlt
                  have br := BR.out L hlt
                  obtain ⟨U, hU⟩ : ∃ U, zs.getD (qi + L) 0 = U := ⟨_, rfl⟩
                  obtain ⟨V, hV⟩ : ∃ V, zs.getD (qr + L) 0 = V := ⟨_, rfl⟩
                  have eU : U = mo J xs I L := by
                    rw [← hU, HQI.out]
                    have := FL.out I L hIR hlt
                    rw [if_neg HIR.out, if_neg (show ¬ (I < I ∨ (I = I ∧ L < L)) by omega)] at this; exact this
                  have eV : V = gm 8 29 f (mo J xs row L) := by
                    rw [← hV, HQR.out]
                    have := FL.out row L hrow hlt
                    rw [if_pos rfl] at this; exact this
                  have hUl : U < 256 := by rw [eU]; exact HS.out I L hIR hlt
                  have hVl : V < 256 := by rw [eV]; exact gm_lt fld8.toFld _ hfl
                  have hPl2 : gm 8 29 G V < 256 := gm_lt fld8.toFld V hGl
                  have eX := i64_xor_nat U (gm 8 29 G V) (by omega) (by omega)
                  have HU := hid hU
                  have HV := hid hV
                  have EU := hid eU
                  have EV := hid eV
                  clear hU hV eU eV
                  have W0 : IntKind.i64.wrap (qi : Int) = (qi : Int) := wrap_small _ (by omega) (by omega)
                  have W2 : IntKind.i64.wrap ((qi : Int) + (L : Int)) = (qi : Int) + (L : Int) := wrap_small _ (by omega) (by omega)
                  have i1 : ((qi : Int) + (L : Int)) < (q : Int) := by omega
                  have i0 : (0 : Int) ≤ (qi : Int) + (L : Int) := by omega
                  have e9 : ((qi : Int) + (L : Int)).toNat = qi + L := by omega
                  have f2 := SL.out.Z.free (qi + L)
                  have z2 := SL.out.at bi
                  have lg : g < wr.heap.size := SL.out.Z.lt
                  have SN := hid ((((SL.out.set (qi + L) (U ^^^ gm 8 29 G V) bi).alloc (.cells #[.int .i64 R, .int .i64 J, .slice (some ⟨g, 0, none⟩) q cp] 25)).alloc (.cells #[.int .i64 R, .int .i64 J, .slice (some ⟨g, 0, none⟩) q cp] 25)).drew)
                  have FN : Hid (∀ i j, i < R → j < J → mo J (zs.set (qi + L) (U ^^^ gm 8 29 G V)) i j = if i = row then gm 8 29 f (mo J xs row j) else if i < I ∨ (i = I ∧ j < L + 1) then mo J xs i j ^^^ gm 8 29 (mo J xs i col) (gm 8 29 f (mo J xs row j)) else mo J xs i j) := fun i j hi hj => by
                    rw [HQI.out, mo_set (by rw [SL.out.len, ← HQI.out]; exact bi) hlt hj, FL.out i j hi hj]
                    by_cases e : i = row
                    · rw [if_pos e, if_pos e, if_neg (fun h => HIR.out (h.1.symm.trans e))]
                    · rw [if_neg e, if_neg e]
                      by_cases e1 : i = I ∧ j = L
                      · obtain ⟨rfl, rfl⟩ := e1
                        rw [if_pos ⟨rfl, rfl⟩, if_pos (show i < i ∨ (i = i ∧ j < j + 1) by omega), EU.out, EV.out, HGE.out]
                      · rw [if_neg e1]
                        by_cases e2 : i < I ∨ (i = I ∧ j < L)
                        · rw [if_pos e2, if_pos (show i < I ∨ (i = I ∧ j < L + 1) by omega)]
                        · rw [if_neg e2, if_neg (show ¬ (i < I ∨ (i = I ∧ j < L + 1)) by omega)]
                  go_wp2_with fail
                  go_region_held3 (fun wx => wx.cell? ⟨w.heap.size, 0, none⟩ = some (.int .i64 R) ∧ wx.cell? ⟨w.heap.size, 1, none⟩ = some (.int .i64 J) ∧ wx.cell? ⟨w.heap.size, 2, none⟩ = some (.slice (some ⟨g, 0, none⟩) q cp)) ((first | (go_keep; done) | exact ⟨SN.out.B.cell 0, SN.out.B.cell 1, SN.out.B.cell 2⟩)) ((first
                    | (go_at_call_of 28 (Value.int IntKind.i64 (I : Int)); refine (satn R J I L qi U (some ⟨g, 0, none⟩) q cp zs _ ?_ QI bi (by omega) HU).mono ?_; exact SL.out.drew.ints; rintro e w4 ⟨rfl, rfl⟩)
                    | (go_at_call_of 28 (Value.int IntKind.i64 (row : Int)); refine (satn R J row L qr V (some ⟨g, 0, none⟩) q cp zs _ ?_ QR br (by omega) HV).mono ?_; exact (SL.out.alloc _).drew.ints; rintro e w4 ⟨rfl, rfl⟩)
                    | (go_at_call 38; refine (smul8n G V hGl hVl _).mono ?_; rintro e w4 ⟨rfl, rfl⟩)))
                  all_goals go_wp2
                  all_goals
                    go_roundw
                    case rel => exact ⟨L + 1, zs.set (qi + L) (U ^^^ gm 8 29 G V), by omega, by go_num, SN.out, FN.out⟩
                    case measure => simp [intOf]; omega
                · have hLe : L = J := by omega
                  subst hLe
                  have FN : Hid (∀ i j, i < R → j < L → mo L zs i j = if i = row then gm 8 29 f (mo L xs row j) else if i < I + 1 then mo L xs i j ^^^ gm 8 29 (mo L xs i col) (gm 8 29 f (mo L xs row j)) else mo L xs i j) := fun i j hi hj => by
                    rw [FL.out i j hi hj]
                    by_cases e : i = row
                    · rw [if_pos e, if_pos e]
                    · rw [if_neg e, if_neg e]
                      by_cases e2 : i < I + 1
                      · rw [if_pos e2, if_pos (show i < I ∨ (i = I ∧ j < L) by omega)]
                      · rw [if_neg e2, if_neg (show ¬ (i < I ∨ (i = I ∧ j < L)) by omega)]
                  go_wp2
                  go_roundw
                  case rel => exact ⟨I + 1, zs, by omega, by go_num, SL.out, FN.out⟩
                  case measure => simp [intOf]; omega
        · have hIe : I = R := by omega
          subst hIe
          go_wp2
          go_end0
          refine ⟨rfl, ⟨zs, SI.out.Z, SI.out.len, fun i j hi hj => ?_⟩, SI.out.gr⟩
          rw [FI.out i j hi hj, if_pos hi]
          unfold clrN
          rw [EF.out]
end Go.Proofs.YtlobnmcjnaibaaaDoorR
