import Derived.Test.YtcbmgpdpjagaoaaGreatS1
import Derived.Test.YtcbmgpdpjagaoaaGreatM1
import Derived.Test.YtcbmgpdpjagaoaaGreatSRun2
import Derived.BigQuiet
namespace Go.Proofs.YtcbmgpdpjagaoaaGreat
open Go.RowKit
set_option linter.unusedVariables false
theorem sm_ret {w W' : World} {v : Value} {P : Value → World → Prop} {tm : Array Value} (sa : RA W' w.heap.size 25 #[v]) (so : P v W') (bl : Below w.heap.size w W') (h2 : tm.getD 4 undef = .pointer (some ⟨w.heap.size, 0, none⟩)) :
 bodyPost Tryz.prog Tryz.f33 (fun e w' => (∃ v, e = .returned (.agg #[v]) ∧ P v w') ∧ Below w.heap.size w w') Exit.ret { tmps := tm, defers := [] } W' := by
 refine bodyPost_ret (v := .agg #[v]) ?_ rfl ⟨⟨v, rfl, so⟩, bl⟩; exact results_cell_row Tryz.results33 _ _ w.heap.size _ _ _ _ h2 sa Tryz.underlying25 rfl (by kernel_rfl)
set_option maxRecDepth 20000 in
set_option maxHeartbeats 8000000 in
theorem sMerge (a : Option Addr) (m cap : Nat) (R : Nat → Rn) (fl : Int) (hm : m ≤ 1048576) (hc : cntR R m ≤ 1048576) (hnil : ∀ k, k < m → (R k).ad = none → (R k).cap = 0) (S : List Tg) (hS : Sd (enA (allE R m)) (cntR R m) S) (w : World) (h : Rns w a m cap R) :
 Calls Tryz.prog 33 #[.slice a m cap, .int .i64 fl] w fun e w' => (∃ v, e = .returned (.agg #[v]) ∧ OwnEn w' w.heap.size v (mgS fl none (S.map Prod.fst))) ∧ Below w.heap.size w w' := by
 obtain ⟨W1, hW1⟩ : ∃ W, W = w.alloc (.cells #[.slice none 0 0] 25) := ⟨_, rfl⟩; have B1 : Hid (Below w.heap.size w W1) := by rw [hW1]; exact (Below.refl _ _).alloc (Nat.le_refl _) _
 have R1 : Hid (RA W1 w.heap.size 25 #[.slice none 0 0]) := by rw [hW1]; exact RA.new _ _ _
 have HH := hid (h.below B1.out); have HS := hid hS; have HN := hid hnil; have HC := hid hc; clear h hS hnil hc
 go_enter Tryz.func33, Tryz.ntmps33
 go_upto_region 1 with fail
 rw [← hW1]; clear hW1
 go_wp2_with fail
 go_loopw [6, 5] (fun q v wr => ∃ (i : Nat) (V : Value), i ≤ m ∧ q = .int .i64 (i : Int) ∧ V = v ∧ OwnEn wr W1.heap.size V (allE R i) ∧ Below W1.heap.size W1 wr) (fun q _ _ => m - (intOf q).toNat)
 case atStart => exact ⟨0, _, Nat.zero_le _, rfl, rfl, World.ownsRow_made W1 #[] 0 (Nat.le_refl _) (by decide) rfl, (Below.refl _ _).alloc (Nat.le_refl _) _⟩
 case round =>
  obtain ⟨i, v, hi, rfl, rfl, hO, hB⟩ := hrel; have OO := hid hO; have BB := hid hB; clear hO hB
  by_cases hlt : i < m
  · have d0 : (i : Int) < (m : Int) := by omega
    have i0 : (0 : Int) ≤ (i : Int) := by omega
    rcases (HH.out.below BB.out).2.1 with h00 | ⟨b, off, rfl, hbl, hcc⟩
    · omega
    have c0 := hcc i hlt; have NI := hid (HN.out i hlt); have EI : Hid (Ens wr (R i).ad (R i).n (R i).cap (enA ((List.range (R i).n).map (R i).o))) := ((HH.out.below BB.out).2.2 i hlt).cg fun k hk => (enA_range _ hk).symm
    have LE : Hid ((allE R i).length + (R i).n ≤ 1048576) := by
     show _ ≤ _
     have z1 : cntR R (i + 1) = cntR R i + (R i).n := rfl; have z2 := cntR_mono R (show i + 1 ≤ m by omega); have := HC.out; rw [allE_len]; omega
    have LR : Hid (((List.range (R i).n).map (R i).o).length = (R i).n) := by show _ = _; simp
    have AL : Hid (allE R i ++ (List.range (R i).n).map (R i).o = allE R (i + 1)) := rfl
    generalize (List.range (R i).n).map (R i).o = M at EI LR AL
    generalize (R i).ad = A at c0 NI EI
    generalize (R i).n = N at c0 EI LE LR
    generalize (R i).cap = C at c0 NI EI
    clear hcc
    go_wp2_with (at_builtin; refine append_ens W1.heap.size _ rfl (.tmp 18) (.tmp 23) rfl _ (allE R i) M N LR.out rfl OO.out BB.out.size A C rfl NI.out EI.out LE.out ?_; intro v6 w6 hO6 hg6)
    have B6 := hid (BB.out.grown hg6 BB.out.size (fun g e => (OO.out.row e).1)); rw [AL.out] at hO6; have O6 := hid hO6; clear hO6 hg6 OO BB c0
    go_wp2
    go_roundw
    case rel => exact ⟨i + 1, _, by omega, by go_num, rfl, O6.out, B6.out⟩
    case measure => simp [intOf]; omega
  · have d0 : ¬ (i : Int) < (m : Int) := by omega
    have ei : i = m := by omega
    have O1 : Hid (OwnEn wr W1.heap.size v (allE R m)) := by rw [← ei]; exact OO.out
    obtain ⟨av, cv, hv⟩ := O1.out.slice; obtain ⟨N, hN⟩ : ∃ N, N = cntR R m := ⟨_, rfl⟩; rw [allE_len, ← hN] at hv; subst hv; have KS := hid (sSort av N cv (enA (allE R m)) (by have := HC.out; omega) S (by rw [hN]; exact HS.out) wr O1.out.ens.2); have RW := hid (R1.out.below BB.out R1.out.lt); have BW := hid (B1.out.trans (BB.out.mono B1.out.size)); have LL0 : Hid ((S.map Prod.fst).length = N) := by show _ = _; rw [List.length_map, HS.out.len, hN]
    have NB : Hid (N ≤ 1048576) := by show _ ≤ _; have := HC.out; omega
    clear ei hN OO BB O1
    go_wp2_with fail
    refine KS.out.mono ?_
    rintro e w2 ⟨⟨v2, rfl, hO2⟩, hb2⟩
    obtain ⟨L, hL⟩ : ∃ L, L = S.map Prod.fst := ⟨_, rfl⟩; rw [← hL] at hO2 LL0; have HL := hid hL; have LL := hid LL0.out; obtain ⟨a2, c2, hv2⟩ := hO2.slice; rw [LL.out] at hv2; subst hv2; have E2 := hid hO2.ens.2; have R2 := hid (RW.out.below hb2 RW.out.lt); have B2 := hid (BW.out.trans (hb2.mono BW.out.size)); have hNb := NB.out; clear hL hb2 hO2 KS RW BW LL0
    go_wp2_with fail
    go_loopw [8, 7] (fun q v wr => ∃ (i : Nat) (V : Value), i ≤ N ∧ q = .int .i64 (i : Int) ∧ V = v ∧ OwnEn wr w2.heap.size V (mgN fl L i) ∧ Below w2.heap.size w2 wr) (fun q _ _ => N - (intOf q).toNat)
    case atStart => exact ⟨0, _, Nat.zero_le _, rfl, rfl, World.ownsRow_made w2 #[] 0 (Nat.le_refl _) (by decide) rfl, (Below.refl _ _).alloc (Nat.le_refl _) _⟩
    case round =>
     obtain ⟨i, v, hi, rfl, rfl, hO, hB⟩ := hrel; have OO := hid hO; have BB := hid hB; clear hO hB; have ML : Hid ((mgN fl L i).length ≤ i) := mgN_len i (by rw [LL.out]; exact hi)
     by_cases hlt : i < N
     · have d0 : (i : Int) < (N : Int) := by omega
       have i0 : (0 : Int) ≤ (i : Int) := by omega
       rcases (E2.out.below BB.out).2 with h00 | ⟨b, off, rfl, hbl, hcc⟩
       · omega
       obtain ⟨x0, x1, x2, x3⟩ := hcc i hlt; have HC := hid hcc; clear hcc; obtain ⟨X, hX⟩ : ∃ X, X = enA L i := ⟨_, rfl⟩; rw [← hX] at x0 x1 x2 x3; have HX := hid hX; clear hX; obtain ⟨X0, X1, X2, X3⟩ := X; dsimp only at x0 x1 x2 x3; obtain ⟨W5, hW5⟩ : ∃ W, W = wr.alloc (.cells #[.string X0, .int .i64 X1, .bool X2, .string X3] 46) := ⟨_, rfl⟩; have b5 : Below wr.heap.size wr W5 := by rw [hW5]; exact (Below.refl _ _).alloc (Nat.le_refl _) _
       have R5 : RA W5 wr.heap.size 46 #[.string X0, .int .i64 X1, .bool X2, .string X3] := by rw [hW5]; exact RA.new _ _ _
       have B4 := hid (BB.out.trans (b5.mono BB.out.size)); have O4 := hid (OO.out.below b5); have C5 : Hid (∀ k, k < N → W5.cell? ⟨b, off + k * 4, none⟩ = some (.string (enA L k).ky) ∧ W5.cell? ⟨b, off + k * 4 + 1, none⟩ = some (.int .i64 (enA L k).sq)) := fun k hk => ⟨(b5.cell (p := ⟨b, _, none⟩) hbl).trans (HC.out k hk).1, (b5.cell (p := ⟨b, _, none⟩) hbl).trans (HC.out k hk).2.1⟩; have e0 := R5.cell 0; have e1 := R5.cell 1; have e2 := R5.cell 2; have e3 := R5.cell 3; clear OO BB HC b5 R5
       go_upto_region 12 with ((refine wpList_store_row rfl 46 (.tmp 9) (.tmp 37) rfl wr.heap.size #[.string X0, .int .i64 X1, .bool X2, .string X3] rfl rfl _ _ (RA.new wr _ _) (by kernel_rfl) rfl (oneEn4 _ _ _ _) ?_); rw [World.setRow_alloc_new])
       rw [← hW5]; clear hW5 x0 x1 x2 x3
       by_cases hle : X1 ≤ fl
       · by_cases hi0 : 0 < i
         · obtain ⟨j, hj⟩ : ∃ j, j = i - 1 := ⟨_, rfl⟩
           obtain ⟨y0, y1⟩ := C5.out j (by omega); have ji : (j : Int) < (N : Int) := by omega
           have j0 : (0 : Int) ≤ (j : Int) := by omega
           have m2 : (i : Int) - 1 = (j : Int) := by omega
           have m5 : IntKind.i64.wrap ((i : Int) - 1) = (j : Int) := by rw [m2]; simp [IntKind.wrap, IntKind.bits, IntKind.signed]; omega
           have m6 : decide ((0 : Int) < (i : Int)) = true := by simp; omega
           obtain ⟨Y, hY⟩ : ∃ Y, Y = enA L (i - 1) := ⟨_, rfl⟩; rw [hj, ← hY] at y0 y1; rw [← hj] at y0 y1; have HY := hid hY; have HI0 := hid hi0; clear hY hj m2; obtain ⟨Y0, Y1, Y2, Y3⟩ := Y; dsimp only at y0 y1
           by_cases h2 : Y0 = X0
           · have d2 : (Y0.toList == X0.toList) = true := by rw [kEq]; simpa using h2
             by_cases h3 : Y1 ≤ fl
             · have d3 : decide (Y1 ≤ fl) = true := by simpa using h3
               have B5 : Hid (∀ d, Below w2.heap.size w2 (W5.drewN d)) := fun d => below_dN B4.out d; have O5 : Hid (∀ d, OwnEn (W5.drewN d) w2.heap.size v (mgN fl L i)) := fun d => O4.out.below (below_dN (Below.refl _ _) d); clear B4 O4; have HO : Hid ((enA L (i - 1)).ky = (enA L i).ky ∧ (enA L (i - 1)).sq ≤ fl) := by rw [← HX.out, ← HY.out]; exact ⟨h2, h3⟩
               clear h2; have NK := hid (mgN_skip (fl := fl) (L := L) (i := i) (by rw [LL.out]; exact hlt) (by rw [← HX.out]; exact hle) (.inl ⟨HI0.out, HO.out⟩))
               try clear HO
               go_wp2_with fail
               go_quiet (fail)
               go_wp2
               go_roundw
               case rel => exact ⟨i + 1, _, by omega, by go_num, rfl, by rw [NK.out]; exact (O5.out _), (B5.out _)⟩
               case measure => simp [intOf]; omega
             · have d3 : decide (Y1 ≤ fl) = false := by simpa using h3
               have B5 : Hid (∀ d, Below w2.heap.size w2 (W5.drewN d)) := fun d => below_dN B4.out d; have O5 : Hid (∀ d, OwnEn (W5.drewN d) w2.heap.size v (mgN fl L i)) := fun d => O4.out.below (below_dN (Below.refl _ _) d); clear B4 O4; have HO : ¬ (enA L (i - 1)).sq ≤ fl := by rw [← HY.out]; exact h3
               clear h2
               cases X2 with
               | true =>
                have NK := hid (mgN_skip (fl := fl) (L := L) (i := i) (by rw [LL.out]; exact hlt) (by rw [← HX.out]; exact hle) (.inr (by rw [← HX.out])))
                try clear HO
                go_wp2_with fail
                go_quiet (fail)
                go_wp2
                go_roundw
                case rel => exact ⟨i + 1, _, by omega, by go_num, rfl, by rw [NK.out]; exact (O5.out _), (B5.out _)⟩
                case measure => simp [intOf]; omega
               | false =>
                have NK := hid (mgN_keep (fl := fl) (L := L) (i := i) (by rw [LL.out]; exact hlt) (fun q => q.2.elim (fun z => absurd z.2.2 HO) (fun z => by rw [← HX.out] at z; cases z))); rw [← HX.out] at NK
                try clear HO
                go_wp2_with fail
                go_quiet (fail)
                go_wp2_with (at_builtin; refine append_en w2.heap.size _ rfl (.tmp 70) (.tmp 72) rfl v (mgN fl L i) ⟨X0, X1, _, X3⟩ rfl (O5.out _) (B5.out _).size rfl (by have := ML.out; omega) ?_; intro v6 w6 hO6 hg6)
                have B6 := hid ((B5.out _).grown hg6 (B5.out _).size (fun g e => ((O5.out 0).row e).1)); have O6 : Hid (OwnEn w6 w2.heap.size v6 (mgN fl L (i + 1))) := by rw [NK.out]; exact hO6
                clear hO6 hg6 B5 O5
                go_wp2
                go_roundw
                case rel => exact ⟨i + 1, _, by omega, by go_num, rfl, O6.out, B6.out⟩
                case measure => simp [intOf]; omega
           · have d2 : (Y0.toList == X0.toList) = false := by rw [kEq]; simpa using h2
             have B5 : Hid (∀ d, Below w2.heap.size w2 (W5.drewN d)) := fun d => below_dN B4.out d; have O5 : Hid (∀ d, OwnEn (W5.drewN d) w2.heap.size v (mgN fl L i)) := fun d => O4.out.below (below_dN (Below.refl _ _) d); clear B4 O4; have HO : ¬ (enA L (i - 1)).ky = (enA L i).ky := by rw [← HX.out, ← HY.out]; exact h2
             clear h2
             cases X2 with
             | true =>
              have NK := hid (mgN_skip (fl := fl) (L := L) (i := i) (by rw [LL.out]; exact hlt) (by rw [← HX.out]; exact hle) (.inr (by rw [← HX.out])))
              try clear HO
              go_wp2_with fail
              go_quiet (fail)
              go_wp2
              go_roundw
              case rel => exact ⟨i + 1, _, by omega, by go_num, rfl, by rw [NK.out]; exact (O5.out _), (B5.out _)⟩
              case measure => simp [intOf]; omega
             | false =>
              have NK := hid (mgN_keep (fl := fl) (L := L) (i := i) (by rw [LL.out]; exact hlt) (fun q => q.2.elim (fun z => absurd z.2.1 HO) (fun z => by rw [← HX.out] at z; cases z))); rw [← HX.out] at NK
              try clear HO
              go_wp2_with fail
              go_quiet (fail)
              go_wp2_with (at_builtin; refine append_en w2.heap.size _ rfl (.tmp 70) (.tmp 72) rfl v (mgN fl L i) ⟨X0, X1, _, X3⟩ rfl (O5.out _) (B5.out _).size rfl (by have := ML.out; omega) ?_; intro v6 w6 hO6 hg6)
              have B6 := hid ((B5.out _).grown hg6 (B5.out _).size (fun g e => ((O5.out 0).row e).1)); have O6 : Hid (OwnEn w6 w2.heap.size v6 (mgN fl L (i + 1))) := by rw [NK.out]; exact hO6
              clear hO6 hg6 B5 O5
              go_wp2
              go_roundw
              case rel => exact ⟨i + 1, _, by omega, by go_num, rfl, O6.out, B6.out⟩
              case measure => simp [intOf]; omega
         · have m6 : decide ((0 : Int) < (i : Int)) = false := by simp; omega
           have B5 : Hid (∀ d, Below w2.heap.size w2 (W5.drewN d)) := fun d => below_dN B4.out d; have O5 : Hid (∀ d, OwnEn (W5.drewN d) w2.heap.size v (mgN fl L i)) := fun d => O4.out.below (below_dN (Below.refl _ _) d); clear B4 O4
           cases X2 with
           | true =>
            have NK := hid (mgN_skip (fl := fl) (L := L) (i := i) (by rw [LL.out]; exact hlt) (by rw [← HX.out]; exact hle) (.inr (by rw [← HX.out])))
            try clear HO
            go_wp2_with fail
            go_quiet (fail)
            go_wp2
            go_roundw
            case rel => exact ⟨i + 1, _, by omega, by go_num, rfl, by rw [NK.out]; exact (O5.out _), (B5.out _)⟩
            case measure => simp [intOf]; omega
           | false =>
            have NK := hid (mgN_keep (fl := fl) (L := L) (i := i) (by rw [LL.out]; exact hlt) (fun q => q.2.elim (fun z => absurd z.1 hi0) (fun z => by rw [← HX.out] at z; cases z))); rw [← HX.out] at NK
            try clear HO
            go_wp2_with fail
            go_quiet (fail)
            go_wp2_with (at_builtin; refine append_en w2.heap.size _ rfl (.tmp 70) (.tmp 72) rfl v (mgN fl L i) ⟨X0, X1, _, X3⟩ rfl (O5.out _) (B5.out _).size rfl (by have := ML.out; omega) ?_; intro v6 w6 hO6 hg6)
            have B6 := hid ((B5.out _).grown hg6 (B5.out _).size (fun g e => ((O5.out 0).row e).1)); have O6 : Hid (OwnEn w6 w2.heap.size v6 (mgN fl L (i + 1))) := by rw [NK.out]; exact hO6
            clear hO6 hg6 B5 O5
            go_wp2
            go_roundw
            case rel => exact ⟨i + 1, _, by omega, by go_num, rfl, O6.out, B6.out⟩
            case measure => simp [intOf]; omega
       · have B5 := hid B4.out
         have O5 := hid O4.out; clear B4 O4; have NK := hid (mgN_keep (fl := fl) (L := L) (i := i) (by rw [LL.out]; exact hlt) (fun q => by rw [← HX.out] at q; exact hle q.1)); rw [← HX.out] at NK
         go_wp2_with (at_builtin; refine append_en w2.heap.size _ rfl (.tmp 70) (.tmp 72) rfl v (mgN fl L i) ⟨X0, X1, _, X3⟩ rfl O5.out B5.out.size rfl (by have := ML.out; omega) ?_; intro v6 w6 hO6 hg6)
         have B6 := hid (B5.out.grown hg6 B5.out.size (fun g e => (O5.out.row e).1)); have O6 : Hid (OwnEn w6 w2.heap.size v6 (mgN fl L (i + 1))) := by rw [NK.out]; exact hO6
         clear hO6 hg6 B5 O5
         go_wp2
         go_roundw
         case rel => exact ⟨i + 1, _, by omega, by go_num, rfl, O6.out, B6.out⟩
         case measure => simp [intOf]; omega
     · have d0 : ¬ (i : Int) < (N : Int) := by omega
       have ei : i = N := by omega
       have OE : Hid (OwnEn wr w2.heap.size v (mgS fl none (S.map Prod.fst))) := by
        rw [← HL.out]; have e := mgN_all fl L; rw [LL.out] at e; rw [← e, ← ei]; exact OO.out
       have RE := hid (R2.out.below BB.out R2.out.lt); have BE := hid (B2.out.trans (BB.out.mono B2.out.size)); have Z2 := hid (R2.out.lt)
       obtain ⟨av, nv, cv, hv⟩ : ∃ a n c, v = .slice a n c := by obtain ⟨a, c, h⟩ := OE.out.slice; exact ⟨a, _, c, h⟩
       subst hv; clear ei OO BB
       go_wp2_with (refine wpList_store_row rfl 25 (.tmp 4) (.tmp 75) rfl w.heap.size #[.slice av nv cv] rfl rfl _ _ RE.out (by kernel_rfl) rfl (by simp [Value.oneCell']) ?_)
       refine sm_ret (P := fun v w' => OwnEn w' w.heap.size v (mgS fl none (S.map Prod.fst))) (RE.out.setRow _) ((OE.out.keep fun g cs e q => (setRow_other _ _ _ _ (by have := (OE.out.row e).1; have := Z2.out; omega)).trans q).baseLe (by have := Z2.out; omega)) (below_setRow BE.out _ _ (Nat.le_refl _)) rfl
end Go.Proofs.YtcbmgpdpjagaoaaGreat
