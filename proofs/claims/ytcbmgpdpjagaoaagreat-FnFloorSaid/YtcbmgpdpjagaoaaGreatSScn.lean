import Derived.Test.YtcbmgpdpjagaoaaGreatS2
import Derived.BigQuiet
namespace Go.Proofs.YtcbmgpdpjagaoaaGreat
open Go.RowKit
set_option linter.unusedVariables false
def skP (L : List En) (from_ til : ByteArray) (i : Nat) : Prop := (0 < i ∧ (enA L (i - 1)).ky = (enA L i).ky) ∨ kLt (enA L i).ky from_ = true ∨ (til ≠ ⟨#[]⟩ ∧ kLt (enA L i).ky til = false)
open Classical in
noncomputable def scN (lim : Int) (fe : ByteArray → En) (L : List En) (from_ til : ByteArray) : Nat → List En
 | 0 => []
 | i + 1 => if lim ≤ ((scN lim fe L from_ til i).length : Int) then scN lim fe L from_ til i else if skP L from_ til i then scN lim fe L from_ til i else if 0 < (fe (enA L i).ky).sq then scN lim fe L from_ til i ++ [fe (enA L i).ky] else scN lim fe L from_ til i
theorem scN_full {lim : Int} {fe : ByteArray → En} {L : List En} {from_ til : ByteArray} {i : Nat} (h : lim ≤ ((scN lim fe L from_ til i).length : Int)) : ∀ j, scN lim fe L from_ til (i + j) = scN lim fe L from_ til i
 | 0 => rfl
 | j + 1 => by
  have e := scN_full h j
  show (if lim ≤ ((scN lim fe L from_ til (i + j)).length : Int) then scN lim fe L from_ til (i + j) else _) = _
  rw [e, if_pos h]
theorem scN_skip {lim : Int} {fe : ByteArray → En} {L : List En} {from_ til : ByteArray} {i : Nat} (h : ¬ lim ≤ ((scN lim fe L from_ til i).length : Int)) (hs : skP L from_ til i) : scN lim fe L from_ til (i + 1) = scN lim fe L from_ til i := by
 rw [scN, if_neg h, if_pos hs]
theorem scN_find {lim : Int} {fe : ByteArray → En} {L : List En} {from_ til : ByteArray} {i : Nat} (h : ¬ lim ≤ ((scN lim fe L from_ til i).length : Int)) (hs : ¬ skP L from_ til i) : scN lim fe L from_ til (i + 1) = if 0 < (fe (enA L i).ky).sq then scN lim fe L from_ til i ++ [fe (enA L i).ky] else scN lim fe L from_ til i := by
 rw [scN, if_neg h, if_neg hs]
theorem scN_len (lim : Int) (fe : ByteArray → En) (L : List En) (from_ til : ByteArray) : ∀ i, (scN lim fe L from_ til i).length ≤ i
 | 0 => Nat.le_refl _
 | i + 1 => by
  have := scN_len lim fe L from_ til i; rw [scN]
  split
  · omega
  · split
    · omega
    · split
      · rw [List.length_append]; show _ + 1 ≤ _; omega
      · omega
set_option maxRecDepth 20000 in
set_option maxHeartbeats 16000000 in
theorem sScn (s f : Int) (a0 : Option Addr) (n0 c0 : Nat) (o0 : Nat → En) (a : Option Addr) (m cap : Nat) (R : Nat → Rn) (hm : m ≤ 1048576) (hc : n0 + cntR R m ≤ 1048576) (hz : a0 = none → c0 = 0) (hnil : ∀ k, k < m → (R k).ad = none → (R k).cap = 0) (hfit : ∀ e ∈ allTb n0 o0 R m, 1 ≤ e.sq) (from_ til : ByteArray) (seq lim : Int) (fe : ByteArray → En) (hfe : ∀ k x, (∃ bo, IsB (fun e => e ∈ allTb n0 o0 R m) k seq bo ∧ x = fndE bo) → x = fe k) (S : List Tg) (hS : Sd (enA (allTb n0 o0 R m)) (n0 + cntR R m) S) (w : World) (h0 : Ens w a0 n0 c0 o0) (h : Rns w a m cap R) :
 Calls Tryz.prog 34 #[.agg #[.int .i64 s, .int .i64 f, .slice a0 n0 c0, .slice a m cap], .string from_, .string til, .int .i64 seq, .int .i64 lim] w fun e w' => (∃ v, e = .returned v ∧ OwnEn w' w.heap.size v (scN lim fe (S.map Prod.fst) from_ til (n0 + cntR R m))) ∧ Below w.heap.size w w' := by
 obtain ⟨W1, hW1⟩ : ∃ W, W = w.alloc (.cells #[.int .i64 s, .int .i64 f, .slice a0 n0 c0, .slice a m cap] 28) := ⟨_, rfl⟩; have B1 : Hid (Below w.heap.size w W1) := by rw [hW1]; exact (Below.refl _ _).alloc (Nat.le_refl _) _
 have T1 : Hid (RA W1 w.heap.size 28 #[.int .i64 s, .int .i64 f, .slice a0 n0 c0, .slice a m cap]) := by rw [hW1]; exact RA.new _ _ _
 have KA := hid (sAll s f a0 n0 c0 o0 a m cap R hm hc hz hnil W1 (h0.below B1.out) (h.below B1.out)); have KF : Hid (∀ key wx (hb : Below w.heap.size w wx), Hid (Calls Tryz.prog 35 #[.agg #[.int .i64 s, .int .i64 f, .slice a0 n0 c0, .slice a m cap], .string key, .int .i64 seq] wx fun e w' => (∃ x : En, e = .returned (.agg #[.string x.ky, .int .i64 x.sq, .bool x.gn, .string x.tx]) ∧ ∃ bo, IsB (fun e => e ∈ allTb n0 o0 R m) key seq bo ∧ x = fndE bo) ∧ Below wx.heap.size wx w')) := fun key wx hb => sFindL s f a0 n0 c0 o0 a m cap R hm hc hz hnil hfit key seq wx (h0.below hb) (h.below hb); have HFE := hid hfe; obtain ⟨A, hA⟩ : ∃ A, A = allTb n0 o0 R m := ⟨_, rfl⟩; obtain ⟨N, hN⟩ : ∃ N, N = n0 + cntR R m := ⟨_, rfl⟩; have HAL : Hid (A.length = N) := by show _ = _; rw [hA, allTb_len, hN]
 rw [← hA] at KA hS; rw [← hN] at hS ⊢; have hNb : N ≤ 1048576 := by omega
 have HS := hid hS; have r0 := T1.out.cell 0; have r1 := T1.out.cell 1; have r2 := T1.out.cell 2; have r3 := T1.out.cell 3; clear h0 h hnil hc hz hfit hA hN hfe hS
 go_enter Tryz.func34, Tryz.ntmps34
 go_upto_region 1 with fail
 rw [← hW1]; clear hW1
 go_wp2_with fail
 refine KA.out.mono ?_
 rintro e w3 ⟨⟨v3, rfl, hO3⟩, hb3⟩
 obtain ⟨a3, c3, hv3⟩ := hO3.slice; rw [HAL.out] at hv3; subst hv3; have T3 := hid (T1.out.below hb3 T1.out.lt); have B3 := hid (B1.out.trans (hb3.mono B1.out.size)); have KS := hid (sSort a3 N c3 (enA A) hNb S HS.out w3 hO3.ens.2); clear hO3 hb3 KA r0 r1 r2 r3 T1 B1
 go_wp2_with fail
 refine KS.out.mono ?_
 rintro e w4 ⟨⟨v4, rfl, hO4⟩, hb4⟩
 obtain ⟨L, hL⟩ : ∃ L, L = S.map Prod.fst := ⟨_, rfl⟩; have HLS := hid hL; rw [← hL] at hO4; have LL : Hid (L.length = N) := by show _ = _; rw [hL, List.length_map, HS.out.len]
 obtain ⟨a4, c4, hv4⟩ := hO4.slice; rw [LL.out] at hv4; subst hv4; have E4 := hid hO4.ens.2; have TT0 := hid (T3.out.below hb4 T3.out.lt); have B4 := hid (B3.out.trans (hb4.mono B3.out.size)); clear hL hO4 hb4 KS T3 B3
 go_wp2_with fail
 go_loopw [13, 12] (fun q v wr => ∃ (i : Nat) (V : Value), i ≤ N ∧ q = .int .i64 (i : Int) ∧ V = v ∧ OwnEn wr w4.heap.size V (scN lim fe L from_ til i) ∧ Below w4.heap.size w4 wr) (fun q _ _ => N - (intOf q).toNat)
 case atStart => exact ⟨0, _, Nat.zero_le _, rfl, rfl, World.ownsRow_made w4 #[] 0 (Nat.le_refl _) (by decide) rfl, (Below.refl _ _).alloc (Nat.le_refl _) _⟩
 case round =>
  obtain ⟨i, v, hi, rfl, rfl, hO, hB⟩ := hrel; have OO := hid hO; have BB := hid hB; have SL : Hid ((scN lim fe L from_ til i).length ≤ i) := scN_len lim fe L from_ til i; obtain ⟨av, cv, hv⟩ := hO.slice; clear hO hB; subst hv
  by_cases hlt : i < N
  · have d0 : decide ((i : Int) < (N : Int)) = true := by simp; omega
    have d00 : (i : Int) < (N : Int) := by omega
    have i0 : (0 : Int) ≤ (i : Int) := by omega
    by_cases hlim : lim ≤ ((scN lim fe L from_ til i).length : Int)
    · have dl : decide (((scN lim fe L from_ til i).length : Int) < lim) = false := by simp; omega
      have dl2 : ¬ ((scN lim fe L from_ til i).length : Int) < lim := by omega
      have OE : Hid (OwnEn wr w.heap.size (.slice av (scN lim fe L from_ til i).length cv) (scN lim fe (S.map Prod.fst) from_ til N)) := by
       rw [← HLS.out]; have e := scN_full hlim (N - i); rw [show i + (N - i) = N by omega] at e; rw [e]; exact OwnEn.baseUp OO.out B4.out.size
      have BE := hid (B4.out.trans (BB.out.mono B4.out.size))
      generalize (scN lim fe L from_ til i).length = Z at dl dl2 OE ⊢
      clear OO BB hlim SL
      go_wp2
      go_ret
      exact ⟨⟨_, rfl, OE.out⟩, BE.out⟩
    · have dl : decide (((scN lim fe L from_ til i).length : Int) < lim) = true := by simp; omega
      have dl2 : ((scN lim fe L from_ til i).length : Int) < lim := by omega
      rcases (E4.out.below BB.out).2 with h00 | ⟨b, off, rfl, hbl, hcc⟩
      · omega
      obtain ⟨x0, x1, x2, x3⟩ := hcc i hlt; have HC := hid hcc; clear hcc x1 x2 x3; obtain ⟨K, hK⟩ : ∃ K, K = (enA L i).ky := ⟨_, rfl⟩; rw [← hK] at x0; have HK := hid hK; clear hK
      by_cases hi0 : 0 < i
      · obtain ⟨j, hj⟩ : ∃ j, j = i - 1 := ⟨_, rfl⟩
        obtain ⟨y0, _⟩ := HC.out j (by omega); have ji : (j : Int) < (N : Int) := by omega
        have j0 : (0 : Int) ≤ (j : Int) := by omega
        have m2 : (i : Int) - 1 = (j : Int) := by omega
        have m5 : IntKind.i64.wrap ((i : Int) - 1) = (j : Int) := by rw [m2]; simp [IntKind.wrap, IntKind.bits, IntKind.signed]; omega
        have m6 : decide ((0 : Int) < (i : Int)) = true := by simp; omega
        obtain ⟨Y0, hY⟩ : ∃ Y, Y = (enA L (i - 1)).ky := ⟨_, rfl⟩; rw [hj, ← hY] at y0; rw [← hj] at y0; have HY := hid hY; have HI0 := hid hi0; clear hY hj m2
        by_cases h2 : Y0 = K
        · have d2 : (Y0.toList == K.toList) = true := by rw [kEq]; simpa using h2
          have NK := hid (scN_skip (lim := lim) (fe := fe) (L := L) (from_ := from_) (til := til) (i := i) hlim (.inl ⟨HI0.out, by rw [← HY.out, ← HK.out]; exact h2⟩))
          go_wp2
          go_roundw
          case rel => exact ⟨i + 1, _, by omega, by go_num, rfl, by rw [NK.out]; exact OO.out, BB.out⟩
          case measure => simp [intOf]; omega
        · have d2 : (Y0.toList == K.toList) = false := by rw [kEq]; simpa using h2
          have HO : Hid (¬ (enA L (i - 1)).ky = K) := by rw [← HY.out]; exact h2
          cases hkf : kLt K from_ with
          | true =>
           have df : Op.bytesLess K.toList from_.toList = true := hkf; have NK := hid (scN_skip (lim := lim) (fe := fe) (L := L) (from_ := from_) (til := til) (i := i) hlim (by unfold skP; rw [← HK.out]; exact .inr (.inl hkf)))
           go_wp2
           go_roundw
           case rel => exact ⟨i + 1, _, by omega, by go_num, rfl, by rw [NK.out]; exact OO.out, BB.out⟩
           case measure => simp [intOf]; omega
          | false =>
           have df : Op.bytesLess K.toList from_.toList = false := hkf
           by_cases ht0 : til = ⟨#[]⟩
           · have de : (til.toList == []) = true := by rw [ht0, baT]; rfl
             have NS : Hid (¬ skP L from_ til i) := by unfold skP; rw [← HK.out]; exact fun q => q.elim (fun z => HO.out z.2) (fun z => z.elim (fun y => by rw [hkf] at y; cases y) (fun y => y.1 ht0))
             have HT0 := hid ht0; clear ht0 hkf; have NK := hid (scN_find (lim := lim) (fe := fe) (L := L) (from_ := from_) (til := til) (i := i) hlim NS.out); rw [← HK.out] at NK; have B5 := hid BB.out; have O5 := hid OO.out; have BW := hid (B4.out.trans (B5.out.mono B4.out.size)); have TT := TT0.out.below B5.out TT0.out.lt; have r0 := TT.cell 0; have r1 := TT.cell 1; have r2 := TT.cell 2; have r3 := TT.cell 3; have KK := KF.out K wr BW.out; clear TT BB OO BW
             go_wp2_with fail
             refine KK.out.mono ?_
             rintro e w6 ⟨⟨x, rfl, hx⟩, hb6⟩
             have HX := hid (HFE.out K x hx); have B6 := hid (B5.out.trans (hb6.mono B5.out.size)); have O6 := hid (O5.out.below hb6); clear hx hb6 KK r0 r1 r2 r3 B5 O5; rw [← HX.out] at NK; clear HX; obtain ⟨X0, X1, X2, X3⟩ := x; dsimp only at NK ⊢; obtain ⟨W7, hW7⟩ : ∃ W, W = w6.alloc (.cells #[.string X0, .int .i64 X1, .bool X2, .string X3] 46) := ⟨_, rfl⟩; have b7 : Below w6.heap.size w6 W7 := by rw [hW7]; exact (Below.refl _ _).alloc (Nat.le_refl _) _
             have R7 : RA W7 w6.heap.size 46 #[.string X0, .int .i64 X1, .bool X2, .string X3] := by rw [hW7]; exact RA.new _ _ _
             have B7 := hid (B6.out.trans (b7.mono B6.out.size)); have O7 := hid (O6.out.below b7); have e0 := R7.cell 0; have e1 := R7.cell 1; have e2 := R7.cell 2; have e3 := R7.cell 3; clear b7 R7 B6 O6
             go_upto_region 9 with ((refine wpList_store_row rfl 46 (.tmp 15) (.tmp 66) rfl w6.heap.size #[.string X0, .int .i64 X1, .bool X2, .string X3] rfl rfl _ _ (RA.new w6 _ _) (by kernel_rfl) rfl (oneEn4 _ _ _ _) ?_); rw [World.setRow_alloc_new])
             rw [← hW7]; clear hW7
             by_cases hp : 0 < X1
             · have N2 : Hid (scN lim fe L from_ til (i + 1) = scN lim fe L from_ til i ++ [⟨X0, X1, X2, X3⟩]) := NK.out.trans (if_pos hp)
               clear NK
               go_wp2_with (at_builtin; refine append_en w4.heap.size _ rfl (.tmp 70) (.tmp 72) rfl _ (scN lim fe L from_ til i) ⟨X0, X1, X2, X3⟩ rfl O7.out B7.out.size rfl (by have := SL.out; omega) ?_; intro v8 w8 hO8 hg8)
               have B8 := hid (B7.out.grown hg8 B7.out.size (fun g e => (O7.out.row e).1)); have O8 : Hid (OwnEn w8 w4.heap.size v8 (scN lim fe L from_ til (i + 1))) := by rw [N2.out]; exact hO8
               clear hO8 hg8 B7 O7 e0 e1 e2 e3
               go_wp2
               go_roundw
               case rel => exact ⟨i + 1, _, by omega, by go_num, rfl, O8.out, B8.out⟩
               case measure => simp [intOf]; omega
             · have N2 : Hid (scN lim fe L from_ til (i + 1) = scN lim fe L from_ til i) := NK.out.trans (if_neg hp)
               clear NK
               go_wp2
               go_roundw
               case rel => exact ⟨i + 1, _, by omega, by go_num, rfl, by rw [N2.out]; exact O7.out, B7.out⟩
               case measure => simp [intOf]; omega
           · have de : (til.toList == []) = false := by
              have : til.toList ≠ [] := fun q => ht0 (ByteArray.ext (by rw [baT] at q; apply Array.toList_inj.1; exact q))
              simpa using this
             cases hkt : kLt K til with
             | false =>
              have dk : Op.bytesLess K.toList til.toList = false := hkt; have NK := hid (scN_skip (lim := lim) (fe := fe) (L := L) (from_ := from_) (til := til) (i := i) hlim (by unfold skP; rw [← HK.out]; exact .inr (.inr ⟨ht0, hkt⟩)))
              go_wp2
              go_roundw
              case rel => exact ⟨i + 1, _, by omega, by go_num, rfl, by rw [NK.out]; exact OO.out, BB.out⟩
              case measure => simp [intOf]; omega
             | true =>
              have dk : Op.bytesLess K.toList til.toList = true := hkt; have NS : Hid (¬ skP L from_ til i) := by unfold skP; rw [← HK.out]; exact fun q => q.elim (fun z => HO.out z.2) (fun z => z.elim (fun y => by rw [hkf] at y; cases y) (fun y => by rw [hkt] at y; cases y.2))
              clear ht0 hkf hkt; have NK := hid (scN_find (lim := lim) (fe := fe) (L := L) (from_ := from_) (til := til) (i := i) hlim NS.out); rw [← HK.out] at NK; have B5 := hid BB.out; have O5 := hid OO.out; have BW := hid (B4.out.trans (B5.out.mono B4.out.size)); have TT := TT0.out.below B5.out TT0.out.lt; have r0 := TT.cell 0; have r1 := TT.cell 1; have r2 := TT.cell 2; have r3 := TT.cell 3; have KK := KF.out K wr BW.out; clear TT BB OO BW
              go_wp2_with fail
              refine KK.out.mono ?_
              rintro e w6 ⟨⟨x, rfl, hx⟩, hb6⟩
              have HX := hid (HFE.out K x hx); have B6 := hid (B5.out.trans (hb6.mono B5.out.size)); have O6 := hid (O5.out.below hb6); clear hx hb6 KK r0 r1 r2 r3 B5 O5; rw [← HX.out] at NK; clear HX; obtain ⟨X0, X1, X2, X3⟩ := x; dsimp only at NK ⊢; obtain ⟨W7, hW7⟩ : ∃ W, W = w6.alloc (.cells #[.string X0, .int .i64 X1, .bool X2, .string X3] 46) := ⟨_, rfl⟩; have b7 : Below w6.heap.size w6 W7 := by rw [hW7]; exact (Below.refl _ _).alloc (Nat.le_refl _) _
              have R7 : RA W7 w6.heap.size 46 #[.string X0, .int .i64 X1, .bool X2, .string X3] := by rw [hW7]; exact RA.new _ _ _
              have B7 := hid (B6.out.trans (b7.mono B6.out.size)); have O7 := hid (O6.out.below b7); have e0 := R7.cell 0; have e1 := R7.cell 1; have e2 := R7.cell 2; have e3 := R7.cell 3; clear b7 R7 B6 O6
              go_upto_region 9 with ((refine wpList_store_row rfl 46 (.tmp 15) (.tmp 66) rfl w6.heap.size #[.string X0, .int .i64 X1, .bool X2, .string X3] rfl rfl _ _ (RA.new w6 _ _) (by kernel_rfl) rfl (oneEn4 _ _ _ _) ?_); rw [World.setRow_alloc_new])
              rw [← hW7]; clear hW7
              by_cases hp : 0 < X1
              · have N2 : Hid (scN lim fe L from_ til (i + 1) = scN lim fe L from_ til i ++ [⟨X0, X1, X2, X3⟩]) := NK.out.trans (if_pos hp)
                clear NK
                go_wp2_with (at_builtin; refine append_en w4.heap.size _ rfl (.tmp 70) (.tmp 72) rfl _ (scN lim fe L from_ til i) ⟨X0, X1, X2, X3⟩ rfl O7.out B7.out.size rfl (by have := SL.out; omega) ?_; intro v8 w8 hO8 hg8)
                have B8 := hid (B7.out.grown hg8 B7.out.size (fun g e => (O7.out.row e).1)); have O8 : Hid (OwnEn w8 w4.heap.size v8 (scN lim fe L from_ til (i + 1))) := by rw [N2.out]; exact hO8
                clear hO8 hg8 B7 O7 e0 e1 e2 e3
                go_wp2
                go_roundw
                case rel => exact ⟨i + 1, _, by omega, by go_num, rfl, O8.out, B8.out⟩
                case measure => simp [intOf]; omega
              · have N2 : Hid (scN lim fe L from_ til (i + 1) = scN lim fe L from_ til i) := NK.out.trans (if_neg hp)
                clear NK
                go_wp2
                go_roundw
                case rel => exact ⟨i + 1, _, by omega, by go_num, rfl, by rw [N2.out]; exact O7.out, B7.out⟩
                case measure => simp [intOf]; omega
      · have m6 : decide ((0 : Int) < (i : Int)) = false := by simp; omega
        cases hkf : kLt K from_ with
        | true =>
         have df : Op.bytesLess K.toList from_.toList = true := hkf; have NK := hid (scN_skip (lim := lim) (fe := fe) (L := L) (from_ := from_) (til := til) (i := i) hlim (by unfold skP; rw [← HK.out]; exact .inr (.inl hkf)))
         go_wp2
         go_roundw
         case rel => exact ⟨i + 1, _, by omega, by go_num, rfl, by rw [NK.out]; exact OO.out, BB.out⟩
         case measure => simp [intOf]; omega
        | false =>
         have df : Op.bytesLess K.toList from_.toList = false := hkf
         by_cases ht0 : til = ⟨#[]⟩
         · have de : (til.toList == []) = true := by rw [ht0, baT]; rfl
           have NS : Hid (¬ skP L from_ til i) := by unfold skP; rw [← HK.out]; exact fun q => q.elim (fun z => hi0 z.1) (fun z => z.elim (fun y => by rw [hkf] at y; cases y) (fun y => y.1 ht0))
           have HT0 := hid ht0; clear ht0 hkf; have NK := hid (scN_find (lim := lim) (fe := fe) (L := L) (from_ := from_) (til := til) (i := i) hlim NS.out); rw [← HK.out] at NK; have B5 := hid BB.out; have O5 := hid OO.out; have BW := hid (B4.out.trans (B5.out.mono B4.out.size)); have TT := TT0.out.below B5.out TT0.out.lt; have r0 := TT.cell 0; have r1 := TT.cell 1; have r2 := TT.cell 2; have r3 := TT.cell 3; have KK := KF.out K wr BW.out; clear TT BB OO BW
           go_wp2_with fail
           refine KK.out.mono ?_
           rintro e w6 ⟨⟨x, rfl, hx⟩, hb6⟩
           have HX := hid (HFE.out K x hx); have B6 := hid (B5.out.trans (hb6.mono B5.out.size)); have O6 := hid (O5.out.below hb6); clear hx hb6 KK r0 r1 r2 r3 B5 O5; rw [← HX.out] at NK; clear HX; obtain ⟨X0, X1, X2, X3⟩ := x; dsimp only at NK ⊢; obtain ⟨W7, hW7⟩ : ∃ W, W = w6.alloc (.cells #[.string X0, .int .i64 X1, .bool X2, .string X3] 46) := ⟨_, rfl⟩; have b7 : Below w6.heap.size w6 W7 := by rw [hW7]; exact (Below.refl _ _).alloc (Nat.le_refl _) _
           have R7 : RA W7 w6.heap.size 46 #[.string X0, .int .i64 X1, .bool X2, .string X3] := by rw [hW7]; exact RA.new _ _ _
           have B7 := hid (B6.out.trans (b7.mono B6.out.size)); have O7 := hid (O6.out.below b7); have e0 := R7.cell 0; have e1 := R7.cell 1; have e2 := R7.cell 2; have e3 := R7.cell 3; clear b7 R7 B6 O6
           go_upto_region 9 with ((refine wpList_store_row rfl 46 (.tmp 15) (.tmp 66) rfl w6.heap.size #[.string X0, .int .i64 X1, .bool X2, .string X3] rfl rfl _ _ (RA.new w6 _ _) (by kernel_rfl) rfl (oneEn4 _ _ _ _) ?_); rw [World.setRow_alloc_new])
           rw [← hW7]; clear hW7
           by_cases hp : 0 < X1
           · have N2 : Hid (scN lim fe L from_ til (i + 1) = scN lim fe L from_ til i ++ [⟨X0, X1, X2, X3⟩]) := NK.out.trans (if_pos hp)
             clear NK
             go_wp2_with (at_builtin; refine append_en w4.heap.size _ rfl (.tmp 70) (.tmp 72) rfl _ (scN lim fe L from_ til i) ⟨X0, X1, X2, X3⟩ rfl O7.out B7.out.size rfl (by have := SL.out; omega) ?_; intro v8 w8 hO8 hg8)
             have B8 := hid (B7.out.grown hg8 B7.out.size (fun g e => (O7.out.row e).1)); have O8 : Hid (OwnEn w8 w4.heap.size v8 (scN lim fe L from_ til (i + 1))) := by rw [N2.out]; exact hO8
             clear hO8 hg8 B7 O7 e0 e1 e2 e3
             go_wp2
             go_roundw
             case rel => exact ⟨i + 1, _, by omega, by go_num, rfl, O8.out, B8.out⟩
             case measure => simp [intOf]; omega
           · have N2 : Hid (scN lim fe L from_ til (i + 1) = scN lim fe L from_ til i) := NK.out.trans (if_neg hp)
             clear NK
             go_wp2
             go_roundw
             case rel => exact ⟨i + 1, _, by omega, by go_num, rfl, by rw [N2.out]; exact O7.out, B7.out⟩
             case measure => simp [intOf]; omega
         · have de : (til.toList == []) = false := by
            have : til.toList ≠ [] := fun q => ht0 (ByteArray.ext (by rw [baT] at q; apply Array.toList_inj.1; exact q))
            simpa using this
           cases hkt : kLt K til with
           | false =>
            have dk : Op.bytesLess K.toList til.toList = false := hkt; have NK := hid (scN_skip (lim := lim) (fe := fe) (L := L) (from_ := from_) (til := til) (i := i) hlim (by unfold skP; rw [← HK.out]; exact .inr (.inr ⟨ht0, hkt⟩)))
            go_wp2
            go_roundw
            case rel => exact ⟨i + 1, _, by omega, by go_num, rfl, by rw [NK.out]; exact OO.out, BB.out⟩
            case measure => simp [intOf]; omega
           | true =>
            have dk : Op.bytesLess K.toList til.toList = true := hkt; have NS : Hid (¬ skP L from_ til i) := by unfold skP; rw [← HK.out]; exact fun q => q.elim (fun z => hi0 z.1) (fun z => z.elim (fun y => by rw [hkf] at y; cases y) (fun y => by rw [hkt] at y; cases y.2))
            clear ht0 hkf hkt; have NK := hid (scN_find (lim := lim) (fe := fe) (L := L) (from_ := from_) (til := til) (i := i) hlim NS.out); rw [← HK.out] at NK; have B5 := hid BB.out; have O5 := hid OO.out; have BW := hid (B4.out.trans (B5.out.mono B4.out.size)); have TT := TT0.out.below B5.out TT0.out.lt; have r0 := TT.cell 0; have r1 := TT.cell 1; have r2 := TT.cell 2; have r3 := TT.cell 3; have KK := KF.out K wr BW.out; clear TT BB OO BW
            go_wp2_with fail
            refine KK.out.mono ?_
            rintro e w6 ⟨⟨x, rfl, hx⟩, hb6⟩
            have HX := hid (HFE.out K x hx); have B6 := hid (B5.out.trans (hb6.mono B5.out.size)); have O6 := hid (O5.out.below hb6); clear hx hb6 KK r0 r1 r2 r3 B5 O5; rw [← HX.out] at NK; clear HX; obtain ⟨X0, X1, X2, X3⟩ := x; dsimp only at NK ⊢; obtain ⟨W7, hW7⟩ : ∃ W, W = w6.alloc (.cells #[.string X0, .int .i64 X1, .bool X2, .string X3] 46) := ⟨_, rfl⟩; have b7 : Below w6.heap.size w6 W7 := by rw [hW7]; exact (Below.refl _ _).alloc (Nat.le_refl _) _
            have R7 : RA W7 w6.heap.size 46 #[.string X0, .int .i64 X1, .bool X2, .string X3] := by rw [hW7]; exact RA.new _ _ _
            have B7 := hid (B6.out.trans (b7.mono B6.out.size)); have O7 := hid (O6.out.below b7); have e0 := R7.cell 0; have e1 := R7.cell 1; have e2 := R7.cell 2; have e3 := R7.cell 3; clear b7 R7 B6 O6
            go_upto_region 9 with ((refine wpList_store_row rfl 46 (.tmp 15) (.tmp 66) rfl w6.heap.size #[.string X0, .int .i64 X1, .bool X2, .string X3] rfl rfl _ _ (RA.new w6 _ _) (by kernel_rfl) rfl (oneEn4 _ _ _ _) ?_); rw [World.setRow_alloc_new])
            rw [← hW7]; clear hW7
            by_cases hp : 0 < X1
            · have N2 : Hid (scN lim fe L from_ til (i + 1) = scN lim fe L from_ til i ++ [⟨X0, X1, X2, X3⟩]) := NK.out.trans (if_pos hp)
              clear NK
              go_wp2_with (at_builtin; refine append_en w4.heap.size _ rfl (.tmp 70) (.tmp 72) rfl _ (scN lim fe L from_ til i) ⟨X0, X1, X2, X3⟩ rfl O7.out B7.out.size rfl (by have := SL.out; omega) ?_; intro v8 w8 hO8 hg8)
              have B8 := hid (B7.out.grown hg8 B7.out.size (fun g e => (O7.out.row e).1)); have O8 : Hid (OwnEn w8 w4.heap.size v8 (scN lim fe L from_ til (i + 1))) := by rw [N2.out]; exact hO8
              clear hO8 hg8 B7 O7 e0 e1 e2 e3
              go_wp2
              go_roundw
              case rel => exact ⟨i + 1, _, by omega, by go_num, rfl, O8.out, B8.out⟩
              case measure => simp [intOf]; omega
            · have N2 : Hid (scN lim fe L from_ til (i + 1) = scN lim fe L from_ til i) := NK.out.trans (if_neg hp)
              clear NK
              go_wp2
              go_roundw
              case rel => exact ⟨i + 1, _, by omega, by go_num, rfl, by rw [N2.out]; exact O7.out, B7.out⟩
              case measure => simp [intOf]; omega
  · have d0 : decide ((i : Int) < (N : Int)) = false := by simp; omega
    have d00 : ¬ (i : Int) < (N : Int) := by omega
    have ei : i = N := by omega
    have OE : Hid (OwnEn wr w.heap.size (.slice av (scN lim fe L from_ til i).length cv) (scN lim fe (S.map Prod.fst) from_ til N)) := by
     rw [← HLS.out, ← ei]; exact OwnEn.baseUp OO.out B4.out.size
    have BE := hid (B4.out.trans (BB.out.mono B4.out.size))
    generalize (scN lim fe L from_ til i).length = Z at OE ⊢
    clear ei OO BB SL
    go_wp2
    go_ret
    exact ⟨⟨_, rfl, OE.out⟩, BE.out⟩
end Go.Proofs.YtcbmgpdpjagaoaaGreat
