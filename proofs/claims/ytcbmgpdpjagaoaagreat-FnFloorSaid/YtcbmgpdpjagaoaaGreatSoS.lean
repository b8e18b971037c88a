import Derived.Test.YtcbmgpdpjagaoaaGreatG5
import Derived.Test.YtcbmgpdpjagaoaaGreatSRun
namespace Go.Proofs.YtcbmgpdpjagaoaaGreat
open Go.RowKit
set_option linter.unusedVariables false
theorem enL_get (L : List En) {p : Nat} (hp : p < L.length * 4) : (enL L)[p]? = some (enF (enA L) p) := by
 have q := enL_at L (p / 4) (by omega); have m : p % 4 = 0 ∨ p % 4 = 1 ∨ p % 4 = 2 ∨ p % 4 = 3 := by omega
 unfold enF
 rcases m with m | m | m | m
 · rw [if_pos m]
   exact (congrArg (fun x => (enL L)[x]?) (show p = p / 4 * 4 by omega)).trans q.1
 · rw [if_neg (by omega), if_pos m]
   exact (congrArg (fun x => (enL L)[x]?) (show p = p / 4 * 4 + 1 by omega)).trans q.2.1
 · rw [if_neg (by omega), if_neg (by omega), if_pos m]
   exact (congrArg (fun x => (enL L)[x]?) (show p = p / 4 * 4 + 2 by omega)).trans q.2.2.1
 · rw [if_neg (by omega), if_neg (by omega), if_neg (by omega)]
   exact (congrArg (fun x => (enL L)[x]?) (show p = p / 4 * 4 + 3 by omega)).trans q.2.2.2
theorem enL_len (L : List En) : (enL L).length = L.length * 4 := by
 induction L with
 | nil => rfl
 | cons e r ih => rw [show enL (e :: r) = [.string e.ky, .int .i64 e.sq, .bool e.gn, .string e.tx] ++ enL r from rfl, List.length_append, ih]; simp; omega
theorem enA_set (L : List En) {j i : Nat} (hj : j < L.length) (e : En) : enA (L.set j e) i = if i = j then e else enA L i := by
 unfold enA; rw [List.getD_eq_getElem?_getD, List.getElem?_set]
 by_cases h : i = j
 · subst h; rw [if_pos rfl, if_pos rfl, if_pos hj]; rfl
 · rw [if_neg h, if_neg (fun q => h q.symm), List.getD_eq_getElem?_getD]
theorem OwnEn.put {w : World} {base g n c : Nat} {L : List En} (h : OwnEn w base (.slice (some ⟨g, 0, none⟩) n c) L) {j : Nat} (hj : j < L.length) (e : En) :
 w.there g (j * 4) 4 ∧ OwnEn (w.setCells g (j * 4) [.string e.ky, .int .i64 e.sq, .bool e.gn, .string e.tx]) base (.slice (some ⟨g, 0, none⟩) n c) (L.set j e) := by
 rcases h.2 with ⟨h0, h1⟩ | ⟨g', cap, cur, he, hb, hr, hnc, hm, hsz, htk⟩
 · cases h0
 · cases he
   have F : FRow w g 46 (c * 4) (fun p => cur.getD p undef) := ⟨cur, hr, hsz, fun p hp => by show _ = some (cur.getD p undef); rw [Array.getD_eq_getD_getElem?, Array.getElem?_eq_getElem (by omega)]; rfl⟩; obtain ⟨cs, h1, h2, h3⟩ := FRow.setCells [.string e.ky, .int .i64 e.sq, .bool e.gn, .string e.tx] (j * 4) F; refine ⟨F.there (j * 4) 4 (by omega), ?_, .inr ⟨g, c, cs, by rw [List.length_set], hb, h1, by rw [List.length_set]; exact hnc, hm, h2, ?_⟩⟩
   · rw [enL_len]
   · rw [List.length_set]
     apply List.ext_getElem?
     intro p
     by_cases hp : p < L.length * 4
     · rw [List.getElem?_take, if_pos hp, Array.getElem?_toList, h3 p (by have := Nat.mul_le_mul_right 4 hnc; omega), enL_get _ (by rw [List.length_set]; exact hp)]
       have old : cur.getD p undef = enF (enA L) p := by
        have e1 := congrArg (·[p]?) htk; simp only [List.getElem?_take] at e1; rw [if_pos hp, Array.getElem?_toList, enL_get L hp] at e1; rw [Array.getD_eq_getD_getElem?, e1]; rfl
       congr 1
       unfold layF
       show (if j * 4 ≤ p ∧ p < j * 4 + 4 then [Value.string e.ky, .int .i64 e.sq, .bool e.gn, .string e.tx].getD (p - j * 4) undef else cur.getD p undef) = _
       by_cases hin : j * 4 ≤ p ∧ p < j * 4 + 4
       · rw [if_pos hin]
         unfold enF; rw [enA_set L hj, if_pos (show p / 4 = j by omega)]; have m : p = j * 4 ∨ p = j * 4 + 1 ∨ p = j * 4 + 2 ∨ p = j * 4 + 3 := by omega
         rcases m with rfl | rfl | rfl | rfl
         · rw [if_pos (by omega), show j * 4 - j * 4 = 0 by omega]; rfl
         · rw [if_neg (by omega), if_pos (by omega), show j * 4 + 1 - j * 4 = 1 by omega]; rfl
         · rw [if_neg (by omega), if_neg (by omega), if_pos (by omega), show j * 4 + 2 - j * 4 = 2 by omega]; rfl
         · rw [if_neg (by omega), if_neg (by omega), if_neg (by omega), show j * 4 + 3 - j * 4 = 3 by omega]; rfl
       · rw [if_neg hin, old]
         unfold enF; rw [enA_set L hj, if_neg (show ¬ p / 4 = j by omega)]
     · rw [List.getElem?_eq_none (by rw [List.length_take]; omega), List.getElem?_eq_none (by rw [enL_len, List.length_set]; omega)]
theorem OwnEn.shape {w : World} {base : Nat} {v : Value} {L : List En} (h : OwnEn w base v L) (hl : 0 < L.length) : ∃ g c, v = .slice (some ⟨g, 0, none⟩) L.length c ∧ base ≤ g ∧ g < w.heap.size := by
 rcases h.2 with ⟨h0, h1⟩ | ⟨g, cap, cur, he, hb, hr, _⟩
 · omega
 · exact ⟨g, cap, he, hb, (show RA w g 46 cur from hr).lt⟩
def shf (L : List En) (j : Nat) : List En := (L ++ [en0]).take (j + 1) ++ L.drop j
theorem shf_at {L : List En} {j : Nat} (hj : j ≤ L.length) (p : Nat) : (shf L j)[p]? = if p ≤ j then (L ++ [en0])[p]? else L[p - 1]? := by
 unfold shf; have hl : ((L ++ [en0]).take (j + 1)).length = j + 1 := by rw [List.length_take, List.length_append]; simp; omega
 by_cases h : p ≤ j
 · rw [if_pos h, List.getElem?_append_left (by omega), List.getElem?_take, if_pos (by omega)]
 · rw [if_neg h, List.getElem?_append_right (by omega), List.getElem?_drop, hl, show j + (p - (j + 1)) = p - 1 by omega]
theorem shf_len {L : List En} {j : Nat} (hj : j ≤ L.length) : (shf L j).length = L.length + 1 := by
 unfold shf; rw [List.length_append, List.length_take, List.length_append, List.length_drop]
 simp; omega
theorem shf_top (L : List En) : shf L L.length = L ++ [en0] := by
 unfold shf; rw [List.drop_length, List.append_nil, List.take_of_length_le (by simp)]
theorem shf_next {L : List En} {j : Nat} (hj : j + 1 ≤ L.length) : (shf L (j + 1)).set (j + 1) (enA (shf L (j + 1)) j) = shf L j := by
 apply List.ext_getElem?
 intro p
 have e : enA (shf L (j + 1)) j = enA L j := by
  unfold enA; rw [List.getD_eq_getElem?_getD, shf_at hj, if_pos (by omega), List.getElem?_append_left (by omega), List.getD_eq_getElem?_getD]
 rw [List.getElem?_set, e, shf_at hj, shf_at (by omega)]
 by_cases h : j + 1 = p
 · subst h
   rw [if_pos rfl, if_pos (by rw [shf_len hj]; omega), if_neg (by omega), enA_get (L := L) (by omega)]
   rfl
 · rw [if_neg h]
   by_cases h2 : p ≤ j
   · rw [if_pos (by omega), if_pos h2]
   · rw [if_neg (by omega), if_neg h2]
theorem shf_ins {T : List Tg} {k : Nat} (hk : k ≤ T.length) (x : Tg) : (shf (T.map Prod.fst) k).set k x.1 = (insT T k x).map Prod.fst := by
 have hk' : k ≤ (T.map Prod.fst).length := by rw [List.length_map]; exact hk
 apply List.ext_getElem?
 intro p; unfold insT; have hl : (List.map Prod.fst (T.take k)).length = k := by rw [List.length_map, List.length_take]; omega
 rw [List.getElem?_set, List.map_append, List.map_cons]
 by_cases h : k = p
 · subst h
   rw [if_pos rfl, if_pos (by rw [shf_len hk']; omega), List.getElem?_append_right (by omega), hl, show k - k = 0 by omega]
   rfl
 · rw [if_neg h, shf_at hk']
   by_cases h2 : p ≤ k
   · rw [if_pos h2, List.getElem?_append_left (by rw [List.length_map]; rw [List.length_map] at hk'; omega), List.getElem?_append_left (by omega), List.getElem?_map, List.getElem?_map, List.getElem?_take, if_pos (by omega)]
   · rw [if_neg h2, List.getElem?_append_right (by omega), hl, show p - k = (p - k - 1) + 1 by omega, List.getElem?_cons_succ, List.getElem?_map, List.getElem?_map, List.getElem?_drop, show k + (p - k - 1) = p - 1 by omega]
theorem append_enS {ops : Array Oper} {rest : List Oper} {o : Oper} {a : Act} {Q : Exit → Act → World → Prop} (base : Nat) (wr : World) (hgd : o.guard = none) (s x : Operand)
 (ho : o.op = .call { callee := .builtin .append, args := #[s, x], argTypes := #[23, 23] })
 (v : Value) (L : List En) (e : En) (n : Nat) (hN : L.length = n) (hs : a.eval s = v) (hown : OwnEn wr base v L) (hsz : base ≤ wr.heap.size)
 (hx : a.eval x = .slice (some ⟨wr.heap.size, 0, none⟩) 1 1) (hlen : n ≤ 1048576)
 (h : ∀ g c w', OwnEn w' base (.slice (some ⟨g, 0, none⟩) (n + 1) c) (L ++ [e]) → base ≤ g ∧ g < w'.heap.size → wr.grownBy w' v.ownBlock → wpList Tryz.prog ops Q rest (a.put o.dst (.slice (some ⟨g, 0, none⟩) (n + 1) c)) w') :
 wpList Tryz.prog ops Q (o :: rest) a (wr.alloc (.cells #[.string e.ky, .int .i64 e.sq, .bool e.gn, .string e.tx] 46)) := by
 refine append_en base wr hgd s x ho v L e hs hown hsz hx (by omega) fun v' w' h1 h2 => ?_; obtain ⟨g, c, hv, hb, hl⟩ := h1.shape (by simp); rw [show (L ++ [e]).length = n + 1 by rw [List.length_append, hN]; rfl] at hv; subst hv; exact h g c w' h1 ⟨hb, hl⟩ h2
theorem Sd.at {a : Nat → En} {i : Nat} {T : List Tg} (h : Sd a i T) : (T.map Prod.fst).length = i := by rw [List.length_map, h.len]
theorem map_at {T : List Tg} {j : Nat} (hj : j < T.length) : enA (T.map Prod.fst) j = (T[j]'hj).1 := by
 unfold enA; rw [List.getD_eq_getElem?_getD, List.getElem?_map, List.getElem?_eq_getElem hj]; rfl
set_option maxRecDepth 20000 in
set_option maxHeartbeats 8000000 in
theorem sSort (a : Option Addr) (n cap : Nat) (o : Nat → En) (hn : n ≤ 1048576) (S : List Tg) (hS : Sd o n S) (w : World) (h : Ens w a n cap o) :
 Calls Tryz.prog 32 #[.slice a n cap] w fun e w' => (∃ v, e = .returned v ∧ OwnEn w' w.heap.size v (S.map Prod.fst)) ∧ Below w.heap.size w w' := by
 have HE := hid h; have HS := hid hS; clear h hS
 go_enter Tryz.func32, Tryz.ntmps32
 go_wp2_with fail
 go_loopw [4, 3] (fun q v wr => ∃ (i : Nat) (T : List Tg), i ≤ n ∧ q = .int .i64 (i : Int) ∧ Sd o i T ∧ OwnEn wr w.heap.size v (T.map Prod.fst) ∧ Below w.heap.size w wr) (fun q _ _ => n - (intOf q).toNat)
 case atStart => exact ⟨0, [], Nat.zero_le _, rfl, Sd.zero o, World.ownsRow_made w #[] 0 (Nat.le_refl _) (by decide) rfl, (Below.refl _ _).alloc (Nat.le_refl _) _⟩
 case round =>
  obtain ⟨i, T, hi, rfl, hT, hO, hB⟩ := hrel; obtain ⟨WR, hWR⟩ : ∃ v, v = wr := ⟨_, rfl⟩; subst hWR; have HT := hid hT; have OO := hid hO; have BB := hid hB; obtain ⟨av, cv, hv⟩ := hO.slice; rw [hT.at] at hv; have TL : Hid (T.length = i) := hT.len; clear hO hB hT; subst hv
  by_cases hlt : i < n
  · have d0 : (i : Int) < (n : Int) := by omega
    have i0 : (0 : Int) ≤ (i : Int) := by omega
    go_wp2_with fail
    have LN := hid (HT.out.at)
    go_loopw [5] (fun q wx => ∃ k : Nat, k ≤ i ∧ q = .int .i64 (k : Int) ∧ (∀ y ∈ T.drop k, enLt (o i) y.1) ∧ Below WR.heap.size WR wx) (fun q _ => (intOf q).toNat)
    case atStart => exact ⟨i, Nat.le_refl _, rfl, (fun y hy => by rw [List.drop_of_length_le (by rw [TL.out]; exact Nat.le_refl _)] at hy; cases hy), Below.refl _ _⟩
    case round =>
     obtain ⟨k, hk, rfl, hD, hB⟩ := hrel; have DD := hid hD; have B2 := hid hB; clear hD hB; have BW := hid (BB.out.trans (B2.out.mono BB.out.size))
     by_cases hk0 : 0 < k
     · rcases (HE.out.below BW.out).2 with h00 | ⟨b, off, rfl, hbl, hcc⟩
       · omega
       obtain ⟨x0, x1, x2, x3⟩ := hcc i hlt; clear hcc; obtain ⟨j, hj⟩ : ∃ j, j = k - 1 := ⟨_, rfl⟩; have E2 := (OO.out.below B2.out).ens.2.2
       rcases E2 with h00 | ⟨b', off', rfl, hbl', hc'⟩
       · omega
       obtain ⟨y0, y1, y2, y3⟩ := hc' j (by omega); have ji : (j : Int) < (i : Int) := by omega
       have j0 : (0 : Int) ≤ (j : Int) := by omega
       have m2 : (k : Int) - 1 = (j : Int) := by omega
       have m5 : IntKind.i64.wrap ((k : Int) - 1) = (j : Int) := by rw [m2]; simp [IntKind.wrap, IntKind.bits, IntKind.signed]; omega
       have m6 : decide ((0 : Int) < (k : Int)) = true := by simp; omega
       have hjl : j < T.length := by rw [TL.out]; omega
       have NX : Hid (enLt (o i) (enA (T.map Prod.fst) j) → ∀ y ∈ T.drop j, enLt (o i) y.1) := fun q y hy => by
        rw [List.drop_eq_getElem_cons hjl] at hy
        rcases List.mem_cons.1 hy with rfl | hy
        · rw [map_at hjl] at q; exact q
        · rw [show j + 1 = k by omega] at hy; exact DD.out y hy
       have OT : Hid (¬ enLt (o i) (enA (T.map Prod.fst) j) → Sd o (i + 1) (insT T k (o i, i))) := fun q => HT.out.next (.inr ⟨T[j], by rw [← hj, List.getElem?_eq_getElem hjl], by rw [map_at hjl] at q; exact q⟩) DD.out
       generalize enA (T.map Prod.fst) j = Y at y0 y1 y2 y3 NX OT
       obtain ⟨X, hX⟩ : ∃ X, X = o i := ⟨_, rfl⟩; rw [← hX] at x0 x1 x2 x3; have HX := hid hX; clear hX; obtain ⟨X0, X1, X2, X3⟩ := X; obtain ⟨Y0, Y1, Y2, Y3⟩ := Y; dsimp only at x0 x1 x2 x3 y0 y1 y2 y3; have KL := fun wx => hid (sLess X0 X1 X2 X3 Y0 Y1 Y2 Y3 wx); have HJ := hid hj
       cases hls : ltB ⟨X0, X1, X2, X3⟩ ⟨Y0, Y1, Y2, Y3⟩ with
       | true =>
        rw [hls] at KL; have N2 := hid (NX.out (by rw [← HX.out]; exact (ltB_iff _ _).1 hls)); clear hc' hj hls OT NX m2
        go_wp2_with fail
        go_region_held3 (fun wx => (wx.cell? ⟨b, off + i * 4, none⟩ = some (.string X0) ∧ wx.cell? ⟨b, off + i * 4 + 1, none⟩ = some (.int .i64 X1) ∧ wx.cell? ⟨b, off + i * 4 + 2, none⟩ = some (.bool X2) ∧ wx.cell? ⟨b, off + i * 4 + 3, none⟩ = some (.string X3)) ∧ wx.cell? ⟨b', off' + j * 4, none⟩ = some (.string Y0) ∧ wx.cell? ⟨b', off' + j * 4 + 1, none⟩ = some (.int .i64 Y1) ∧ wx.cell? ⟨b', off' + j * 4 + 2, none⟩ = some (.bool Y2) ∧ wx.cell? ⟨b', off' + j * 4 + 3, none⟩ = some (.string Y3))
         (first | exact ⟨⟨x0, x1, x2, x3⟩, y0, y1, y2, y3⟩ | exact ⟨⟨(hb2.cell hbl).trans x0, (hb2.cell hbl).trans x1, (hb2.cell hbl).trans x2, (hb2.cell hbl).trans x3⟩, (hb2.cell hbl').trans y0, (hb2.cell hbl').trans y1, (hb2.cell hbl').trans y2, (hb2.cell hbl').trans y3⟩)
         ((go_at_call 41; refine (KL _).out.mono ?_; rintro e w2 ⟨rfl, hb2⟩))
        have B3 := hid (B2.out.drew.trans (hb2.mono B2.out.size))
        rename_i hHd
        clear hb2 B2 BW x0 x1 x2 x3 y0 y1 y2 y3 KL hHd
        go_wp2
        go_roundw
        case rel => exact ⟨j, by omega, rfl, N2.out, B3.out⟩
        case measure => have := HJ.out; simp [intOf]; omega
       | false =>
        rw [hls] at KL; have SN := hid (OT.out fun q => by rw [← HX.out] at q; rw [ltB_t q] at hls; cases hls); clear hc' hj hls OT NX m2
        go_wp2_with fail
        go_region_held3 (fun wx => (wx.cell? ⟨b, off + i * 4, none⟩ = some (.string X0) ∧ wx.cell? ⟨b, off + i * 4 + 1, none⟩ = some (.int .i64 X1) ∧ wx.cell? ⟨b, off + i * 4 + 2, none⟩ = some (.bool X2) ∧ wx.cell? ⟨b, off + i * 4 + 3, none⟩ = some (.string X3)) ∧ wx.cell? ⟨b', off' + j * 4, none⟩ = some (.string Y0) ∧ wx.cell? ⟨b', off' + j * 4 + 1, none⟩ = some (.int .i64 Y1) ∧ wx.cell? ⟨b', off' + j * 4 + 2, none⟩ = some (.bool Y2) ∧ wx.cell? ⟨b', off' + j * 4 + 3, none⟩ = some (.string Y3))
         (first | exact ⟨⟨x0, x1, x2, x3⟩, y0, y1, y2, y3⟩ | exact ⟨⟨(hb2.cell hbl).trans x0, (hb2.cell hbl).trans x1, (hb2.cell hbl).trans x2, (hb2.cell hbl).trans x3⟩, (hb2.cell hbl').trans y0, (hb2.cell hbl').trans y1, (hb2.cell hbl').trans y2, (hb2.cell hbl').trans y3⟩)
         ((go_at_call 41; refine (KL _).out.mono ?_; rintro e w2 ⟨rfl, hb2⟩))
        have B3 := hid (B2.out.drew.trans (hb2.mono B2.out.size))
        rename_i hHd
        clear hb2 B2 BW x0 x1 x2 x3 y0 y1 y2 y3 KL hHd; have O3 := hid (OO.out.below B3.out); have BX := hid (BB.out.trans (B3.out.mono BB.out.size)); clear B3 OO BB DD HX HJ m5 m6 ji j0 hjl hbl hbl'
        go_wp2_with (at_builtin; refine append_enS w.heap.size _ rfl (.tmp 32) (.tmp 34) rfl _ (T.map Prod.fst) en0 i LN.out rfl O3.out BX.out.size rfl (by omega) ?_; intro g c w4 hO4 hgq hg4)
        have B4 := hid (BX.out.grown hg4 BX.out.size (fun g e => (O3.out.row e).1)); have O4 := hid hO4; have hgb := hgq.1; clear hO4 hg4 hgq
        have T4 : Hid (OwnEn w4 w.heap.size (.slice (some ⟨g, 0, none⟩) (i + 1) c) (shf (T.map Prod.fst) i)) := by
         have e := shf_top (T.map Prod.fst); rw [LN.out] at e; rw [e]; exact O4.out
        clear O4
        go_wp2
        go_loopw [6] (fun q wx => ∃ j : Nat, k ≤ j ∧ j ≤ i ∧ q = .int .i64 (j : Int) ∧ OwnEn wx w.heap.size (.slice (some ⟨g, 0, none⟩) (i + 1) c) (shf (T.map Prod.fst) j) ∧ Below w.heap.size w wx) (fun q _ => (intOf q).toNat)
        case atStart => exact ⟨i, hk, Nat.le_refl _, by go_num, T4.out, B4.out⟩
        case round =>
         obtain ⟨j, hkj, hji, rfl, hO, hB⟩ := hrel; have O5 := hid hO; have B5 := hid hB; clear hO hB T4 B4; have SL : Hid ((shf (T.map Prod.fst) j).length = i + 1) := by show _ = _; rw [shf_len (by rw [LN.out]; exact hji), LN.out]
         by_cases hj : k < j
         · have e1 : (k : Int) < (j : Int) := by omega
           obtain ⟨l, hl⟩ : ∃ l, l = j - 1 := ⟨_, rfl⟩; have m2 : (j : Int) - 1 = (l : Int) := by omega
           have l0 : (0 : Int) ≤ (l : Int) := by omega
           have l1 : (l : Int) < ((i + 1 : Nat) : Int) := by omega
           have j0 : (0 : Int) ≤ (j : Int) := by omega
           have j1 : (j : Int) < ((i + 1 : Nat) : Int) := by omega
           have NX := hid (shf_next (L := T.map Prod.fst) (j := l) (by rw [LN.out]; omega)); rw [show l + 1 = j by omega] at NX
           rcases O5.out.ens.2.2 with h00 | ⟨b', off', hga, hbl', hc'⟩
           · omega
           cases hga
           obtain ⟨y0, y1, y2, y3⟩ := hc' l (by omega); simp only [Nat.zero_add] at y0 y1 y2 y3
           generalize enA (shf (T.map Prod.fst) j) l = Y at y0 y1 y2 y3 NX
           obtain ⟨Y0, Y1, Y2, Y3⟩ := Y; dsimp only at y0 y1 y2 y3; obtain ⟨TH, O6'⟩ := O5.out.put (j := j) (by rw [SL.out]; omega) ⟨Y0, Y1, Y2, Y3⟩; rw [NX.out] at O6'; have O6 := hid O6'; have HTH := hid TH; have B6 := hid (B5.out.grown (setCells_grown (b := g) [.string Y0, .int .i64 Y1, .bool Y2, .string Y3] (j * 4) wr) B5.out.size (fun b e => by cases e; exact hgb)); have HL := hid hl; clear hc' TH O6' NX O5 B5 hl
           go_wp2_with (refine wpList_store_mid rfl 46 (.tmp 51) (.tmp 50) rfl g (j * 4) #[.string Y0, .int .i64 Y1, .bool Y2, .string Y3] rfl rfl HTH.out (by kernel_rfl) (oneEn4 _ _ _ _) ?_)
           go_roundw
           case rel => exact ⟨l, by omega, by omega, by go_num, O6.out, B6.out⟩
           case measure => simp [intOf]; omega
         · have e1 : ¬ (k : Int) < (j : Int) := by omega
           obtain rfl : j = k := by omega
           have BW5 := hid B5.out
           rcases (HE.out.below B5.out).2 with h00 | ⟨b', off', hga, hbl', hc'⟩
           · omega
           cases hga
           obtain ⟨y0, y1, y2, y3⟩ := hc' i hlt; have j0 : (0 : Int) ≤ (j : Int) := by omega
           have j1 : (j : Int) < ((i + 1 : Nat) : Int) := by omega
           have NX := hid (shf_ins (T := T) (k := j) (by rw [TL.out]; exact hji) (o i, i)); obtain ⟨X, hX⟩ : ∃ X, X = o i := ⟨_, rfl⟩; rw [← hX] at y0 y1 y2 y3 NX SN; clear hX; obtain ⟨Y0, Y1, Y2, Y3⟩ := X; dsimp only at y0 y1 y2 y3 NX; obtain ⟨TH, O6'⟩ := O5.out.put (j := j) (by rw [SL.out]; omega) ⟨Y0, Y1, Y2, Y3⟩; rw [NX.out] at O6'; have O6 := hid O6'; have HTH := hid TH; have B6 := hid (B5.out.grown (setCells_grown (b := g) [.string Y0, .int .i64 Y1, .bool Y2, .string Y3] (j * 4) wr) B5.out.size (fun b e => by cases e; exact hgb)); clear hc' TH O6' NX O5 B5
           go_wp2_with (refine wpList_store_mid rfl 46 (.tmp 58) (.tmp 57) rfl g (j * 4) #[.string Y0, .int .i64 Y1, .bool Y2, .string Y3] rfl rfl HTH.out (by kernel_rfl) (oneEn4 _ _ _ _) ?_)
           go_roundw
           case rel => exact ⟨i + 1, _, by omega, by go_num, SN.out, O6.out, B6.out⟩
           case measure => simp [intOf]; omega
     · have hkz : Hid (k = 0) := by show _ = _; omega
       have m6 : decide ((0 : Int) < (k : Int)) = false := by simp; omega
       have SN := hid (HT.out.next (k := k) (.inl hkz.out) DD.out); have BX : Hid (∀ d, Below w.heap.size w (wr.drewN d)) := fun d => below_dN BW.out d; have O3 : Hid (∀ d, OwnEn (wr.drewN d) w.heap.size (.slice av i cv) (T.map Prod.fst)) := fun d => OO.out.below (below_dN B2.out d); clear B2 BW OO BB DD
       go_wp2_with fail
       go_quiet (fail)
       go_wp2_with (at_builtin; refine append_enS w.heap.size _ rfl (.tmp 32) (.tmp 34) rfl _ (T.map Prod.fst) en0 i LN.out rfl (O3.out _) (BX.out _).size rfl (by omega) ?_; intro g c w4 hO4 hgq hg4)
       have B4 := hid ((BX.out _).grown hg4 (BX.out _).size (fun g e => ((O3.out 0).row e).1)); have O4 := hid hO4; have hgb := hgq.1; clear hO4 hg4 hgq
       have T4 : Hid (OwnEn w4 w.heap.size (.slice (some ⟨g, 0, none⟩) (i + 1) c) (shf (T.map Prod.fst) i)) := by
        have e := shf_top (T.map Prod.fst); rw [LN.out] at e; rw [e]; exact O4.out
       clear O4
       go_wp2
       go_loopw [6] (fun q wx => ∃ j : Nat, k ≤ j ∧ j ≤ i ∧ q = .int .i64 (j : Int) ∧ OwnEn wx w.heap.size (.slice (some ⟨g, 0, none⟩) (i + 1) c) (shf (T.map Prod.fst) j) ∧ Below w.heap.size w wx) (fun q _ => (intOf q).toNat)
       case atStart => exact ⟨i, hk, Nat.le_refl _, by go_num, T4.out, B4.out⟩
       case round =>
        obtain ⟨j, hkj, hji, rfl, hO, hB⟩ := hrel; have O5 := hid hO; have B5 := hid hB; clear hO hB T4 B4; have SL : Hid ((shf (T.map Prod.fst) j).length = i + 1) := by show _ = _; rw [shf_len (by rw [LN.out]; exact hji), LN.out]
        by_cases hj : k < j
        · have e1 : (k : Int) < (j : Int) := by omega
          obtain ⟨l, hl⟩ : ∃ l, l = j - 1 := ⟨_, rfl⟩; have m2 : (j : Int) - 1 = (l : Int) := by omega
          have l0 : (0 : Int) ≤ (l : Int) := by omega
          have l1 : (l : Int) < ((i + 1 : Nat) : Int) := by omega
          have j0 : (0 : Int) ≤ (j : Int) := by omega
          have j1 : (j : Int) < ((i + 1 : Nat) : Int) := by omega
          have NX := hid (shf_next (L := T.map Prod.fst) (j := l) (by rw [LN.out]; omega)); rw [show l + 1 = j by omega] at NX
          rcases O5.out.ens.2.2 with h00 | ⟨b', off', hga, hbl', hc'⟩
          · omega
          cases hga
          obtain ⟨y0, y1, y2, y3⟩ := hc' l (by omega); simp only [Nat.zero_add] at y0 y1 y2 y3
          generalize enA (shf (T.map Prod.fst) j) l = Y at y0 y1 y2 y3 NX
          obtain ⟨Y0, Y1, Y2, Y3⟩ := Y; dsimp only at y0 y1 y2 y3; obtain ⟨TH, O6'⟩ := O5.out.put (j := j) (by rw [SL.out]; omega) ⟨Y0, Y1, Y2, Y3⟩; rw [NX.out] at O6'; have O6 := hid O6'; have HTH := hid TH; have B6 := hid (B5.out.grown (setCells_grown (b := g) [.string Y0, .int .i64 Y1, .bool Y2, .string Y3] (j * 4) wr) B5.out.size (fun b e => by cases e; exact hgb)); have HL := hid hl; clear hc' TH O6' NX O5 B5 hl
          go_wp2_with (refine wpList_store_mid rfl 46 (.tmp 51) (.tmp 50) rfl g (j * 4) #[.string Y0, .int .i64 Y1, .bool Y2, .string Y3] rfl rfl HTH.out (by kernel_rfl) (oneEn4 _ _ _ _) ?_)
          go_roundw
          case rel => exact ⟨l, by omega, by omega, by go_num, O6.out, B6.out⟩
          case measure => simp [intOf]; omega
        · have e1 : ¬ (k : Int) < (j : Int) := by omega
          obtain rfl : j = k := by omega
          have BW5 := hid B5.out
          rcases (HE.out.below B5.out).2 with h00 | ⟨b', off', hga, hbl', hc'⟩
          · omega
          cases hga
          obtain ⟨y0, y1, y2, y3⟩ := hc' i hlt; have j0 : (0 : Int) ≤ (j : Int) := by omega
          have j1 : (j : Int) < ((i + 1 : Nat) : Int) := by omega
          have NX := hid (shf_ins (T := T) (k := j) (by rw [TL.out]; exact hji) (o i, i)); obtain ⟨X, hX⟩ : ∃ X, X = o i := ⟨_, rfl⟩; rw [← hX] at y0 y1 y2 y3 NX SN; clear hX; obtain ⟨Y0, Y1, Y2, Y3⟩ := X; dsimp only at y0 y1 y2 y3 NX; obtain ⟨TH, O6'⟩ := O5.out.put (j := j) (by rw [SL.out]; omega) ⟨Y0, Y1, Y2, Y3⟩; rw [NX.out] at O6'; have O6 := hid O6'; have HTH := hid TH; have B6 := hid (B5.out.grown (setCells_grown (b := g) [.string Y0, .int .i64 Y1, .bool Y2, .string Y3] (j * 4) wr) B5.out.size (fun b e => by cases e; exact hgb)); clear hc' TH O6' NX O5 B5
          go_wp2_with (refine wpList_store_mid rfl 46 (.tmp 58) (.tmp 57) rfl g (j * 4) #[.string Y0, .int .i64 Y1, .bool Y2, .string Y3] rfl rfl HTH.out (by kernel_rfl) (oneEn4 _ _ _ _) ?_)
          go_roundw
          case rel => exact ⟨i + 1, _, by omega, by go_num, SN.out, O6.out, B6.out⟩
          case measure => simp [intOf]; omega
  · have d0 : ¬ (i : Int) < (n : Int) := by omega
    have ei : i = n := by omega
    have E : Hid (T = S) := by subst ei; exact HT.out.uniq HS.out
    clear ei; have O2 : Hid (OwnEn WR w.heap.size (.slice av i cv) (S.map Prod.fst)) := by rw [← E.out]; exact OO.out
    go_wp2
    go_ret
    exact ⟨⟨_, rfl, O2.out⟩, BB.out⟩
end Go.Proofs.YtcbmgpdpjagaoaaGreat
