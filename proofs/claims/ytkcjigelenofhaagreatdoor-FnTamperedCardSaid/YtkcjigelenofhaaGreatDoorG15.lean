import Derived.Test.YtkcjigelenofhaaGreatDoorICkR
namespace Go.Proofs.YtkcjigelenofhaaGreatDoor
open Go.RowKit
theorem strs_row {w : World} {b : Nat} {L : List ByteArray} (h : RowAt w b 9 (L.map Value.string).toArray) : Strs w (some ⟨b, 0, none⟩) L.length L.length (tAt L) := by
 refine ⟨Nat.le_refl _, .inr ⟨b, 0, rfl, h.lt, fun i hi => ?_⟩⟩
 rw [Nat.zero_add, h.cell]
 unfold tAt
 simp [hi]
theorem ba_size0c {x : ByteArray} (h : x.size = 0) : x = ⟨#[]⟩ := by
 cases x with
 | mk d => congr 1; exact Array.eq_empty_of_size_eq_zero h
def SgAt (w : World) (sA : Option Addr) (mc : Nat) (L : List ByteArray) : Prop := L = [] ∨ ∃ b, sA = some ⟨b, 0, none⟩ ∧ mc = L.length ∧ RowAt w b 9 (L.map Value.string).toArray
theorem SgAt.strs {w : World} {sA : Option Addr} {mc : Nat} {L : List ByteArray} (h : SgAt w sA mc L) : Strs w sA L.length mc (tAt L) := by
 rcases h with rfl | ⟨b, rfl, rfl, h⟩
 · exact ⟨Nat.zero_le _, .inl rfl⟩
 · exact strs_row h
theorem SgAt.below {w w' : World} {sA : Option Addr} {mc : Nat} {L : List ByteArray} (h : SgAt w sA mc L) (hb : Below w.heap.size w w') : SgAt w' sA mc L := by
 rcases h with h | ⟨b, h1, h2, h⟩
 · exact .inl h
 · exact .inr ⟨b, h1, h2, RowAt.nxS hb h⟩
theorem SgAt.set {w : World} {sA : Option Addr} {mc : Nat} {L : List ByteArray} (h : SgAt w sA mc L) {X : Nat} {t : TypeId} {cs : Array Value} (hr : RowAt w X t cs) (ht : t ≠ 9) (k : Nat) (v : Value) : SgAt (w.setCell ⟨X, k, none⟩ v) sA mc L := by
 rcases h with h | ⟨b, h1, h2, h⟩
 · exact .inl h
 · refine .inr ⟨b, h1, h2, h.other _ _ fun e => ?_⟩
   subst e
   unfold RowAt at h hr
   rw [h] at hr
   cases hr
   exact ht rfl
set_option maxRecDepth 20000 in
set_option maxHeartbeats 4000000 in
theorem iRSig (qb qo cap : Nat) (V0 V1 V2 V3 : ByteArray) (h1 : V1.size ≤ 1048576) (h2 : V2.size ≤ 1048576) (h3 : V3.size ≤ 1048576) (w : World) (hv : RdV w)
 (hc : ∀ wx, Below w.heap.size w wx → wx.cell? ⟨qb, qo + 1, none⟩ = some (.string V0) ∧ wx.cell? ⟨qb, qo + 3, none⟩ = some (.string V1) ∧ wx.cell? ⟨qb, qo + 5, none⟩ = some (.string V2) ∧ wx.cell? ⟨qb, qo + 7, none⟩ = some (.string V3)) :
 Calls Tryz.prog 92 #[.slice (some ⟨qb, qo, none⟩) 5 cap] w fun e w' => (∃ z1 z2 sA mc, e = .returned (.agg #[.string V0, .int .i64 z1, .int .i64 z2, .slice sA (sgT V3).length mc]) ∧ decO2 V1.data.toList z1 ∧ decO2 V2.data.toList z2 ∧ SgAt w' sA mc (sgT V3)) ∧ Below w.heap.size w w' := by
 obtain ⟨W1, hW1⟩ : ∃ W, W = w.alloc (.cells #[.string ⟨#[]⟩, .int .i64 0, .int .i64 0, .slice none 0 0] 72) := ⟨_, rfl⟩
 have X2 : Hid (RowAt W1 w.heap.size 72 #[.string ⟨#[]⟩, .int .i64 0, .int .i64 0, .slice none 0 0]) := by rw [hW1]; exact RowAt.new _ _ _
 have B1 : Hid (Below w.heap.size w W1) := by rw [hW1]; exact (Below.refl _ _).alloc (Nat.le_refl _) _
 have s1 : w.heap.size < W1.heap.size := X2.out.lt
 have HC := hid hc
 have HV := hid hv
 have HW := hid hW1
 clear hc hv hW1
 go_enter Tryz.func92, Tryz.ntmps92
 go_upto_region 1 with fail
 rw [← HW.out]
 clear HW
 refine rs1_wp W1 qb qo cap V0 V1 V2 W1 (Below.refl _ _) (fun wx hx => have q := HC.out wx (B1.out.trans (hx.mono B1.out.size)); ⟨q.1, q.2.1, q.2.2.1⟩) (fun wx hx => iRDec2 V1 h1 wx (HV.out.below (B1.out.trans (hx.mono B1.out.size)))) (fun wx hx => iRDec2 V2 h2 wx (HV.out.below (B1.out.trans (hx.mono B1.out.size)))) ?_
 intro z1 z2 XA w2 hB _ _ _ hd1 hd2 hXA
 have D1 := hid hd1
 have D2 := hid hd2
 have XR := hid hXA.1
 have xl : W1.heap.size ≤ XA := hXA.2
 have xs := hXA.1.lt
 have B2 := hid (B1.out.trans (hB.mono B1.out.size))
 have X22 := hid (RowAt.nxS hB X2.out)
 have y3 := (HC.out w2 B2.out).2.2.2
 have KS := hid (iSplitS V3 h3 w2 (HV.out.below B2.out))
 clear hd1 hd2 hXA hB X2 B1 HC HV
 obtain ⟨b3, hb3⟩ : ∃ b, b = (V3.toList == []) := ⟨_, rfl⟩
 have BQ3 : (V3.toList == []) = b3 := hb3.symm
 have e00 : (⟨#[]⟩ : ByteArray).toList = [] := by rw [show (⟨#[]⟩ : ByteArray).toList = (⟨#[]⟩ : ByteArray).data.toList from ByteArray.toList_eq ..]
 have BQ4 : (V3.toList == (⟨#[]⟩ : ByteArray).toList) = b3 := by rw [e00]; exact BQ3
 have BZ : Hid (b3 = decide (V3 = ⟨#[]⟩)) := by show _ = _; rw [← BQ4, ba_beqS2]
 clear hb3
 cases b3 with
 | true =>
  have ez : V3 = ⟨#[]⟩ := of_decide_eq_true BZ.out.symm
  have HS : Hid (sgT V3 = []) := by show _ = _; unfold sgT; rw [ez]; rfl
  clear ez KS
  have r0 := XR.out.cell 0
  have r1 := XR.out.cell 1
  have r2 := XR.out.cell 2
  have r3 := XR.out.cell 3
  go_wp2_with (refine wpList_store_row rfl 72 (.tmp 2) (.tmp 29) rfl w.heap.size #[.string V0, .int .i64 z1, .int .i64 z2, .slice none 0 0] rfl rfl _ _ X22.out (by kernel_rfl) rfl (by simp [Value.oneCell']) ?_)
  refine bodyPost_ret (v := .agg #[.string V0, .int .i64 z1, .int .i64 z2, .slice none 0 0]) ?_ rfl ⟨⟨z1, z2, none, 0, by rw [HS.out]; rfl, D1.out, D2.out, by rw [HS.out]; exact .inl rfl⟩, below_setRow B2.out _ _ (Nat.le_refl _)⟩
  exact results_cell_row Tryz.results92 _ _ w.heap.size _ _ _ _ rfl (X22.out.setRow _) Tryz.underlying72 rfl (by kernel_rfl)
 | false =>
  have HS : Hid (sgT V3 = splB 44 V3) := by show _ = _; unfold sgT; exact if_neg fun h => by have := BZ.out; rw [ba_size0c h] at this; simp at this
  obtain ⟨L, hL⟩ : ∃ L, L = splB 44 V3 := ⟨_, rfl⟩
  rw [← hL] at KS HS
  obtain ⟨m, hm⟩ : ∃ m, m = L.length := ⟨_, rfl⟩
  rw [← hm] at KS
  have HM := hid hm
  clear hL hm
  go_wp2_with fail
  refine KS.out.mono ?_
  rintro e w3 ⟨rfl, hw3⟩
  have R3 : RowAt w3 w2.heap.size 9 (L.map Value.string).toArray := by rw [hw3]; exact RowAt.new _ _ _
  have XR3 : RowAt w3 XA 72 #[.string V0, .int .i64 z1, .int .i64 z2, .slice none 0 0] := by rw [hw3]; exact XR.out.alloc _
  have X23 : RowAt w3 w.heap.size 72 #[.string ⟨#[]⟩, .int .i64 0, .int .i64 0, .slice none 0 0] := by rw [hw3]; exact X22.out.alloc _
  have B3 : Below w.heap.size w w3 := by rw [hw3]; exact B2.out.alloc B2.out.size _
  obtain ⟨W4, hW4⟩ : ∃ W, W = w3.setCell ⟨XA, 3, none⟩ (.slice (some ⟨w2.heap.size, 0, none⟩) m m) := ⟨_, rfl⟩
  have R4 : RowAt W4 w2.heap.size 9 (L.map Value.string).toArray := by rw [hW4]; exact R3.other _ _ (by simp; omega)
  have XR4 : RowAt W4 XA 72 #[.string V0, .int .i64 z1, .int .i64 z2, .slice (some ⟨w2.heap.size, 0, none⟩) m m] := by rw [hW4]; exact XR3.set 3 _
  have X24 : RowAt W4 w.heap.size 72 #[.string ⟨#[]⟩, .int .i64 0, .int .i64 0, .slice none 0 0] := by rw [hW4]; exact X23.other _ _ (by simp; omega)
  have B4 : Below w.heap.size w W4 := by rw [hW4]; exact B3.setCell (by simp; omega) _
  have q3 := XR3.cell 3
  have f3 := XR3.free 3
  have r0 := XR4.cell 0
  have r1 := XR4.cell 1
  have r2 := XR4.cell 2
  have r3 := XR4.cell 3
  have HW4 := hid hW4
  have HR4 := hid R4
  have HX24 := hid X24
  have HB4 := hid B4
  have w2s : w.heap.size ≠ w2.heap.size := by omega
  clear hw3 R3 XR3 X23 B3 hW4 R4 XR4 X24 B4 y3 KS
  go_upto_region 5 with fail
  rw [← HW4.out]
  clear HW4 q3 f3
  go_wp2_with (refine wpList_store_row rfl 72 (.tmp 2) (.tmp 29) rfl w.heap.size #[.string V0, .int .i64 z1, .int .i64 z2, .slice (some ⟨w2.heap.size, 0, none⟩) m m] rfl rfl _ _ HX24.out (by kernel_rfl) rfl (by simp [Value.oneCell']) ?_)
  refine bodyPost_ret (v := .agg #[.string V0, .int .i64 z1, .int .i64 z2, .slice (some ⟨w2.heap.size, 0, none⟩) m m]) ?_ rfl ⟨⟨z1, z2, some ⟨w2.heap.size, 0, none⟩, m, by rw [HS.out, HM.out], D1.out, D2.out, by rw [HS.out]; exact .inr ⟨_, rfl, HM.out, HR4.out.otherRow _ _ (Ne.symm w2s)⟩⟩, below_setRow HB4.out _ _ (Nat.le_refl _)⟩
  exact results_cell_row Tryz.results92 _ _ w.heap.size _ _ _ _ rfl (HX24.out.setRow _) Tryz.underlying72 rfl (by kernel_rfl)
end Go.Proofs.YtkcjigelenofhaaGreatDoor
namespace Go.Proofs.YtkcjigelenofhaaGreatDoor
open Go.RowKit
theorem itoa_nat (n : Nat) : Lib.itoa (n : Int) = Lib.decDigits n := by
 unfold Lib.itoa
 rw [if_neg (by omega)]
 simp
theorem dec_tm {V : ByteArray} {z : Int} (h : decO V.data.toList z) : (V = ofL (Lib.itoa z) ∧ tmS z) ↔ tmP V := by
 constructor
 · rintro ⟨h1, h2⟩
   obtain ⟨n, rfl⟩ : ∃ n : Nat, z = (n : Int) := ⟨z.toNat, by have := h2.1; omega⟩
   exact ⟨n, by have := h2.2; omega, ((h.2 n).1 rfl).2⟩
 · rintro ⟨n, h1, h2⟩
   have e : z = (n : Int) := (h.2 n).2 ⟨by omega, h2⟩
   subst e
   refine ⟨?_, ?_⟩
   · rw [itoa_nat, ← h2]; exact ofL_of rfl
   · exact ⟨by omega, by omega⟩
theorem dec_tmV {V : ByteArray} {z : Int} (h : decO V.data.toList z) (h1 : tmP V) : z = (numL V.data.toList : Int) := by
 obtain ⟨n, h2, h3⟩ := h1
 rw [h3, numL_dec]
 exact (h.2 n).2 ⟨by omega, h3⟩
theorem dec_sm {V : ByteArray} {z : Int} (h : decO V.data.toList z) : (0 ≤ z ∧ z < 2147483647) ↔ smP V := by
 constructor
 · rintro ⟨h1, h2⟩
   obtain ⟨n, rfl⟩ : ∃ n : Nat, z = (n : Int) := ⟨z.toNat, by omega⟩
   exact ⟨n, by omega, ((h.2 n).1 rfl).2⟩
 · rintro ⟨n, h1, h2⟩
   have e : z = (n : Int) := (h.2 n).2 ⟨by omega, h2⟩
   subst e
   omega
theorem dec_smV {V : ByteArray} {z : Int} (h : decO V.data.toList z) (h1 : smP V) : z = (numL V.data.toList : Int) := by
 obtain ⟨n, h2, h3⟩ := h1
 rw [h3, numL_dec]
 exact (h.2 n).2 ⟨by omega, h3⟩
theorem jl_tAt (L : List ByteArray) : jl (tAt L) L.length = L.map (·.data.toList) := by
 unfold jl tAt
 apply List.ext_getElem
 · simp
 · intro i h1 h2
   simp at h1
   simp [h1]
theorem splB_map (s : ByteArray) : (splB 44 s).map (·.data.toList) = splA 44 [] s.data.toList := by
 rw [← split_splB]
 exact split_splA s.size s (Nat.le_refl _)
set_option maxRecDepth 20000 in
theorem iDecA (v : Int) (b0 : -9223372036854775808 ≤ v) (b1 : v ≤ 9223372036854775807) (w : World) (hv : RdV w) :
 Calls Tryz.prog 45 #[.int .i64 v] w fun e w' => e = .returned (.string (ofL (Lib.itoa v))) ∧ Below w.heap.size w w' := by
 have K := hid (iFmtA v b0 b1 w hv)
 go_enter Tryz.func45, Tryz.ntmps45
 go_wp2_with fail
 refine K.out.mono ?_
 rintro e w1 ⟨rfl, hb⟩
 have B := hid hb
 clear hb
 go_wp2
 go_ret
 exact ⟨rfl, B.out⟩
theorem iJoinG (a : Option Addr) (n cap : Nat) (ts : Nat → ByteArray) (sep : ByteArray) (hn : 1 ≤ n) (hN : n ≤ 1048577) (hl : (Lib.join (jl ts n) sep.data.toList).length ≤ 140737488355328) (w : World) (h : Strs w a n cap ts) :
 Calls Tryz.prog 82 #[.slice a n cap, .string sep] w fun e w' => e = .returned (.string ⟨(Lib.join (jl ts n) sep.data.toList).toArray⟩) ∧ Below w.heap.size w w' := by
 rcases h.2 with h0 | ⟨b, off, rfl, hbl, hc⟩
 · omega
 have e1 : ((List.range n).map ts).length = n := by simp
 have e2 : ((List.range n).map ts).map (·.data.toList) = jl ts n := by unfold jl; simp
 have := Any.strings_Join wr_Lays_n156 wrExtra b off cap ((List.range n).map ts) sep w (fun j x hx => by
  rw [List.getElem?_map] at hx
  obtain ⟨i, hi, rfl⟩ := Option.map_eq_some_iff.1 hx
  have hj : j < n := by
   rcases Nat.lt_or_ge j n with h' | h'
   · exact h'
   · rw [List.getElem?_eq_none (by simp; exact h')] at hi; cases hi
  rw [List.getElem?_range hj] at hi
  cases hi
  exact hc j hj) hbl (by omega) (by rw [e1]; exact h.1) (by rw [e2]; exact hl)
 rw [e1, e2] at this
 exact this
theorem iJoinS (V : ByteArray) (hV : V.size ≤ 1048576) (a : Option Addr) (cap : Nat) (w : World) (h : Strs w a (sgT V).length cap (tAt (sgT V))) :
 Calls Tryz.prog 82 #[.slice a (sgT V).length cap, .string ⟨#[44]⟩] w fun e w' => e = .returned (.string V) ∧ Below w.heap.size w w' := by
 by_cases hz : V.size = 0
 · have e : sgT V = [] := by unfold sgT; rw [if_pos hz]
   rw [e] at h ⊢
   have := iJoin0 a cap ⟨#[44]⟩ w
   rw [← ba_size0c hz] at this
   exact this
 · have e : sgT V = splB 44 V := by unfold sgT; rw [if_neg hz]
   rw [e] at h ⊢
   have ej : Lib.join (jl (tAt (splB 44 V)) (splB 44 V).length) [44] = V.data.toList := by
    rw [jl_tAt, splB_map, join_splA]
    rfl
   have hl : V.data.toList.length = V.size := by simp
   have := iJoinG a (splB 44 V).length cap (tAt (splB 44 V)) ⟨#[44]⟩ (by have := (splA_len 44 V.data.toList []).1; unfold splB; rw [List.length_map]; exact this) (by have := (splA_len 44 V.data.toList []).2; unfold splB; rw [List.length_map]; omega) (by show (Lib.join _ [44]).length ≤ _; rw [ej]; omega) w h
   rw [show (⟨#[44]⟩ : ByteArray).data.toList = [44] from rfl, ej] at this
   exact this
theorem iSPairsV (V0 V3 : ByteArray) (hV : V3.size ≤ 1048576) (z1 z2 : Int) (b1 : -9223372036854775808 ≤ z1 ∧ z1 ≤ 9223372036854775807) (b2 : -9223372036854775808 ≤ z2 ∧ z2 ≤ 9223372036854775807) (tA : Option Addr) (mc : Nat) (w : World) (hv : RdV w) (hS : Strs w tA (sgT V3).length mc (tAt (sgT V3))) :
 Calls Tryz.prog 43 #[.agg #[.string V0, .int .i64 z1, .int .i64 z2, .slice tA (sgT V3).length mc]] w fun e w' => ∃ X, e = .returned (.slice (some ⟨X, 0, none⟩) 4 4) ∧ Hps w' (some ⟨X, 0, none⟩) 4 4 (hAt (sg4B V0 (ofL (Lib.itoa z1)) (ofL (Lib.itoa z2)) V3)) ∧ Below w.heap.size w w' :=
 iSPairsG V0 (ofL (Lib.itoa z1)) (ofL (Lib.itoa z2)) V3 z1 z2 tA _ mc w
  (fun wx hx => iDecA z1 b1.1 b1.2 wx (hv.below hx))
  (fun wx hx => iDecA z2 b2.1 b2.2 wx (hv.below hx))
  (fun wx hx => iJoinS V3 hV tA mc wx (hS.below hx))
end Go.Proofs.YtkcjigelenofhaaGreatDoor
namespace Go.Proofs.YtkcjigelenofhaaGreatDoor
open Go.RowKit
theorem eq_four {V0 D1 D2 V3 : ByteArray} {o : Nat → Hp} : eqH 4 (hAt (sg4B V0 D1 D2 V3)) 4 o ↔ ((o 0).nm = ckNm 0 ∧ (o 0).vl = V0) ∧ ((o 1).nm = ckNm 1 ∧ (o 1).vl = D1) ∧ ((o 2).nm = ckNm 2 ∧ (o 2).vl = D2) ∧ ((o 3).nm = ckNm 3 ∧ (o 3).vl = V3) := by
 constructor
 · rintro ⟨_, h⟩
   have h0 := h 0 (by omega)
   have h1 := h 1 (by omega)
   have h2 := h 2 (by omega)
   have h3 := h 3 (by omega)
   exact ⟨⟨h0.1.symm, h0.2.symm⟩, ⟨h1.1.symm, h1.2.symm⟩, ⟨h2.1.symm, h2.2.symm⟩, ⟨h3.1.symm, h3.2.symm⟩⟩
 · rintro ⟨h0, h1, h2, h3⟩
   refine ⟨rfl, fun i hi => ?_⟩
   rcases (by omega : i = 0 ∨ i = 1 ∨ i = 2 ∨ i = 3) with rfl | rfl | rfl | rfl
   · exact ⟨h0.1.symm, h0.2.symm⟩
   · exact ⟨h1.1.symm, h1.2.symm⟩
   · exact ⟨h2.1.symm, h2.2.symm⟩
   · exact ⟨h3.1.symm, h3.2.symm⟩
theorem ckP_iff {r : Rq} {nn : Nat} {z1 z2 z4 : Int} (hr : rqP r) (hn : r.qs.n = nn + 5) (h1 : decO (ckV r 1).data.toList z1) (h2 : decO (ckV r 2).data.toList z2) (h4 : decO (ckV r 4).data.toList z4) :
 ckP r ↔ (eqH 4 (hAt (sg4B (ckV r 0) (ofL (Lib.itoa z1)) (ofL (Lib.itoa z2)) (ckV r 3))) 4 (fun i => r.qs.o (nn + i)) ∧ (r.qs.o (nn + 4)).nm = ckNm 4) ∧ ftP (ckV r 0) z1 z2 nn r.qs.o r.hs.n r.hs.o (tAt (ckS r)) (ckS r).length ∧ 0 ≤ z4 ∧ z4 < 2147483647 := by
 have eV : ∀ k, ckV r k = (r.qs.o (nn + k)).vl := fun k => by unfold ckV; rw [hn, Nat.add_sub_cancel]
 have eO : ∀ k, k < 5 → (ckO r (nn + k) ↔ (r.qs.o (nn + k)).nm = ckNm k) := fun k hk => by
  unfold ckO
  rw [hn, Nat.add_sub_cancel, if_neg (by omega), show nn + k - nn = k by omega]
 have eN : ∀ i, i < nn → (ckO r i ↔ ¬ bgP (r.qs.o i).nm xd) := fun i hi => by
  unfold ckO
  rw [hn, Nat.add_sub_cancel, if_pos hi]
  rfl
 rw [eq_four]
 constructor
 · rintro ⟨_, _, hO, hI, hT1, hT2, hS, hM⟩
   have n0 := (eO 0 (by omega)).1 (hO _ (by omega))
   have n1 := (eO 1 (by omega)).1 (hO _ (by omega))
   have n2 := (eO 2 (by omega)).1 (hO _ (by omega))
   have n3 := (eO 3 (by omega)).1 (hO _ (by omega))
   have n4 := (eO 4 (by omega)).1 (hO _ (by omega))
   have d1 := (dec_tm h1).2 hT1
   have d2 := (dec_tm h2).2 hT2
   refine ⟨⟨⟨⟨n0, (eV 0).symm⟩, ⟨n1, (eV 1).symm.trans d1.1⟩, ⟨n2, (eV 2).symm.trans d2.1⟩, ⟨n3, (eV 3).symm⟩⟩, n4⟩, ⟨?_, hI, d1.2, d2.2, hS⟩, (dec_sm h4).2 hM⟩
   rintro ⟨i, hi, hb⟩
   exact (eN i hi).1 (hO i (by omega)) hb
 · rintro ⟨⟨⟨⟨n0, _⟩, ⟨n1, v1⟩, ⟨n2, v2⟩, ⟨n3, _⟩⟩, n4⟩, ⟨hk, hI, t1, t2, hS⟩, hz⟩
   refine ⟨hr, by omega, fun i hi => ?_, hI, (dec_tm h1).1 ⟨(eV 1).trans v1, t1⟩, (dec_tm h2).1 ⟨(eV 2).trans v2, t2⟩, hS, (dec_sm h4).1 hz⟩
   by_cases hin : i < nn
   · exact (eN i hin).2 fun hb => hk ⟨i, hin, hb⟩
   · obtain ⟨k, rfl⟩ : ∃ k, i = nn + k := ⟨i - nn, by omega⟩
     refine (eO k (by omega)).2 ?_
     rcases (by omega : k = 0 ∨ k = 1 ∨ k = 2 ∨ k = 3 ∨ k = 4) with rfl | rfl | rfl | rfl | rfl
     · exact n0
     · exact n1
     · exact n2
     · exact n3
     · exact n4
end Go.Proofs.YtkcjigelenofhaaGreatDoor
