import Derived.Test.YtcbmgpdpjagaoaaGreatE2
import Derived.Test.YtcbmgpdpjagaoaaGreatM1
namespace Go.Proofs.YtcbmgpdpjagaoaaGreat
open Go.RowKit Go.Shelf Go.Maps
def oDkN0 : Oper := { dst := some 25, op := Op.move (Operand.tmp 3), type := 61, pos := "l08_runs.go:323", after := #[], guard := none }
def oDkN1 : Oper := { dst := some 26, op := Op.nilCheck (Operand.tmp 25), type := 0, pos := "l08_runs.go:323", after := #[{ on := 0, ground := Ground.data }], guard := none }
def oDkN2 : Oper := { dst := some 27, op := Op.fieldAddr 79 (Operand.tmp 26) 2, type := 0, pos := "l08_runs.go:323", after := #[{ on := 1, ground := Ground.data }], guard := none }
def oDkN3 : Oper := { dst := some 28, op := Op.load 76 (Operand.tmp 27), type := 76, pos := "l08_runs.go:323", after := #[{ on := 2, ground := Ground.data }], guard := none }
def oDkN4 : Oper := { dst := some 29, op := Op.load 46 (Operand.tmp 5), type := 46, pos := "l08_runs.go:323", after := #[], guard := none }
def oDkN5 : Oper := { dst := some 31, op := Op.load 46 (Operand.tmp 5), type := 46, pos := "l08_runs.go:323", after := #[], guard := none }
theorem sADkN {α : Type} (l : List α) (i : Nat) (a : α) : l.toArray.setIfInBounds i a = (l.set i a).toArray := by simp
theorem sBDkN {α : Type} (x a : α) (l : List α) : (x :: l).set 0 a = a :: l := rfl
theorem sCDkN {α : Type} (x a : α) (l : List α) (i : Nat) : (x :: l).set (i + 1) a = x :: l.set i a := rfl
set_option linter.unusedVariables false
theorem lockH8 {P : Prop} (h : Hid P) : P := h.out
def rnsL (R : Nat → Rn) (m : Nat) : List (List En) := (List.range m).map fun k => (List.range (R k).n).map (R k).o
theorem rnsL_succ (R : Nat → Rn) (m : Nat) : rnsL R (m + 1) = rnsL R m ++ [(List.range (R m).n).map (R m).o] := by unfold rnsL; rw [List.range_succ, List.map_append]; rfl
theorem grown_row {W W1 : World} {base k n : Nat} {t : TypeId} {v : Value} {cs : List Value} (h : W.ownsRow base t k v n cs) (hg : W.grownBy W1 v.ownBlock) {g : Nat} {ty : TypeId} {c : Array Value} (r : RA W g ty c) (hn : ty ≠ t) : RA W1 g ty c :=
 (hg.block g r.lt (fun e => by obtain ⟨_, _, cs', r'⟩ := or_row h e.symm; exact row_ne r r' hn rfl)).trans r
set_option maxRecDepth 20000 in
set_option maxHeartbeats 8000000 in
theorem iCopyRuns (a : Option Addr) (m cap : Nat) (R : Nat → Rn) (hm : m ≤ 1048576) (hz : RnSz R m) (w : World) (h : Rns w a m cap R) :
 Calls Tryz.prog 42 #[.slice a m cap] w fun e w' => (∃ (v : Value) (Q : List (Value × List En)), e = .returned v ∧ w'.ownsRow w.heap.size 25 1 v Q.length (Q.map Prod.fst) ∧ (∀ p ∈ Q, OwnEn w' w.heap.size p.1 p.2) ∧ Q.map Prod.snd = rnsL R m) ∧ Below w.heap.size w w' := by
 have HH := hid h; have HZ := hid hz; clear h hz
 go_enter Tryz.func42, Tryz.ntmps42
 go_wp2_with fail
 go_loopw [3, 8] (fun v i wr => ∃ (k : Nat) (V : Value) (Q : List (Value × List En)), k ≤ m ∧ V = v ∧ i = .int .i64 (k : Int) ∧ wr.ownsRow w.heap.size 25 1 V Q.length (Q.map Prod.fst) ∧ (∀ p ∈ Q, OwnEn wr w.heap.size p.1 p.2) ∧ Q.map Prod.snd = rnsL R k ∧ Below w.heap.size w wr) (fun _ i _ => m - (intOf i).toNat)
 case atStart => exact ⟨0, _, [], Nat.zero_le _, rfl, rfl, ⟨rfl, .inl ⟨rfl, rfl⟩⟩, (fun p hp => by cases hp), rfl, Below.refl _ _⟩
 case round =>
  obtain ⟨k, V, Q, hk, rfl, rfl, hO, hU, hE, hB⟩ := hrel; have OO := hid hO; have UU := hid hU; have EE := hid hE; have BB := hid hB; have QL : Hid (Q.length = k) := by show _ = _; have := congrArg List.length hE; simpa [rnsL] using this
  obtain ⟨av, cv, hv⟩ := or_slice hO; obtain ⟨nv, hnv⟩ : ∃ x, x = Q.length := ⟨_, rfl⟩; rw [← hnv] at hv; have HNV := hid hnv; clear hO hU hE hB hnv; subst hv
  by_cases hlt : k < m
  · have d0 : (k : Int) < (m : Int) := by omega
    have k0 : (0 : Int) ≤ (k : Int) := by omega
    rcases (HH.out.below BB.out).2.1 with h00 | ⟨b, off, rfl, hbl, hcc⟩
    · omega
    have c0 := hcc k hlt; have hE3 := (HH.out.below BB.out).2.2 k hlt; have hZ3 := HZ.out k hlt; have HS : Hid (rnsL R (k + 1) = rnsL R k ++ [(List.range (R k).n).map (R k).o]) := rnsL_succ R k; obtain ⟨A, N, C, o, hR⟩ : ∃ A N C o, R k = ⟨A, N, C, o⟩ := ⟨_, _, _, _, rfl⟩; rw [hR] at c0 hE3 hZ3 HS; dsimp only at c0 hE3 hZ3 HS; obtain ⟨W1, hW1⟩ : ∃ W, W = wr.alloc (.cells #[.slice A N C] 25) := ⟨_, rfl⟩; have b1 : Hid (Below wr.heap.size wr W1) := by rw [hW1]; exact (Below.refl _ _).alloc (Nat.le_refl _) _
    have X1 : Hid (RA W1 wr.heap.size 25 #[.slice A N C]) := by rw [hW1]; exact RA.new _ _ _
    have KC := hid (iCopyEs A N C o hZ3.1 (fun i hi => hZ3.2 i hi) W1 (hE3.below b1.out)); obtain ⟨M, hM⟩ : ∃ x, x = (List.range N).map o := ⟨_, rfl⟩; rw [← hM] at KC HS; clear hcc hR hE3 hZ3 hM
    go_upto_region 5 with ((refine wpList_store_row rfl 25 (.tmp 5) (.tmp 11) rfl wr.heap.size #[.slice A N C] rfl rfl _ _ (RA.new wr _ _) (by kernel_rfl) rfl (oneSl _ _ _) ?_); rw [World.setRow_alloc_new])
    rw [← hW1]; clear hW1 c0; have q1 := X1.out.cell 0
    go_wp2_with fail
    refine KC.out.mono ?_
    rintro e w2 ⟨⟨v2, rfl, hO2⟩, hb2⟩
    obtain ⟨a2, c2, hv2⟩ := hO2.slice; obtain ⟨n2, hn2⟩ : ∃ x, x = M.length := ⟨_, rfl⟩; rw [← hn2] at hv2; clear hn2; subst hv2; have B2 := hid (b1.out.trans (hb2.mono b1.out.size)); have BW := hid (BB.out.trans (B2.out.mono BB.out.size)); have O2 := hid (OwnEn.baseUp hO2 (Nat.le_trans BB.out.size b1.out.size)); have OR := hid (or_keep OO.out fun g cs _ r => r.below B2.out r.lt); clear hO2 hb2 KC q1 X1
    go_wp2_with (at_builtin; refine lockH8 ?_)
    refine hid ?_; refine append_run w.heap.size w2 rfl (.tmp 12) (.tmp 17) rfl (.slice av nv cv) Q (.slice a2 n2 c2, M) rfl OR.out BW.out.size rfl rfl (by have := QL.out; omega) ?_; intro v3 w3 hO3 hg3; obtain ⟨a3, c3, hv3⟩ := or_slice hO3; obtain ⟨n3, hn3⟩ : ∃ x, x = (Q ++ [((.slice a2 n2 c2, M) : Value × List En)]).length := ⟨_, rfl⟩; rw [← hn3] at hv3; clear hn3; subst hv3; have O3 := hid hO3
    have U3 : Hid (∀ p ∈ Q ++ [((.slice a2 n2 c2, M) : Value × List En)], OwnEn w3 w.heap.size p.1 p.2) := fun p hp => by
     rcases List.mem_append.1 hp with hp | hp
     · exact (UU.out p hp).keep fun g cs _ r => grown_row OR.out hg3 (r.below B2.out r.lt) (by decide)
     · rw [List.mem_singleton] at hp
       subst hp; exact O2.out.keep fun g cs _ r => grown_row OR.out hg3 r (by decide)
    have B3 : Hid (Below w.heap.size w w3) := BW.out.grown hg3 BW.out.size (fun g e => (or_row OR.out e).1); clear hO3 hg3
    go_wp2
    go_roundw
    case rel => exact ⟨k + 1, _, _, by omega, rfl, by go_num, O3.out, U3.out, by rw [HS.out, List.map_append, EE.out]; rfl, B3.out⟩
    case measure => simp [intOf]; omega
  · have d0 : ¬ (k : Int) < (m : Int) := by omega
    have hke : k = m := by omega
    subst hke
    go_wp2
    go_ret
    exact ⟨⟨_, rfl, _, OO.out, fun a b hh => UU.out _ hh, EE.out⟩, BB.out⟩
theorem or_up8 {w : World} {B B' k n : Nat} {t : TypeId} {v : Value} {cs : List Value} (h : w.ownsRow B t k v n cs) (hb : B' ≤ B) : w.ownsRow B' t k v n cs := by
 refine ⟨h.1, ?_⟩
 rcases h.2 with h0 | ⟨g, cap, cur, he, hb2, r⟩
 · exact .inl h0
 · exact .inr ⟨g, cap, cur, he, by omega, r⟩
theorem Dk_new {wx : World} {B mb : Nat} {s f : Int} {vR : Value} {Q : List (Value × List En)} {rs : List (List En)} (hm : wx.ownsMap Tryz.prog 81 enRd mb 0 (.map [])) (hb : B ≤ mb) (hr : wx.ownsRow B 25 1 vR Q.length (Q.map Prod.fst)) (hu : ∀ p ∈ Q, OwnEn wx B p.1 p.2) (he : Q.map Prod.snd = rs) (hB : B ≤ wx.heap.size) :
 Dk (wx.alloc (.cells #[.int .i64 s, .int .i64 f, .map (some mb), .slice none 0 0, vR] 79)) B wx.heap.size mb ⟨s, f, [], rs⟩ (.map []) [] (.slice none 0 0) [] vR Q := by
 have b : Below wx.heap.size wx (wx.alloc (.cells #[.int .i64 s, .int .i64 f, .map (some mb), .slice none 0 0, vR] 79)) := (Below.refl _ _).alloc (Nat.le_refl _) _; exact ⟨RA.new _ _ _, mapAt hm (b.block mb hm.lt), FrAt.nil, fun e => Iff.rfl, List.Pairwise.nil, OwnEn.nil _ _, fun _ => rfl, or_keep hr fun g cs _ r => r.below b r.lt, fun p hp => (hu p hp).below b, he, ⟨hB, hb⟩⟩
theorem take_succ_en {F : List En} {k : Nat} (h : k < F.length) : F.take (k + 1) = F.take k ++ [enA F k] := by rw [List.take_add_one, enA_get h]; rfl
set_option maxRecDepth 20000 in
set_option maxHeartbeats 8000000 in
theorem iNewD (s f : Int) (a0 : Option Addr) (n0 c0 : Nat) (o0 : Nat → En) (ar : Option Addr) (m cap : Nat) (R : Nat → Rn) (ht : tabOk s f n0 o0 m R) (w : World) (h0 : Ens w a0 n0 c0 o0) (h : Rns w ar m cap R) :
 Calls Tryz.prog 24 #[.agg #[.int .i64 s, .int .i64 f, .slice a0 n0 c0, .slice ar m cap]] w fun e w' => (∃ d, e = .returned (.pointer (some ⟨d, 0, none⟩)) ∧ DkW w' w.heap.size d (ttOf s f n0 o0 m R)) ∧ Below w.heap.size w w' := by
 obtain ⟨W1, hW1⟩ : ∃ W1, W1 = w.alloc (.cells #[.int .i64 s, .int .i64 f, .slice a0 n0 c0, .slice ar m cap] 28) := ⟨_, rfl⟩; have b1 : Below w.heap.size w W1 := by rw [hW1]; exact (Below.refl _ _).alloc (Nat.le_refl _) _
 have T1 : Hid (RA W1 w.heap.size 28 #[.int .i64 s, .int .i64 f, .slice a0 n0 c0, .slice ar m cap]) := by rw [hW1]; exact RA.new _ _ _
 have B1 := hid b1; have hm6 : m ≤ 1048576 := by have := ht.1.2.2.2; omega
 have hsz := tab_sz ht; have KC := fun wx (hx : Below w.heap.size w wx) => hid (iCopyRuns ar m cap R hm6 hsz.1 wx (h.below hx)); have hn6 : n0 ≤ 1048576 := Nat.le_trans ht.2.1.1 (by decide); have KF := fun wx (hx : Below w.heap.size w wx) => hid (iCopyEs a0 n0 c0 o0 hn6 hsz.2 wx (h0.below hx)); obtain ⟨FF, hFF⟩ : ∃ x, x = (List.range n0).map o0 := ⟨_, rfl⟩; rw [← hFF] at KF; have hTb := tb_of_tab ht; have HFR : Hid (ttOf s f n0 o0 m R = ⟨s, f, FF, rnsL R m⟩) := by show _ = _; rw [hFF]; rfl
 have FS : Hid (FF.Pairwise enLt) := by rw [hFF]; exact hTb.srt
 have FB : Hid (FF.length ≤ 1000) := by rw [hFF]; exact hTb.frl
 have FQ : Hid (∀ e ∈ FF, pkOk e) := fun e he => by
  have hh := hTb.fit e (List.mem_append_left _ (by rw [hFF] at he; exact he)); have hh1 := hh.1; have hq : s ≤ 4611686018427387904 := hTb.q1; have hl : e.sq ≤ s := hh.2; unfold fitE at hh1; exact ⟨by omega, by omega, by omega⟩
 have FN : Hid ((FF.map En.sq).Nodup) := by rw [hFF]; exact hTb.frnd
 have hmk := fun wx => mkMapP wx; have r0 := T1.out.cell 0; have r1 := T1.out.cell 1; have r3 := T1.out.cell 3; have am : Hid (Below W1.heap.size W1 (W1.alloc (.map #[] 0))) := (Below.refl _ _).alloc (Nat.le_refl _) _; have TM := hid (T1.out.below am.out T1.out.lt); have rm0 := TM.out.cell 0; have rm1 := TM.out.cell 1; have rm3 := TM.out.cell 3; have HS1 : Hid (w.heap.size ≤ W1.heap.size) := b1.size; have HS2 : Hid (w.heap.size ≤ (W1.alloc (.map #[] 0)).heap.size) := Nat.le_trans b1.size am.out.size; have BM1 : Hid (Below w.heap.size w (W1.alloc (.map #[] 0))) := b1.trans (am.out.mono b1.size); have BM2 : Hid (Below w.heap.size w (W1.drew.alloc (.map #[] 0))) := ⟨BM1.out.os, BM1.out.tape, BM1.out.output, BM1.out.size, BM1.out.block⟩; clear h0 h b1 ht hTb hsz hFF
 go_enter Tryz.func24, Tryz.ntmps24
 go_upto_region 1 with fail
 rw [← hW1]; clear hW1
 go_cut [3] from 6 to 15 (fun c wx => (∃ d mb vR Q, c = .pointer (some ⟨d, 0, none⟩) ∧ Dk wx w.heap.size d mb ⟨s, f, [], rnsL R m⟩ (.map []) [] (.slice none 0 0) [] vR Q) ∧ RA wx w.heap.size 28 #[.int .i64 s, .int .i64 f, .slice a0 n0 c0, .slice ar m cap] ∧ Below w.heap.size w wx)
 case first =>
  go_region_law (go_simp; go_at_call 42; refine (KC _ (by first | exact B1.out | exact B1.out.drew | exact BM1.out | exact BM1.out.drew | exact BM2.out)).out.mono ?_; rintro e w3 ⟨⟨v, Q, rfl, hO, hU, hE⟩, hb⟩; obtain ⟨a3, c3, hv3⟩ := or_slice hO; obtain ⟨n3, hn3⟩ : ∃ x, x = Q.length := ⟨_, rfl⟩; rw [← hn3] at hv3; clear hn3; subst hv3; have O3 := hid (or_up8 hO (by first | exact HS1.out | exact HS2.out)); have U3 : Hid (∀ p ∈ Q, OwnEn w3 w.heap.size p.1 p.2) := (fun p hp => (hU p hp).baseUp (by first | exact HS1.out | exact HS2.out)); have E3 := hid hE; (first | (have hb4 : Below (W1.alloc (.map #[] 0)).heap.size (W1.alloc (.map #[] 0)) w3 := ⟨hb.os, hb.tape, hb.output, hb.size, hb.block⟩; have hb3 : Hid (Below W1.heap.size W1 w3) := am.out.trans (hb4.mono am.out.size); have M3 := hid (mapAt (World.ownsMap_made W1 Tryz.prog 81 enRd) (hb4.block W1.heap.size (by rw [size_al]; exact Nat.lt_succ_self _))); clear hb4) | (have hb3 : Hid (Below W1.heap.size W1 w3) := ⟨hb.os, hb.tape, hb.output, hb.size, hb.block⟩)); clear hO hU hE hb; have T3 := hid (T1.out.below hb3.out T1.out.lt); have a3m : Hid (Below w3.heap.size w3 (w3.alloc (.map #[] 0))) := (Below.refl _ _).alloc (Nat.le_refl _) _; have TM3 := hid (T3.out.below a3m.out T3.out.lt); have s0 := T3.out.cell 0; have s1 := T3.out.cell 1; have s3 := T3.out.cell 3; have sm0 := TM3.out.cell 0; have sm1 := TM3.out.cell 1; have sm3 := TM3.out.cell 3; dsimp only)
  all_goals go_wp2_with fail
  all_goals go_meet
  all_goals have S3 : Hid (w.heap.size ≤ w3.heap.size) := Nat.le_trans HS1.out hb3.out.size
  all_goals first
   | exact ⟨⟨_, _, _, _, rfl, Dk_new M3.out HS1.out O3.out U3.out E3.out S3.out⟩, T3.out.below ((Below.refl _ _).alloc (Nat.le_refl _) _) T3.out.lt, (B1.out.trans (hb3.out.mono HS1.out)).alloc S3.out _⟩
   | exact ⟨⟨w3.heap.size + 1, w3.heap.size, _, _, rfl, (by have z := Dk_new (s := s) (f := f) (World.ownsMap_made w3 _ _ _) S3.out (or_keep O3.out fun g cs _ r => r.below a3m.out r.lt) (fun p hp => (U3.out p hp).below a3m.out) E3.out (Nat.le_trans S3.out a3m.out.size); rw [size_al] at z; exact z)⟩, TM3.out.below ((Below.refl _ _).alloc (Nat.le_refl _) _) TM3.out.lt, ((B1.out.trans (hb3.out.mono HS1.out)).alloc S3.out _).alloc (Nat.le_trans S3.out a3m.out.size) _⟩
 case rest =>
  obtain ⟨⟨d, mb, vR, Q, rfl, hD2⟩, hT2, hB2⟩ := hcut; obtain ⟨W2, hW2⟩ : ∃ W2, W2 = wc := ⟨_, rfl⟩; rw [← hW2] at hD2 hT2 hB2 ⊢; have D2 := hid hD2; have T2 := hid hT2; have B2 := hid hB2; have KF2 := KF W2 hB2; clear hD2 hT2 hB2 hW2 T1 B1 am TM rm0 rm1 rm3 r0 r1 r3 KC KF hmk HS1 HS2 BM1 BM2; have r2 := T2.out.cell 2
  go_wp2_with fail
  refine KF2.out.mono ?_
  rintro e w3 ⟨⟨v3, rfl, hO3⟩, hb3⟩
  obtain ⟨aF, cF, hv3⟩ := hO3.slice; obtain ⟨nF, hnF⟩ : ∃ x, x = FF.length := ⟨_, rfl⟩; rw [← hnF] at hv3; subst hv3; have HNF := hid hnF; have D3 := hid (D2.out.below hb3); have T3 := hid (T2.out.below hb3 T2.out.lt); have B3 := hid (B2.out.trans (hb3.mono B2.out.size)); have F3 := hid (OwnEn.baseUp hO3 B2.out.size); clear hO3 hb3 KF2 r2 D2 T2 B2 hnF
  go_wp2_with fail
  go_loopw [21] (fun q wr => ∃ (k : Nat) (D : DataW En), k ≤ nF ∧ q = .int .i64 (k : Int) ∧ Dk wr w.heap.size d mb ⟨s, f, FF.take k, rnsL R m⟩ D (FF.take k) (.slice none 0 0) [] vR Q ∧ RA wr w.heap.size 28 #[.int .i64 s, .int .i64 f, .slice a0 n0 c0, .slice ar m cap] ∧ OwnEn wr w.heap.size (.slice aF nF cF) FF ∧ Below w.heap.size w wr) (fun q _ => nF - (intOf q).toNat)
  case atStart => exact ⟨0, _, Nat.zero_le _, rfl, D3.out, T3.out, F3.out, B3.out⟩
  case round =>
   obtain ⟨k, D, hk, rfl, hD, hT, hF, hB⟩ := hrel; have D5 := hid hD; have T5 := hid hT; have F5 := hid hF; have B5 := hid hB; clear hD hT hF hB D3 T3 B3 F3
   by_cases hlt : k < nF
   · have d0 : (k : Int) < (nF : Int) := by omega
     have k0 : (0 : Int) ≤ (k : Int) := by omega
     have hkF : k < FF.length := by rw [← HNF.out]; exact hlt
     have nFB : nF ≤ 1000 := by have := FB.out; have := HNF.out; omega
     have HTK : Hid (FF.take (k + 1) = FF.take k ++ [enA FF k]) := take_succ_en hkF; have hin : enA FF k ∈ FF := List.mem_of_getElem? (enA_get hkF); have PK0 := FQ.out _ hin; have HPW : Hid ((FF.take (k + 1)).Pairwise enLt) := FS.out.sublist (List.take_sublist _ _)
     have PN0 : ∀ x ∈ FF.take k, pkL x ≠ pkL (enA FF k) := fun x hx e => by
      have z := (pk_inj (FQ.out x (List.mem_of_mem_take hx)) PK0 e).2; have hn : ((FF.take k ++ [enA FF k]).map En.sq).Nodup := by rw [← HTK.out]; exact List.Nodup.sublist ((List.take_sublist _ _).map _) FN.out
      rw [List.map_append] at hn; exact (List.nodup_append.1 hn).2.2 x.sq (List.mem_map.2 ⟨x, hx, rfl⟩) (enA FF k).sq (by simp) z
     obtain ⟨e, he⟩ : ∃ e, e = enA FF k := ⟨_, rfl⟩
     rcases F5.out.ens.2.2 with h00 | ⟨g, og, hga, hgl, hc⟩
     · have := HNF.out; omega
     subst hga; obtain ⟨x0, x1, x2, x3⟩ := hc k hlt; rw [← he] at x0 x1 x2 x3 PK0 PN0 HTK; clear hc hin he hkF; obtain ⟨ky, sq, gn, tx⟩ := e; dsimp only at x0 x1 x2 x3; have PK := hid PK0; have PN := hid PN0; have PP := HPW; have PM : Hid (∀ x, x ∈ FF.take (k + 1) ↔ x ∈ FF.take k ∨ x = ⟨ky, sq, gn, tx⟩) := fun x => by rw [HTK.out, List.mem_append, List.mem_singleton]
     have HLK : Hid (FF.take (k + 1) = FF.take k ++ [⟨ky, sq, gn, tx⟩]) := HTK.out; clear PK0 PN0; obtain ⟨W8, hW8⟩ : ∃ W8, W8 = wr.alloc (.cells #[.string ky, .int .i64 sq, .bool gn, .string tx] 46) := ⟨_, rfl⟩; have b8 : Below wr.heap.size wr W8 := by rw [hW8]; exact (Below.refl _ _).alloc (Nat.le_refl _) _
     have E8 : Hid (RA W8 wr.heap.size 46 #[.string ky, .int .i64 sq, .bool gn, .string tx]) := by rw [hW8]; exact RA.new _ _ _
     have D8 := hid (D5.out.below b8); have T8 := hid (T5.out.below b8 T5.out.lt); have F8 := hid (F5.out.below b8); have B8 := hid (B5.out.trans (b8.mono B5.out.size)); clear b8 D5 T5 F5 B5
     go_upto_region 5 with fail
     rw [← hW8]; clear hW8 x0 x1 x2 x3; have KP := fun wx => hid (iPlaceOf ky sq gn tx wx); refine wp_region_held_drew (S := fun wx => wx.cell? ⟨d, 2, none⟩ = some (.map (some mb)) ∧ wx.cell? ⟨wr.heap.size, 0, none⟩ = some (.string ky) ∧ wx.cell? ⟨wr.heap.size, 1, none⟩ = some (.int .i64 sq) ∧ wx.cell? ⟨wr.heap.size, 2, none⟩ = some (.bool gn) ∧ wx.cell? ⟨wr.heap.size, 3, none⟩ = some (.string tx)) (by kernel_rfl) ?_ (fun hHeld => ?_)
     · exact ⟨D8.out.drew.row.cell 2, E8.out.cell 0, E8.out.cell 1, E8.out.cell 2, E8.out.cell 3⟩
     refine wpAnyH_take (i := 0) (oi := oDkN0) (v := ?vx0) rfl (by kernel_rfl) (by kernel_rfl) (by kernel_rfl) (fun _ _ _ h => h) (Or.inl ⟨by rfl, ?hyx0⟩) hHeld ?restx0
     case hyx0 => (unfold oDkN0; intro w hSw; (try dsimp only at hSw); go_simp; try with_reducible rfl)
     simp only [oDkN0, Act.put, sADkN, sBDkN, sCDkN]; refine wpAnyH_take (i := 1) (oi := oDkN1) (v := ?vx1) rfl (by kernel_rfl) (by kernel_rfl) (by kernel_rfl) (fun _ _ _ h => h) (Or.inl ⟨by rfl, ?hyx1⟩) hHeld ?restx1
     case hyx1 => (unfold oDkN1; intro w hSw; (try dsimp only at hSw); go_simp; try with_reducible rfl)
     simp only [oDkN1, Act.put, sADkN, sBDkN, sCDkN]; refine wpAnyH_take (i := 2) (oi := oDkN2) (v := ?vx2) rfl (by kernel_rfl) (by kernel_rfl) (by kernel_rfl) (fun _ _ _ h => h) (Or.inl ⟨by rfl, ?hyx2⟩) hHeld ?restx2
     case hyx2 => (unfold oDkN2; intro w hSw; (try dsimp only at hSw); go_simp; try with_reducible rfl)
     simp only [oDkN2, Act.put, sADkN, sBDkN, sCDkN]; refine wpAnyH_take (i := 3) (oi := oDkN3) (v := ?vx3) rfl (by kernel_rfl) (by kernel_rfl) (by kernel_rfl) (fun _ _ _ h => h) (Or.inl ⟨by rfl, ?hyx3⟩) hHeld ?restx3
     case hyx3 => (unfold oDkN3; intro w hSw; (try dsimp only at hSw); go_simp; try with_reducible rfl)
     simp only [oDkN3, Act.put, sADkN, sBDkN, sCDkN]; refine wpAnyH_take (i := 4) (oi := oDkN4) (v := ?vx4) rfl (by kernel_rfl) (by kernel_rfl) (by kernel_rfl) (fun _ _ _ h => h) (Or.inl ⟨by rfl, ?hyx4⟩) hHeld ?restx4
     case hyx4 => (unfold oDkN4; intro w hSw; (try dsimp only at hSw); go_simp; try with_reducible rfl)
     simp only [oDkN4, Act.put, sADkN, sBDkN, sCDkN]; refine wpAnyH_take (i := 6) (oi := oDkN5) (v := ?vx6) rfl (by kernel_rfl) (by kernel_rfl) (by kernel_rfl) (fun _ _ _ h => h) (Or.inl ⟨by rfl, ?hyx6⟩) hHeld ?restx6
     case hyx6 => (unfold oDkN5; intro w hSw; (try dsimp only at hSw); go_simp; try with_reducible rfl)
     simp only [oDkN5, Act.put, sADkN, sBDkN, sCDkN]; refine wpAnyH_ready (rs := [5]) (by kernel_rfl) (by simp) ?_
     refine AllReadyH.cons (o := { dst := some 30, op := Op.call { callee := Callee.value (Operand.func 43), args := #[Operand.tmp 29], argTypes := #[46] }, type := 81, pos := "l08_runs.go:323", after := #[{ on := 4, ground := Ground.data }], guard := none }) rfl (fun K hK => ?_) AllReadyH.nil
     go_simp
     refine (KP _).out.mono ?_
     rintro e w9 ⟨rfl, hb⟩
     have hb9 : Below W8.heap.size W8 w9 := ⟨hb.os, hb.tape, hb.output, hb.size, hb.block⟩; have E9 := hid (RA.below E8.out hb9 E8.out.lt); have D9 := hid (D8.out.below hb9); have B9 := hid (B8.out.trans (hb9.mono B8.out.size)); have F9 := hid (F8.out.below hb9); have T9 := hid (T8.out.below hb9 T8.out.lt); clear hb hb9
     go_wp2_with fail
     refine hK.out _ _ ?_ (fun hHeld => ?_)
     · exact ⟨D9.out.row.cell 2, E9.out.cell 0, E9.out.cell 1, E9.out.cell 2, E9.out.cell 3⟩
     clear hK K
     try simp only [Act.put, sADkN, sBDkN, sCDkN]
     refine wpAnyH_ready (rs := [7]) (by kernel_rfl) (by simp) ?_
     refine AllReadyH.cons (o := { dst := none, op := Op.mapUpdate 76 (Operand.tmp 28) (Operand.tmp 30) (Operand.tmp 31), type := 0, pos := "l08_runs.go:323", after := #[{ on := 3, ground := Ground.data }, { on := 5, ground := Ground.data }, { on := 6, ground := Ground.data }, { on := 5, ground := Ground.chain }, { on := 0, ground := Ground.phase }, { on := 1, ground := Ground.phase }, { on := 2, ground := Ground.phase }, { on := 3, ground := Ground.phase }, { on := 4, ground := Ground.phase }, { on := 5, ground := Ground.phase }, { on := 6, ground := Ground.phase }], guard := none }) rfl (fun K hK => ?_) AllReadyH.nil
     refine step_mapUp _ rfl (.tmp 28) (.tmp 30) (.tmp 31) 76 rfl 81 46 lawP Tryz.underlying76 enRd mb (FF.take k).length D rfl D9.out.map (by have := FB.out; rw [List.length_take]; unfold maxLen; omega) (pkV ky sq) (enG ⟨ky, sq, gn, tx⟩) (pkL ⟨ky, sq, gn, tx⟩) rfl rfl (pk_key (e := ⟨ky, sq, gn, tx⟩) PK.out) (.held ⟨ky, sq, gn, tx⟩) [] (enRd_mk _) ?_; intro w11 hM hg; have E11 : Hid (RA w11 wr.heap.size 46 #[.string ky, .int .i64 sq, .bool gn, .string tx]) := (hg.block wr.heap.size E9.out.lt (fun q => row_not_map E9.out D9.out.map (Option.some.inj q))).trans E9.out; have T11 := hid ((hg.block w.heap.size T9.out.lt (fun q => row_not_map T9.out D9.out.map (Option.some.inj q))).trans T9.out); have F11 := hid (OwnEn.keep F9.out fun g cs _ r => (hg.block g r.lt (fun q => row_not_map r D9.out.map (Option.some.inj q))).trans r); have B11 : Hid (Below w.heap.size w w11) := B9.out.grown hg B9.out.size (fun g e => by have := D9.out.bd.2; have := Option.some.inj e; omega); have D11 := hid (Dk.put (t' := ⟨s, f, FF.take (k + 1), rnsL R m⟩) D9.out (Nat.zero_le _) PK.out PN.out rfl rfl rfl PM.out PP.out hM hg); clear hM hg; refine hK.out _ _ ?_ (fun hHeld => ?_)
     · exact ⟨D11.out.row.cell 2, E11.out.cell 0, E11.out.cell 1, E11.out.cell 2, E11.out.cell 3⟩
     clear hK K
     try simp only [Act.put]
     refine wpAnyH_done (by kernel_rfl) ?_ _
     go_wp2_with fail
     go_roundw
     case rel => exact ⟨k + 1, _, by omega, by go_num, by have z := D11.out; rw [← HLK.out] at z; exact z, T11.out, F11.out, B11.out⟩
     case measure => simp [intOf]; omega
   · have d0 : ¬ (k : Int) < (nF : Int) := by omega
     have hke : k = FF.length := by have := HNF.out; omega
     have hd := D5.out; rw [hke, List.take_length] at hd; have HDW : Hid (DkW wr w.heap.size d (ttOf s f n0 o0 m R)) := by show DkW _ _ _ _; rw [HFR.out]; exact ⟨_, _, _, _, _, _, _, hd, Nat.zero_le _⟩
     clear hd hke
     go_wp2_with fail
     go_ret
     exact ⟨⟨_, rfl, HDW.out⟩, B5.out⟩
end Go.Proofs.YtcbmgpdpjagaoaaGreat
