import Derived.Test.YtcbmgpdpjagaoaaGreatF1
import Derived.Test.YtcbmgpdpjagaoaaGreatFndI
import Derived.Test.YtcbmgpdpjagaoaaGreatCode
namespace Go.Proofs.YtcbmgpdpjagaoaaGreat
open Go.RowKit
set_option linter.unusedVariables false
theorem Rns8.comp_last {o : Nat → TOp} {t0 : Tt} (h0 : TbOk t0) {n : Nat} {t : Tt} {us : List Ot} (h : Rns8 o t0 (n + 1) t us) (hn : ∀ j, j < n + 1 → (o j).kd ≠ 1 ∧ (o j).kd ≠ 2) (h4 : ∀ j, j < n → (o j).kd ≠ 4) (hk : (o n).kd = 4) (hf : t0.fl ≤ (o n).sq ∧ (o n).sq ≤ t0.sq) : us[n]? = some ⟨0, ⟨#[]⟩, []⟩ ∧ t.fl = (o n).sq := by
 have fl : ∀ {n t us}, Rns8 o t0 n t us → (∀ j, j < n → (o j).kd ≠ 4) → t.fl = t0.fl := fun {n t us} hr => by
  induction hr with
  | zero => intro _; rfl
  | @next m t t' us v hr hs ih =>
   intro h4; have a := ih fun j hj => h4 j (by omega); have b := h4 m (by omega)
   cases hs with
   | comp0 _ c _ _ _ => exact absurd c b
   | comp _ c _ _ _ => exact absurd c b
   | _ => exact a
 cases h with
 | @next _ t1 _ us u hr hs =>
  have hl := hr.len; have a := (hr.keep h0 fun j hj => hn j (by omega)).1; have b := fl hr h4; have e : (us ++ [u])[n]? = some u := by rw [List.getElem?_append_right (by omega), hl]; simp
  rw [e]
  cases hs with
  | comp0 B c d _ _ => exact ⟨rfl, rfl⟩
  | comp B c d _ _ => exact ⟨rfl, rfl⟩
  | compF c d => omega
  | key c => omega
  | big c => omega
  | full c => omega
  | put B c => omega
  | flush0 c => omega
  | flush c => omega
  | flushF c => omega
  | late c => omega
  | ahead c => omega
  | scan _ _ c => omega
  | get _ c => omega
  | other _ _ _ c => omega
theorem Rns8.late1 {o : Nat → TOp} {t0 t : Tt} {us : List Ot} (h : Rns8 o t0 1 t us) (hk : (o 0).kd = 5) (hl : (o 0).sq < t0.fl) : us = [⟨13, ⟨#[]⟩, []⟩] := by
 cases h with
 | next hr hs =>
  cases hr
  cases hs with
  | late _ _ => rfl
  | ahead c d => exact absurd hl d
  | scan _ _ c d => exact absurd hl d
  | get _ c d => exact absurd hl d
  | key c => omega
  | big c => omega
  | full c => omega
  | put B c => omega
  | flush0 c => omega
  | flush c => omega
  | flushF c => omega
  | compF c => omega
  | comp0 _ c => omega
  | comp _ c => omega
  | other _ _ _ _ c => omega
theorem scV_mem (fe : ByteArray → En) : ∀ (es : List En) (pr : Option En), es.Pairwise enLt → (∀ p, pr = some p → ∀ e ∈ es, enLt p e) → ∀ x, x ∈ scV fe ⟨#[]⟩ ⟨#[]⟩ pr es ↔ 0 < x.sq ∧ ∃ e ∈ es, x = fe e.ky ∧ ∀ p, pr = some p → p.ky ≠ e.ky
 | [], _, _, _, x => by simp [scV]
 | a :: r, pr, hs, hp, x => by
  obtain ⟨s1, s2⟩ := List.pairwise_cons.1 hs; have ih := scV_mem fe r (some a) s2 (fun p hp e he => by cases hp; exact s1 e he) x; have nst : ¬ stP ⟨#[]⟩ a := fun z => z.1 rfl; have nlt : ¬ kLt a.ky ⟨#[]⟩ = true := by rw [kLt_nil]; simp
  rw [scV, List.mem_append, ih]; have fn : ∀ y : En, x ∈ fnL y ↔ x = y ∧ 0 < y.sq := fun y => by unfold fnL; split <;> simp_all
  by_cases hq : ∃ p, pr = some p ∧ p.ky = a.ky
  · rw [if_pos (.inl hq)]
    obtain ⟨p, rfl, hk⟩ := hq
    constructor
    · rintro (h | ⟨h1, e, he, h2, h3⟩)
      · cases h
      · refine ⟨h1, e, by simp [he], h2, fun p' hp' => ?_⟩
        cases hp'
        rw [hk]; exact h3 a rfl
    · rintro ⟨h1, e, he, h2, h3⟩
      right
      rcases List.mem_cons.1 he with rfl | he
      · exact absurd hk (h3 p rfl)
      · exact ⟨h1, e, he, h2, fun p' hp' => by cases hp'; rw [← hk]; exact h3 p rfl⟩
  · rw [if_neg (fun z => z.elim hq fun z => z.elim nlt nst), fn]
    have hq' : ∀ p, pr = some p → p.ky ≠ a.ky := fun p hp z => hq ⟨p, hp, z⟩
    constructor
    · rintro (⟨rfl, h⟩ | ⟨h1, e, he, h2, h3⟩)
      · exact ⟨h, a, by simp, rfl, hq'⟩
      · refine ⟨h1, e, by simp [he], h2, fun p hpp z => ?_⟩
        have b1 := hp p hpp a (by simp); have b2 := s1 e he
        rcases b1 with y | ⟨y, _⟩
        · rw [z] at y
          rcases b2 with w | ⟨w, _⟩
          · exact kLt_asymm y w
          · rw [w] at y; exact kLt_irrefl _ y
        · exact hq' p hpp y
    · rintro ⟨h1, e, he, h2, h3⟩
      by_cases hk : a.ky = e.ky
      · left; rw [hk]; exact ⟨h2, by rw [← h2]; exact h1⟩
      · right
        rcases List.mem_cons.1 he with rfl | he
        · exact absurd rfl hk
        · exact ⟨h1, e, he, h2, fun p' hp' => by cases hp'; exact hk⟩
theorem scV_pw (fe : ByteArray → En) (hk : ∀ k, 0 < (fe k).sq → (fe k).ky = k) : ∀ (es : List En) (pr : Option En), es.Pairwise enLt → (∀ p, pr = some p → ∀ e ∈ es, enLt p e) → (scV fe ⟨#[]⟩ ⟨#[]⟩ pr es).Pairwise enLt
 | [], _, _, _ => by simp [scV]
 | a :: r, pr, hs, hp => by
  obtain ⟨s1, s2⟩ := List.pairwise_cons.1 hs; have hp' : ∀ p, some a = some p → ∀ e ∈ r, enLt p e := fun p hp e he => by cases hp; exact s1 e he
  have ih := scV_pw fe hk r (some a) s2 hp'; rw [scV]; refine List.pairwise_append.2 ⟨?_, ih, fun x hx y hy => ?_⟩
  · unfold fnL; split <;> (try split) <;> simp
  · obtain ⟨h1, e, he, h2, h3⟩ := (scV_mem fe r (some a) s2 hp' y).1 hy
    have hx2 : x = fe a.ky ∧ 0 < x.sq := by
     unfold fnL at hx
     split at hx
     · cases hx
     · split at hx
       · rename_i c; simp at hx; subst hx; exact ⟨rfl, c⟩
       · cases hx
    left
    rw [hx2.1, h2, hk _ (by rw [← hx2.1]; exact hx2.2), hk _ (by rw [← h2]; exact h1)]
    rcases s1 e he with z | ⟨z, _⟩
    · exact z
    · exact absurd z (h3 a rfl)
theorem fnd_key {A : List En} {k : ByteArray} {q : Int} {x : En} (h : FndOf A k q x) (hx : 0 < x.sq) : x ∈ A ∧ x.ky = k := by
 obtain ⟨bo, hb, rfl⟩ := h
 rcases hb with ⟨rfl, _⟩ | ⟨y, rfl, hy, hm, _⟩
 · exact absurd hx (by show ¬ (0 : Int) < 0; omega)
 · have e : fndE (some y) = if y.gn = true then en0 else y := rfl
   rw [e] at hx ⊢
   by_cases g : y.gn = true
   · rw [if_pos g] at hx; exact absurd hx (by show ¬ (0 : Int) < 0; omega)
   · rw [if_neg g]; exact ⟨hy, hm.1⟩
theorem scan_two {A A' L L' : List En} {q lim : Int} {fe fe' : ByteArray → En} (hL : L.Pairwise enLt) (hL' : L'.Pairwise enLt) (hm : ∀ e, e ∈ L ↔ e ∈ A) (hm' : ∀ e, e ∈ L' ↔ e ∈ A') (h1 : ∀ k, FndOf A k q (fe k)) (h2 : ∀ k, FndOf A' k q (fe' k)) (he : ∀ k, fe k = fe' k) :
 scN lim fe L ⟨#[]⟩ ⟨#[]⟩ L.length = scN lim fe' L' ⟨#[]⟩ ⟨#[]⟩ L'.length := by
 obtain rfl : fe = fe' := funext he; rw [scN_take lim fe L _ _ L.length (Nat.le_refl _), scN_take lim fe L' _ _ L'.length (Nat.le_refl _), List.take_length, List.take_length]
 congr 1
 have hk : ∀ k, 0 < (fe k).sq → (fe k).ky = k := fun k h => (fnd_key (h1 k) h).2; refine enUniq (scV_pw fe hk L none hL fun p hp => by cases hp) (scV_pw fe hk L' none hL' fun p hp => by cases hp) fun x => ?_; rw [scV_mem fe L none hL (fun p hp => by cases hp), scV_mem fe L' none hL' (fun p hp => by cases hp)]; refine and_congr_right fun hx => ⟨fun ⟨e, he, h3, _⟩ => ?_, fun ⟨e, he, h3, _⟩ => ?_⟩
 · have := fnd_key (h2 e.ky) (by rw [← h3]; exact hx)
   exact ⟨fe e.ky, (hm' _).2 this.1, by rw [this.2]; exact h3, fun p hp => by cases hp⟩
 · have := fnd_key (h1 e.ky) (by rw [← h3]; exact hx)
   exact ⟨fe e.ky, (hm _).2 this.1, by rw [this.2]; exact h3, fun p hp => by cases hp⟩
theorem se_ret {w W' : World} {ky tx : ByteArray} {sq : Int} {gn : Bool} {P : En → World → Prop} {tm : Array Value} (sa : RA W' (w.heap.size + 1) 46 #[.string ky, .int .i64 sq, .bool gn, .string tx]) (so : P ⟨ky, sq, gn, tx⟩ W') (bl : Below w.heap.size w W') (h2 : tm.getD 6 undef = .pointer (some ⟨w.heap.size + 1, 0, none⟩)) :
 bodyPost Tryz.prog Tryz.f15 (fun e w' => (∃ x : En, e = .returned (.agg #[.string x.ky, .int .i64 x.sq, .bool x.gn, .string x.tx]) ∧ P x w') ∧ Below w.heap.size w w') Exit.ret { tmps := tm, defers := [] } W' := by
 refine bodyPost_ret (v := .agg #[.string ky, .int .i64 sq, .bool gn, .string tx]) ?_ rfl ⟨⟨⟨ky, sq, gn, tx⟩, rfl, so⟩, bl⟩; exact results_cell_row Tryz.results15 _ _ (w.heap.size + 1) _ _ _ _ h2 sa Tryz.underlying46 rfl (by kernel_rfl)
set_option maxRecDepth 20000 in
set_option maxHeartbeats 4000000 in
theorem sFindE (s f : Int) (a0 : Option Addr) (n0 c0 : Nat) (o0 : Nat → En) (a : Option Addr) (m cap : Nat) (R : Nat → Rn) (hn : n0 ≤ 1048576) (hm : m ≤ 1048576) (hc : n0 + cntR R m ≤ 1048576) (hz : a0 = none → c0 = 0) (hnil : ∀ k, k < m → (R k).ad = none → (R k).cap = 0) (hs : ∀ k, k < n0 → (o0 k).ky.size ≤ 1048576 ∧ (o0 k).tx.size ≤ 1048576) (hR : RnSz R m) (key : ByteArray) (ht : tabOk s f n0 o0 m R) (hl : key.size ≤ 200) (seq : Int) (w : World) (h0 : Ens w a0 n0 c0 o0) (h : Rns w a m cap R) :
 Calls Tryz.prog 15 #[.agg #[.int .i64 s, .int .i64 f, .slice a0 n0 c0, .slice a m cap], .string key, .int .i64 seq] w fun e w' => (∃ x : En, e = .returned (.agg #[.string x.ky, .int .i64 x.sq, .bool x.gn, .string x.tx]) ∧ FnR s f n0 o0 m R key seq x) ∧ Below w.heap.size w w' := by
 obtain ⟨W1, hW1⟩ : ∃ W, W = (w.alloc (.cells #[.int .i64 s, .int .i64 f, .slice a0 n0 c0, .slice a m cap] 28)).alloc (.cells #[.string ⟨#[]⟩, .int .i64 0, .bool false, .string ⟨#[]⟩] 46) := ⟨_, rfl⟩; have B1 : Hid (Below w.heap.size w W1) := by rw [hW1]; exact balEn (balEn (Below.refl _ _) _) _
 have T1 : Hid (RA W1 w.heap.size 28 #[.int .i64 s, .int .i64 f, .slice a0 n0 c0, .slice a m cap]) := by rw [hW1]; exact (RA.new _ _ _).alloc _
 have R1 : Hid (RA W1 (w.heap.size + 1) 46 #[.string ⟨#[]⟩, .int .i64 0, .bool false, .string ⟨#[]⟩]) := by rw [hW1]; exact RA.next _ _ _ (by rw [size_al])
 have K0 := hid (sTabF s f a0 n0 c0 o0 a m cap R hn hm hs hR W1 (h0.below B1.out) (h.below B1.out)); have r0 := T1.out.cell 0; have r1 := T1.out.cell 1; have r2 := T1.out.cell 2; have r3 := T1.out.cell 3; rw [tabV_ok ht] at K0; have d0 : ¬ (200 : Int) < (key.size : Int) := by omega
 have d1 : decide ((200 : Int) < (key.size : Int)) = false := by simp; omega
 have KF := fun wx (hb : Below w.heap.size w wx) => hid (sFindL s f a0 n0 c0 o0 a m cap R hm hc hz hnil (fun e he => (tab_fit ht e he).2.2.1) key seq wx (h0.below hb) (h.below hb)); have HT := hid ht; clear ht h0 h hs hR hnil hz
 go_enter Tryz.func15, Tryz.ntmps15
 go_upto_region 1 with fail
 rw [← hW1]; clear hW1
 go_wp2_with fail
 refine K0.out.mono ?_
 rintro e w2 ⟨rfl, hb2⟩
 have T2 := hid (T1.out.below hb2 T1.out.lt); have R2 := hid (R1.out.below hb2 R1.out.lt); have B2 := hid (B1.out.trans (hb2.mono B1.out.size)); clear hb2 K0 r0 r1 r2 r3; have r0 := T2.out.cell 0; have r1 := T2.out.cell 1; have r2 := T2.out.cell 2; have r3 := T2.out.cell 3; have K2 := KF w2 B2.out
 go_wp2_with fail
 refine K2.out.mono ?_
 rintro e w3 ⟨⟨x, rfl, bo, hbo, hx⟩, hb3⟩
 have HX : Hid (FnR s f n0 o0 m R key seq x) := .inr ⟨HT.out, bo, hbo, hx⟩; have R3 := hid (R2.out.below hb3 R2.out.lt); have B3 := hid (B2.out.trans (hb3.mono B2.out.size)); clear hb3 hbo hx K2 KF r0 r1 r2 r3; obtain ⟨X0, X1, X2, X3⟩ := x; dsimp only
 go_wp2_with (refine wpList_store_row rfl 46 (.tmp 6) (.tmp 19) rfl (w.heap.size + 1) #[.string X0, .int .i64 X1, .bool X2, .string X3] rfl rfl _ _ R3.out (by kernel_rfl) rfl (oneEn4 _ _ _ _) ?_)
 exact se_ret (P := fun x _ => FnR s f n0 o0 m R key seq x) (R3.out.setRow _) HX.out (below_setRow B3.out _ _ (by omega)) rfl
theorem lwAt_det (w : World) (a : Option Addr) (len cap i : Nat) (hc : CodeOk w a len) (hi : i ≤ 1000) : ∃ r : Nat, r < 256 ∧ ∀ wx, Below w.heap.size w wx →
 Calls Tryz.prog 10 #[.slice a len cap, .int .i64 (i : Int)] wx fun e w' => e = .returned (.int .i64 (r : Int)) ∧ w' = wx := by
 have hl := hc.1
 by_cases h : i < len
 · rcases hc.2 with h0 | ⟨b, off, rfl, hb, hcell⟩
   · omega
   · obtain ⟨z, hz, e0⟩ := hcell i h
     refine ⟨z, hz, fun wx hx => ?_⟩; have e1 : wx.cell? ⟨b, off + i, none⟩ = some (.int .u8 z) := (hx.cell (p := ⟨b, off + i, none⟩) hb).trans e0; have i1 : (i : Int) < (len : Int) := by omega
     clear e0 hcell
     go_enter Tryz.func10, Tryz.ntmps10
     go_wp2
     go_ret
     exact ⟨rfl, rfl⟩
 · refine ⟨(i * 61 + 29) % 256, by omega, fun wx hx => ?_⟩
   clear hx
   go_enter Tryz.func10, Tryz.ntmps10
   go_wp2
   go_ret
   exact ⟨congrArg (fun x => Ending.returned (.int .i64 x)) (by omega), rfl⟩
theorem scN_from (lim : Int) (fe : ByteArray → En) (L : List En) (fr til : ByteArray) : ∀ i e, e ∈ scN lim fe L fr til i → ∃ k, e = fe k ∧ 0 < e.sq
 | 0, e, h => by cases h
 | i + 1, e, h => by
  have ih := scN_from lim fe L fr til i e; rw [scN] at h
  split at h
  · exact ih h
  · split at h
    · exact ih h
    · split at h
      · rename_i c
        rcases List.mem_append.1 h with h | h
        · exact ih h
        · rw [List.mem_singleton] at h
          subst h; exact ⟨_, rfl, c⟩
      · exact ih h
theorem fl_scan {t t' : Tt} (hT : TbOk t) (hT' : TbOk t') {q lim : Int} (hk : ∀ k x, FndOf t.all k q x → FndOf t'.all k q x) {L L' : List En} (hL : SrtOf t.all L) (hL' : SrtOf t'.all L') {fe fe' : ByteArray → En} (h1 : ∀ k, FndOf t.all k q (fe k)) (h2 : ∀ k, FndOf t'.all k q (fe' k)) :
 scN lim fe' L' ⟨#[]⟩ ⟨#[]⟩ L'.length = scN lim fe L ⟨#[]⟩ ⟨#[]⟩ L.length :=
 (scan_two (hL.strict hT.nd) (hL'.strict hT'.nd) hL.mem hL'.mem h1 h2 fun k => FndOf.uniq hT'.tok (hk k _ (h1 k)) (h2 k)).symm
set_option maxRecDepth 20000 in
set_option maxHeartbeats 8000000 in
theorem iScnT (s f : Int) (a0 : Option Addr) (n0 c0 : Nat) (o0 : Nat → En) (ar : Option Addr) (m cap : Nat) (R : Nat → Rn) (ht : tabOk s f n0 o0 m R) (key til : ByteArray) (hk : key.size ≤ 100000) (hl : til.size ≤ 100000) (q lim : Int) {L0 : List En} {fe : ByteArray → En} (hL : SrtOf (allTb n0 o0 R m) L0) (hfe : ∀ k, FndOf (allTb n0 o0 R m) k q (fe k)) (w : World) (h0 : Ens w a0 n0 c0 o0) (h : Rns w ar m cap R) (hA : RnA w ar m cap R) :
 Calls Tryz.prog 12 #[.agg #[.int .i64 s, .int .i64 f, .slice a0 n0 c0, .slice ar m cap], .string key, .string til, .int .i64 q, .int .i64 lim] w fun e w' => (∃ v, e = .returned v ∧ OwnEn w' w.heap.size v (scN lim fe L0 key til L0.length)) ∧ Below w.heap.size w w' := by
 obtain ⟨W1, hW1⟩ : ∃ W, W = w.alloc (.cells #[.int .i64 s, .int .i64 f, .slice a0 n0 c0, .slice ar m cap] 28) := ⟨_, rfl⟩; have B1 : Hid (Below w.heap.size w W1) := by rw [hW1]; exact balEn (Below.refl _ _) _
 have T1 : Hid (RA W1 w.heap.size 28 #[.int .i64 s, .int .i64 f, .slice a0 n0 c0, .slice ar m cap]) := by rw [hW1]; exact RA.new _ _ _
 have hTS := tab_sz ht; have hm : m ≤ 20 := ht.1.2.2.2; have hcn : cntR R m + n0 ≤ 1000 := ht.2.2.2.1; have K0 := hid (iTabG s f a0 n0 c0 o0 ar m cap R (by omega) (by omega) (by omega) hTS.2 hTS.1 W1 (h0.below B1.out) (h.below B1.out) (hA.below B1.out)); rw [tabV_ok ht] at K0; have r0 := T1.out.cell 0; have r1 := T1.out.cell 1; have r2 := T1.out.cell 2; have r3 := T1.out.cell 3; have KA := fun wx (hb : Below w.heap.size w wx) => hid (iAllRunsG ar m cap R ⟨a0, n0, c0, o0⟩ (by omega) wx (hA.below hb)); rw [show rnV ⟨a0, n0, c0, o0⟩ = .slice a0 n0 c0 from rfl] at KA; have HZS : RnSz (snoc R m ⟨a0, n0, c0, o0⟩) (m + 1) := rnsz_snoc (x := ⟨a0, n0, c0, o0⟩) hTS.1 ⟨by show n0 ≤ _; omega, hTS.2⟩
 have HES : Hid (∀ wx, Below w.heap.size w wx → ∀ k, k < m + 1 → Ens wx (snoc R m ⟨a0, n0, c0, o0⟩ k).ad (snoc R m ⟨a0, n0, c0, o0⟩ k).n (snoc R m ⟨a0, n0, c0, o0⟩ k).cap (snoc R m ⟨a0, n0, c0, o0⟩ k).o) := fun wx hb k hk => by
  by_cases e : k < m
  · rw [show snoc R m ⟨a0, n0, c0, o0⟩ k = R k by unfold snoc; rw [if_pos e]]; exact (h.below hb).2.2 k e
  · rw [show snoc R m ⟨a0, n0, c0, o0⟩ k = ⟨a0, n0, c0, o0⟩ by unfold snoc; rw [if_neg e]]; exact h0.below hb
 obtain ⟨st, S, g1, g2, g3, g4, g5, g6⟩ := scan_runs ht ⟨a0, n0, c0, o0⟩ rfl rfl key til q lim hL hfe; have KF := fun a cap wx (hN : Rns wx a (m + 1) cap (snoc R m ⟨a0, n0, c0, o0⟩)) => hid (iScan a (m + 1) cap _ key til q lim hk hl (by omega) (fun r hr => (HZS r hr).1) st S (by omega) wx hN g1 g2 g3 g4); rw [g6] at KF; obtain ⟨X, hX⟩ : ∃ x, x = scN lim fe L0 key til L0.length := ⟨_, rfl⟩
 have XS : Hid (X.length ≤ 1048576 ∧ ∀ i, i < X.length → (enA X i).ky.size ≤ 1048576 ∧ (enA X i).tx.size ≤ 1048576) := by
  refine ⟨?_, fun i hi => ?_⟩
  · have e1 := scN_len lim fe L0 key til L0.length
    have e2 := hL.len; rw [allTb_len] at e2; rw [hX]
    omega
  · have hm2 : enA X i ∈ X := List.mem_of_getElem? (enA_get hi)
    have hm3 : enA X i ∈ scN lim fe L0 key til L0.length := by rw [← hX]; exact hm2
    obtain ⟨k, hk1, hk2⟩ := scN_from lim fe L0 key til L0.length _ hm3; rw [hk1] at hk2 ⊢; exact fit_sz (tab_fit ht _ (fnd_key (hfe k) hk2).1)
 rw [← hX] at KF ⊢; clear ht h0 h hA hTS HZS g1 g2 g3 g4 g5 g6 hX hfe hL hm hcn
 go_enter Tryz.func12, Tryz.ntmps12
 go_upto_region 1 with fail
 rw [← hW1]; clear hW1
 go_wp2_with fail
 refine K0.out.mono ?_
 rintro e w2 ⟨rfl, hb2⟩
 have T2 := hid (T1.out.below hb2 T1.out.lt); have B2 := hid (B1.out.trans (hb2.mono B1.out.size)); clear hb2 K0 r0 r1 r2 r3; have r2 := T2.out.cell 2; have r3 := T2.out.cell 3
 go_wp2_with fail
 refine (KA w2 B2.out).out.mono ?_
 rintro e w3 ⟨v3, rfl, hO3, hb3⟩
 have B3 := hid (B2.out.trans (hb3.mono B2.out.size)); obtain ⟨a3, c3, hv3, hN3⟩ := hO3.rns (HES.out w3 B3.out); subst hv3; have K3 := KF a3 c3 w3 hN3; clear hO3 hb3 hN3 r2 r3 KA KF
 go_wp2_with fail
 refine K3.out.mono ?_
 rintro e w4 ⟨⟨v4, rfl, hO4⟩, hb4⟩
 have B4 := hid (B3.out.trans (hb4.mono B3.out.size)); obtain ⟨a4, c4, rfl⟩ := hO4.slice; have K4 := hid (iCopyEs a4 X.length c4 (enA X) XS.out.1 XS.out.2 w4 hO4.ens.2); rw [range_enA] at K4; obtain ⟨nx, hnx⟩ : ∃ x, x = X.length := ⟨_, rfl⟩; rw [← hnx] at K4 ⊢; clear hO4 hb4 K3 hnx
 go_wp2_with fail
 refine K4.out.mono ?_
 rintro e w5 ⟨⟨v5, rfl, hO5⟩, hb5⟩
 have B5 := hid (B4.out.trans (hb5.mono B4.out.size)); have O5 := hid (OwnEn.baseUp hO5 B4.out.size); obtain ⟨a5, c5, hv5⟩ := hO5.slice; subst hv5; clear hb5 K4 hO5
 go_wp2
 go_ret
 exact ⟨⟨_, rfl, O5.out⟩, B5.out⟩
set_option maxRecDepth 20000 in
set_option maxHeartbeats 8000000 in
theorem sScnT (s f : Int) (a0 : Option Addr) (n0 c0 : Nat) (o0 : Nat → En) (ar : Option Addr) (m cap : Nat) (R : Nat → Rn) (ht : tabOk s f n0 o0 m R) (hz0 : a0 = none → c0 = 0) (hnil : ∀ k, k < m → (R k).ad = none → (R k).cap = 0) (key til : ByteArray) (q lim : Int) {L0 : List En} {fe : ByteArray → En} (hL : SrtOf (allTb n0 o0 R m) L0) (hfe : ∀ k, FndOf (allTb n0 o0 R m) k q (fe k)) (w : World) (h0 : Ens w a0 n0 c0 o0) (h : Rns w ar m cap R) :
 Calls Tryz.prog 13 #[.agg #[.int .i64 s, .int .i64 f, .slice a0 n0 c0, .slice ar m cap], .string key, .string til, .int .i64 q, .int .i64 lim] w fun e w' => (∃ v, e = .returned v ∧ OwnEn w' w.heap.size v (scN lim fe L0 key til L0.length)) ∧ Below w.heap.size w w' := by
 obtain ⟨W1, hW1⟩ : ∃ W, W = w.alloc (.cells #[.int .i64 s, .int .i64 f, .slice a0 n0 c0, .slice ar m cap] 28) := ⟨_, rfl⟩; have B1 : Hid (Below w.heap.size w W1) := by rw [hW1]; exact balEn (Below.refl _ _) _
 have T1 : Hid (RA W1 w.heap.size 28 #[.int .i64 s, .int .i64 f, .slice a0 n0 c0, .slice ar m cap]) := by rw [hW1]; exact RA.new _ _ _
 have hTS := tab_sz ht; have hm : m ≤ 20 := ht.1.2.2.2; have hcn : cntR R m + n0 ≤ 1000 := ht.2.2.2.1; have K0 := hid (sTabF s f a0 n0 c0 o0 ar m cap R (by omega) (by omega) hTS.2 hTS.1 W1 (h0.below B1.out) (h.below B1.out)); rw [tabV_ok ht] at K0; obtain ⟨S, hS, hLS⟩ := hL; rw [allTb_len] at hS; have hu := fnd_uni (map_inj _ (by have := (tb_of_tab ht).nd; rw [ttOf_all] at this; exact this)) hfe; have KS := fun wx (hb : Below w.heap.size w wx) => hid (sScn s f a0 n0 c0 o0 ar m cap R (by omega) (by omega) hz0 hnil (fun e he => (tab_fit ht e he).2.2.1) key til q lim fe (fun k x hx => by obtain ⟨bo, h1, rfl⟩ := hx; exact (hu k bo h1).symm) S hS wx (h0.below hb) (h.below hb)); rw [← hLS, show n0 + cntR R m = L0.length by rw [hLS, List.length_map, hS.len]] at KS; obtain ⟨X, hX⟩ : ∃ x, x = scN lim fe L0 key til L0.length := ⟨_, rfl⟩; rw [← hX] at KS ⊢; have r0 := T1.out.cell 0; have r1 := T1.out.cell 1; have r2 := T1.out.cell 2; have r3 := T1.out.cell 3; clear ht h0 h hTS hX hfe hLS hm hcn hS hu hz0 hnil
 go_enter Tryz.func13, Tryz.ntmps13
 go_upto_region 1 with fail
 rw [← hW1]; clear hW1
 go_wp2_with fail
 refine K0.out.mono ?_
 rintro e w2 ⟨rfl, hb2⟩
 have T2 := hid (T1.out.below hb2 T1.out.lt); have B2 := hid (B1.out.trans (hb2.mono B1.out.size)); clear hb2 K0 r0 r1 r2 r3; have r0 := T2.out.cell 0; have r1 := T2.out.cell 1; have r2 := T2.out.cell 2; have r3 := T2.out.cell 3; have K2 := KS w2 B2.out; clear KS
 go_wp2_with fail
 refine K2.out.mono ?_
 rintro e w3 ⟨⟨v3, rfl, hO3⟩, hb3⟩
 have B3 := hid (B2.out.trans (hb3.mono B2.out.size)); have O3 := hid (OwnEn.baseUp hO3 B2.out.size); obtain ⟨a3, c3, hv3⟩ := hO3.slice; subst hv3; clear hb3 K2 hO3 r0 r1 r2 r3
 go_wp2
 go_ret
 exact ⟨⟨_, rfl, O3.out⟩, B3.out⟩
end Go.Proofs.YtcbmgpdpjagaoaaGreat
