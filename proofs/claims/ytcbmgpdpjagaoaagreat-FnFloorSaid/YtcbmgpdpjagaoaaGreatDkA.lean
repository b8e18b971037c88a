import Derived.Test.YtcbmgpdpjagaoaaGreatMVal
import Derived.Test.YtcbmgpdpjagaoaaGreatT1
import Derived.Test.YtcbmgpdpjagaoaaGreatT2
import Derived.BigQuiet
import Derived.Deep.MidRow
namespace Go.Proofs.YtcbmgpdpjagaoaaGreat
open Go.RowKit
set_option linter.unusedVariables false
structure Dk (W : World) (B d mb : Nat) (t : Tt) (D : DataW En) (L : List En) (vS : Value) (S : List En) (vR : Value) (Q : List (Value × List En)) : Prop where
 row : RA W d 79 #[.int .i64 t.sq, .int .i64 t.fl, .map (some mb), vS, vR]
 map : W.ownsMap Tryz.prog 81 enRd mb L.length D
 fr : FrAt D L
 mem : ∀ e, e ∈ t.fr ↔ e ∈ L
 srt : t.fr.Pairwise enLt
 so : OwnEn W B vS S
 sk : S.length = L.length → S = t.fr
 rs : W.ownsRow B 25 1 vR Q.length (Q.map Prod.fst)
 ru : ∀ p ∈ Q, OwnEn W B p.1 p.2
 eq : Q.map Prod.snd = t.rs
 bd : B ≤ d ∧ B ≤ mb
theorem row_not_map {W : World} {g mb n : Nat} {ty k : TypeId} {cs : Array Value} {H : Type} {R : Value → Option (DataW H × List MemPlace)} {D : DataW H} {P : Program} (h : RA W g ty cs) (hm : W.ownsMap P k R mb n D) : g ≠ mb := fun e => by
 subst e; obtain ⟨es, clock, hb, _⟩ := hm; have := h.symm.trans hb
 cases this
theorem mapAt {W W' : World} {mb n : Nat} {k : TypeId} {H : Type} {R : Value → Option (DataW H × List MemPlace)} {D : DataW H} {P : Program} (hm : W.ownsMap P k R mb n D) (he : W'.heap[mb]? = W.heap[mb]?) : W'.ownsMap P k R mb n D := by
 obtain ⟨es, clock, hb, r⟩ := hm; exact ⟨es, clock, he.trans hb, r⟩
theorem map_tight {W : World} {mb n : Nat} {k : TypeId} {H : Type} {R : Value → Option (DataW H × List MemPlace)} {D : DataW H} {P : Program} (hm : W.ownsMap P k R mb n D) : W.ownsMap P k R mb (Maps.size D) D := by
 obtain ⟨es, clock, hb, F, hs, rfl⟩ := hm; exact ⟨es, clock, hb, F, by simp [Maps.size, length_sorted], rfl⟩
theorem Dk.keep {W W' : World} {B d mb : Nat} {t : Tt} {D : DataW En} {L : List En} {vS : Value} {S : List En} {vR : Value} {Q : List (Value × List En)} (h : Dk W B d mb t D L vS S vR Q) (hr : ∀ g ty cs, RA W g ty cs → RA W' g ty cs) (hm : W'.heap[mb]? = W.heap[mb]?) : Dk W' B d mb t D L vS S vR Q :=
 ⟨hr _ _ _ h.row, mapAt h.map hm, h.fr, h.mem, h.srt, h.so.keep fun g cs _ r => hr _ _ _ r, h.sk, or_keep h.rs fun g cs _ r => hr _ _ _ r, fun p hp => (h.ru p hp).keep fun g cs _ r => hr _ _ _ r, h.eq, h.bd⟩
theorem Dk.below {W W' : World} {B d mb : Nat} {t : Tt} {D : DataW En} {L : List En} {vS : Value} {S : List En} {vR : Value} {Q : List (Value × List En)} (h : Dk W B d mb t D L vS S vR Q) (hb : Below W.heap.size W W') : Dk W' B d mb t D L vS S vR Q :=
 h.keep (fun g ty cs r => r.below hb r.lt) (hb.block mb h.map.lt)
theorem Dk.drewN {W : World} {B d mb : Nat} {t : Tt} {D : DataW En} {L : List En} {vS : Value} {S : List En} {vR : Value} {Q : List (Value × List En)} (h : Dk W B d mb t D L vS S vR Q) (n : Nat) : Dk (W.drewN n) B d mb t D L vS S vR Q := h.keep (fun g ty cs r => r) rfl
theorem pw_nodup {L : List En} (h : L.Pairwise enLt) : L.Nodup := h.imp fun {a b} (hab : enLt a b) (e : a = b) => enLt_asymm hab (by rw [e] at hab ⊢; exact hab)
theorem Dk.perm {W : World} {B d mb : Nat} {t : Tt} {D : DataW En} {L : List En} {vS : Value} {S : List En} {vR : Value} {Q : List (Value × List En)} (h : Dk W B d mb t D L vS S vR Q) : t.fr.Perm L := (List.perm_ext_iff_of_nodup (pw_nodup h.srt) h.fr.nodup).2 h.mem
theorem Dk.set {W : World} {B d mb : Nat} {t : Tt} {D : DataW En} {L : List En} {vS : Value} {S : List En} {vR : Value} {Q : List (Value × List En)} (h : Dk W B d mb t D L vS S vR Q) (i : Nat) (v : Value) :
 (∀ {g ty cs}, RA W g ty cs → ty ≠ 79 → RA (W.setCell ⟨d, i, none⟩ v) g ty cs) ∧ (W.setCell ⟨d, i, none⟩ v).heap[mb]? = W.heap[mb]? :=
 ⟨fun {g ty cs} r hn => r.other _ _ (row_ne r h.row hn), Below.heap_setCell _ _ _ mb (fun e => row_not_map h.row h.map e.symm)⟩
theorem Dk.num {W : World} {B d mb : Nat} {t : Tt} {D : DataW En} {L : List En} {vS : Value} {S : List En} {vR : Value} {Q : List (Value × List En)} (h : Dk W B d mb t D L vS S vR Q) (t' : Tt) (hf : t'.fr = t.fr) (hr : t'.rs = t.rs) (i : Nat) (v : Value) (he : (#[.int .i64 t.sq, .int .i64 t.fl, .map (some mb), vS, vR] : Array Value).setIfInBounds i v = #[.int .i64 t'.sq, .int .i64 t'.fl, .map (some mb), vS, vR]) : Dk (W.setCell ⟨d, i, none⟩ v) B d mb t' D L vS S vR Q := by
 obtain ⟨ok, om⟩ := h.set i v; have hrow := h.row.set i v; rw [he] at hrow; exact ⟨hrow, mapAt h.map om, h.fr, by rw [hf]; exact h.mem, by rw [hf]; exact h.srt, h.so.keep fun g cs _ r => ok r (by decide), by rw [hf]; exact h.sk, or_keep h.rs fun g cs _ r => ok r (by decide), fun p hp => (h.ru p hp).keep fun g cs _ r => ok r (by decide), by rw [hr]; exact h.eq, h.bd⟩
theorem Dk.sorted {W : World} {B d mb : Nat} {t : Tt} {D : DataW En} {L : List En} {vS : Value} {S : List En} {vR : Value} {Q : List (Value × List En)} (h : Dk W B d mb t D L vS S vR Q) {v : Value} (hO : OwnEn W B v t.fr) : Dk (W.setCell ⟨d, 3, none⟩ v) B d mb t D L v t.fr vR Q := by
 obtain ⟨ok, om⟩ := h.set 3 v; exact ⟨h.row.set 3 v, mapAt h.map om, h.fr, h.mem, h.srt, hO.keep fun g cs _ r => ok r (by decide), fun _ => rfl, or_keep h.rs fun g cs _ r => ok r (by decide), fun p hp => (h.ru p hp).keep fun g cs _ r => ok r (by decide), h.eq, h.bd⟩
structure KD (B : Nat) (W W' : World) : Prop where
 os : W'.os = W.os
 tape : W'.tape = W.tape
 output : W'.output = W.output
 size : W.heap.size ≤ W'.heap.size
 low : ∀ j, j < B → W'.heap[j]? = W.heap[j]?
 row : ∀ g ty cs, RA W g ty cs → ty ≠ 79 → ty ≠ 25 → RA W' g ty cs
theorem KD.refl (B : Nat) (W : World) : KD B W W := ⟨rfl, rfl, rfl, Nat.le_refl _, fun _ _ => rfl, fun _ _ _ r _ _ => r⟩
theorem KD.trans {B : Nat} {W W' W'' : World} (h : KD B W W') (k : KD B W' W'') : KD B W W'' := ⟨k.os.trans h.os, k.tape.trans h.tape, k.output.trans h.output, Nat.le_trans h.size k.size, fun j hj => (k.low j hj).trans (h.low j hj), fun g ty cs r h1 h2 => k.row g ty cs (h.row g ty cs r h1 h2) h1 h2⟩
theorem KD.of_below {B : Nat} {W W' : World} (hb : Below W.heap.size W W') (hB : B ≤ W.heap.size) : KD B W W' := ⟨hb.os, hb.tape, hb.output, hb.size, fun j hj => hb.block j (by omega), fun g ty cs r _ _ => r.below hb r.lt⟩
theorem KD.set {B d i : Nat} {W : World} {cs : Array Value} (h : RA W d 79 cs) (hB : B ≤ d) (v : Value) : KD B W (W.setCell ⟨d, i, none⟩ v) := by
 have g := grown_set (w := W) (c := d) (u := v) (o := i); exact ⟨g.os, g.tape, g.output, g.size, fun j hj => Below.heap_setCell _ _ _ j (by show j ≠ d; omega), fun b ty ds r h1 _ => r.other _ _ (row_ne r h h1)⟩
theorem KD.map {B mb n : Nat} {W W' : World} {k : TypeId} {H : Type} {R : Value → Option (DataW H × List MemPlace)} {D : DataW H} {P : Program} (hm : W.ownsMap P k R mb n D) (hB : B ≤ mb) (hg : W.grownBy W' (some mb)) (hs : B ≤ W.heap.size) : KD B W W' :=
 ⟨hg.os, hg.tape, hg.output, hg.size, fun j hj => hg.block j (by omega) (fun e => by have := Option.some.inj e; omega), fun b ty ds r _ _ => (hg.block b r.lt (fun e => row_not_map r hm (Option.some.inj e))).trans r⟩
theorem KD.runs {B n : Nat} {W W' : World} {v : Value} {cs : List Value} (h : W.ownsRow B 25 1 v n cs) (hg : W.grownBy W' v.ownBlock) (hs : B ≤ W.heap.size) : KD B W W' :=
 ⟨hg.os, hg.tape, hg.output, hg.size, fun j hj => hg.block j (by omega) (fun e => by have := (or_row h e.symm).1; omega), fun b ty ds r _ h2 => (hg.block b r.lt (fun e => by obtain ⟨_, _, cs', r'⟩ := or_row h e.symm; exact row_ne r r' h2 rfl)).trans r⟩
theorem KD.below {B : Nat} {w W W' : World} (h : KD B W W') (hb : Below B w W) : Below B w W' := ⟨h.os.trans hb.os, h.tape.trans hb.tape, h.output.trans hb.output, Nat.le_trans hb.size h.size, fun j hj => (h.low j hj).trans (hb.block j hj)⟩
theorem KD.own {B b : Nat} {W W' : World} {v : Value} {L : List En} (h : KD B W W') (ho : OwnEn W b v L) : OwnEn W' b v L := ho.keep fun g cs _ r => h.row _ _ _ r (by decide) (by decide)
theorem Dk.keepX {W : World} {B d mb X : Nat} {t : Tt} {D : DataW En} {L : List En} {vS : Value} {S : List En} {vR : Value} {Q : List (Value × List En)} {cs : Array Value} (h : Dk W B d mb t D L vS S vR Q) (hx : RA W X 25 cs) (hn : X ≠ d ∧ vR.ownBlock ≠ some X) (ds : Array Value) : Dk (W.setRow X ds) B d mb t D L vS S vR Q := by
 have ok : ∀ {g ty cs}, RA W g ty cs → g ≠ X → RA (W.setRow X ds) g ty cs := fun {g ty cs} r hne => r.otherRow X _ hne; refine ⟨ok h.row hn.1.symm, mapAt h.map ?_, h.fr, h.mem, h.srt, h.so.keep fun g cs _ r => ok r (row_ne r hx (by decide)), h.sk, or_keep h.rs fun g cs e r => ok r (fun q => hn.2 (by rw [← q]; exact e)), fun p hp => (h.ru p hp).keep fun g cs _ r => ok r (row_ne r hx (by decide)), h.eq, h.bd⟩; exact setRow_other W X mb ds (fun e => row_not_map hx h.map e.symm)
theorem KD.setX {B X : Nat} {W : World} {cs : Array Value} (hx : RA W X 25 cs) (hB : B ≤ X) (ds : Array Value) : KD B W (W.setRow X ds) := by
 have b := below_setRow (Below.refl B W) X ds hB; exact ⟨b.os, b.tape, b.output, b.size, b.block, fun g ty cs r _ h2 => r.otherRow X _ (row_ne r hx h2)⟩
set_option maxRecDepth 20000 in
theorem iVals (mb : Nat) (w : World) :
 Calls Tryz.prog 62 #[.map (some mb)] w fun e w' => e = .returned (.func (.func 78) #[] #[.pointer (some ⟨w.heap.size, 0, none⟩)]) ∧ w' = w.alloc (.cells #[.map (some mb)] 76) := by
 have hmf : ∀ (fn : Fn) (first cap : Array Value) (w : World), (Instr.makeFunc fn first cap).run Tryz.prog w = .ok (.func fn first cap) w := fun _ _ _ _ => rfl
 go_enter Tryz.func62, Tryz.ntmps62
 go_wp2
 go_ret
 exact ⟨rfl, rfl⟩
theorem fresh_ret {W' : World} {X : Nat} {v : Value} {P : Value → World → Prop} {Q : World → Prop} {tm : Array Value} (sa : RA W' X 25 #[v]) (so : P v W') (bl : Q W') (h2 : tm.getD 2 undef = .pointer (some ⟨X, 0, none⟩)) :
 bodyPost Tryz.prog Tryz.f49 (fun e w' => (∃ v, e = .returned (.agg #[v]) ∧ P v w') ∧ Q w') Exit.ret { tmps := tm, defers := [] } W' := by
 refine bodyPost_ret (v := .agg #[v]) ?_ rfl ⟨⟨v, rfl, so⟩, bl⟩; exact results_cell_row Tryz.results49 _ _ X _ _ _ _ h2 sa Tryz.underlying25 rfl (by kernel_rfl)
set_option maxRecDepth 20000 in
set_option maxHeartbeats 2000000 in
theorem iFresh (B d mb : Nat) (t : Tt) (D : DataW En) (L : List En) (vS : Value) (S : List En) (vR : Value) (Q : List (Value × List En)) (hl : L.length ≤ 1000) (hnd : (t.fr.map En.sq).Nodup) (W : World) (h : Dk W B d mb t D L vS S vR Q) (hB : B ≤ W.heap.size) :
 Calls Tryz.prog 49 #[.pointer (some ⟨d, 0, none⟩)] W fun e W' => (∃ v, e = .returned (.agg #[v]) ∧ Dk W' B d mb t D L v t.fr vR Q) ∧ KD B W W' := by
 obtain ⟨aS, cS, hvS⟩ := h.so.slice; obtain ⟨NS, hNS⟩ : ∃ x, x = S.length := ⟨_, rfl⟩; obtain ⟨NL, hNL⟩ : ∃ x, x = L.length := ⟨_, rfl⟩; rw [← hNS] at hvS; subst hvS; obtain ⟨W1, hW1⟩ : ∃ W1, W1 = W.alloc (.cells #[.slice none 0 0] 25) := ⟨_, rfl⟩; have b1 : Below W.heap.size W W1 := by rw [hW1]; exact (Below.refl _ _).alloc (Nat.le_refl _) _
 have X1 : Hid (RA W1 W.heap.size 25 #[.slice none 0 0]) := by rw [hW1]; exact RA.new _ _ _
 have D1 := hid (h.below b1); have K1 : Hid (KD B W W1) := KD.of_below b1 hB; have hlm := fun (n : Nat) ty => (D1.out.drewN n).map.len Tryz.underlying76 ty; rw [D1.out.fr.size, ← hNL] at hlm; have c2 := D1.out.row.cell 2; have c3 := D1.out.row.cell 3; have HNS := hid hNS; have HNL := hid hNL; have HL := hid hl; have HND := hid hnd; have HX : Hid (W.heap.size ≠ d ∧ vR.ownBlock ≠ some W.heap.size) := ⟨fun e => by have := h.row.lt; omega, fun e => by have := (or_row h.rs e).2.1; omega⟩; clear h hNS hNL hl b1 hnd
 go_enter Tryz.func49, Tryz.ntmps49
 go_upto_region 1 with fail
 rw [← hW1]; clear hW1
 by_cases hne : NS = NL
 · have e1 : ((NS : Int) != (NL : Int)) = false := by simp; omega
   have HS : Hid (S = t.fr) := D1.out.sk (by rw [← HNS.out, ← HNL.out]; exact hne); clear hne
   go_quiet (fail)
   have D2 := hid (D1.out.drewN nq); have X2 : Hid (RA (W1.drewN nq) W.heap.size 25 #[.slice none 0 0]) := X1.out; have K2 : Hid (KD B W (W1.drewN nq)) := K1.out.trans ⟨rfl, rfl, rfl, Nat.le_refl _, fun _ _ => rfl, fun _ _ _ r _ _ => r⟩
   generalize W1.drewN nq = W2 at D2 X2 K2 ⊢
   clear D1 X1 K1 hlm c2 c3; rw [HS.out] at D2; have c3 := D2.out.row.cell 3
   go_wp2_with (refine wpList_store_row rfl 25 (.tmp 2) (.tmp 28) rfl W.heap.size #[.slice aS NS cS] rfl rfl _ _ X2.out (by kernel_rfl) rfl (by simp [Value.oneCell']) ?_)
   have b3 : Below W.heap.size W2 (W2.setRow W.heap.size #[.slice aS NS cS]) := below_setRow (Below.refl _ _) _ _ (Nat.le_refl _); refine fresh_ret (X2.out.setRow _) ?_ ?_ rfl
   · exact D2.out.keepX X2.out HX.out _
   · exact K2.out.trans (KD.setX X2.out hB _)
 · have e1 : ((NS : Int) != (NL : Int)) = true := by simp; omega
   clear hne
   go_quiet (fail)
   have D2 := hid (D1.out.drewN nq); have X2 : Hid (RA (W1.drewN nq) W.heap.size 25 #[.slice none 0 0]) := X1.out; have K2 : Hid (KD B W (W1.drewN nq)) := K1.out.trans ⟨rfl, rfl, rfl, Nat.le_refl _, fun _ _ => rfl, fun _ _ _ r _ _ => r⟩
   generalize W1.drewN nq = W2 at D2 X2 K2 ⊢
   clear D1 X1 K1 hlm c2 c3; have c2 := D2.out.row.cell 2
   go_wp2_with fail
   refine (iVals mb W2).mono ?_
   rintro e W3 ⟨rfl, hW3⟩
   have b3 : Below W2.heap.size W2 W3 := by rw [hW3]; exact (Below.refl _ _).alloc (Nat.le_refl _) _
   have M3 : RA W3 W2.heap.size 76 #[.map (some mb)] := by rw [hW3]; exact RA.new _ _ _
   have D3 := hid (D2.out.below b3); have X3 := hid (X2.out.below b3 X2.out.lt); have K3 := hid (K2.out.trans (KD.of_below b3 (Nat.le_trans hB K2.out.size))); have KS := hid (iSortedF W2.heap.size mb L.length D L D3.out.fr (by have := HL.out; omega) W3 M3.lt (M3.cell 0) D3.out.map); clear hW3 b3 M3 D2 X2 K2 c2
   go_wp2_with fail
   refine KS.out.mono ?_
   rintro e W4 ⟨v, ss, rfl, hp, hs, ho, hb⟩
   have es : ss = t.fr := enUniq (pw_strict hs (nd_perm hp (nd_perm D3.out.perm.symm HND.out))) D3.out.srt fun x => by rw [hp.mem_iff, D3.out.mem]
   subst es; have D4 := hid (D3.out.below hb); have X4 := hid (X3.out.below hb X3.out.lt); have K4 := hid (K3.out.trans (KD.of_below hb (Nat.le_trans hB K3.out.size))); have O4 := hid (OwnEn.baseUp ho (Nat.le_trans hB K3.out.size)); obtain ⟨a4, c4, hv4⟩ := ho.slice; subst hv4; obtain ⟨N4, hN4⟩ : ∃ x, x = t.fr.length := ⟨_, rfl⟩; rw [← hN4] at O4 ⊢; clear hp hs ho hb KS D3 X3 K3 hN4; have c3 := D4.out.row.cell 3; have f3 := D4.out.row.free 3; obtain ⟨W5, hW5⟩ : ∃ W5, W5 = W4.setCell ⟨d, 3, none⟩ (.slice a4 N4 c4) := ⟨_, rfl⟩; have D5 : Hid (Dk W5 B d mb t D L (.slice a4 N4 c4) t.fr vR Q) := by rw [hW5]; exact D4.out.sorted O4.out
   have X5 : Hid (RA W5 W.heap.size 25 #[.slice none 0 0]) := by rw [hW5]; exact (D4.out.set 3 _).1 X4.out (by decide)
   have K5 : Hid (KD B W W5) := by rw [hW5]; exact K4.out.trans (KD.set D4.out.row D4.out.bd.1 _)
   have HW5 := hid hW5; clear hW5
   go_upto_region 3 with fail
   rw [← HW5.out]; clear HW5 c3 f3 D4 X4 K4 O4; have c3 := D5.out.row.cell 3
   go_wp2_with (refine wpList_store_row rfl 25 (.tmp 2) (.tmp 28) rfl W.heap.size #[.slice a4 N4 c4] rfl rfl _ _ X5.out (by kernel_rfl) rfl (by simp [Value.oneCell']) ?_)
   refine fresh_ret (X5.out.setRow _) ?_ ?_ rfl
   · exact D5.out.keepX X5.out HX.out _
   · exact K5.out.trans (KD.setX X5.out hB _)
end Go.Proofs.YtcbmgpdpjagaoaaGreat
