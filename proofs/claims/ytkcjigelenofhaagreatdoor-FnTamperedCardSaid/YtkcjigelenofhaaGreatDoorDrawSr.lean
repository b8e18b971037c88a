import Derived.Test.YtkcjigelenofhaaGreatDoorDrawSr1
import Derived.Test.YtkcjigelenofhaaGreatDoorD5
namespace Go.Proofs.YtkcjigelenofhaaGreatDoor
open Go.RowKit
set_option linter.unusedVariables false
theorem results_rrttt {P : Program} {fn : Func} {p q u u' u2 : Tmp} {ty ty2 : TypeId} (h : fn.results = #[.cell p ty, .cell q ty2, .tmp u, .tmp u', .tmp u2]) (tmps : Array Value) (w : World) (g : Nat) (t : TypeId) (cs : Array Value) (fr : Nat × Nat) (d : TypeDesc) (g2 : Nat) (t2 : TypeId) (cs2 : Array Value) (fr2 : Nat × Nat) (d2 : TypeDesc) (v v' v2 : Value)
 (hp : tmps.getD p undef = .pointer (some ⟨g, 0, none⟩)) (hq : tmps.getD q undef = .pointer (some ⟨g2, 0, none⟩)) (hv : tmps.getD u undef = v) (hv' : tmps.getD u' undef = v') (hv2 : tmps.getD u2 undef = v2) (hg : w.heap[g]? = some (.cells cs t fr)) (hg2 : w.heap[g2]? = some (.cells cs2 t2 fr2))
 (hu : P.underlying ty = some d) (hd : (match d with | .struct _ | .array _ _ => true | _ => false) = true) (hi : (P.info? ty).map (·.size) = some cs.size)
 (hu2 : P.underlying ty2 = some d2) (hd2 : (match d2 with | .struct _ | .array _ _ => true | _ => false) = true) (hi2 : (P.info? ty2).map (·.size) = some cs2.size) :
 (results fn tmps).run P w = .ok (.tuple #[.agg cs, .agg cs2, v, v', v2]) w := by
 have hp' : tmps[p]?.getD undef = .pointer (some ⟨g, 0, none⟩) := by simpa using hp
 have hq' : tmps[q]?.getD undef = .pointer (some ⟨g2, 0, none⟩) := by simpa using hq
 have e1 : tmps[u]?.getD undef = v := by simpa using hv
 have e2 : tmps[u']?.getD undef = v' := by simpa using hv'
 have e3 : tmps[u2]?.getD undef = v2 := by simpa using hv2
 simp [results, h, hp', hq', e1, e2, e3, asAddr, run_loadVar_row w g t ty cs fr d hg hu hd hi, run_loadVar_row w g2 t2 ty2 cs2 fr2 d2 hg2 hu2 hd2 hi2]
theorem Src.base {w W1 x : World} {c : Nat} {a : Option Addr} {len cap p : Nat} (h : Src W1 x c a len cap p) (hb : Below w.heap.size w W1) (hc : CodeOk w a len) : Src w x c a len cap p :=
 ⟨h.1, hc, h.2.2.1, hb.trans (h.2.2.2.1.mono hb.size), Nat.le_trans hb.size h.2.2.2.2⟩
def DrSg (w : World) (e : Ending) (w' : World) : Prop :=
 ∃ (m pt b id sec : ByteArray) (Q H : List Hp) (a1 : Option Addr) (c1 : Nat) (a2 : Option Addr) (c2 B1 B2 BS : Nat) (vS : Value) (xs : List ByteArray) (nw ls : Int),
  e = .returned (.tuple #[.agg #[.string m, .string pt, .slice a1 Q.length c1, .slice a2 H.length c2, .string b], .agg #[.string id, .string sec], vS, .int .i64 nw, .int .i64 ls]) ∧ (m.size ≤ 2000 ∧ pt.size ≤ 2000 ∧ b.size ≤ 2000 ∧ Q.length ≤ 11 ∧ H.length ≤ 10 ∧ (∀ x ∈ Q, x.nm.size ≤ 2000 ∧ x.vl.size ≤ 2000) ∧ ∀ x ∈ H, x.nm.size ≤ 2000 ∧ x.vl.size ≤ 2000) ∧ OwnHp w' B1 (.slice a1 Q.length c1) Q ∧ OwnHp w' B2 (.slice a2 H.length c2) H ∧ OwnStrs w' BS vS xs ∧ (id.size ≤ 3 ∧ sec.size ≤ 6 ∧ xs.length ≤ 5 ∧ ∀ x ∈ xs, x.size ≤ 2000) ∧ (-1 ≤ nw ∧ nw ≤ 4102444801 ∧ -1 ≤ ls ∧ ls ≤ 4102444801) ∧ Below w.heap.size w w'
def SrSt (w : World) (c : Nat) (a : Option Addr) (len cap XR XK X8 P : Nat) (W : World) : Prop :=
 ∃ (m pt b : ByteArray) (Q H : List Hp) (a1 : Option Addr) (c1 : Nat) (a2 : Option Addr) (c2 B1 B2 pp : Nat),
  RowAt W X8 25 #[.string m, .string pt, .slice a1 Q.length c1, .slice a2 H.length c2, .string b] ∧ (m.size ≤ 2000 ∧ pt.size ≤ 2000 ∧ b.size ≤ 2000 ∧ Q.length ≤ 10 ∧ H.length ≤ 10 ∧ (∀ x ∈ Q, x.nm.size ≤ 2000 ∧ x.vl.size ≤ 2000) ∧ ∀ x ∈ H, x.nm.size ≤ 2000 ∧ x.vl.size ≤ 2000) ∧ OwnHp W B1 (.slice a1 Q.length c1) Q ∧ OwnHp W B2 (.slice a2 H.length c2) H ∧ c < B1 ∧ c < B2 ∧ ((Value.slice a2 H.length c2).ownBlock = none ∨ (Value.slice a2 H.length c2).ownBlock ≠ (Value.slice a1 Q.length c1).ownBlock) ∧ Src w W c a len cap pp ∧ pp ≤ P ∧ RowAt W XR 25 #[.string ⟨#[]⟩, .string ⟨#[]⟩, .slice none 0 0, .slice none 0 0, .string ⟨#[]⟩] ∧ RowAt W XK 27 #[.string ⟨#[]⟩, .string ⟨#[]⟩]
def SrSu (w : World) (c : Nat) (a : Option Addr) (len cap XR XK X8 P : Nat) (W : World) : Prop :=
 ∃ (m pt b : ByteArray) (Q H : List Hp) (a1 : Option Addr) (c1 : Nat) (a2 : Option Addr) (c2 B1 B2 pp : Nat),
  RowAt W X8 25 #[.string m, .string pt, .slice a1 Q.length c1, .slice a2 H.length c2, .string b] ∧ (m.size ≤ 2000 ∧ pt.size ≤ 2000 ∧ b.size ≤ 2000 ∧ Q.length ≤ 11 ∧ H.length ≤ 10 ∧ (∀ x ∈ Q, x.nm.size ≤ 2000 ∧ x.vl.size ≤ 2000) ∧ ∀ x ∈ H, x.nm.size ≤ 2000 ∧ x.vl.size ≤ 2000) ∧ OwnHp W B1 (.slice a1 Q.length c1) Q ∧ OwnHp W B2 (.slice a2 H.length c2) H ∧ c < B1 ∧ c < B2 ∧ Src w W c a len cap pp ∧ pp ≤ P ∧ RowAt W XR 25 #[.string ⟨#[]⟩, .string ⟨#[]⟩, .slice none 0 0, .slice none 0 0, .string ⟨#[]⟩] ∧ RowAt W XK 27 #[.string ⟨#[]⟩, .string ⟨#[]⟩]
section
variable {w : World} {c : Nat} {a : Option Addr} {len cap XR XK X8 P P' : Nat} {W W' : World}
theorem SrSt.src (h : SrSt w c a len cap XR XK X8 P W) : ∃ pp, Src w W c a len cap pp ∧ pp ≤ P := by
 obtain ⟨_, _, _, _, _, _, _, _, _, _, _, pp, _, _, _, _, _, _, _, hs, hp, _⟩ := h
 exact ⟨pp, hs, hp⟩
theorem SrSt.next (h : SrSt w c a len cap XR XK X8 P W) (hr : c ≠ XR) (hk : c ≠ XK) (h8 : c ≠ X8) (hg : W.grownBy W' (some c)) {p' : Nat} (hs : Src w W' c a len cap p') (hp : p' ≤ P') : SrSt w c a len cap XR XK X8 P' W' := by
 obtain ⟨m, pt, b, Q, H, a1, c1, a2, c2, B1, B2, pp, x8, sz, oq, oh, l1, l2, ap, _, _, xr, xk⟩ := h
 exact ⟨m, pt, b, Q, H, a1, c1, a2, c2, B1, B2, p', rowF2 x8 hg h8, sz, OwnHp.keptC oq hg l1, OwnHp.keptC oh hg l2, l1, l2, ap, hs, hp, rowF2 xr hg hr, rowF2 xk hg hk⟩
theorem SrSt.weak (h : SrSt w c a len cap XR XK X8 P W) (hp : P ≤ P') : SrSt w c a len cap XR XK X8 P' W := by
 obtain ⟨m, pt, b, Q, H, a1, c1, a2, c2, B1, B2, pp, x8, sz, oq, oh, l1, l2, ap, hs, hp1, xr, xk⟩ := h
 exact ⟨m, pt, b, Q, H, a1, c1, a2, c2, B1, B2, pp, x8, sz, oq, oh, l1, l2, ap, hs, by omega, xr, xk⟩
theorem SrSt.su (h : SrSt w c a len cap XR XK X8 P W) : SrSu w c a len cap XR XK X8 P W := by
 obtain ⟨m, pt, b, Q, H, a1, c1, a2, c2, B1, B2, pp, x8, sz, oq, oh, l1, l2, ap, hs, hp1, xr, xk⟩ := h
 obtain ⟨z1, z2, z3, z4, z5⟩ := sz
 exact ⟨m, pt, b, Q, H, a1, c1, a2, c2, B1, B2, pp, x8, ⟨z1, z2, z3, by omega, z5⟩, oq, oh, l1, l2, hs, hp1, xr, xk⟩
theorem SrSu.src (h : SrSu w c a len cap XR XK X8 P W) : ∃ pp, Src w W c a len cap pp ∧ pp ≤ P := by
 obtain ⟨_, _, _, _, _, _, _, _, _, _, _, pp, _, _, _, _, _, _, hs, hp, _⟩ := h
 exact ⟨pp, hs, hp⟩
theorem SrSu.next (h : SrSu w c a len cap XR XK X8 P W) (hr : c ≠ XR) (hk : c ≠ XK) (h8 : c ≠ X8) (hg : W.grownBy W' (some c)) {p' : Nat} (hs : Src w W' c a len cap p') (hp : p' ≤ P') : SrSu w c a len cap XR XK X8 P' W' := by
 obtain ⟨m, pt, b, Q, H, a1, c1, a2, c2, B1, B2, pp, x8, sz, oq, oh, l1, l2, _, _, xr, xk⟩ := h
 exact ⟨m, pt, b, Q, H, a1, c1, a2, c2, B1, B2, p', rowF2 x8 hg h8, sz, OwnHp.keptC oq hg l1, OwnHp.keptC oh hg l2, l1, l2, hs, hp, rowF2 xr hg hr, rowF2 xk hg hk⟩
theorem SrSu.alloc (h : SrSu w c a len cap XR XK X8 P W) (o : Obj) : SrSu w c a len cap XR XK X8 P (W.alloc o) := by
 obtain ⟨m, pt, b, Q, H, a1, c1, a2, c2, B1, B2, pp, x8, sz, oq, oh, l1, l2, hs, hp, xr, xk⟩ := h
 exact ⟨m, pt, b, Q, H, a1, c1, a2, c2, B1, B2, pp, x8.alloc _, sz, World.ownsRow.alloc oq _, World.ownsRow.alloc oh _, l1, l2, hs.alloc _, hp, xr.alloc _, xk.alloc _⟩
theorem SrSu.set (h : SrSu w c a len cap XR XK X8 P W) {X9 : Nat} {cs : Array Value} (hx : RowAt W X9 27 cs) (h9 : c < X9) (hr : XR ≠ X9) (hk : XK ≠ X9) (h8 : X8 ≠ X9) (k : Nat) (v : Value) : SrSu w c a len cap XR XK X8 P (W.setCell ⟨X9, k, none⟩ v) := by
 obtain ⟨m, pt, b, Q, H, a1, c1, a2, c2, B1, B2, pp, x8, sz, oq, oh, l1, l2, hs, hp, xr, xk⟩ := h
 exact ⟨m, pt, b, Q, H, a1, c1, a2, c2, B1, B2, pp, x8.other _ _ h8, sz, OwnHp.setCellN oq (OwnHp.neRow oq hx (by decide)), OwnHp.setCellN oh (OwnHp.neRow oh hx (by decide)), l1, l2, hs.set h9 k v, hp, xr.other _ _ hr, xk.other _ _ hk⟩
theorem SrSt.xr (h : SrSt w c a len cap XR XK X8 P W) : W.heap.size > X8 := by
 obtain ⟨_, _, _, _, _, _, _, _, _, _, _, _, x8, _⟩ := h
 exact x8.lt
theorem srTab9 (k : Nat) (hk : k < 3) : ∃ t : ByteArray, (#[.string ⟨#[]⟩, .string ⟨#[65]⟩, .string ⟨#[97, 32, 98]⟩] : Array Value)[k]? = some (.string t) ∧ t.size ≤ 3 := by
 rcases (by omega : k = 0 ∨ k = 1 ∨ k = 2) with rfl | rfl | rfl
 all_goals exact ⟨_, rfl, by decide⟩
end
set_option maxRecDepth 20000 in
set_option maxHeartbeats 8000000 in
theorem drawSR_all (w : World) (a : Option Addr) (len cap : Nat) (hc : CodeOk w a len) (hlc : len ≤ cap) :
 Calls Tryz.prog 7 #[.slice a len cap] w fun e w' => DrSg w e w' := by
 obtain ⟨W1, hW1⟩ : ∃ W, W = (w.alloc (.cells #[.string ⟨#[]⟩, .string ⟨#[]⟩, .slice none 0 0, .slice none 0 0, .string ⟨#[]⟩] 25)).alloc (.cells #[.string ⟨#[]⟩, .string ⟨#[]⟩] 27) := ⟨_, rfl⟩
 have R1 : Hid (RowAt W1 w.heap.size 25 #[.string ⟨#[]⟩, .string ⟨#[]⟩, .slice none 0 0, .slice none 0 0, .string ⟨#[]⟩]) := by rw [hW1]; exact (RowAt.new _ _ _).alloc _
 have K1 : Hid (RowAt W1 (w.heap.size + 1) 27 #[.string ⟨#[]⟩, .string ⟨#[]⟩]) := by rw [hW1]; exact RowAt.next _ _ _ (by simp only [World.size_alloc])
 have B1' : Below w.heap.size w W1 := by rw [hW1]; exact ((Below.refl _ _).alloc (Nat.le_refl _) _).alloc (by simp) _
 have z1 : W1.heap.size = w.heap.size + 2 := by rw [hW1]; simp
 have KS := hid (source_all W1 a len cap (hc.below B1') hlc)
 have HC := hid hc
 have HB1 := hid B1'
 have HW1 := hid hW1
 obtain ⟨c, hcc⟩ : ∃ c, c = W1.heap.size := ⟨_, rfl⟩
 rw [← hcc] at KS
 have cz : c = w.heap.size + 2 := by omega
 have HCC := hid hcc
 clear hc hlc hW1 B1' hcc
 replace z1 := hid z1
 go_enter Tryz.func7, Tryz.ntmps7
 go_upto_region 1 with fail
 rw [← HW1.out]
 go_wp2_with fail
 refine KS.out.mono ?_
 rintro e w1 ⟨rfl, hs1, hb1⟩
 have S1 := hid (hs1.base HB1.out HC.out)
 have R1b := hid (R1.out.below hb1 (by omega))
 have K1b := hid (K1.out.below hb1 (by omega))
 clear hs1 hb1 KS R1 K1 HW1
 replace cz := hid cz
 go_wp2_with fail
 refine (request_all w w1 c a len cap 0 S1.out (by omega)).mono ?_
 rintro e w2 ⟨m, pt, b, Q, H, a1, c1, a2, c2, B1, B2, p2, rfl, ⟨hm, hpt, hbb, hQl, hHl, hQs, hHs⟩, hOQ, hOH, hB1, hB2, hQB, _, hS2, hp2, hg2⟩
 have hcl1 := S1.out.lt
 have R2 := rowF2 R1b.out hg2 (by have := cz.out; omega)
 have K2 := rowF2 K1b.out hg2 (by have := cz.out; omega)
 obtain ⟨X8, hX8⟩ : ∃ X, X = w2.heap.size := ⟨_, rfl⟩
 obtain ⟨W3, hW3⟩ : ∃ W, W = w2.alloc (.cells #[.string m, .string pt, .slice a1 Q.length c1, .slice a2 H.length c2, .string b] 25) := ⟨_, rfl⟩
 have c8 : c < X8 := by rw [hX8]; exact hS2.lt
 have ST3 : Hid (SrSt w c a len cap w.heap.size (w.heap.size + 1) X8 3000 W3) := by
  refine ⟨m, pt, b, Q, H, a1, c1, a2, c2, B1, B2, p2, ?_, ⟨by omega, by omega, by omega, by omega, by omega, fun x hx => by have := hQs x hx; omega, fun x hx => by have := hHs x hx; omega⟩, ?_, ?_, by omega, by omega, apart3 hQB hOH, ?_, by omega, ?_, ?_⟩
  · rw [hW3, hX8]; exact RowAt.new _ _ _
  · rw [hW3]; exact World.ownsRow.alloc hOQ _
  · rw [hW3]; exact World.ownsRow.alloc hOH _
  · rw [hW3]; exact hS2.alloc _
  · rw [hW3]; exact R2.alloc _
  · rw [hW3]; exact K2.alloc _
 have HW3 := hid hW3
 have HX8 := hid hX8
 clear hOQ hOH hB1 hB2 hQB hS2 hg2 hW3 hX8 R2 K2 S1 R1b K1b hQs hHs hm hpt hbb hQl hHl hcl1 hp2
 go_upto_region 3 with ((refine wpList_store_row rfl 25 (.tmp 8) (.tmp 13) rfl w2.heap.size #[.string m, .string pt, .slice a1 Q.length c1, .slice a2 H.length c2, .string b] rfl rfl _ _ (RowAt.new w2 _ _) (by kernel_rfl) rfl (by simp [Value.oneCell']) ?_); rw [World.setRow_alloc_new])
 rw [← HW3.out, ← HX8.out]
 clear HW3 HX8
 have nXR : c ≠ w.heap.size := by have := cz.out; omega
 have nXK : c ≠ w.heap.size + 1 := by have := cz.out; omega
 have nX8 : c ≠ X8 := by omega
 obtain ⟨p3, hs3, hp3⟩ := ST3.out.src
 have KO := hid (one_all w W3 c a len cap p3 10 hs3 (by omega) (by omega) (by omega))
 clear hs3
 go_wp2_with fail
 refine KO.out.mono ?_
 rintro e w4 ⟨⟨b1, rfl⟩, hs4, hg4⟩
 have ST4 : Hid (SrSt w c a len cap w.heap.size (w.heap.size + 1) X8 3001 w4) := ST3.out.next nXR nXK nX8 hg4 hs4 (by omega)
 clear hs4 hg4 KO ST3 hp3
 go_upto_if 15 with fail
 go_cut [] from 16 to 17 (fun wx => SrSt w c a len cap w.heap.size (w.heap.size + 1) X8 9000 wx)
 case first =>
  cases b1 with
  | false =>
   go_wp2_with fail
   go_meet
   exact ST4.out.weak (by omega)
  | true =>
   obtain ⟨p4, hs4, hp4⟩ := ST4.out.src
   have KN := hid (anyRequest_all w w4 c a len cap p4 hs4 (by omega))
   clear hs4
   go_wp2_with fail
   refine KN.out.mono ?_
   rintro e w5 ⟨m', pt', b', Q', H', d1, e1, d2, e2, B1', B2', p5, rfl, ⟨g1, g2, g3, g4, g5, g6, g7⟩, hOQ, hOH, hS5, hg5, hp5, l1, l2, ap⟩
   obtain ⟨_, _, _, _, _, _, _, _, _, _, _, _, x8, _, _, _, _, _, _, _, _, xr, xk⟩ := ST4.out
   have x8b := rowF2 x8 hg5 nX8
   have xrb := rowF2 xr hg5 nXR
   have xkb := rowF2 xk hg5 nXK
   have nr : w.heap.size ≠ X8 := by have := cz.out; omega
   have nk : w.heap.size + 1 ≠ X8 := by have := cz.out; omega
   have H8 := hid x8b
   have ST6 : Hid (SrSt w c a len cap w.heap.size (w.heap.size + 1) X8 9000 (w5.setRow X8 #[.string m', .string pt', .slice d1 Q'.length e1, .slice d2 H'.length e2, .string b'])) :=
    ⟨m', pt', b', Q', H', d1, e1, d2, e2, B1', B2', p5, x8b.setRow _, ⟨g1, g2, g3, by omega, g5, g6, g7⟩, OwnHp.setRowN hOQ (OwnHp.neRow hOQ x8b (by decide)) _, OwnHp.setRowN hOH (OwnHp.neRow hOH x8b (by decide)) _, l1, l2, ap, hS5.setRowD c8 _, by omega, xrb.otherRow _ _ nr, xkb.otherRow _ _ nk⟩
   clear hOQ hOH hS5 hg5 x8 xr xk x8b xrb xkb ap KN g1 g2 g3 g4 g5 g6 g7
   go_wp2_with (refine wpList_store_row rfl 25 (.tmp 8) (.tmp 17) rfl X8 #[.string m', .string pt', .slice d1 Q'.length e1, .slice d2 H'.length e2, .string b'] rfl rfl _ _ H8.out (by kernel_rfl) rfl (by simp [Value.oneCell']) ?_)
   go_meet
   exact ST6.out
 case rest =>
 obtain ⟨W5, rfl⟩ : ∃ v, v = wc := ⟨_, rfl⟩
 have ST5 := hid hcut
 clear hcut ST4
 obtain ⟨p5, hs5, hp5⟩ := ST5.out.src
 have KO := hid (one_all w W5 c a len cap p5 12 hs5 (by omega) (by omega) (by omega))
 clear hs5
 go_wp2_with fail
 refine KO.out.mono ?_
 rintro e w6 ⟨⟨b2, rfl⟩, hs6, hg6⟩
 have ST6 : Hid (SrSt w c a len cap w.heap.size (w.heap.size + 1) X8 9001 w6) := ST5.out.next nXR nXK nX8 hg6 hs6 (by omega)
 clear hs6 hg6 KO ST5 hp5
 go_upto_if 19 with fail
 go_cut [] from 20 to 25 (fun wx => SrSu w c a len cap w.heap.size (w.heap.size + 1) X8 9001 wx)
 case first =>
  cases b2 with
  | false =>
   go_wp2_with fail
   go_meet
   exact ST6.out.su
  | true =>
   obtain ⟨m', pt', b', Q', H', d1, e1, d2, e2, B1', B2', p6, x8, ⟨g1, g2, g3, g4, g5, g6, g7⟩, oq, oh, l1, l2, ap, hs6, hp6, xr, xk⟩ := ST6.out
   have y2 := x8.cell 2
   have OQ : Hid (OwnHp w6 (c + 1) (.slice d1 Q'.length e1) Q') := oq.mono (by omega)
   have cw : c + 1 ≤ w6.heap.size := hs6.lt
   have HX := hid x8
   have HXR := hid xr
   have HXK := hid xk
   have HOH := hid oh
   have HS := hid hs6
   have HAP := hid ap
   have G6 := hid g6
   have G7 := hid g7
   clear x8 oq oh hs6 xr xk ap ST6 g6 g7
   go_wp2_with (first | (at_builtin; refine append_hp1 (c + 1) w6 rfl (.tmp 21) (.tmp 23) 23 rfl Tryz.underlying23 Tryz.infoHpF _ Q' ⟨#[120, 45, 105, 100]⟩ ⟨#[120]⟩ rfl OQ.out cw rfl (by omega) ?_) | go_in)
   intro v7 w7 hO7 hg7
   obtain ⟨g7, cp7, rfl, _, _, _, _⟩ := OwnHp.shape hO7 (by simp)
   have X7 := row_grown HX.out hg7 (OwnHp.neRow OQ.out HX.out (by decide))
   have q7 := X7.cell 2
   have f7 := X7.free 2
   have ST7 : Hid (SrSu w c a len cap w.heap.size (w.heap.size + 1) X8 9001 (w7.setCell ⟨X8, 2, none⟩ (.slice (some ⟨g7, 0, none⟩) (Q' ++ [(⟨⟨#[120, 45, 105, 100]⟩, ⟨#[120]⟩⟩ : Hp)]).length cp7))) := by
    have oh7 := World.ownsRow.kept HOH.out hg7 HAP.out
    have xr7 := row_grown HXR.out hg7 (OwnHp.neRow OQ.out HXR.out (by decide))
    have xk7 := row_grown HXK.out hg7 (OwnHp.neRow OQ.out HXK.out (by decide))
    refine ⟨m', pt', b', Q' ++ [(⟨⟨#[120, 45, 105, 100]⟩, ⟨#[120]⟩⟩ : Hp)], H', some ⟨g7, 0, none⟩, cp7, d2, e2, c + 1, B2', p6, X7.set 2 _, ⟨g1, g2, g3, ?_, g5, mem_app G6.out ⟨by show (4 : Nat) ≤ 2000; omega, by show (1 : Nat) ≤ 2000; omega⟩, G7.out⟩, OwnHp.setCellN hO7 (OwnHp.neRow hO7 X7 (by decide)), OwnHp.setCellN oh7 (OwnHp.neRow oh7 X7 (by decide)), by omega, l2, ?_, by omega, xr7.other _ _ (by have := cz.out; simp; omega), xk7.other _ _ (by have := cz.out; simp; omega)⟩
    · rw [hp_len]; omega
    · exact (HS.out.far hg7 (OwnHp.apart OQ.out (by omega)) (fun g hg => by have := (World.ownsRow.lt OQ.out g hg).1; have := HS.out.2.2.2.2; omega)).set c8 2 _
   clear hO7 hg7 X7
   go_wp2_with fail
   go_meet
   have q := ST7.out
   rw [hp_len] at q
   exact q
 case rest =>
 obtain ⟨W7, rfl⟩ : ∃ v, v = wc := ⟨_, rfl⟩
 have ST7 := hid hcut
 clear hcut ST6
 obtain ⟨p7, hs7, hp7⟩ := ST7.out.src
 have KA := hid (accessK_all w W7 c a len cap p7 hs7 (by omega))
 clear hs7
 go_wp2_with fail
 refine KA.out.mono ?_
 rintro e w8 ⟨⟨id, sec, rfl, hid1, hsec1⟩, ⟨p8, hs8, hp8⟩, hg8⟩
 have ST8 : Hid (SrSu w c a len cap w.heap.size (w.heap.size + 1) X8 9100 w8) := ST7.out.next nXR nXK nX8 hg8 hs8 (by omega)
 obtain ⟨X9, hX9⟩ : ∃ X, X = w8.heap.size := ⟨_, rfl⟩
 have x89 : X8 < X9 := by
  rw [hX9]
  obtain ⟨_, _, _, _, _, _, _, _, _, _, _, _, x8, _⟩ := ST8.out
  exact x8.lt
 obtain ⟨W9, hW9⟩ : ∃ W, W = w8.alloc (.cells #[.string id, .string sec] 27) := ⟨_, rfl⟩
 have X9r : Hid (RowAt W9 X9 27 #[.string id, .string sec]) := by rw [hW9, hX9]; exact RowAt.new _ _ _
 have ST9 : Hid (SrSu w c a len cap w.heap.size (w.heap.size + 1) X8 9100 W9) := by rw [hW9]; exact ST8.out.alloc _
 have HW9 := hid hW9
 have HX9 := hid hX9
 clear hs8 hg8 KA ST7 ST8 hW9 hX9 hp7 hp8
 go_upto_region 8 with ((refine wpList_store_row rfl 27 (.tmp 9) (.tmp 27) rfl w8.heap.size #[.string id, .string sec] rfl rfl _ _ (RowAt.new w8 _ _) (by kernel_rfl) rfl (by simp [Value.oneCell']) ?_); rw [World.setRow_alloc_new])
 rw [← HW9.out, ← HX9.out]
 clear HW9 HX9
 have nX9 : c ≠ X9 := by omega
 obtain ⟨p9, hs9, hp9⟩ := ST9.out.src
 have KO := hid (one_all w W9 c a len cap p9 12 hs9 (by omega) (by omega) (by omega))
 clear hs9
 go_wp2_with fail
 refine KO.out.mono ?_
 rintro e w10 ⟨⟨b3, rfl⟩, hs10, hg10⟩
 have ST10 : Hid (SrSu w c a len cap w.heap.size (w.heap.size + 1) X8 9101 w10) := ST9.out.next nXR nXK nX8 hg10 hs10 (by omega)
 have X10 := hid (rowF2 X9r.out hg10 nX9)
 clear hs10 hg10 KO ST9 hp9 X9r
 go_upto_if 29 with fail
 go_cut [] from 30 to 35 (fun wx => SrSu w c a len cap w.heap.size (w.heap.size + 1) X8 9110 wx ∧ ∃ id sec : ByteArray, RowAt wx X9 27 #[.string id, .string sec] ∧ id.size ≤ 3 ∧ sec.size ≤ 6)
 case first =>
  cases b3 with
  | false =>
   go_wp2_with fail
   go_meet
   obtain ⟨m', pt', b', Q', H', d1, e1, d2, e2, B1', B2', pp, x8, sz, oq, oh, l1, l2, hs, hp1, xr, xk⟩ := ST10.out
   exact ⟨⟨m', pt', b', Q', H', d1, e1, d2, e2, B1', B2', pp, x8, sz, oq, oh, l1, l2, hs, by omega, xr, xk⟩, id, sec, X10.out, hid1, hsec1⟩
  | true =>
   obtain ⟨p10, hs10, hp10⟩ := ST10.out.src
   have KN := hid (n_all w (w10.alloc (.cells #[.string ⟨#[]⟩, .string ⟨#[65]⟩, .string ⟨#[97, 32, 98]⟩] 9)) c a len cap p10 3 (hs10.alloc _) (by omega) (by omega) (by omega))
   have hcw := hs10.lt
   clear hs10
   go_wp2_with fail
   refine KN.out.mono ?_
   rintro e w11 ⟨⟨r5, rfl, h50, h51⟩, hs11, hg11⟩
   obtain ⟨R5, rfl⟩ := Int.eq_ofNat_of_zero_le h50
   obtain ⟨tt, hk, htt⟩ := srTab9 R5 (by omega)
   have ct := ((rowF2 (RowAt.new w10 9 #[.string ⟨#[]⟩, .string ⟨#[65]⟩, .string ⟨#[97, 32, 98]⟩]) hg11 (by omega)).cell R5).trans hk
   have r5 : (R5 : Int) < 3 := by omega
   have X11 := rowF2 (X10.out.alloc (.cells #[.string ⟨#[]⟩, .string ⟨#[65]⟩, .string ⟨#[97, 32, 98]⟩] 9)) hg11 nX9
   have q0 := X11.cell 0
   have f0 := X11.free 0
   have ST11 := (ST10.out.alloc (.cells #[.string ⟨#[]⟩, .string ⟨#[65]⟩, .string ⟨#[97, 32, 98]⟩] 9)).next nXR nXK nX8 hg11 hs11 (show p10 + 1 ≤ 9110 by omega)
   have ST12 : Hid (SrSu w c a len cap w.heap.size (w.heap.size + 1) X8 9110 (w11.setCell ⟨X9, 0, none⟩ (.string tt)) ∧ ∃ id sec : ByteArray, RowAt (w11.setCell ⟨X9, 0, none⟩ (.string tt)) X9 27 #[.string id, .string sec] ∧ id.size ≤ 3 ∧ sec.size ≤ 6) :=
    ⟨ST11.set X11 (by omega) (by have := cz.out; omega) (by have := cz.out; omega) (by omega) 0 _, tt, sec, X11.set 0 _, htt, hsec1⟩
   clear hs11 hg11 X11 ST11 KN hk
   go_wp2_with fail
   go_meet
   exact ST12.out
 case rest =>
 obtain ⟨W11, rfl⟩ : ∃ v, v = wc := ⟨_, rfl⟩
 obtain ⟨⟨m', pt', b', Q', H', d1, e1, d2, e2, B1', B2', p11, x8, sz, oq, oh, l1, l2, hs11, hp11, xr, xk⟩, id', sec', x9, hid2, hsec2⟩ := hcut
 clear ST10 X10
 go_upto_region 10 with fail
 refine sr_wp w c a len cap p11 w.heap.size (w.heap.size + 1) X8 X9 m' pt' b' id' sec' d1 e1 B1' Q' d2 e2 B2' H' W11 hs11 xr xk x8 x9 ⟨oq, l1⟩ ⟨oh, l2⟩ (fun x hx => (sz.2.2.2.2.2.2 x hx).1) ⟨by omega, by have := cz.out; omega, c8, x89, Nat.le_refl _, by omega⟩ ?_
 intro BS vS xs R6 X7 R9 z11 R13 X14 R16 z18 pp w' hS' _ hx2 hx3 _ _ hoq hoh _ _ hxs _ _ _ hz11 _ _ _ hz18
 have D : Hid (DrSg w (.returned (.tuple #[.agg #[.string m', .string pt', .slice d1 Q'.length e1, .slice d2 H'.length e2, .string b'], .agg #[.string id', .string sec'], vS, .int .i64 z11, .int .i64 z18])) w') :=
  ⟨m', pt', b', id', sec', Q', H', d1, e1, d2, e2, B1', B2', BS, vS, xs, z11, z18, rfl, sz, hoq.1, hoh.1, hxs.1, ⟨hid2, hsec2, hxs.2.2.1, hxs.2.2.2⟩, ⟨hz11.1, hz11.2, hz18.1, hz18.2⟩, hS'.2.2.2.1⟩
 have X2 := hid hx2
 have X3 := hid hx3
 clear hS' hx2 hx3 hoq hoh hxs
 go_wp2
 refine bodyPost_ret (v := .tuple #[.agg #[.string m', .string pt', .slice d1 Q'.length e1, .slice d2 H'.length e2, .string b'], .agg #[.string id', .string sec'], vS, .int .i64 z11, .int .i64 z18]) ?_ rfl D.out
 exact results_rrttt Tryz.results7 _ _ w.heap.size _ _ _ _ (w.heap.size + 1) _ _ _ _ _ _ _ rfl rfl rfl rfl rfl X2.out X3.out Tryz.underlying25 rfl (by kernel_rfl) Tryz.underlying27 rfl (by kernel_rfl)
end Go.Proofs.YtkcjigelenofhaaGreatDoor
