import Derived.Test.YtcbmgpdpjagaoaaGreatI3
import Derived.Test.YtcbmgpdpjagaoaaGreatS2
namespace Go.Proofs.YtcbmgpdpjagaoaaGreat
open Go.RowKit
def oITab0 : Oper := { dst := some 32, op := Op.fieldAddr 28 (Operand.tmp 1) 3, type := 0, pos := "l08_runs.go:460", after := #[], guard := none }
def oITab1 : Oper := { dst := some 33, op := Op.load 26 (Operand.tmp 32), type := 26, pos := "l08_runs.go:460", after := #[{ on := 0, ground := Ground.data }], guard := none }
def oITab2 : Oper := { dst := some 35, op := Op.fieldAddr 28 (Operand.tmp 1) 2, type := 0, pos := "l08_runs.go:460", after := #[], guard := none }
def oITab3 : Oper := { dst := some 36, op := Op.load 25 (Operand.tmp 35), type := 25, pos := "l08_runs.go:460", after := #[{ on := 3, ground := Ground.data }], guard := none }
def oITab4 : Oper := { dst := some 3, op := Op.assign (Operand.tmp 39), type := 59, pos := "l08_runs.go:460", after := #[{ on := 7, ground := Ground.data }, { on := 7, ground := Ground.chain }, { on := 0, ground := Ground.phase }, { on := 1, ground := Ground.phase }, { on := 2, ground := Ground.phase }, { on := 3, ground := Ground.phase }, { on := 4, ground := Ground.phase }, { on := 5, ground := Ground.phase }, { on := 6, ground := Ground.phase }, { on := 7, ground := Ground.phase }], guard := none }
def oITab5 : Oper := { dst := some 40, op := Op.move (Operand.tmp 3), type := 59, pos := "l08_runs.go:461", after := #[], guard := none }
def oITab6 : Oper := { dst := some 42, op := Op.unOp UnOp.not 4 (Operand.tmp 41), type := 4, pos := "l08_runs.go:461", after := #[{ on := 1, ground := Ground.data }], guard := none }
def oITab7 : Oper := { dst := some 43, op := Op.move (Operand.tmp 42), type := 4, pos := "l08_runs.go:461", after := #[{ on := 2, ground := Ground.data }, { on := 1, ground := Ground.chain }], guard := none }
def oITab8 : Oper := { dst := some 44, op := Op.move (Operand.tmp 3), type := 59, pos := "l08_runs.go:461", after := #[{ on := 3, ground := Ground.guard }], guard := some (3, false) }
def oITab9 : Oper := { dst := some 45, op := Op.call { callee := Callee.builtin Builtin.len, args := #[Operand.tmp 44], argTypes := #[59] }, type := 3, pos := "l08_runs.go:461", after := #[{ on := 4, ground := Ground.data }, { on := 3, ground := Ground.guard }], guard := some (3, false) }
def oITab10 : Oper := { dst := some 46, op := Op.binOp BinOp.gtr 3 (Operand.tmp 45) (Operand.const (Value.int IntKind.i64 0)) 3, type := 4, pos := "l08_runs.go:461", after := #[{ on := 5, ground := Ground.data }, { on := 3, ground := Ground.guard }], guard := some (3, false) }
def oITab11 : Oper := { dst := some 47, op := Op.move (Operand.tmp 46), type := 4, pos := "l08_runs.go:461", after := #[{ on := 6, ground := Ground.data }, { on := 3, ground := Ground.chain }, { on := 3, ground := Ground.guard }], guard := some (3, false) }
def oITab12 : Oper := { dst := some 48, op := Op.move (Operand.tmp 3), type := 59, pos := "l08_runs.go:461", after := #[{ on := 7, ground := Ground.guard }], guard := some (7, true) }
def oITab13 : Oper := { dst := some 49, op := Op.move (Operand.tmp 3), type := 59, pos := "l08_runs.go:461", after := #[{ on := 7, ground := Ground.guard }], guard := some (7, true) }
def oITab14 : Oper := { dst := some 50, op := Op.call { callee := Callee.builtin Builtin.len, args := #[Operand.tmp 49], argTypes := #[59] }, type := 3, pos := "l08_runs.go:461", after := #[{ on := 9, ground := Ground.data }, { on := 7, ground := Ground.guard }], guard := some (7, true) }
def oITab15 : Oper := { dst := some 51, op := Op.binOp BinOp.sub 3 (Operand.tmp 50) (Operand.const (Value.int IntKind.i64 1)) 3, type := 3, pos := "l08_runs.go:461", after := #[{ on := 10, ground := Ground.data }, { on := 7, ground := Ground.guard }], guard := some (7, true) }
def oITab16 : Oper := { dst := some 52, op := Op.indexAddr 59 (Operand.tmp 48) (Operand.tmp 51), type := 0, pos := "l08_runs.go:461", after := #[{ on := 8, ground := Ground.data }, { on := 11, ground := Ground.data }, { on := 7, ground := Ground.guard }], guard := some (7, true) }
def oITab17 : Oper := { dst := some 53, op := Op.load 2 (Operand.tmp 52), type := 2, pos := "l08_runs.go:461", after := #[{ on := 12, ground := Ground.data }, { on := 7, ground := Ground.guard }], guard := some (7, true) }
def oITab18 : Oper := { dst := some 54, op := Op.fieldAddr 28 (Operand.tmp 1) 0, type := 0, pos := "l08_runs.go:461", after := #[{ on := 7, ground := Ground.guard }], guard := some (7, true) }
def oITab19 : Oper := { dst := some 55, op := Op.load 2 (Operand.tmp 54), type := 2, pos := "l08_runs.go:461", after := #[{ on := 14, ground := Ground.data }, { on := 7, ground := Ground.guard }], guard := some (7, true) }
def oITab20 : Oper := { dst := some 56, op := Op.binOp BinOp.gtr 2 (Operand.tmp 53) (Operand.tmp 55) 2, type := 4, pos := "l08_runs.go:461", after := #[{ on := 13, ground := Ground.data }, { on := 15, ground := Ground.data }, { on := 7, ground := Ground.guard }], guard := some (7, true) }
def oITab21 : Oper := { dst := some 57, op := Op.pick (Operand.tmp 47) (Operand.tmp 56) (Operand.const (Value.bool false)), type := 4, pos := "l08_runs.go:461", after := #[{ on := 7, ground := Ground.data }, { on := 16, ground := Ground.data }, { on := 3, ground := Ground.guard }], guard := some (3, false) }
def oITab22 : Oper := { dst := some 58, op := Op.pick (Operand.tmp 43) (Operand.const (Value.bool true)) (Operand.tmp 57), type := 4, pos := "l08_runs.go:461", after := #[{ on := 3, ground := Ground.data }, { on := 17, ground := Ground.data }], guard := none }
theorem aI9 {α : Type} (l : List α) (i : Nat) (a : α) : l.toArray.setIfInBounds i a = (l.set i a).toArray := by simp
theorem bI9 {α : Type} (x a : α) (l : List α) : (x :: l).set 0 a = a :: l := rfl
theorem cI9 {α : Type} (x a : α) (l : List α) (i : Nat) : (x :: l).set (i + 1) a = x :: l.set i a := rfl
theorem step_append_two {P : Program} (base base2 : Nat) (w : World) {ops : Array Oper} {o : Oper} {a : Act} {K : Act → World → Prop} {Q : Exit → Act → World → Prop} {E : Prop} (hgd : o.guard = none) (s x : Operand) (t : TypeId)
 (ho : o.op = .call { callee := .builtin .append, args := #[s, x], argTypes := #[t, t] })
 (e : TypeId) (ht : P.underlying t = some (.slice e)) (hinfo : (P.info? e).map (fun i => (i.zero, i.size, i.bytes)) = some (some (.int .i64 0), 1, 8))
 (v v2 : Value) (xs ys : List Int) (hs : a.eval s = v) (hx : a.eval x = v2) (hown : OwnNums w base e .i64 v xs) (hown2 : OwnNums w base2 e .i64 v2 ys) (hsz : base ≤ w.heap.size) (hlen : xs.length + ys.length ≤ 17592186044414)
 (h : ∀ v' w', OwnNums w' base e .i64 v' (xs ++ ys) → w.grownBy w' v.ownBlock → K (a.put o.dst v') w') :
 if Region.wanted o (yielded ops a.tmps) = true then Oper.wp P o a w K Q else E := by
 obtain ⟨i0, hi, hz0, hz1, hz2⟩ := info_parts hinfo; have hw : Region.wanted o (yielded ops a.tmps) = true := by simp [Region.wanted, hgd]
 rw [if_pos hw]
 rcases hown2.2 with ⟨h1, h2⟩ | ⟨g, cap, cur, he, hb, hr, hnc, hm, hsz2, htk⟩
 · have hy : ys = [] := List.length_eq_zero_iff.1 h2
   subst h1; have hr := run_append_owned_none (P := P) (w := w) base t o.type e i0 1 ht hi v _ _ hown; unfold Oper.wp execOp; simp only [ho, resolve, invoke, builtin, Sem.run_bind, Sem.run_pure, Result.andThen_ok, List.map_toArray, List.map_cons, List.map_nil, hs, hx, hr]; exact h v w (by rw [hy, List.append_nil]; exact hown) (below_grown (Below.refl _ _) _)
 · subst he
   refine wp_append_own w s x t ho base e i0 (.int .i64 0) 1 8 ht hi hz0 hz1 hz2 rfl (by decide) v xs.length _ hs hown ⟨g, 0, none⟩ ys.length cap (ys.map (Value.int .i64)) hx (by simp) ?_ ?_ ?_ (by omega) hsz ?_
   · intro j u hj
     exact World.ownsRow.cells hown2 rfl j u hj
   · intro u hu; obtain ⟨y, _, rfl⟩ := List.mem_map.1 hu; rfl
   · unfold maxLen; omega
   · intro v' w' h1 h2 _
     exact h v' w' (by simpa [OwnNums] using h1) h2
theorem OwnRn.rns {w : World} {base : Nat} {v : Value} {R : Nat → Rn} {m : Nat} (h : OwnRn w base v (rnL R (m + 1))) (hE : ∀ k, k < m + 1 → Ens w (R k).ad (R k).n (R k).cap (R k).o) : ∃ a cap, v = .slice a (m + 1) cap ∧ Rns w a (m + 1) cap R := by
 have hl := rnL_len R (m + 1)
 rcases h.2 with ⟨_, h2⟩ | ⟨g, cap, cur, he, hb, hr, hnc, hm, hsz2, htk⟩
 · rw [hl] at h2; cases h2
 · subst he
   refine ⟨some ⟨g, 0, none⟩, cap, by rw [hl], ⟨by rw [← hl]; exact hnc, .inr ⟨g, 0, rfl, (Array.getElem?_eq_some_iff.1 hr).1, fun k hk => ?_⟩, hE⟩⟩; have := World.ownsRow.cells h rfl k (rnV (R k)) (by simp [rnL, hk]); have hadd : (⟨g, 0, none⟩ : Addr).add k = ⟨g, k, none⟩ := by unfold Addr.add; split <;> simp_all
   rw [hadd] at this; rw [Nat.zero_add]; exact this
theorem cntR_congr {R R' : Nat → Rn} {m : Nat} (h : ∀ k, k < m → R k = R' k) : cntR R m = cntR R' m := by
 induction m with
 | zero => rfl
 | succ m ih => show cntR R m + _ = cntR R' m + _; rw [ih fun k hk => h k (by omega), h m (by omega)]
theorem runs_snoc (R : Nat → Rn) (m : Nat) (r : Rn) : runsOk (snoc R m r) (m + 1) ↔ (∀ k, k < m → runOk (R k).n (R k).o) ∧ runOk r.n r.o ∧ cntR R m + r.n ≤ 1000 := by
 have hs : ∀ k, k < m → snoc R m r k = R k := fun k hk => by unfold snoc; rw [if_pos hk]
 have hl : snoc R m r m = r := by unfold snoc; rw [if_neg (by omega)]
 have hc : cntR (snoc R m r) (m + 1) = cntR R m + r.n := by
  show cntR (snoc R m r) m + _ = _
  rw [hl, cntR_congr hs]
 unfold runsOk; rw [hc]
 constructor
 · rintro ⟨h1, h2⟩
   exact ⟨fun k hk => by have := h1 k (by omega); rwa [hs k hk] at this, by have := h1 m (by omega); rwa [hl] at this, h2⟩
 · rintro ⟨h1, h2, h3⟩
   refine ⟨fun k hk => ?_, h3⟩
   by_cases e : k = m
   · subst e; rw [hl]; exact h2
   · rw [hs k (by omega)]; exact h1 k (by omega)
set_option maxRecDepth 20000 in
set_option maxHeartbeats 8000000 in
theorem iTabG (s f : Int) (a0 : Option Addr) (n0 c0 : Nat) (o0 : Nat → En) (ar : Option Addr) (m cap : Nat) (R : Nat → Rn) (hn : n0 ≤ 1048576) (hm : m ≤ 1048576) (hc : cntR R m + n0 ≤ 1048576) (hs : ∀ k, k < n0 → (o0 k).ky.size ≤ 1048576 ∧ (o0 k).tx.size ≤ 1048576) (hz : RnSz R m) (w : World) (h0 : Ens w a0 n0 c0 o0) (h : Rns w ar m cap R) (hA : RnA w ar m cap R) :
 Calls Tryz.prog 8 #[.agg #[.int .i64 s, .int .i64 f, .slice a0 n0 c0, .slice ar m cap]] w fun e w' => e = .returned (.int .i64 (tabV s f n0 o0 m R)) ∧ Below w.heap.size w w' := by
 obtain ⟨W1, hW1⟩ : ∃ W, W = w.alloc (.cells #[.int .i64 s, .int .i64 f, .slice a0 n0 c0, .slice ar m cap] 28) := ⟨_, rfl⟩; have R1 : Hid (RA W1 w.heap.size 28 #[.int .i64 s, .int .i64 f, .slice a0 n0 c0, .slice ar m cap]) := by rw [hW1]; exact RA.new _ _ _
 have B1 : Hid (Below w.heap.size w W1) := by rw [hW1]; exact balEn (Below.refl _ _) _
 have H0 := hid h0; have HH := hid h; have HZ := hid hz; have HSZ := hid hs; have HW1 := hid hW1; have K0 := hid (iAllRunsG ar m cap R ⟨a0, n0, c0, o0⟩ hm W1 (hA.below B1.out)); rw [show rnV ⟨a0, n0, c0, o0⟩ = .slice a0 n0 c0 from rfl] at K0; clear hW1 h0 h hs hz hA; have r0 := R1.out.cell 0; have r1 := R1.out.cell 1; have r2 := R1.out.cell 2; have r3 := R1.out.cell 3
 by_cases q2 : 4611686018427387904 < s
 · have E : Hid (tabV s f n0 o0 m R = 1) := tabV_no fun h => by have := h.1.1; omega
   go_enter Tryz.func8, Tryz.ntmps8
   go_upto_region 1 with fail
   rw [← HW1.out]
   go_wp2
   go_ret
   exact ⟨by rw [E.out]; rfl, B1.out⟩
 by_cases q3 : f < 0
 · have E : Hid (tabV s f n0 o0 m R = 1) := tabV_no fun h => by have := h.1.2.1; omega
   go_enter Tryz.func8, Tryz.ntmps8
   go_upto_region 1 with fail
   rw [← HW1.out]
   go_wp2
   go_ret
   exact ⟨by rw [E.out]; rfl, B1.out⟩
 by_cases q4 : s < f
 · have E : Hid (tabV s f n0 o0 m R = 1) := tabV_no fun h => by have := h.1.2.2.1; omega
   go_enter Tryz.func8, Tryz.ntmps8
   go_upto_region 1 with fail
   rw [← HW1.out]
   go_wp2
   go_ret
   exact ⟨by rw [E.out]; rfl, B1.out⟩
 by_cases q5 : (20 : Int) < (m : Int)
 · have E : Hid (tabV s f n0 o0 m R = 1) := tabV_no fun h => by have := h.1.2.2.2; omega
   go_enter Tryz.func8, Tryz.ntmps8
   go_upto_region 1 with fail
   rw [← HW1.out]
   go_wp2
   go_ret
   exact ⟨by rw [E.out]; rfl, B1.out⟩
 have HD : Hid (hdOk s f m) := ⟨by omega, by omega, by omega, by omega⟩; have HSN := hid (runs_snoc R m ⟨a0, n0, c0, o0⟩)
 have HCS : Hid (cntR (snoc R m ⟨a0, n0, c0, o0⟩) (m + 1) ≤ 1073741824) := by
  show cntR (snoc R m ⟨a0, n0, c0, o0⟩) m + (snoc R m ⟨a0, n0, c0, o0⟩ m).n ≤ _
  rw [cntR_congr (R' := R) fun k hk => by unfold snoc; rw [if_pos hk], show snoc R m ⟨a0, n0, c0, o0⟩ m = ⟨a0, n0, c0, o0⟩ by unfold snoc; rw [if_neg (by omega)]]
  show cntR R m + n0 ≤ _; omega
 have HZS : Hid (RnSz (snoc R m ⟨a0, n0, c0, o0⟩) (m + 1)) := fun k hk => by
  by_cases e : k < m
  · rw [show snoc R m ⟨a0, n0, c0, o0⟩ k = R k by unfold snoc; rw [if_pos e]]; exact HZ.out k e
  · rw [show snoc R m ⟨a0, n0, c0, o0⟩ k = ⟨a0, n0, c0, o0⟩ by unfold snoc; rw [if_neg e]]; exact ⟨hn, HSZ.out⟩
 have HES : ∀ wx, Below w.heap.size w wx → ∀ k, k < m + 1 → Ens wx (snoc R m ⟨a0, n0, c0, o0⟩ k).ad (snoc R m ⟨a0, n0, c0, o0⟩ k).n (snoc R m ⟨a0, n0, c0, o0⟩ k).cap (snoc R m ⟨a0, n0, c0, o0⟩ k).o := fun wx hb k hk => by
  by_cases e : k < m
  · rw [show snoc R m ⟨a0, n0, c0, o0⟩ k = R k by unfold snoc; rw [if_pos e]]; exact (HH.out.2.2 k e).below hb
  · rw [show snoc R m ⟨a0, n0, c0, o0⟩ k = ⟨a0, n0, c0, o0⟩ by unfold snoc; rw [if_neg e]]; exact H0.out.below hb
 have HHES := hid HES
 generalize snoc R m ⟨a0, n0, c0, o0⟩ = RS at K0 HSN HCS HZS HHES
 clear HES
 go_enter Tryz.func8, Tryz.ntmps8
 go_upto_region 1 with fail
 rw [← HW1.out]
 go_wp2_with fail
 refine K0.out.mono ?_
 rintro e w2 ⟨v, rfl, hO2, hb2⟩
 have R2 := hid (R1.out.below hb2 R1.out.lt); have B2 := hid (B1.out.trans (hb2.mono B1.out.size)); obtain ⟨av, cv, rfl, hN2⟩ := OwnRn.rns hO2 (HHES.out w2 B2.out); have K1 := hid (iRunsFit av (m + 1) cv RS HCS.out (by omega) HZS.out w2 hN2); clear hO2 hb2 hN2 K0 HCS HZS HHES r0 r1 r2 r3 R1 B1 HW1 q2 q3 q4 q5
 cases hrb : runsB RS (m + 1) with
 | false =>
  have E : Hid (tabV s f n0 o0 m R = 1) := tabV_no fun h => by
   have := runsB_t (HSN.out.2 ⟨h.2.2.1.1, h.2.1, h.2.2.2.1⟩); rw [hrb] at this; cases this
  rw [hrb] at K1; clear hrb
  go_wp2_with fail
  refine K1.out.mono ?_
  rintro e w3 ⟨rfl, hb3⟩
  have B3 := hid (B2.out.trans (hb3.mono B2.out.size)); clear hb3 K1
  go_wp2
  go_ret
  exact ⟨by rw [E.out]; rfl, B3.out⟩
 | true =>
  obtain ⟨p1, p2, p3⟩ := HSN.out.1 ((runsB_iff RS (m + 1)).1 hrb); have P1 := hid p1; have P2 := hid p2; have P3 : Hid (cntR R m + n0 ≤ 1000) := p3; rw [hrb] at K1; clear hrb p1 p2 p3 HSN
  go_wp2_with fail
  refine K1.out.mono ?_
  rintro e w3 ⟨rfl, hb3⟩
  have hR3 := R2.out.below hb3 R2.out.lt; have B3 := hid (B2.out.trans (hb3.mono B2.out.size)); clear hb3 K1 R2 B2
  go_wp2_with fail
  have KS := fun wx (hb : Below w.heap.size w wx) => hid (iSeqsOf ar m cap R (by omega) hm wx (HH.out.below hb)); have KF := fun wx b (hb : Below w.heap.size w wx) (hx : RA wx b 25 #[.slice a0 n0 c0]) => hid (iSeqsOf (some ⟨b, 0, none⟩) 1 1 (fun _ => ⟨a0, n0, c0, o0⟩) (by show 0 + n0 ≤ 1048576; omega) (by decide) wx ⟨Nat.le_refl _, .inr ⟨b, 0, rfl, hx.lt, fun i hi => by rw [show 0 + i = 0 by omega]; exact hx.cell 0⟩, fun i hi => H0.out.below hb⟩); have HLEN : Hid ((sortI (sqA R m)).length + (sortI (sqL o0 n0)).length ≤ 17592186044414) := by show _ ≤ _; rw [sortI_len, sortI_len, sqA_len, sqL_len]; omega
  go_cut [3] from 32 to 39 (fun c wx => OwnNums wx w.heap.size 2 .i64 c (sortI (sqA R m) ++ sortI (sqL o0 n0)) ∧ Below w.heap.size w wx ∧ RA wx w.heap.size 28 #[.int .i64 s, .int .i64 f, .slice a0 n0 c0, .slice ar m cap])
  case first =>
   refine wp_region_held_drew (S := fun wx => wx.cell? ⟨w.heap.size, 2, none⟩ = some (.slice a0 n0 c0) ∧ wx.cell? ⟨w.heap.size, 3, none⟩ = some (.slice ar m cap)) (by kernel_rfl) ?_ (fun hHeld => ?_)
   · exact ⟨hR3.cell 2, hR3.cell 3⟩
   refine wpAnyH_take (i := 0) (oi := oITab0) (v := ?vt0) rfl (by kernel_rfl) (by kernel_rfl) (by kernel_rfl) (fun _ _ _ h => h) (Or.inl ⟨by rfl, ?hyt0⟩) hHeld ?restt0
   case hyt0 => (unfold oITab0; intro w hSw; (try dsimp only at hSw); go_simp; try with_reducible rfl)
   simp only [oITab0, Act.put, aI9, bI9, cI9]; refine wpAnyH_take (i := 1) (oi := oITab1) (v := ?vt1) rfl (by kernel_rfl) (by kernel_rfl) (by kernel_rfl) (fun _ _ _ h => h) (Or.inl ⟨by rfl, ?hyt1⟩) hHeld ?restt1
   case hyt1 => (unfold oITab1; intro w hSw; (try dsimp only at hSw); go_simp; try with_reducible rfl)
   simp only [oITab1, Act.put, aI9, bI9, cI9]; refine wpAnyH_take (i := 3) (oi := oITab2) (v := ?vt3) rfl (by kernel_rfl) (by kernel_rfl) (by kernel_rfl) (fun _ _ _ h => h) (Or.inl ⟨by rfl, ?hyt3⟩) hHeld ?restt3
   case hyt3 => (unfold oITab2; intro w hSw; (try dsimp only at hSw); go_simp; try with_reducible rfl)
   simp only [oITab2, Act.put, aI9, bI9, cI9]; refine wpAnyH_take (i := 4) (oi := oITab3) (v := ?vt4) rfl (by kernel_rfl) (by kernel_rfl) (by kernel_rfl) (fun _ _ _ h => h) (Or.inl ⟨by rfl, ?hyt4⟩) hHeld ?restt4
   case hyt4 => (unfold oITab3; intro w hSw; (try dsimp only at hSw); go_simp; try with_reducible rfl)
   simp only [oITab3, Act.put, aI9, bI9, cI9]; refine wpAnyH_ready (rs := [2, 5]) (by kernel_rfl) (by simp) ?_
   refine AllReadyH.cons (o := { dst := some 34, op := Op.call { callee := Callee.value (Operand.func 29), args := #[Operand.tmp 33], argTypes := #[26] }, type := 59, pos := "l08_runs.go:460", after := #[{ on := 1, ground := Ground.data }], guard := none }) rfl (fun K hK => ?_) (AllReadyH.cons (o := { dst := some 37, op := Op.buildSlice 26 1 #[(0, Operand.tmp 36)], type := 26, pos := "l08_runs.go:460", after := #[{ on := 4, ground := Ground.data }], guard := none }) rfl (fun K hK => ?_) AllReadyH.nil)
   · go_simp
     refine (KS _ B3.out.drew).out.mono ?_
     rintro e w4 ⟨v1, rfl, hO1, hb4⟩
     have hR4 := RA.nx hb4 hR3.drew; have BW4 := hid (B3.out.drew.trans (hb4.mono B3.out.size)); have s4 : w3.heap.size ≤ w4.heap.size := hb4.size
     go_wp2_with fail
     refine hK.out _ _ ?_ (fun hHeld => ?_)
     · exact ⟨hR4.cell 2, hR4.cell 3⟩
     clear hK K
     try simp only [Act.put, aI9, bI9, cI9]
     refine wpAnyH_ready (rs := [5]) (by kernel_rfl) (by simp) ?_
     refine AllReadyH.cons (o := { dst := some 37, op := Op.buildSlice 26 1 #[(0, Operand.tmp 36)], type := 26, pos := "l08_runs.go:460", after := #[{ on := 4, ground := Ground.data }], guard := none }) rfl (fun K hK => ?_) AllReadyH.nil
     go_simp
     refine hK.out _ _ ?_ (fun hHeld => ?_)
     · exact ⟨(hR4.alloc _).cell 2, (hR4.alloc _).cell 3⟩
     clear hK K
     try simp only [Act.put, aI9, bI9, cI9]
     refine wpAnyH_ready (rs := [6]) (by kernel_rfl) (by simp) ?_
     refine AllReadyH.cons (o := { dst := some 38, op := Op.call { callee := Callee.value (Operand.func 29), args := #[Operand.tmp 37], argTypes := #[26] }, type := 59, pos := "l08_runs.go:460", after := #[{ on := 5, ground := Ground.data }, { on := 2, ground := Ground.chain }], guard := none }) rfl (fun K hK => ?_) AllReadyH.nil
     go_simp
     have BA : Below w.heap.size w (w4.alloc (.cells #[.slice a0 n0 c0] 25)) := BW4.out.alloc BW4.out.size _; refine (KF _ w4.heap.size BA (RA.new w4 _ _)).out.mono ?_
     rintro e w5 ⟨v2, rfl, hO2, hb5⟩
     rw [sqA_one] at hO2; have hO5 := OwnNums.nx hb5 (OwnNums.al hO1 (.cells #[.slice a0 n0 c0] 25)); have hR5 := RA.nx hb5 (hR4.alloc (.cells #[.slice a0 n0 c0] 25)); have BW5 := hid (BA.trans (hb5.mono BA.size)); have s5 : w3.heap.size ≤ w5.heap.size := Nat.le_trans s4 (Nat.le_trans (by rw [size_al]; omega) hb5.size)
     go_wp2_with fail
     refine hK.out _ _ ?_ (fun hHeld => ?_)
     · exact ⟨hR5.cell 2, hR5.cell 3⟩
     clear hK K
     try simp only [Act.put, aI9, bI9, cI9]
     refine wpAnyH_ready (rs := [7]) (by kernel_rfl) (by simp) ?_
     refine AllReadyH.cons (o := { dst := some 39, op := Op.call { callee := Callee.builtin Builtin.append, args := #[Operand.tmp 34, Operand.tmp 38], argTypes := #[59, 59] }, type := 59, pos := "l08_runs.go:460", after := #[{ on := 2, ground := Ground.data }, { on := 6, ground := Ground.data }, { on := 6, ground := Ground.chain }], guard := none }) rfl (fun K hK => ?_) AllReadyH.nil
     refine step_append_two w3.heap.size _ _ (by rfl) _ _ 59 (by rfl) 2 Tryz.underlying59 Tryz.info64 _ _ _ _ (by rfl) (by rfl) hO5 hO2 s5 HLEN.out ?_; intro v' w6 hO6 hg6; have gne : ∀ k, v1.ownBlock = some k → w3.heap.size ≤ k := fun k hk => (World.ownsRow.lt hO5 k hk).1; have hR6 := (show RA w6 w.heap.size 28 #[.int .i64 s, .int .i64 f, .slice a0 n0 c0, .slice ar m cap] from (hg6.block w.heap.size hR5.lt fun e => by have := gne _ e.symm; have := hR3.lt; omega).trans hR5); refine hK.out _ _ ?_ (fun hHeld => ?_)
     · exact ⟨hR6.cell 2, hR6.cell 3⟩
     clear hK K
     try simp only [Act.put, aI9, bI9, cI9]
     refine wpAnyH_take (i := 8) (oi := oITab4) (v := ?vta8) rfl (by kernel_rfl) (by kernel_rfl) (by kernel_rfl) (fun _ _ _ h => h) (Or.inl ⟨by rfl, ?hyta8⟩) hHeld ?restta8
     case hyta8 => (unfold oITab4; intro w hSw; (try dsimp only at hSw); go_simp; try with_reducible rfl)
     simp only [oITab4, Act.put, aI9, bI9, cI9]; refine wpAnyH_done (by kernel_rfl) ?_ _
     go_wp2
     go_meet
     exact ⟨World.ownsRow.mono hO6 B3.out.size, BW5.out.grown hg6 BW5.out.size (fun k hk => Nat.le_trans B3.out.size (gne k hk)), hR6⟩
   · go_simp
     refine hK.out _ _ ?_ (fun hHeld => ?_)
     · exact ⟨(hR3.alloc _).cell 2, (hR3.alloc _).cell 3⟩
     clear hK K
     try simp only [Act.put, aI9, bI9, cI9]
     refine wpAnyH_ready (rs := [2]) (by kernel_rfl) (by simp) ?_
     refine AllReadyH.cons (o := { dst := some 34, op := Op.call { callee := Callee.value (Operand.func 29), args := #[Operand.tmp 33], argTypes := #[26] }, type := 59, pos := "l08_runs.go:460", after := #[{ on := 1, ground := Ground.data }], guard := none }) rfl (fun K hK => ?_) AllReadyH.nil
     go_simp
     have BA : Below w.heap.size w (w3.alloc (.cells #[.slice a0 n0 c0] 25)).drew := (B3.out.alloc B3.out.size _).drew; refine (KS _ BA).out.mono ?_
     rintro e w4 ⟨v1, rfl, hO1, hb4⟩
     have hR4 := RA.nx hb4 (hR3.alloc (.cells #[.slice a0 n0 c0] 25)).drew; have hX4 := RA.nx hb4 (RA.new w3 25 #[.slice a0 n0 c0]).drew; have BW4 := hid (BA.trans (hb4.mono BA.size)); have s34 : w3.heap.size ≤ (w3.alloc (.cells #[.slice a0 n0 c0] 25)).drew.heap.size := by show _ ≤ (w3.alloc _).heap.size; rw [size_al]; omega
     have s4 : w3.heap.size ≤ w4.heap.size := Nat.le_trans s34 hb4.size; have hO1' := World.ownsRow.mono hO1 s34
     go_wp2_with fail
     refine hK.out _ _ ?_ (fun hHeld => ?_)
     · exact ⟨hR4.cell 2, hR4.cell 3⟩
     clear hK K
     try simp only [Act.put, aI9, bI9, cI9]
     refine wpAnyH_ready (rs := [6]) (by kernel_rfl) (by simp) ?_
     refine AllReadyH.cons (o := { dst := some 38, op := Op.call { callee := Callee.value (Operand.func 29), args := #[Operand.tmp 37], argTypes := #[26] }, type := 59, pos := "l08_runs.go:460", after := #[{ on := 5, ground := Ground.data }, { on := 2, ground := Ground.chain }], guard := none }) rfl (fun K hK => ?_) AllReadyH.nil
     go_simp
     refine (KF _ w3.heap.size BW4.out hX4).out.mono ?_
     rintro e w5 ⟨v2, rfl, hO2, hb5⟩
     rw [sqA_one] at hO2; have hO5 := OwnNums.nx (base := w3.heap.size) hb5 hO1'; have hR5 := RA.nx hb5 hR4; have BW5 := hid (BW4.out.trans (hb5.mono BW4.out.size)); have s5 : w3.heap.size ≤ w5.heap.size := Nat.le_trans s4 hb5.size
     go_wp2_with fail
     refine hK.out _ _ ?_ (fun hHeld => ?_)
     · exact ⟨hR5.cell 2, hR5.cell 3⟩
     clear hK K
     try simp only [Act.put, aI9, bI9, cI9]
     refine wpAnyH_ready (rs := [7]) (by kernel_rfl) (by simp) ?_
     refine AllReadyH.cons (o := { dst := some 39, op := Op.call { callee := Callee.builtin Builtin.append, args := #[Operand.tmp 34, Operand.tmp 38], argTypes := #[59, 59] }, type := 59, pos := "l08_runs.go:460", after := #[{ on := 2, ground := Ground.data }, { on := 6, ground := Ground.data }, { on := 6, ground := Ground.chain }], guard := none }) rfl (fun K hK => ?_) AllReadyH.nil
     refine step_append_two w3.heap.size _ _ (by rfl) _ _ 59 (by rfl) 2 Tryz.underlying59 Tryz.info64 _ _ _ _ (by rfl) (by rfl) hO5 hO2 s5 HLEN.out ?_; intro v' w6 hO6 hg6; have gne : ∀ k, v1.ownBlock = some k → w3.heap.size ≤ k := fun k hk => (World.ownsRow.lt hO5 k hk).1; have hR6 := (show RA w6 w.heap.size 28 #[.int .i64 s, .int .i64 f, .slice a0 n0 c0, .slice ar m cap] from (hg6.block w.heap.size hR5.lt fun e => by have := gne _ e.symm; have := hR3.lt; omega).trans hR5); refine hK.out _ _ ?_ (fun hHeld => ?_)
     · exact ⟨hR6.cell 2, hR6.cell 3⟩
     clear hK K
     try simp only [Act.put, aI9, bI9, cI9]
     refine wpAnyH_take (i := 8) (oi := oITab4) (v := ?vtb8) rfl (by kernel_rfl) (by kernel_rfl) (by kernel_rfl) (fun _ _ _ h => h) (Or.inl ⟨by rfl, ?hytb8⟩) hHeld ?resttb8
     case hytb8 => (unfold oITab4; intro w hSw; (try dsimp only at hSw); go_simp; try with_reducible rfl)
     simp only [oITab4, Act.put, aI9, bI9, cI9]; refine wpAnyH_done (by kernel_rfl) ?_ _
     go_wp2
     go_meet
     exact ⟨World.ownsRow.mono hO6 B3.out.size, BW5.out.grown hg6 BW5.out.size (fun k hk => Nat.le_trans B3.out.size (gne k hk)), hR6⟩
  case rest =>
   obtain ⟨hO7, hB7, hR7⟩ := hcut; clear KS KF hR3 B3
   have HTI : Hid ((rise (sortI (sqA R m) ++ sortI (sqL o0 n0)) ∧ lastOk (sortI (sqA R m) ++ sortI (sqL o0 n0)) s) ↔ tabOk s f n0 o0 m R) := by
    show _ ↔ _
    rw [tab_iff s R m o0 n0 ((sqL_nodup o0 n0).2 P2.out.2.2.2)]
    constructor
    · rintro ⟨⟨x1, x2⟩, x3⟩; exact ⟨HD.out, P2.out, ⟨P1.out, by have := P3.out; omega, x1, x2⟩, P3.out, x3⟩
    · rintro ⟨_, _, ⟨_, _, x1, x2⟩, _, x3⟩; exact ⟨⟨x1, x2⟩, x3⟩
   have HLN : Hid ((sortI (sqA R m) ++ sortI (sqL o0 n0)).length ≤ 1048576) := by show _ ≤ _; rw [List.length_append, sortI_len, sortI_len, sqA_len, sqL_len]; omega
   generalize sortI (sqA R m) ++ sortI (sqL o0 n0) = l at hO7 HTI HLN
   obtain ⟨TV, hTV⟩ : ∃ v, v = tabV s f n0 o0 m R := ⟨_, rfl⟩; have HT0 : Hid (rise l → lastOk l s → TV = 0) := fun x1 x2 => by rw [hTV]; exact tabV_ok (HTI.out.1 ⟨x1, x2⟩)
   have HT1 : Hid (¬ (rise l ∧ lastOk l s) → TV = 1) := fun x => by rw [hTV]; exact tabV_no fun y => x (HTI.out.2 y)
   have HTV := hid hTV; obtain ⟨a7, c7, rfl, hI7, hc7⟩ := own_intsR hO7; have KR := hid (iRises a7 l.length c7 l HLN.out wc.drew (show Ints .i64 wc.drew a7 l.length c7 l from hI7)); have HI := hid hI7; have HB := hid hB7; have HR := hid hR7; have HLB := hid HLN.out; obtain ⟨ln, hln⟩ : ∃ n, n = l.length := ⟨_, rfl⟩; rw [← hln] at KR HI ⊢; have hlb : ln ≤ 1048576 := by rw [hln]; exact HLN.out
   have HLE := hid hln; clear hO7 hI7 hc7 hB7 hR7 hTV hln HTI P1 P2 P3 HD HLN HLB H0 HH HZ HSZ
   go_upto_region 6 with fail
   cases hrb : riseB l with
   | false =>
    rw [hrb] at KR; have hnr : ¬ rise l := fun h => by rw [riseB_t h] at hrb; cases hrb
    clear hrb; have E : Hid (TV = 1) := HT1.out fun h => hnr h.1; clear HT0 HT1 HLE HI; refine wp_region_held_drew (S := fun wx => wx.cell? ⟨w.heap.size, 0, none⟩ = some (.int .i64 s)) (by kernel_rfl) ?_ (fun hHeld => ?_)
    · exact HR.out.cell 0
    refine wpAnyH_take (i := 0) (oi := oITab5) (v := ?v1x0) rfl (by kernel_rfl) (by kernel_rfl) (by kernel_rfl) (fun _ _ _ h => h) (Or.inl ⟨by rfl, ?hy1x0⟩) hHeld ?rest1x0
    case hy1x0 => (unfold oITab5; intro w hSw; (try dsimp only at hSw); go_simp; try with_reducible rfl)
    simp only [oITab5, Act.put, aI9, bI9, cI9]; refine wpAnyH_ready (rs := [1]) (by kernel_rfl) (by simp) ?_
    refine AllReadyH.cons (o := { dst := some 41, op := Op.call { callee := Callee.value (Operand.func 30), args := #[Operand.tmp 40], argTypes := #[59] }, type := 4, pos := "l08_runs.go:461", after := #[{ on := 0, ground := Ground.data }], guard := none }) rfl (fun K hK => ?_) AllReadyH.nil
    go_simp
    refine KR.out.mono ?_
    rintro e w8 ⟨rfl, hb8⟩
    have hR8 := RA.nx hb8 HR.out.drew; have B8 := hid (HB.out.drew.trans (hb8.mono HB.out.size))
    go_wp2_with fail
    refine hK.out _ _ ?_ (fun hHeld => ?_)
    · exact hR8.cell 0
    clear hK K
    try simp only [Act.put, aI9, bI9, cI9]
    refine wpAnyH_take (i := 2) (oi := oITab6) (v := ?v1x2) rfl (by kernel_rfl) (by kernel_rfl) (by kernel_rfl) (fun _ _ _ h => h) (Or.inl ⟨by rfl, ?hy1x2⟩) hHeld ?rest1x2
    case hy1x2 => (unfold oITab6; intro w hSw; (try dsimp only at hSw); go_simp; try with_reducible rfl)
    simp only [oITab6, Act.put, aI9, bI9, cI9]; refine wpAnyH_take (i := 3) (oi := oITab7) (v := ?v1x3) rfl (by kernel_rfl) (by kernel_rfl) (by kernel_rfl) (fun _ _ _ h => h) (Or.inl ⟨by rfl, ?hy1x3⟩) hHeld ?rest1x3
    case hy1x3 => (unfold oITab7; intro w hSw; (try dsimp only at hSw); go_simp; try with_reducible rfl)
    simp only [oITab7, Act.put, aI9, bI9, cI9]; refine wpAnyH_take (i := 4) (oi := oITab8) (v := undef) rfl (by kernel_rfl) (by kernel_rfl) (by kernel_rfl) (fun _ _ _ h => h) (Or.inr ⟨by rfl, rfl⟩) hHeld ?_; simp only [oITab8, Act.put, aI9, bI9, cI9]; refine wpAnyH_take (i := 5) (oi := oITab9) (v := undef) rfl (by kernel_rfl) (by kernel_rfl) (by kernel_rfl) (fun _ _ _ h => h) (Or.inr ⟨by rfl, rfl⟩) hHeld ?_; simp only [oITab9, Act.put, aI9, bI9, cI9]; refine wpAnyH_take (i := 6) (oi := oITab10) (v := undef) rfl (by kernel_rfl) (by kernel_rfl) (by kernel_rfl) (fun _ _ _ h => h) (Or.inr ⟨by rfl, rfl⟩) hHeld ?_; simp only [oITab10, Act.put, aI9, bI9, cI9]; refine wpAnyH_take (i := 7) (oi := oITab11) (v := undef) rfl (by kernel_rfl) (by kernel_rfl) (by kernel_rfl) (fun _ _ _ h => h) (Or.inr ⟨by rfl, rfl⟩) hHeld ?_; simp only [oITab11, Act.put, aI9, bI9, cI9]; refine wpAnyH_take (i := 8) (oi := oITab12) (v := undef) rfl (by kernel_rfl) (by kernel_rfl) (by kernel_rfl) (fun _ _ _ h => h) (Or.inr ⟨by rfl, rfl⟩) hHeld ?_; simp only [oITab12, Act.put, aI9, bI9, cI9]; refine wpAnyH_take (i := 9) (oi := oITab13) (v := undef) rfl (by kernel_rfl) (by kernel_rfl) (by kernel_rfl) (fun _ _ _ h => h) (Or.inr ⟨by rfl, rfl⟩) hHeld ?_; simp only [oITab13, Act.put, aI9, bI9, cI9]; refine wpAnyH_take (i := 10) (oi := oITab14) (v := undef) rfl (by kernel_rfl) (by kernel_rfl) (by kernel_rfl) (fun _ _ _ h => h) (Or.inr ⟨by rfl, rfl⟩) hHeld ?_; simp only [oITab14, Act.put, aI9, bI9, cI9]; refine wpAnyH_take (i := 11) (oi := oITab15) (v := undef) rfl (by kernel_rfl) (by kernel_rfl) (by kernel_rfl) (fun _ _ _ h => h) (Or.inr ⟨by rfl, rfl⟩) hHeld ?_; simp only [oITab15, Act.put, aI9, bI9, cI9]; refine wpAnyH_take (i := 12) (oi := oITab16) (v := undef) rfl (by kernel_rfl) (by kernel_rfl) (by kernel_rfl) (fun _ _ _ h => h) (Or.inr ⟨by rfl, rfl⟩) hHeld ?_; simp only [oITab16, Act.put, aI9, bI9, cI9]; refine wpAnyH_take (i := 13) (oi := oITab17) (v := undef) rfl (by kernel_rfl) (by kernel_rfl) (by kernel_rfl) (fun _ _ _ h => h) (Or.inr ⟨by rfl, rfl⟩) hHeld ?_; simp only [oITab17, Act.put, aI9, bI9, cI9]; refine wpAnyH_take (i := 14) (oi := oITab18) (v := undef) rfl (by kernel_rfl) (by kernel_rfl) (by kernel_rfl) (fun _ _ _ h => h) (Or.inr ⟨by rfl, rfl⟩) hHeld ?_; simp only [oITab18, Act.put, aI9, bI9, cI9]; refine wpAnyH_take (i := 15) (oi := oITab19) (v := undef) rfl (by kernel_rfl) (by kernel_rfl) (by kernel_rfl) (fun _ _ _ h => h) (Or.inr ⟨by rfl, rfl⟩) hHeld ?_; simp only [oITab19, Act.put, aI9, bI9, cI9]; refine wpAnyH_take (i := 16) (oi := oITab20) (v := undef) rfl (by kernel_rfl) (by kernel_rfl) (by kernel_rfl) (fun _ _ _ h => h) (Or.inr ⟨by rfl, rfl⟩) hHeld ?_; simp only [oITab20, Act.put, aI9, bI9, cI9]; refine wpAnyH_take (i := 17) (oi := oITab21) (v := undef) rfl (by kernel_rfl) (by kernel_rfl) (by kernel_rfl) (fun _ _ _ h => h) (Or.inr ⟨by rfl, rfl⟩) hHeld ?_; simp only [oITab21, Act.put, aI9, bI9, cI9]; refine wpAnyH_take (i := 18) (oi := oITab22) (v := ?v1x18) rfl (by kernel_rfl) (by kernel_rfl) (by kernel_rfl) (fun _ _ _ h => h) (Or.inl ⟨by rfl, ?hy1x18⟩) hHeld ?rest1x18
    case hy1x18 => (unfold oITab22; intro w hSw; (try dsimp only at hSw); go_simp; try with_reducible rfl)
    simp only [oITab22, Act.put, aI9, bI9, cI9]; refine wpAnyH_done (by kernel_rfl) ?_ _
    go_wp2
    go_ret
    exact ⟨by rw [← HTV.out, E.out]; rfl, B8.out⟩
   | true =>
    rw [hrb] at KR; have hri : rise l := (riseB_iff l).1 hrb; clear hrb
    rcases Nat.eq_zero_or_pos ln with h0 | h0
    · have d0 : decide ((0 : Int) < (ln : Int)) = false := by simp; omega
      have d1 : decide (0 < ln) = false := by simp; omega
      have d2 : ¬ 0 < ln := by omega
      have E := hid (HT0.out hri (.inl (by rw [← HLE.out]; exact h0))); clear HT0 HT1 HLE HI h0; refine wp_region_held_drew (S := fun wx => wx.cell? ⟨w.heap.size, 0, none⟩ = some (.int .i64 s)) (by kernel_rfl) ?_ (fun hHeld => ?_)
      · exact HR.out.cell 0
      refine wpAnyH_take (i := 0) (oi := oITab5) (v := ?v2x0) rfl (by kernel_rfl) (by kernel_rfl) (by kernel_rfl) (fun _ _ _ h => h) (Or.inl ⟨by rfl, ?hy2x0⟩) hHeld ?rest2x0
      case hy2x0 => (unfold oITab5; intro w hSw; (try dsimp only at hSw); go_simp; try with_reducible rfl)
      simp only [oITab5, Act.put, aI9, bI9, cI9]; refine wpAnyH_ready (rs := [1]) (by kernel_rfl) (by simp) ?_
      refine AllReadyH.cons (o := { dst := some 41, op := Op.call { callee := Callee.value (Operand.func 30), args := #[Operand.tmp 40], argTypes := #[59] }, type := 4, pos := "l08_runs.go:461", after := #[{ on := 0, ground := Ground.data }], guard := none }) rfl (fun K hK => ?_) AllReadyH.nil
      go_simp
      refine KR.out.mono ?_
      rintro e w8 ⟨rfl, hb8⟩
      have hR8 := RA.nx hb8 HR.out.drew; have B8 := hid (HB.out.drew.trans (hb8.mono HB.out.size))
      go_wp2_with fail
      refine hK.out _ _ ?_ (fun hHeld => ?_)
      · exact hR8.cell 0
      clear hK K
      try simp only [Act.put, aI9, bI9, cI9]
      refine wpAnyH_take (i := 2) (oi := oITab6) (v := ?v2x2) rfl (by kernel_rfl) (by kernel_rfl) (by kernel_rfl) (fun _ _ _ h => h) (Or.inl ⟨by rfl, ?hy2x2⟩) hHeld ?rest2x2
      case hy2x2 => (unfold oITab6; intro w hSw; (try dsimp only at hSw); go_simp; try with_reducible rfl)
      simp only [oITab6, Act.put, aI9, bI9, cI9]; refine wpAnyH_take (i := 3) (oi := oITab7) (v := ?v2x3) rfl (by kernel_rfl) (by kernel_rfl) (by kernel_rfl) (fun _ _ _ h => h) (Or.inl ⟨by rfl, ?hy2x3⟩) hHeld ?rest2x3
      case hy2x3 => (unfold oITab7; intro w hSw; (try dsimp only at hSw); go_simp; try with_reducible rfl)
      simp only [oITab7, Act.put, aI9, bI9, cI9]; refine wpAnyH_take (i := 4) (oi := oITab8) (v := ?v2x4) rfl (by kernel_rfl) (by kernel_rfl) (by kernel_rfl) (fun _ _ _ h => h) (Or.inl ⟨by rfl, ?hy2x4⟩) hHeld ?rest2x4
      case hy2x4 => (unfold oITab8; intro w hSw; (try dsimp only at hSw); go_simp; try with_reducible rfl)
      simp only [oITab8, Act.put, aI9, bI9, cI9]; refine wpAnyH_take (i := 5) (oi := oITab9) (v := ?v2x5) rfl (by kernel_rfl) (by kernel_rfl) (by kernel_rfl) (fun _ _ _ h => h) (Or.inl ⟨by rfl, ?hy2x5⟩) hHeld ?rest2x5
      case hy2x5 => (unfold oITab9; intro w hSw; (try dsimp only at hSw); go_simp; try with_reducible rfl)
      simp only [oITab9, Act.put, aI9, bI9, cI9]; refine wpAnyH_take (i := 6) (oi := oITab10) (v := ?v2x6) rfl (by kernel_rfl) (by kernel_rfl) (by kernel_rfl) (fun _ _ _ h => h) (Or.inl ⟨by rfl, ?hy2x6⟩) hHeld ?rest2x6
      case hy2x6 => (unfold oITab10; intro w hSw; (try dsimp only at hSw); go_simp; try with_reducible rfl)
      simp only [oITab10, Act.put, aI9, bI9, cI9]; refine wpAnyH_take (i := 7) (oi := oITab11) (v := ?v2x7) rfl (by kernel_rfl) (by kernel_rfl) (by kernel_rfl) (fun _ _ _ h => h) (Or.inl ⟨by rfl, ?hy2x7⟩) hHeld ?rest2x7
      case hy2x7 => (unfold oITab11; intro w hSw; (try dsimp only at hSw); go_simp; try with_reducible rfl)
      simp only [oITab11, Act.put, aI9, bI9, cI9]; refine wpAnyH_take (i := 8) (oi := oITab12) (v := undef) rfl (by kernel_rfl) (by kernel_rfl) (by kernel_rfl) (fun _ _ _ h => h) (Or.inr ⟨by rfl, rfl⟩) hHeld ?_; simp only [oITab12, Act.put, aI9, bI9, cI9]; refine wpAnyH_take (i := 9) (oi := oITab13) (v := undef) rfl (by kernel_rfl) (by kernel_rfl) (by kernel_rfl) (fun _ _ _ h => h) (Or.inr ⟨by rfl, rfl⟩) hHeld ?_; simp only [oITab13, Act.put, aI9, bI9, cI9]; refine wpAnyH_take (i := 10) (oi := oITab14) (v := undef) rfl (by kernel_rfl) (by kernel_rfl) (by kernel_rfl) (fun _ _ _ h => h) (Or.inr ⟨by rfl, rfl⟩) hHeld ?_; simp only [oITab14, Act.put, aI9, bI9, cI9]; refine wpAnyH_take (i := 11) (oi := oITab15) (v := undef) rfl (by kernel_rfl) (by kernel_rfl) (by kernel_rfl) (fun _ _ _ h => h) (Or.inr ⟨by rfl, rfl⟩) hHeld ?_; simp only [oITab15, Act.put, aI9, bI9, cI9]; refine wpAnyH_take (i := 12) (oi := oITab16) (v := undef) rfl (by kernel_rfl) (by kernel_rfl) (by kernel_rfl) (fun _ _ _ h => h) (Or.inr ⟨by rfl, rfl⟩) hHeld ?_; simp only [oITab16, Act.put, aI9, bI9, cI9]; refine wpAnyH_take (i := 13) (oi := oITab17) (v := undef) rfl (by kernel_rfl) (by kernel_rfl) (by kernel_rfl) (fun _ _ _ h => h) (Or.inr ⟨by rfl, rfl⟩) hHeld ?_; simp only [oITab17, Act.put, aI9, bI9, cI9]; refine wpAnyH_take (i := 14) (oi := oITab18) (v := undef) rfl (by kernel_rfl) (by kernel_rfl) (by kernel_rfl) (fun _ _ _ h => h) (Or.inr ⟨by rfl, rfl⟩) hHeld ?_; simp only [oITab18, Act.put, aI9, bI9, cI9]; refine wpAnyH_take (i := 15) (oi := oITab19) (v := undef) rfl (by kernel_rfl) (by kernel_rfl) (by kernel_rfl) (fun _ _ _ h => h) (Or.inr ⟨by rfl, rfl⟩) hHeld ?_; simp only [oITab19, Act.put, aI9, bI9, cI9]; refine wpAnyH_take (i := 16) (oi := oITab20) (v := undef) rfl (by kernel_rfl) (by kernel_rfl) (by kernel_rfl) (fun _ _ _ h => h) (Or.inr ⟨by rfl, rfl⟩) hHeld ?_; simp only [oITab20, Act.put, aI9, bI9, cI9]; refine wpAnyH_take (i := 17) (oi := oITab21) (v := ?v2x17) rfl (by kernel_rfl) (by kernel_rfl) (by kernel_rfl) (fun _ _ _ h => h) (Or.inl ⟨by rfl, ?hy2x17⟩) hHeld ?rest2x17
      case hy2x17 => (unfold oITab21; intro w hSw; (try dsimp only at hSw); go_simp; try with_reducible rfl)
      simp only [oITab21, Act.put, aI9, bI9, cI9]; refine wpAnyH_take (i := 18) (oi := oITab22) (v := ?v2x18) rfl (by kernel_rfl) (by kernel_rfl) (by kernel_rfl) (fun _ _ _ h => h) (Or.inl ⟨by rfl, ?hy2x18⟩) hHeld ?rest2x18
      case hy2x18 => (unfold oITab22; intro w hSw; (try dsimp only at hSw); go_simp; try with_reducible rfl)
      simp only [oITab22, Act.put, aI9, bI9, cI9]; refine wpAnyH_done (by kernel_rfl) ?_ _
      go_wp2
      go_ret
      exact ⟨by rw [← HTV.out, E.out]; rfl, B8.out⟩
    have d0 : decide ((0 : Int) < (ln : Int)) = true := by simp; omega
    rcases HI.out.2.2 with hz | ⟨b, off, rfl, hbl, hcc⟩
    · omega
    obtain ⟨k, hk⟩ : ∃ k, k = ln - 1 := ⟨_, rfl⟩; have c0 := hcc k (by omega); have m2 : (ln : Int) - 1 = (k : Int) := by omega
    have m3 : (0 : Int) ≤ (k : Int) := by omega
    have m4 : (k : Int) < (ln : Int) := by omega
    have m5 : IntKind.i64.wrap ((ln : Int) - 1) = (k : Int) := by rw [m2]; simp [IntKind.wrap, IntKind.bits, IntKind.signed]; omega
    have HLA : Hid (lastOk l s ↔ l.getD k 0 ≤ s) := by
     show _ ↔ _
     have e : l.length - 1 = k := by rw [← HLE.out, hk]
     unfold lastOk; rw [e]; exact ⟨fun h => h.elim (fun h => by rw [← HLE.out] at h; omega) id, .inr⟩
    obtain ⟨Y, hY⟩ : ∃ y, y = l.getD k 0 := ⟨_, rfl⟩; rw [← hY] at c0 HLA; clear hcc hY hk m2
    by_cases hys : s < Y
    · have dy : decide (s < Y) = true := by simp; omega
      have E : Hid (TV = 1) := HT1.out fun h => by have := HLA.out.1 h.2; omega
      clear HT0 HT1 HLE HI; refine wp_region_held_drew (S := fun wx => wx.cell? ⟨w.heap.size, 0, none⟩ = some (.int .i64 s) ∧ wx.cell? ⟨b, off + k, none⟩ = some (.int .i64 Y)) (by kernel_rfl) ?_ (fun hHeld => ?_)
      · exact ⟨HR.out.cell 0, c0⟩
      refine wpAnyH_take (i := 0) (oi := oITab5) (v := ?v3x0) rfl (by kernel_rfl) (by kernel_rfl) (by kernel_rfl) (fun _ _ _ h => h) (Or.inl ⟨by rfl, ?hy3x0⟩) hHeld ?rest3x0
      case hy3x0 => (unfold oITab5; intro w hSw; (try dsimp only at hSw); go_simp; try with_reducible rfl)
      simp only [oITab5, Act.put, aI9, bI9, cI9]; refine wpAnyH_ready (rs := [1]) (by kernel_rfl) (by simp) ?_
      refine AllReadyH.cons (o := { dst := some 41, op := Op.call { callee := Callee.value (Operand.func 30), args := #[Operand.tmp 40], argTypes := #[59] }, type := 4, pos := "l08_runs.go:461", after := #[{ on := 0, ground := Ground.data }], guard := none }) rfl (fun K hK => ?_) AllReadyH.nil
      go_simp
      refine KR.out.mono ?_
      rintro e w8 ⟨rfl, hb8⟩
      have hR8 := RA.nx hb8 HR.out.drew; have B8 := hid (HB.out.drew.trans (hb8.mono HB.out.size))
      go_wp2_with fail
      refine hK.out _ _ ?_ (fun hHeld => ?_)
      · exact ⟨hR8.cell 0, (hb8.cell (p := ⟨b, off + k, none⟩) hbl).trans c0⟩
      clear hK K
      try simp only [Act.put, aI9, bI9, cI9]
      refine wpAnyH_take (i := 2) (oi := oITab6) (v := ?v3x2) rfl (by kernel_rfl) (by kernel_rfl) (by kernel_rfl) (fun _ _ _ h => h) (Or.inl ⟨by rfl, ?hy3x2⟩) hHeld ?rest3x2
      case hy3x2 => (unfold oITab6; intro w hSw; (try dsimp only at hSw); go_simp; try with_reducible rfl)
      simp only [oITab6, Act.put, aI9, bI9, cI9]; refine wpAnyH_take (i := 3) (oi := oITab7) (v := ?v3x3) rfl (by kernel_rfl) (by kernel_rfl) (by kernel_rfl) (fun _ _ _ h => h) (Or.inl ⟨by rfl, ?hy3x3⟩) hHeld ?rest3x3
      case hy3x3 => (unfold oITab7; intro w hSw; (try dsimp only at hSw); go_simp; try with_reducible rfl)
      simp only [oITab7, Act.put, aI9, bI9, cI9]; refine wpAnyH_take (i := 4) (oi := oITab8) (v := ?v3x4) rfl (by kernel_rfl) (by kernel_rfl) (by kernel_rfl) (fun _ _ _ h => h) (Or.inl ⟨by rfl, ?hy3x4⟩) hHeld ?rest3x4
      case hy3x4 => (unfold oITab8; intro w hSw; (try dsimp only at hSw); go_simp; try with_reducible rfl)
      simp only [oITab8, Act.put, aI9, bI9, cI9]; refine wpAnyH_take (i := 5) (oi := oITab9) (v := ?v3x5) rfl (by kernel_rfl) (by kernel_rfl) (by kernel_rfl) (fun _ _ _ h => h) (Or.inl ⟨by rfl, ?hy3x5⟩) hHeld ?rest3x5
      case hy3x5 => (unfold oITab9; intro w hSw; (try dsimp only at hSw); go_simp; try with_reducible rfl)
      simp only [oITab9, Act.put, aI9, bI9, cI9]; refine wpAnyH_take (i := 6) (oi := oITab10) (v := ?v3x6) rfl (by kernel_rfl) (by kernel_rfl) (by kernel_rfl) (fun _ _ _ h => h) (Or.inl ⟨by rfl, ?hy3x6⟩) hHeld ?rest3x6
      case hy3x6 => (unfold oITab10; intro w hSw; (try dsimp only at hSw); go_simp; try with_reducible rfl)
      simp only [oITab10, Act.put, aI9, bI9, cI9]; refine wpAnyH_take (i := 7) (oi := oITab11) (v := ?v3x7) rfl (by kernel_rfl) (by kernel_rfl) (by kernel_rfl) (fun _ _ _ h => h) (Or.inl ⟨by rfl, ?hy3x7⟩) hHeld ?rest3x7
      case hy3x7 => (unfold oITab11; intro w hSw; (try dsimp only at hSw); go_simp; try with_reducible rfl)
      simp only [oITab11, Act.put, aI9, bI9, cI9]; refine wpAnyH_take (i := 8) (oi := oITab12) (v := ?v3x8) rfl (by kernel_rfl) (by kernel_rfl) (by kernel_rfl) (fun _ _ _ h => h) (Or.inl ⟨by rfl, ?hy3x8⟩) hHeld ?rest3x8
      case hy3x8 => (unfold oITab12; intro w hSw; (try dsimp only at hSw); go_simp; try with_reducible rfl)
      simp only [oITab12, Act.put, aI9, bI9, cI9]; refine wpAnyH_take (i := 9) (oi := oITab13) (v := ?v3x9) rfl (by kernel_rfl) (by kernel_rfl) (by kernel_rfl) (fun _ _ _ h => h) (Or.inl ⟨by rfl, ?hy3x9⟩) hHeld ?rest3x9
      case hy3x9 => (unfold oITab13; intro w hSw; (try dsimp only at hSw); go_simp; try with_reducible rfl)
      simp only [oITab13, Act.put, aI9, bI9, cI9]; refine wpAnyH_take (i := 10) (oi := oITab14) (v := ?v3x10) rfl (by kernel_rfl) (by kernel_rfl) (by kernel_rfl) (fun _ _ _ h => h) (Or.inl ⟨by rfl, ?hy3x10⟩) hHeld ?rest3x10
      case hy3x10 => (unfold oITab14; intro w hSw; (try dsimp only at hSw); go_simp; try with_reducible rfl)
      simp only [oITab14, Act.put, aI9, bI9, cI9]; refine wpAnyH_take (i := 11) (oi := oITab15) (v := ?v3x11) rfl (by kernel_rfl) (by kernel_rfl) (by kernel_rfl) (fun _ _ _ h => h) (Or.inl ⟨by rfl, ?hy3x11⟩) hHeld ?rest3x11
      case hy3x11 => (unfold oITab15; intro w hSw; (try dsimp only at hSw); go_simp; try with_reducible rfl)
      simp only [oITab15, Act.put, aI9, bI9, cI9]; refine wpAnyH_take (i := 12) (oi := oITab16) (v := ?v3x12) rfl (by kernel_rfl) (by kernel_rfl) (by kernel_rfl) (fun _ _ _ h => h) (Or.inl ⟨by rfl, ?hy3x12⟩) hHeld ?rest3x12
      case hy3x12 => (unfold oITab16; intro w hSw; (try dsimp only at hSw); go_simp; try with_reducible rfl)
      simp only [oITab16, Act.put, aI9, bI9, cI9]; refine wpAnyH_take (i := 13) (oi := oITab17) (v := ?v3x13) rfl (by kernel_rfl) (by kernel_rfl) (by kernel_rfl) (fun _ _ _ h => h) (Or.inl ⟨by rfl, ?hy3x13⟩) hHeld ?rest3x13
      case hy3x13 => (unfold oITab17; intro w hSw; (try dsimp only at hSw); go_simp; try with_reducible rfl)
      simp only [oITab17, Act.put, aI9, bI9, cI9]; refine wpAnyH_take (i := 14) (oi := oITab18) (v := ?v3x14) rfl (by kernel_rfl) (by kernel_rfl) (by kernel_rfl) (fun _ _ _ h => h) (Or.inl ⟨by rfl, ?hy3x14⟩) hHeld ?rest3x14
      case hy3x14 => (unfold oITab18; intro w hSw; (try dsimp only at hSw); go_simp; try with_reducible rfl)
      simp only [oITab18, Act.put, aI9, bI9, cI9]; refine wpAnyH_take (i := 15) (oi := oITab19) (v := ?v3x15) rfl (by kernel_rfl) (by kernel_rfl) (by kernel_rfl) (fun _ _ _ h => h) (Or.inl ⟨by rfl, ?hy3x15⟩) hHeld ?rest3x15
      case hy3x15 => (unfold oITab19; intro w hSw; (try dsimp only at hSw); go_simp; try with_reducible rfl)
      simp only [oITab19, Act.put, aI9, bI9, cI9]; refine wpAnyH_take (i := 16) (oi := oITab20) (v := ?v3x16) rfl (by kernel_rfl) (by kernel_rfl) (by kernel_rfl) (fun _ _ _ h => h) (Or.inl ⟨by rfl, ?hy3x16⟩) hHeld ?rest3x16
      case hy3x16 => (unfold oITab20; intro w hSw; (try dsimp only at hSw); go_simp; try with_reducible rfl)
      simp only [oITab20, Act.put, aI9, bI9, cI9]; refine wpAnyH_take (i := 17) (oi := oITab21) (v := ?v3x17) rfl (by kernel_rfl) (by kernel_rfl) (by kernel_rfl) (fun _ _ _ h => h) (Or.inl ⟨by rfl, ?hy3x17⟩) hHeld ?rest3x17
      case hy3x17 => (unfold oITab21; intro w hSw; (try dsimp only at hSw); go_simp; try with_reducible rfl)
      simp only [oITab21, Act.put, aI9, bI9, cI9]; refine wpAnyH_take (i := 18) (oi := oITab22) (v := ?v3x18) rfl (by kernel_rfl) (by kernel_rfl) (by kernel_rfl) (fun _ _ _ h => h) (Or.inl ⟨by rfl, ?hy3x18⟩) hHeld ?rest3x18
      case hy3x18 => (unfold oITab22; intro w hSw; (try dsimp only at hSw); go_simp; try with_reducible rfl)
      simp only [oITab22, Act.put, aI9, bI9, cI9]; refine wpAnyH_done (by kernel_rfl) ?_ _
      go_wp2
      go_ret
      exact ⟨by rw [← HTV.out, E.out]; rfl, B8.out⟩
    · have dy : decide (s < Y) = false := by simp; omega
      have E := hid (HT0.out hri (HLA.out.2 (by omega))); clear HT0 HT1 HLE HI; refine wp_region_held_drew (S := fun wx => wx.cell? ⟨w.heap.size, 0, none⟩ = some (.int .i64 s) ∧ wx.cell? ⟨b, off + k, none⟩ = some (.int .i64 Y)) (by kernel_rfl) ?_ (fun hHeld => ?_)
      · exact ⟨HR.out.cell 0, c0⟩
      refine wpAnyH_take (i := 0) (oi := oITab5) (v := ?v4x0) rfl (by kernel_rfl) (by kernel_rfl) (by kernel_rfl) (fun _ _ _ h => h) (Or.inl ⟨by rfl, ?hy4x0⟩) hHeld ?rest4x0
      case hy4x0 => (unfold oITab5; intro w hSw; (try dsimp only at hSw); go_simp; try with_reducible rfl)
      simp only [oITab5, Act.put, aI9, bI9, cI9]; refine wpAnyH_ready (rs := [1]) (by kernel_rfl) (by simp) ?_
      refine AllReadyH.cons (o := { dst := some 41, op := Op.call { callee := Callee.value (Operand.func 30), args := #[Operand.tmp 40], argTypes := #[59] }, type := 4, pos := "l08_runs.go:461", after := #[{ on := 0, ground := Ground.data }], guard := none }) rfl (fun K hK => ?_) AllReadyH.nil
      go_simp
      refine KR.out.mono ?_
      rintro e w8 ⟨rfl, hb8⟩
      have hR8 := RA.nx hb8 HR.out.drew; have B8 := hid (HB.out.drew.trans (hb8.mono HB.out.size))
      go_wp2_with fail
      refine hK.out _ _ ?_ (fun hHeld => ?_)
      · exact ⟨hR8.cell 0, (hb8.cell (p := ⟨b, off + k, none⟩) hbl).trans c0⟩
      clear hK K
      try simp only [Act.put, aI9, bI9, cI9]
      refine wpAnyH_take (i := 2) (oi := oITab6) (v := ?v4x2) rfl (by kernel_rfl) (by kernel_rfl) (by kernel_rfl) (fun _ _ _ h => h) (Or.inl ⟨by rfl, ?hy4x2⟩) hHeld ?rest4x2
      case hy4x2 => (unfold oITab6; intro w hSw; (try dsimp only at hSw); go_simp; try with_reducible rfl)
      simp only [oITab6, Act.put, aI9, bI9, cI9]; refine wpAnyH_take (i := 3) (oi := oITab7) (v := ?v4x3) rfl (by kernel_rfl) (by kernel_rfl) (by kernel_rfl) (fun _ _ _ h => h) (Or.inl ⟨by rfl, ?hy4x3⟩) hHeld ?rest4x3
      case hy4x3 => (unfold oITab7; intro w hSw; (try dsimp only at hSw); go_simp; try with_reducible rfl)
      simp only [oITab7, Act.put, aI9, bI9, cI9]; refine wpAnyH_take (i := 4) (oi := oITab8) (v := ?v4x4) rfl (by kernel_rfl) (by kernel_rfl) (by kernel_rfl) (fun _ _ _ h => h) (Or.inl ⟨by rfl, ?hy4x4⟩) hHeld ?rest4x4
      case hy4x4 => (unfold oITab8; intro w hSw; (try dsimp only at hSw); go_simp; try with_reducible rfl)
      simp only [oITab8, Act.put, aI9, bI9, cI9]; refine wpAnyH_take (i := 5) (oi := oITab9) (v := ?v4x5) rfl (by kernel_rfl) (by kernel_rfl) (by kernel_rfl) (fun _ _ _ h => h) (Or.inl ⟨by rfl, ?hy4x5⟩) hHeld ?rest4x5
      case hy4x5 => (unfold oITab9; intro w hSw; (try dsimp only at hSw); go_simp; try with_reducible rfl)
      simp only [oITab9, Act.put, aI9, bI9, cI9]; refine wpAnyH_take (i := 6) (oi := oITab10) (v := ?v4x6) rfl (by kernel_rfl) (by kernel_rfl) (by kernel_rfl) (fun _ _ _ h => h) (Or.inl ⟨by rfl, ?hy4x6⟩) hHeld ?rest4x6
      case hy4x6 => (unfold oITab10; intro w hSw; (try dsimp only at hSw); go_simp; try with_reducible rfl)
      simp only [oITab10, Act.put, aI9, bI9, cI9]; refine wpAnyH_take (i := 7) (oi := oITab11) (v := ?v4x7) rfl (by kernel_rfl) (by kernel_rfl) (by kernel_rfl) (fun _ _ _ h => h) (Or.inl ⟨by rfl, ?hy4x7⟩) hHeld ?rest4x7
      case hy4x7 => (unfold oITab11; intro w hSw; (try dsimp only at hSw); go_simp; try with_reducible rfl)
      simp only [oITab11, Act.put, aI9, bI9, cI9]; refine wpAnyH_take (i := 8) (oi := oITab12) (v := ?v4x8) rfl (by kernel_rfl) (by kernel_rfl) (by kernel_rfl) (fun _ _ _ h => h) (Or.inl ⟨by rfl, ?hy4x8⟩) hHeld ?rest4x8
      case hy4x8 => (unfold oITab12; intro w hSw; (try dsimp only at hSw); go_simp; try with_reducible rfl)
      simp only [oITab12, Act.put, aI9, bI9, cI9]; refine wpAnyH_take (i := 9) (oi := oITab13) (v := ?v4x9) rfl (by kernel_rfl) (by kernel_rfl) (by kernel_rfl) (fun _ _ _ h => h) (Or.inl ⟨by rfl, ?hy4x9⟩) hHeld ?rest4x9
      case hy4x9 => (unfold oITab13; intro w hSw; (try dsimp only at hSw); go_simp; try with_reducible rfl)
      simp only [oITab13, Act.put, aI9, bI9, cI9]; refine wpAnyH_take (i := 10) (oi := oITab14) (v := ?v4x10) rfl (by kernel_rfl) (by kernel_rfl) (by kernel_rfl) (fun _ _ _ h => h) (Or.inl ⟨by rfl, ?hy4x10⟩) hHeld ?rest4x10
      case hy4x10 => (unfold oITab14; intro w hSw; (try dsimp only at hSw); go_simp; try with_reducible rfl)
      simp only [oITab14, Act.put, aI9, bI9, cI9]; refine wpAnyH_take (i := 11) (oi := oITab15) (v := ?v4x11) rfl (by kernel_rfl) (by kernel_rfl) (by kernel_rfl) (fun _ _ _ h => h) (Or.inl ⟨by rfl, ?hy4x11⟩) hHeld ?rest4x11
      case hy4x11 => (unfold oITab15; intro w hSw; (try dsimp only at hSw); go_simp; try with_reducible rfl)
      simp only [oITab15, Act.put, aI9, bI9, cI9]; refine wpAnyH_take (i := 12) (oi := oITab16) (v := ?v4x12) rfl (by kernel_rfl) (by kernel_rfl) (by kernel_rfl) (fun _ _ _ h => h) (Or.inl ⟨by rfl, ?hy4x12⟩) hHeld ?rest4x12
      case hy4x12 => (unfold oITab16; intro w hSw; (try dsimp only at hSw); go_simp; try with_reducible rfl)
      simp only [oITab16, Act.put, aI9, bI9, cI9]; refine wpAnyH_take (i := 13) (oi := oITab17) (v := ?v4x13) rfl (by kernel_rfl) (by kernel_rfl) (by kernel_rfl) (fun _ _ _ h => h) (Or.inl ⟨by rfl, ?hy4x13⟩) hHeld ?rest4x13
      case hy4x13 => (unfold oITab17; intro w hSw; (try dsimp only at hSw); go_simp; try with_reducible rfl)
      simp only [oITab17, Act.put, aI9, bI9, cI9]; refine wpAnyH_take (i := 14) (oi := oITab18) (v := ?v4x14) rfl (by kernel_rfl) (by kernel_rfl) (by kernel_rfl) (fun _ _ _ h => h) (Or.inl ⟨by rfl, ?hy4x14⟩) hHeld ?rest4x14
      case hy4x14 => (unfold oITab18; intro w hSw; (try dsimp only at hSw); go_simp; try with_reducible rfl)
      simp only [oITab18, Act.put, aI9, bI9, cI9]; refine wpAnyH_take (i := 15) (oi := oITab19) (v := ?v4x15) rfl (by kernel_rfl) (by kernel_rfl) (by kernel_rfl) (fun _ _ _ h => h) (Or.inl ⟨by rfl, ?hy4x15⟩) hHeld ?rest4x15
      case hy4x15 => (unfold oITab19; intro w hSw; (try dsimp only at hSw); go_simp; try with_reducible rfl)
      simp only [oITab19, Act.put, aI9, bI9, cI9]; refine wpAnyH_take (i := 16) (oi := oITab20) (v := ?v4x16) rfl (by kernel_rfl) (by kernel_rfl) (by kernel_rfl) (fun _ _ _ h => h) (Or.inl ⟨by rfl, ?hy4x16⟩) hHeld ?rest4x16
      case hy4x16 => (unfold oITab20; intro w hSw; (try dsimp only at hSw); go_simp; try with_reducible rfl)
      simp only [oITab20, Act.put, aI9, bI9, cI9]; refine wpAnyH_take (i := 17) (oi := oITab21) (v := ?v4x17) rfl (by kernel_rfl) (by kernel_rfl) (by kernel_rfl) (fun _ _ _ h => h) (Or.inl ⟨by rfl, ?hy4x17⟩) hHeld ?rest4x17
      case hy4x17 => (unfold oITab21; intro w hSw; (try dsimp only at hSw); go_simp; try with_reducible rfl)
      simp only [oITab21, Act.put, aI9, bI9, cI9]; refine wpAnyH_take (i := 18) (oi := oITab22) (v := ?v4x18) rfl (by kernel_rfl) (by kernel_rfl) (by kernel_rfl) (fun _ _ _ h => h) (Or.inl ⟨by rfl, ?hy4x18⟩) hHeld ?rest4x18
      case hy4x18 => (unfold oITab22; intro w hSw; (try dsimp only at hSw); go_simp; try with_reducible rfl)
      simp only [oITab22, Act.put, aI9, bI9, cI9]; refine wpAnyH_done (by kernel_rfl) ?_ _
      go_wp2
      go_ret
      exact ⟨by rw [← HTV.out, E.out]; rfl, B8.out⟩
end Go.Proofs.YtcbmgpdpjagaoaaGreat
