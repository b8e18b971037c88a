import Derived.Test.YtokjfffcciddhaaGreatDoorWfL
import Derived.Deep.RegionLaw
import Derived.Test.YtokjfffcciddhaaGreatDoorQM
import Derived.Test.YtokjfffcciddhaaGreatDoorQM
namespace Go.Proofs.YtokjfffcciddhaaGreatDoor
open Go.RowKit
set_option linter.unusedVariables false
/-! FnExactWorldFault. -/
set_option maxRecDepth 20000 in
set_option maxHeartbeats 32000000 in
theorem fnExactWorldFault_walk {w : World} (hv : RdV w) (c : Wc) (h : WcIn w c) (hH : WcH c) :
    Calls Tryz.prog 3 #[.agg #[.slice c.a c.n c.cap, .int .i64 c.k, .int .i64 c.m, .int .i64 c.g, .int .i64 c.u, .slice c.ka c.kn c.kc, .string c.po, .string c.ma, .int .i64 c.ni, .bool c.kp, .int .i64 c.q, .slice c.ra c.rn c.rc, .slice c.va c.vn c.vc]] w fun e w' => e = .returned (.bool true) ∧ Below w.heap.size w w' := by
  obtain ⟨W1, hW1⟩ : ∃ W, W = w.alloc (.cells #[.slice c.a c.n c.cap, .int .i64 c.k, .int .i64 c.m, .int .i64 c.g, .int .i64 c.u, .slice c.ka c.kn c.kc, .string c.po, .string c.ma, .int .i64 c.ni, .bool c.kp, .int .i64 c.q, .slice c.ra c.rn c.rc, .slice c.va c.vn c.vc] 33) := ⟨_, rfl⟩
  have B1 : Hid (Below w.heap.size w W1) := by rw [hW1]; exact (Below.refl _ _).alloc (Nat.le_refl _) _
  have A1 : Hid (RowAt W1 w.heap.size 33 #[.slice c.a c.n c.cap, .int .i64 c.k, .int .i64 c.m, .int .i64 c.g, .int .i64 c.u, .slice c.ka c.kn c.kc, .string c.po, .string c.ma, .int .i64 c.ni, .bool c.kp, .int .i64 c.q, .slice c.ra c.rn c.rc, .slice c.va c.vn c.vc]) := by rw [hW1]; exact RowAt.new _ _ _
  have HV := hid hv
  have HI : Hid (∀ wx, Below w.heap.size w wx → WcIn wx c) := fun wx hb => h.below hb
  have K0 := hid (szWc c hH W1 (h.below B1.out))
  clear hv h hH
  have r0 := A1.out.cell 0
  have r1 := A1.out.cell 1
  have r2 := A1.out.cell 2
  have r3 := A1.out.cell 3
  have r4 := A1.out.cell 4
  have r5 := A1.out.cell 5
  have r6 := A1.out.cell 6
  have r7 := A1.out.cell 7
  have r8 := A1.out.cell 8
  have r9 := A1.out.cell 9
  have r10 := A1.out.cell 10
  have r11 := A1.out.cell 11
  have r12 := A1.out.cell 12
  go_enter Tryz.func3, Tryz.ntmps3
  go_upto_region 1 with fail
  rw [← hW1]
  clear hW1
  go_wp2_with fail
  refine K0.out.mono ?_
  rintro e w2 ⟨⟨z, rfl, hz⟩, hb⟩
  have A2 := hid (A1.out.below hb A1.out.lt)
  have B2 := hid (B1.out.trans (hb.mono B1.out.size))
  clear hb K0 A1 B1 r0 r1 r2 r3 r4 r5 r6 r7 r8 r9 r10 r11 r12
  by_cases hz0 : z < 0
  · clear hz
    go_wp2
    go_ret
    exact ⟨rfl, B2.out⟩
  have WB := hid (hz.resolve_left hz0)
  clear hz
  have r0 := A2.out.cell 0
  have r1 := A2.out.cell 1
  have r2 := A2.out.cell 2
  have r3 := A2.out.cell 3
  have r4 := A2.out.cell 4
  have r5 := A2.out.cell 5
  have r6 := A2.out.cell 6
  have r7 := A2.out.cell 7
  have r8 := A2.out.cell 8
  have r9 := A2.out.cell 9
  have r10 := A2.out.cell 10
  have r11 := A2.out.cell 11
  have r12 := A2.out.cell 12
  have KT : ∀ wx, Below w.heap.size w wx → _ := fun wx hb => hid (toWc c WB.out wx (HI.out wx hb))
  go_wp2_with fail
  refine (KT w2 B2.out).out.mono ?_
  rintro e w3 ⟨⟨b1, b2, b3, b4, rfl, hI3⟩, hb⟩
  have A3 := hid (A2.out.below hb A2.out.lt)
  have B3 := hid (B2.out.trans (hb.mono B2.out.size))
  have KS := hid (sWf (c.at b1 b2 b3 b4) (WB.out.at _ _ _ _) w3 hI3)
  rw [wfV_at] at KS
  obtain ⟨V, hV⟩ : ∃ V, V = wfV c := ⟨_, rfl⟩
  rw [← hV] at KS
  have HVV := hid hV
  clear hb hI3 hV A2 B2 r0 r1 r2 r3 r4 r5 r6 r7 r8 r9 r10 r11 r12
  dsimp only [Wc.at] at KS
  go_wp2_with fail
  refine KS.out.mono ?_
  rintro e w4 ⟨rfl, hb⟩
  have A4 := hid (A3.out.below hb A3.out.lt)
  have B4 := hid (B3.out.trans (hb.mono B3.out.size))
  clear hb KS A3 B3
  have r0 := A4.out.cell 0
  have r1 := A4.out.cell 1
  have r2 := A4.out.cell 2
  have r3 := A4.out.cell 3
  have r4 := A4.out.cell 4
  have r5 := A4.out.cell 5
  have r6 := A4.out.cell 6
  have r7 := A4.out.cell 7
  have r8 := A4.out.cell 8
  have r9 := A4.out.cell 9
  have r10 := A4.out.cell 10
  have r11 := A4.out.cell 11
  have r12 := A4.out.cell 12
  go_wp2_with fail
  refine (KT w4 B4.out).out.mono ?_
  rintro e w5 ⟨⟨d1, d2, d3, d4, rfl, hI5⟩, hb⟩
  have A5 := hid (A4.out.below hb A4.out.lt)
  have B5 := hid (B4.out.trans (hb.mono B4.out.size))
  have I5 := hid hI5
  clear hb hI5 A4 B4 r0 r1 r2 r3 r4 r5 r6 r7 r8 r9 r10 r11 r12
  obtain ⟨W6, hW6⟩ : ∃ W, W = w5.alloc (.cells #[.slice (some ⟨d1, 0, none⟩) c.n c.n, .int .i64 c.k, .int .i64 c.m, .int .i64 c.g, .int .i64 c.u, .slice (some ⟨d2, 0, none⟩) c.kn c.kn, .string c.po, .string c.ma, .int .i64 c.ni, .bool c.kp, .int .i64 c.q, .slice (some ⟨d3, 0, none⟩) c.rn c.rn, .slice (some ⟨d4, 0, none⟩) c.vn c.vn] 46) := ⟨_, rfl⟩
  have b56 : Below w5.heap.size w5 W6 := by rw [hW6]; exact (Below.refl _ _).alloc (Nat.le_refl _) _
  have R6 : Hid (RowAt W6 w5.heap.size 46 #[.slice (some ⟨d1, 0, none⟩) c.n c.n, .int .i64 c.k, .int .i64 c.m, .int .i64 c.g, .int .i64 c.u, .slice (some ⟨d2, 0, none⟩) c.kn c.kn, .string c.po, .string c.ma, .int .i64 c.ni, .bool c.kp, .int .i64 c.q, .slice (some ⟨d3, 0, none⟩) c.rn c.rn, .slice (some ⟨d4, 0, none⟩) c.vn c.vn]) := by rw [hW6]; exact RowAt.new _ _ _
  have A6 := hid (A5.out.below b56 A5.out.lt)
  have B6 := hid (B5.out.trans (b56.mono B5.out.size))
  have I6 := hid (I5.out.below b56)
  clear b56 A5 B5 I5
  go_upto_region 7 with ((refine wpList_store_row rfl 46 (.tmp 5) (.tmp 16) rfl w5.heap.size #[.slice (some ⟨d1, 0, none⟩) c.n c.n, .int .i64 c.k, .int .i64 c.m, .int .i64 c.g, .int .i64 c.u, .slice (some ⟨d2, 0, none⟩) c.kn c.kn, .string c.po, .string c.ma, .int .i64 c.ni, .bool c.kp, .int .i64 c.q, .slice (some ⟨d3, 0, none⟩) c.rn c.rn, .slice (some ⟨d4, 0, none⟩) c.vn c.vn] rfl rfl _ _ (RowAt.new w5 _ _) (by kernel_rfl) rfl (oneWc _ _ _ _ _ _ _ _ _ _ _ _ _ _ _ _ _ _ _ _ _) ?_); rw [World.setRow_alloc_new])
  rw [← hW6]
  clear hW6
  obtain ⟨Y, hY⟩ : ∃ Y, Y = w5.heap.size := ⟨_, rfl⟩
  rw [← hY] at R6 ⊢
  clear hY
  have KI := hid (iWf (c.at d1 d2 d3 d4) (WB.out.at _ _ _ _) W6 (HV.out.below B6.out) I6.out)
  rw [wfV_at, ← HVV.out] at KI
  dsimp only [Wc.at] at KI
  have s0 := R6.out.cell 0
  have s1 := R6.out.cell 1
  have s2 := R6.out.cell 2
  have s3 := R6.out.cell 3
  have s4 := R6.out.cell 4
  have s5 := R6.out.cell 5
  have s6 := R6.out.cell 6
  have s7 := R6.out.cell 7
  have s8 := R6.out.cell 8
  have s9 := R6.out.cell 9
  have s10 := R6.out.cell 10
  have s11 := R6.out.cell 11
  have s12 := R6.out.cell 12
  go_wp2_with fail
  refine KI.out.mono ?_
  rintro e w7 ⟨rfl, hb⟩
  have A7 := hid (A6.out.below hb A6.out.lt)
  have R7 := hid (R6.out.below hb R6.out.lt)
  have B7 := hid (B6.out.trans (hb.mono B6.out.size))
  have I7 := hid (I6.out.below hb)
  have dV : (V != V) = false := by simp
  clear hb KI A6 R6 B6 I6 s0 s1 s2 s3 s4 s5 s6 s7 s8 s9 s10 s11 s12
  have r0 := A7.out.cell 0
  have r1 := A7.out.cell 1
  have r2 := A7.out.cell 2
  have r3 := A7.out.cell 3
  have r4 := A7.out.cell 4
  have r5 := A7.out.cell 5
  have r6 := A7.out.cell 6
  have r7 := A7.out.cell 7
  have r8 := A7.out.cell 8
  have r9 := A7.out.cell 9
  have r10 := A7.out.cell 10
  have r11 := A7.out.cell 11
  have r12 := A7.out.cell 12
  have s0 := R7.out.cell 0
  have s1 := R7.out.cell 1
  have s2 := R7.out.cell 2
  have s3 := R7.out.cell 3
  have s4 := R7.out.cell 4
  have s5 := R7.out.cell 5
  have s6 := R7.out.cell 6
  have s7 := R7.out.cell 7
  have s8 := R7.out.cell 8
  have s9 := R7.out.cell 9
  have s10 := R7.out.cell 10
  have s11 := R7.out.cell 11
  have s12 := R7.out.cell 12
  have KE : ∀ wx e1 e2 e3 e4, WcIn wx (c.at d1 d2 d3 d4) → WcIn wx (c.at e1 e2 e3 e4) → _ := fun wx e1 e2 e3 e4 h1 h2 => hid (eqWc c WB.out d1 d2 d3 d4 e1 e2 e3 e4 wx h1 h2)
  go_wp2_with fail
  go_region_law (first | (go_simp; go_at_call 6; refine (KT _ (by first | exact B7.out.drew | exact B7.out)).out.mono ?_; rintro e w8 ⟨⟨e1, e2, e3, e4, rfl, hI8⟩, hb8⟩; have R8 : Hid (RowAt w8 Y 46 #[.slice (some ⟨d1, 0, none⟩) c.n c.n, .int .i64 c.k, .int .i64 c.m, .int .i64 c.g, .int .i64 c.u, .slice (some ⟨d2, 0, none⟩) c.kn c.kn, .string c.po, .string c.ma, .int .i64 c.ni, .bool c.kp, .int .i64 c.q, .slice (some ⟨d3, 0, none⟩) c.rn c.rn, .slice (some ⟨d4, 0, none⟩) c.vn c.vn]) := (by first | exact R7.out.drew.below hb8 R7.out.lt | exact R7.out.below hb8 R7.out.lt); have t0 := R8.out.cell 0; have t1 := R8.out.cell 1; have t2 := R8.out.cell 2; have t3 := R8.out.cell 3; have t4 := R8.out.cell 4; have t5 := R8.out.cell 5; have t6 := R8.out.cell 6; have t7 := R8.out.cell 7; have t8 := R8.out.cell 8; have t9 := R8.out.cell 9; have t10 := R8.out.cell 10; have t11 := R8.out.cell 11; have t12 := R8.out.cell 12; have I8 := hid hI8; have J8 : Hid (WcIn w8 (c.at d1 d2 d3 d4)) := (by first | exact I7.out.below ((Below.refl _ _).drew.trans hb8) | exact I7.out.below hb8); have B8 : Hid (Below w.heap.size w w8) := (by first | exact B7.out.drew.trans (hb8.mono B7.out.size) | exact B7.out.trans (hb8.mono B7.out.size)); clear hI8 hb8; dsimp only) | (go_simp; go_at_call 8; refine (KE _ e1 e2 e3 e4 (by first | exact J8.out | exact J8.out.below (Below.refl _ _).drew) (by first | exact I8.out | exact I8.out.below (Below.refl _ _).drew)).out.mono ?_; rintro e w9 ⟨rfl, hb9⟩; have B9 : Hid (Below w.heap.size w w9) := (by first | exact B8.out.drew.trans (hb9.mono B8.out.size) | exact B8.out.trans (hb9.mono B8.out.size)); clear hb9; dsimp only))
  all_goals go_wp2
  all_goals go_ret
  all_goals exact ⟨rfl, B9.out⟩
end Go.Proofs.YtokjfffcciddhaaGreatDoor
namespace Go.Proofs.YtokjfffcciddhaaGreatDoor
open Go.RowKit
/-! A world's configuration as a row hands it in. -/
theorem arr13 {α : Type} {cs : Array α} (h : cs.size = 13) : ∃ a b c d e f g i j k l m n, cs = #[a, b, c, d, e, f, g, i, j, k, l, m, n] := by
  match cs with
  | ⟨[a, b, c, d, e, f, g, i, j, k, l, m, n]⟩ => exact ⟨a, b, c, d, e, f, g, i, j, k, l, m, n, rfl⟩
section
variable {H : Type} {enc : TypeId × Value → H} {P : Program} {w : World} {base : Nat} {spare : Nat → Bool} {held : Bool}
instance : Inhabited Ak := ⟨ak0⟩
/-- the shape of the type -/
structure AkTy (P : Program) (e : TypeId) : Prop where
  st : ∃ f0 f1 : Field, P.underlying e = some (.struct #[f0, f1]) ∧ (f0.offset = 0 ∧ f1.offset = 1) ∧ (P.cellsOf f0.type = 1 ∧ P.cellsOf f1.type = 1) ∧ P.underlying f0.type = some .string ∧ P.underlying f1.type = some .string
  ce : P.cellsOf e = 2
def IsAks (w : World) (a : Option Addr) (len cap : Nat) (o : Nat → Ak) : Prop :=
  Aks w a len cap o ∧ cap ≤ maxLen ∧ ∀ i, i < len → (o i).id.size ≤ maxLen ∧ (o i).sec.size ≤ maxLen
theorem addAk (b off : Nat) (i : Nat) : (⟨b, off, none⟩ : Addr).add i = ⟨b, off + i, none⟩ := by unfold Addr.add; split <;> simp_all
theorem open_aks {t e : TypeId} {fuel : Nat} {cs : List Value} {x : DataW H × List MemPlace} (ht : P.underlying t = some (.slice e)) (hE : AkTy P e) (h : DataW.trod enc P w base spare held fuel t cs = some x) :
    ∃ a len cap o, cs = [.slice a len cap] ∧ IsAks w a len cap o := by
  obtain ⟨⟨f0, f1, he, ⟨o0, o1⟩, ⟨c0, c1⟩, u0, u1⟩, ce⟩ := hE
  rcases Go.Deep.open_slice ht h with ⟨h0, _⟩ | ⟨a, len, cap, m, n, D, Pl, rfl, hb, hl, hm, hmm, rfl, hx⟩
  · exact ⟨none, 0, 0, fun _ => ak0, h0, ⟨Nat.le_refl _, .inl rfl⟩, Nat.zero_le _, fun i hi => absurd hi (by omega)⟩
  have hlm : len ≤ m := by rw [hmm]; split <;> omega
  have each : ∀ i, i < len → ∃ q : Ak, (w.cell? (a.add (i * 2)) = some (.string q.id) ∧ w.cell? (a.add (i * 2 + 1)) = some (.string q.sec)) ∧ q.id.size ≤ maxLen ∧ q.sec.size ≤ maxLen := by
    intro i hi
    obtain ⟨cs', h1, h2⟩ := hx i (by omega)
    rw [ce] at h1
    obtain ⟨_, hlen, hcell⟩ := World.cells?_some h1
    obtain ⟨xs, n', _, _, _, hxs, hf⟩ := DataW.trod_struct he h2
    match xs, hxs with
    | [y0, y1], _ =>
      have g0 := hf 0 f0 rfl
      have g1 := hf 1 f1 rfl
      match cs', hlen with
      | [v0, v1], _ =>
        simp [o0, c0, o1, c1] at g0 g1
        obtain ⟨b0, e0, _, l0⟩ := DataW.trod_string u0 g0
        obtain ⟨b1, e1, _, l1⟩ := DataW.trod_string u1 g1
        simp at e0 e1
        have z0 := hcell 0 (by omega)
        have z1 := hcell 1 (by omega)
        rw [Go.Deep.add_add] at z0 z1
        exact ⟨⟨b0, b1⟩, ⟨by simpa [e0] using z0, by simpa [e1] using z1⟩, l0, l1⟩
  obtain ⟨o, ho⟩ := Go.Deep.choose_lt each
  refine ⟨some a, len, cap, o, rfl, ⟨hl, ?_⟩, hm, fun i hi => (ho i hi).2⟩
  by_cases h0 : len = 0
  · exact .inl h0
  · right
    obtain ⟨b, off, spot⟩ := a
    have hc := (ho 0 (by omega)).1.1
    have hspot : spot = none := by simpa [Addr.add] using World.cell?_spot hc
    subst hspot
    refine ⟨b, off, rfl, ?_, fun i hi => ?_⟩
    · have := World.block_lt_of_cell? w _ hc; rw [addAk] at this; exact this
    · obtain ⟨q0, q1⟩ := (ho i hi).1
      rw [addAk] at q0 q1
      exact ⟨q0, by rw [Nat.add_assoc]; exact q1⟩
structure WcTy (P : Program) (e : TypeId) : Prop where
  st : ∃ f0 f1 f2 f3 f4 : Field, P.underlying e = some (.struct #[f0, f1, f2, f3, f4]) ∧ (f0.offset = 0 ∧ f1.offset = 5 ∧ f2.offset = 6 ∧ f3.offset = 7 ∧ f4.offset = 8) ∧ (P.cellsOf f0.type = 5 ∧ P.cellsOf f1.type = 1 ∧ P.cellsOf f2.type = 1 ∧ P.cellsOf f3.type = 1 ∧ P.cellsOf f4.type = 5) ∧ CcTy P f0.type ∧ (∃ c, P.underlying f1.type = some (.slice c) ∧ AkTy P c) ∧ P.underlying f2.type = some .string ∧ P.underlying f3.type = some .string ∧ BkTy P f4.type
theorem open_wc {t : TypeId} {fuel : Nat} {v0 v1 v2 v3 v4 v5 v6 v7 v8 v9 v10 v11 v12 : Value} {x : DataW H × List MemPlace} (hE : WcTy P t) (h : DataW.trod enc P w base spare held fuel t [v0, v1, v2, v3, v4, v5, v6, v7, v8, v9, v10, v11, v12] = some x) :
    ∃ c : Wc, (v0 = .slice c.a c.n c.cap ∧ v1 = .int .i64 c.k ∧ v2 = .int .i64 c.m ∧ v3 = .int .i64 c.g ∧ v4 = .int .i64 c.u ∧ v5 = .slice c.ka c.kn c.kc ∧ v6 = .string c.po ∧ v7 = .string c.ma ∧ v8 = .int .i64 c.ni ∧ v9 = .bool c.kp ∧ v10 = .int .i64 c.q ∧ v11 = .slice c.ra c.rn c.rc ∧ v12 = .slice c.va c.vn c.vc) ∧ WcIn w c ∧ WcH c := by
  obtain ⟨⟨f0, f1, f2, f3, f4, he, ⟨o0, o1, o2, o3, o4⟩, ⟨c0, c1, c2, c3, c4⟩, E0, ⟨e1, u1, E1⟩, u2, u3, E4⟩⟩ := hE
  obtain ⟨xs, n', _, _, _, hxs, hf⟩ := DataW.trod_struct he h
  match xs, hxs with
  | [y0, y1, y2, y3, y4], _ =>
    have g0 := hf 0 f0 rfl
    have g1 := hf 1 f1 rfl
    have g2 := hf 2 f2 rfl
    have g3 := hf 3 f3 rfl
    have g4 := hf 4 f4 rfl
    simp [o0, o1, o2, o3, o4, c0, c1, c2, c3, c4] at g0 g1 g2 g3 g4
    obtain ⟨a, n, cap, ys, zs, k, m, g, u, ⟨q0, q1, q2, q3, q4⟩, hp⟩ := open_cc E0 g0
    obtain ⟨ka, kn, kc, ko, i1, hk⟩ := open_aks u1 E1 g1
    obtain ⟨po, i2, _, lp⟩ := DataW.trod_string u2 g2
    obtain ⟨ma, i3, _, lm⟩ := DataW.trod_string u3 g3
    obtain ⟨ni, kp, q, ra, rn, rc, ro, va, vn, vc, vo, ⟨p0, p1, p2, p3, p4⟩, hr, hv⟩ := open_bk E4 g4
    simp at i1 i2 i3
    obtain ⟨hk1, hk2, hk3⟩ := hk
    obtain ⟨hr1, hr2, hr3⟩ := hr
    obtain ⟨hv1, hv2, hv3⟩ := hv
    refine ⟨⟨a, n, cap, ys, zs, k, m, g, u, ka, kn, kc, ko, po, ma, ni, kp, q, ra, rn, rc, ro, va, vn, vc, vo⟩, ⟨q0, q1, q2, q3, q4, i1, i2, i3, p0, p1, p2, p3, p4⟩, ⟨Prs.of_is hp, hk1, hr1, hv1⟩, ⟨hp.len, ?_, hk3, lp, lm, ?_, hr3, ?_, hv3⟩⟩
    · have := hk1.1; unfold maxLen at hk2; show kn ≤ _; omega
    · have := hr1.1; unfold maxLen at hr2; show rn ≤ _; omega
    · have := hv1.1; unfold maxLen at hv2; show vn ≤ _; omega
end
end Go.Proofs.YtokjfffcciddhaaGreatDoor
