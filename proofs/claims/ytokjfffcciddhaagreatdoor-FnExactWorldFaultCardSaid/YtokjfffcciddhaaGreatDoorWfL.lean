import Derived.Test.YtokjfffcciddhaaGreatDoorQN
import Derived.Deep.MidRow
namespace Go.Proofs.YtokjfffcciddhaaGreatDoor
open Go.RowKit
set_option linter.unusedVariables false
/-! Configurations of a world: what the laws do with one. -/
/-- the same one, in other memory -/
def Wc.at (c : Wc) (b1 b2 b3 b4 : Nat) : Wc := { c with a := some ⟨b1, 0, none⟩, cap := c.n, ka := some ⟨b2, 0, none⟩, kc := c.kn, ra := some ⟨b3, 0, none⟩, rc := c.rn, va := some ⟨b4, 0, none⟩, vc := c.vn }
theorem WcB.at {c : Wc} (h : WcB c) (b1 b2 b3 b4 : Nat) : WcB (c.at b1 b2 b3 b4) := ⟨h.n, h.kn, h.ks, h.po, h.ma, h.rn, h.rs, h.vn, h.vs, h.bt⟩
theorem wfV_at (c : Wc) (b1 b2 b3 b4 : Nat) : wfV (c.at b1 b2 b3 b4) = wfV c := rfl
/-- bounds as a row hands it in -/
structure WcH (c : Wc) : Prop where
  n : c.n ≤ 9223372036854775807
  kn : c.kn ≤ 9223372036854775807
  ks : ∀ i, i < c.kn → (c.ko i).id.size ≤ 9223372036854775807 ∧ (c.ko i).sec.size ≤ 9223372036854775807
  po : c.po.size ≤ 9223372036854775807
  ma : c.ma.size ≤ 9223372036854775807
  rn : c.rn ≤ 9223372036854775807
  rs : ∀ i, i < c.rn → (c.ro i).px.size ≤ 9223372036854775807
  vn : c.vn ≤ 9223372036854775807
  vs : ∀ i, i < c.vn → (c.vo i).ky.size ≤ 9223372036854775807 ∧ (c.vo i).dt.size ≤ 9223372036854775807
theorem szLr_atW (o : Nat → Lr) {k n : Nat} (h : k < n) : (o k).px.size ≤ szLr o n := by
  have := szLr_mono o (show k + 1 ≤ n by omega)
  have e : szLr o (k + 1) = szLr o k + (o k).px.size := rfl
  omega
theorem szVe_atW (o : Nat → Ve) {k n : Nat} (h : k < n) : (o k).ky.size + (o k).dt.size ≤ szVe o n := by
  have := szVe_mono o (show k + 1 ≤ n by omega)
  have e : szVe o (k + 1) = szVe o k + (o k).ky.size + (o k).dt.size := rfl
  omega
theorem szAk_atW (o : Nat → Ak) {k n : Nat} (h : k < n) : (o k).id.size + (o k).sec.size ≤ szAk o n := by
  have := szAk_mono o (show k + 1 ≤ n by omega)
  have e : szAk o (k + 1) = szAk o k + (o k).id.size + (o k).sec.size := rfl
  omega
set_option maxRecDepth 20000 in
set_option maxHeartbeats 8000000 in
theorem szWc (c : Wc) (hH : WcH c) (w : World) (h : WcIn w c) :
    Calls Tryz.prog 4 #[.agg #[.slice c.a c.n c.cap, .int .i64 c.k, .int .i64 c.m, .int .i64 c.g, .int .i64 c.u, .slice c.ka c.kn c.kc, .string c.po, .string c.ma, .int .i64 c.ni, .bool c.kp, .int .i64 c.q, .slice c.ra c.rn c.rc, .slice c.va c.vn c.vc], .int .i64 1048576] w fun e w' => (∃ z : Int, e = .returned (.int .i64 z) ∧ (z < 0 ∨ WcB c)) ∧ Below w.heap.size w w' := by
  obtain ⟨W1, hW1⟩ : ∃ W, W = w.alloc (.cells #[.slice c.a c.n c.cap, .int .i64 c.k, .int .i64 c.m, .int .i64 c.g, .int .i64 c.u, .slice c.ka c.kn c.kc, .string c.po, .string c.ma, .int .i64 c.ni, .bool c.kp, .int .i64 c.q, .slice c.ra c.rn c.rc, .slice c.va c.vn c.vc] 33) := ⟨_, rfl⟩
  have B1 : Hid (Below w.heap.size w W1) := by rw [hW1]; exact (Below.refl _ _).alloc (Nat.le_refl _) _
  have R1 : Hid (RowAt W1 w.heap.size 33 #[.slice c.a c.n c.cap, .int .i64 c.k, .int .i64 c.m, .int .i64 c.g, .int .i64 c.u, .slice c.ka c.kn c.kc, .string c.po, .string c.ma, .int .i64 c.ni, .bool c.kp, .int .i64 c.q, .slice c.ra c.rn c.rc, .slice c.va c.vn c.vc]) := by rw [hW1]; exact RowAt.new _ _ _
  have KC := hid (szCc c.a c.n c.cap c.k c.m c.g c.u hH.n W1)
  unfold ccv at KC
  have KA : ∀ wx, Below w.heap.size w wx → ∀ l : Nat, l ≤ 1048576 → _ := fun wx hb l hl => hid (szAks c.ka c.kn c.kc c.ko l hl hH.kn hH.ks wx (h.below hb).ks)
  have KB : ∀ wx, Below w.heap.size w wx → ∀ l : Nat, l ≤ 1048576 → _ := fun wx hb l hl => hid (szBk c.ni c.kp c.q c.ra c.rn c.rc c.ro c.va c.vn c.vc c.vo l hl hH.rn hH.rs hH.vn hH.vs wx (h.below hb).rs (h.below hb).vs)
  have FIN : Hid (c.n ≤ 1048576 → c.kn + szAk c.ko c.kn ≤ 1048576 → c.po.size ≤ 1048576 → c.ma.size ≤ 1048576 → c.rn + szLr c.ro c.rn + c.vn + szVe c.vo c.vn ≤ 1048576 → WcB c) := fun q1 q2 q3 q4 q5 => by
    refine ⟨q1, by omega, fun i hi => ?_, q3, q4, by omega, fun i hi => ?_, by omega, fun i hi => ?_, ?_⟩
    · have := szAk_atW c.ko hi; omega
    · have := szLr_atW c.ro hi; omega
    · have := szVe_atW c.vo hi; omega
    · have := byN_sz c.vo c.vn; omega
  have hpo := hH.po
  have hma := hH.ma
  have BS := hid B1.out.size
  clear h hH
  obtain ⟨S1, hS1⟩ : ∃ S, S = szAk c.ko c.kn := ⟨_, rfl⟩
  obtain ⟨S2, hS2⟩ : ∃ S, S = szLr c.ro c.rn := ⟨_, rfl⟩
  obtain ⟨S3, hS3⟩ : ∃ S, S = szVe c.vo c.vn := ⟨_, rfl⟩
  rw [← hS1] at KA FIN
  rw [← hS2, ← hS3] at KB FIN
  clear hS1 hS2 hS3
  obtain ⟨PW, hPW⟩ : ∃ P : Prop, P = WcB c := ⟨_, rfl⟩
  rw [← hPW] at FIN ⊢
  clear hPW
  obtain ⟨ca, cn, ccap, cx, cy, ck, cm, cg, cu, ka, kn, kc, ko, po, ma, ni, kp, q, ra, rn, rc, ro, va, vn, vc, vo⟩ := c
  dsimp only at KC KA KB FIN R1 hW1 hpo hma ⊢
  have r0 := R1.out.cell 0
  have r1 := R1.out.cell 1
  have r2 := R1.out.cell 2
  have r3 := R1.out.cell 3
  have r4 := R1.out.cell 4
  go_enter Tryz.func4, Tryz.ntmps4
  go_upto_region 1 with fail
  rw [← hW1]
  clear hW1
  go_wp2_with fail
  refine KC.out.mono ?_
  rintro e w2 ⟨rfl, hb⟩
  have R2 := hid (R1.out.below hb R1.out.lt)
  have B2 := hid (B1.out.trans (hb.mono B1.out.size))
  clear hb KC r0 r1 r2 r3 r4 R1 B1
  by_cases q1 : cn ≤ 1048576
  case neg =>
    rw [if_neg q1]
    go_wp2
    go_ret
    exact ⟨⟨-1, rfl, .inl (by decide)⟩, B2.out⟩
  rw [if_pos q1]
  obtain ⟨l1, hl1⟩ : ∃ l : Nat, l = 1048576 - cn := ⟨_, rfl⟩
  rw [show (1048576 : Int) - (cn : Int) = (l1 : Int) by omega]
  have hb1 : l1 ≤ 1048576 := by omega
  have n1 : ¬ (l1 : Int) < 0 := by omega
  have r5 := R2.out.cell 5
  have KA2 := KA w2 B2.out l1 hb1
  clear KA hl1
  go_wp2_with fail
  refine KA2.out.mono ?_
  rintro e w3 ⟨rfl, hb⟩
  have R3 := hid (R2.out.below hb R2.out.lt)
  have B3 := hid (B2.out.trans (hb.mono B2.out.size))
  clear hb KA2 r5 R2 B2
  by_cases q2 : kn + S1 ≤ l1
  case neg =>
    rw [if_neg q2]
    go_wp2
    go_ret
    exact ⟨⟨-1, rfl, .inl (by decide)⟩, B3.out⟩
  rw [if_pos q2]
  obtain ⟨l2, hl2⟩ : ∃ l : Nat, l = l1 - kn - S1 := ⟨_, rfl⟩
  rw [← hl2]
  have hb2 : l2 ≤ 1048576 := by omega
  have n2 : ¬ (l2 : Int) < 0 := by omega
  have hkn' : kn + S1 ≤ 1048576 := by omega
  clear hl2 q2 n1 hb1
  have r6 := R3.out.cell 6
  have r7 := R3.out.cell 7
  by_cases q3 : po.size ≤ l2
  case neg =>
    have d3 : (l2 : Int) - (po.size : Int) < 0 := by omega
    go_wp2
    go_ret
    exact ⟨⟨-1, rfl, .inl (by decide)⟩, B3.out⟩
  have d3 : ¬ (l2 : Int) - (po.size : Int) < 0 := by omega
  by_cases q4 : ma.size ≤ l2 - po.size
  case neg =>
    have d4 : (l2 : Int) - (po.size : Int) - (ma.size : Int) < 0 := by omega
    go_wp2
    go_ret
    exact ⟨⟨-1, rfl, .inl (by decide)⟩, B3.out⟩
  have d4 : ¬ (l2 : Int) - (po.size : Int) - (ma.size : Int) < 0 := by omega
  obtain ⟨l4, hl4⟩ : ∃ l : Nat, l = l2 - po.size - ma.size := ⟨_, rfl⟩
  have hb4 : l4 ≤ 1048576 := by omega
  have e4 : (l2 : Int) - (po.size : Int) - (ma.size : Int) = (l4 : Int) := by omega
  have r8 := R3.out.cell 8
  have r9 := R3.out.cell 9
  have r10 := R3.out.cell 10
  have r11 := R3.out.cell 11
  have r12 := R3.out.cell 12
  have KB4 := KB w3 B3.out l4 hb4
  have hpo' : po.size ≤ 1048576 := by omega
  have hma' : ma.size ≤ 1048576 := by omega
  clear KB hl4
  go_upto_region 13 with fail
  try rw [e4]
  clear e4 d3 d4 q3 q4 n2 hb2 r6 r7
  go_wp2_with fail
  refine KB4.out.mono ?_
  rintro e w4 ⟨rfl, hb⟩
  have B4 := hid (B3.out.trans (hb.mono B3.out.size))
  clear hb KB4 r8 r9 r10 r11 r12 R3 B3
  by_cases q5 : rn + S2 + vn + S3 ≤ l4
  case neg =>
    rw [if_neg q5]
    go_wp2
    go_ret
    exact ⟨⟨-1, rfl, .inl (by decide)⟩, B4.out⟩
  rw [if_pos q5]
  obtain ⟨l5, hl5⟩ : ∃ l : Nat, l = l4 - rn - S2 - vn - S3 := ⟨_, rfl⟩
  rw [← hl5]
  have n5 : ¬ (l5 : Int) < 0 := by omega
  have E := hid (FIN.out q1 hkn' hpo' hma' (by omega))
  clear hl5 q5
  go_wp2
  go_ret
  exact ⟨⟨_, rfl, .inr E.out⟩, B4.out⟩
theorem RowAt.there {w : World} {b : Nat} {t : TypeId} {cs : Array Value} (h : RowAt w b t cs) (o k : Nat) (hk : o + k ≤ cs.size) : w.there b o k :=
  (FRow.of (f := fun p => cs.getD p undef) h rfl (fun p hp => by simp [Array.getD, hp])).there o k hk
theorem oneWc (a : Option Addr) (n cap : Nat) (k m g u : Int) (ka : Option Addr) (kn kc : Nat) (po ma : ByteArray) (ni : Int) (kp : Bool) (q : Int) (ra : Option Addr) (rn rc : Nat) (va : Option Addr) (vn vc : Nat) : (#[.slice a n cap, .int .i64 k, .int .i64 m, .int .i64 g, .int .i64 u, .slice ka kn kc, .string po, .string ma, .int .i64 ni, .bool kp, .int .i64 q, .slice ra rn rc, .slice va vn vc] : Array Value).all (·.oneCell') = true := by simp [Value.oneCell']
set_option maxRecDepth 20000 in
set_option maxHeartbeats 16000000 in
theorem toWc (c : Wc) (hB : WcB c) (w : World) (h : WcIn w c) :
    Calls Tryz.prog 6 #[.agg #[.slice c.a c.n c.cap, .int .i64 c.k, .int .i64 c.m, .int .i64 c.g, .int .i64 c.u, .slice c.ka c.kn c.kc, .string c.po, .string c.ma, .int .i64 c.ni, .bool c.kp, .int .i64 c.q, .slice c.ra c.rn c.rc, .slice c.va c.vn c.vc]] w fun e w' => (∃ b1 b2 b3 b4, e = .returned (.agg #[.slice (some ⟨b1, 0, none⟩) c.n c.n, .int .i64 c.k, .int .i64 c.m, .int .i64 c.g, .int .i64 c.u, .slice (some ⟨b2, 0, none⟩) c.kn c.kn, .string c.po, .string c.ma, .int .i64 c.ni, .bool c.kp, .int .i64 c.q, .slice (some ⟨b3, 0, none⟩) c.rn c.rn, .slice (some ⟨b4, 0, none⟩) c.vn c.vn]) ∧ WcIn w' (c.at b1 b2 b3 b4)) ∧ Below w.heap.size w w' := by
  obtain ⟨W1, hW1⟩ : ∃ W, W = ((w.alloc (.cells #[.slice c.a c.n c.cap, .int .i64 c.k, .int .i64 c.m, .int .i64 c.g, .int .i64 c.u, .slice c.ka c.kn c.kc, .string c.po, .string c.ma, .int .i64 c.ni, .bool c.kp, .int .i64 c.q, .slice c.ra c.rn c.rc, .slice c.va c.vn c.vc] 33)).alloc (.cells #[.slice none 0 0, .int .i64 0, .int .i64 0, .int .i64 0, .int .i64 0, .slice none 0 0, .string ⟨#[]⟩, .string ⟨#[]⟩, .int .i64 0, .bool false, .int .i64 0, .slice none 0 0, .slice none 0 0] 46)).alloc (.cells #[.slice none 0 0, .int .i64 0, .int .i64 0, .int .i64 0, .int .i64 0, .slice none 0 0, .string ⟨#[]⟩, .string ⟨#[]⟩, .int .i64 0, .bool false, .int .i64 0, .slice none 0 0, .slice none 0 0] 46) := ⟨_, rfl⟩
  have B1 : Hid (Below w.heap.size w W1) := by rw [hW1]; exact (((Below.refl _ _).alloc (Nat.le_refl _) _).alloc (by rw [size_al]; omega) _).alloc (by rw [size_al, size_al]; omega) _
  have A1 : Hid (RowAt W1 w.heap.size 33 #[.slice c.a c.n c.cap, .int .i64 c.k, .int .i64 c.m, .int .i64 c.g, .int .i64 c.u, .slice c.ka c.kn c.kc, .string c.po, .string c.ma, .int .i64 c.ni, .bool c.kp, .int .i64 c.q, .slice c.ra c.rn c.rc, .slice c.va c.vn c.vc]) := by rw [hW1]; exact ((RowAt.new _ _ _).alloc _).alloc _
  have R1 : Hid (RowAt W1 (w.heap.size + 1) 46 #[.slice none 0 0, .int .i64 0, .int .i64 0, .int .i64 0, .int .i64 0, .slice none 0 0, .string ⟨#[]⟩, .string ⟨#[]⟩, .int .i64 0, .bool false, .int .i64 0, .slice none 0 0, .slice none 0 0]) := by rw [hW1]; exact (RowAt.next _ _ _ (by rw [size_al])).alloc _
  have O1 : Hid (RowAt W1 (w.heap.size + 1 + 1) 46 #[.slice none 0 0, .int .i64 0, .int .i64 0, .int .i64 0, .int .i64 0, .slice none 0 0, .string ⟨#[]⟩, .string ⟨#[]⟩, .int .i64 0, .bool false, .int .i64 0, .slice none 0 0, .slice none 0 0]) := by rw [hW1]; exact RowAt.next _ _ _ (by simp only [size_al])
  have Z1 : Hid (w.heap.size + 2 < W1.heap.size) := O1.out.lt
  have KC : ∀ wx, Below w.heap.size w wx → _ := fun wx hb => hid (toCc c.a c.n c.cap c.x c.y c.k c.m c.g c.u hB.n wx (h.below hb).nd)
  unfold ccv at KC
  have KA : ∀ wx, Below w.heap.size w wx → _ := fun wx hb => hid (toAks c.ka c.kn c.kc c.ko hB.kn wx (h.below hb).ks)
  have KB : ∀ wx, Below w.heap.size w wx → _ := fun wx hb => hid (toBk c.ni c.kp c.q c.ra c.rn c.rc c.ro c.va c.vn c.vc c.vo hB.rn hB.vn wx (h.below hb).rs (h.below hb).vs)
  clear h hB
  obtain ⟨ca, cn, ccap, cx, cy, ck, cm, cg, cu, ka, kn, kc, ko, po, ma, ni, kp, q, ra, rn, rc, ro, va, vn, vc, vo⟩ := c
  dsimp only [Wc.at] at KC KA KB A1 hW1 ⊢
  have r0 := A1.out.cell 0
  have r1 := A1.out.cell 1
  have r2 := A1.out.cell 2
  have r3 := A1.out.cell 3
  have r4 := A1.out.cell 4
  go_enter Tryz.func6, Tryz.ntmps6
  go_upto_region 2 with fail
  rw [← hW1]
  clear hW1
  obtain ⟨X, hX⟩ : ∃ X, X = w.heap.size := ⟨_, rfl⟩
  rw [← hX] at A1 R1 O1 Z1 r0 r1 r2 r3 r4
  rw [← hX]
  have HX := hid hX
  clear hX
  go_wp2_with fail
  refine (KC W1 B1.out).out.mono ?_
  rintro e w2 ⟨b1, rfl, hF, hb1, hb⟩
  have F2 := hid hF
  have G1 : Hid (W1.heap.size ≤ b1) := hb1
  have A2 := hid (A1.out.below hb A1.out.lt)
  have R2 := hid (R1.out.below hb R1.out.lt)
  have O2 := hid (O1.out.below hb O1.out.lt)
  have B2 := hid (B1.out.trans (hb.mono B1.out.size))
  clear hb KC r0 r1 r2 r3 r4 A1 R1 O1 B1 hF hb1
  obtain ⟨W3, hW3⟩ : ∃ W, W = w2.setCells (X + 1 + 1) 0 [.slice (some ⟨b1, 0, none⟩) cn cn, .int .i64 ck, .int .i64 cm, .int .i64 cg, .int .i64 cu] := ⟨_, rfl⟩
  have g3 : w2.grownBy W3 (some (X + 1 + 1)) := by rw [hW3]; exact setCells_grown _ _ _
  have O3 : Hid (RowAt W3 (X + 1 + 1) 46 #[.slice (some ⟨b1, 0, none⟩) cn cn, .int .i64 ck, .int .i64 cm, .int .i64 cg, .int .i64 cu, .slice none 0 0, .string ⟨#[]⟩, .string ⟨#[]⟩, .int .i64 0, .bool false, .int .i64 0, .slice none 0 0, .slice none 0 0]) := by rw [hW3]; exact ((((O2.out.set 0 _).set 1 _).set 2 _).set 3 _).set 4 _
  have A3 : Hid (RowAt W3 X 33 #[.slice ca cn ccap, .int .i64 ck, .int .i64 cm, .int .i64 cg, .int .i64 cu, .slice ka kn kc, .string po, .string ma, .int .i64 ni, .bool kp, .int .i64 q, .slice ra rn rc, .slice va vn vc]) := (g3.block _ A2.out.lt (fun e => by have := Option.some.inj e; omega)).trans A2.out
  have R3 : Hid (RowAt W3 (X + 1) 46 #[.slice none 0 0, .int .i64 0, .int .i64 0, .int .i64 0, .int .i64 0, .slice none 0 0, .string ⟨#[]⟩, .string ⟨#[]⟩, .int .i64 0, .bool false, .int .i64 0, .slice none 0 0, .slice none 0 0]) := (g3.block _ R2.out.lt (fun e => by have := Option.some.inj e; omega)).trans R2.out
  have B3 : Hid (Below w.heap.size w W3) := B2.out.grown g3 B2.out.size (fun y hy => by have := Option.some.inj hy; have := HX.out; omega)
  have F3 : Hid (FRow W3 b1 109 (cn * 2) (prF cx cy)) := F2.out.far g3 (fun e => by have := Option.some.inj e; have := G1.out; have := Z1.out; omega)
  have TH := hid (O2.out.there 0 5 (by decide))
  clear g3 A2 R2 B2 F2
  go_upto_region 3 with ((refine wpList_store_mid rfl 39 (.tmp 7) (.tmp 6) rfl (X + 1 + 1) 0 #[.slice (some ⟨b1, 0, none⟩) cn cn, .int .i64 ck, .int .i64 cm, .int .i64 cg, .int .i64 cu] rfl rfl TH.out (by kernel_rfl) (by simp [Value.oneCell']) ?_); rw [← hW3])
  clear hW3 TH O2
  have r5 := A3.out.cell 5
  go_wp2_with fail
  refine (KA W3 B3.out).out.mono ?_
  rintro e w4 ⟨rfl, hF, hb⟩
  obtain ⟨b2, hb2⟩ : ∃ b, b = W3.heap.size := ⟨_, rfl⟩
  rw [← hb2] at hF ⊢
  have G2 : Hid (X + 2 < b2) := by rw [hb2]; exact O3.out.lt
  have Q4 := hid hF
  have F4 := hid (F3.out.below hb F3.out.lt)
  have A4 := hid (A3.out.below hb A3.out.lt)
  have R4 := hid (R3.out.below hb R3.out.lt)
  have O4 := hid (O3.out.below hb O3.out.lt)
  have B4 := hid (B3.out.trans (hb.mono B3.out.size))
  have BB1 : Hid (X + 2 < b1) := Nat.lt_of_lt_of_le Z1.out G1.out
  clear hb KA r5 A3 R3 O3 B3 hF F3 hb2 G1 Z1
  obtain ⟨W5, hW5⟩ : ∃ W, W = ((w4.setCell ⟨X + 1 + 1, 5, none⟩ (.slice (some ⟨b2, 0, none⟩) kn kn)).setCell ⟨X + 1 + 1, 6, none⟩ (.string po)).setCell ⟨X + 1 + 1, 7, none⟩ (.string ma) := ⟨_, rfl⟩
  have g5 : w4.grownBy W5 (some (X + 1 + 1)) := by rw [hW5]; exact grown_trans (grown_trans grown_set grown_set) grown_set
  have O5 : Hid (RowAt W5 (X + 1 + 1) 46 #[.slice (some ⟨b1, 0, none⟩) cn cn, .int .i64 ck, .int .i64 cm, .int .i64 cg, .int .i64 cu, .slice (some ⟨b2, 0, none⟩) kn kn, .string po, .string ma, .int .i64 0, .bool false, .int .i64 0, .slice none 0 0, .slice none 0 0]) := by rw [hW5]; exact ((O4.out.set 5 _).set 6 _).set 7 _
  have A5 : Hid (RowAt W5 X 33 #[.slice ca cn ccap, .int .i64 ck, .int .i64 cm, .int .i64 cg, .int .i64 cu, .slice ka kn kc, .string po, .string ma, .int .i64 ni, .bool kp, .int .i64 q, .slice ra rn rc, .slice va vn vc]) := (g5.block _ A4.out.lt (fun e => by have := Option.some.inj e; omega)).trans A4.out
  have R5 : Hid (RowAt W5 (X + 1) 46 #[.slice none 0 0, .int .i64 0, .int .i64 0, .int .i64 0, .int .i64 0, .slice none 0 0, .string ⟨#[]⟩, .string ⟨#[]⟩, .int .i64 0, .bool false, .int .i64 0, .slice none 0 0, .slice none 0 0]) := (g5.block _ R4.out.lt (fun e => by have := Option.some.inj e; omega)).trans R4.out
  have B5 : Hid (Below w.heap.size w W5) := B4.out.grown g5 B4.out.size (fun y hy => by have := Option.some.inj hy; have := HX.out; omega)
  have F5 : Hid (FRow W5 b1 109 (cn * 2) (prF cx cy)) := F4.out.far g5 (fun e => by have := Option.some.inj e; have := BB1.out; omega)
  have Q5 : Hid (FRow W5 b2 61 (kn * 2) (akF ko)) := Q4.out.far g5 (fun e => by have := Option.some.inj e; have := G2.out; omega)
  have s5 := O4.out.cell 5
  have f5 := O4.out.free 5
  have s6 := (O4.out.set 5 (.slice (some ⟨b2, 0, none⟩) kn kn)).cell 6
  have f6 := (O4.out.set 5 (.slice (some ⟨b2, 0, none⟩) kn kn)).free 6
  have s7 := ((O4.out.set 5 (.slice (some ⟨b2, 0, none⟩) kn kn)).set 6 (.string po)).cell 7
  have f7 := ((O4.out.set 5 (.slice (some ⟨b2, 0, none⟩) kn kn)).set 6 (.string po)).free 7
  have a6 : (w4.setCell ⟨X + 1 + 1, 5, none⟩ (.slice (some ⟨b2, 0, none⟩) kn kn)).cell? ⟨X, 6, none⟩ = some (.string po) := (A4.out.other ⟨X + 1 + 1, 5, none⟩ _ (by dsimp only; omega)).cell 6
  have a7 : ((w4.setCell ⟨X + 1 + 1, 5, none⟩ (.slice (some ⟨b2, 0, none⟩) kn kn)).setCell ⟨X + 1 + 1, 6, none⟩ (.string po)).cell? ⟨X, 7, none⟩ = some (.string ma) := ((A4.out.other ⟨X + 1 + 1, 5, none⟩ _ (by dsimp only; omega)).other ⟨X + 1 + 1, 6, none⟩ _ (by dsimp only; omega)).cell 7
  clear g5 A4 R4 B4 F4 Q4
  go_upto_region 6 with fail
  rw [← hW5]
  clear hW5 s5 f5 s6 f6 s7 f7 a6 a7 O4
  have r8 := A5.out.cell 8
  have r9 := A5.out.cell 9
  have r10 := A5.out.cell 10
  have r11 := A5.out.cell 11
  have r12 := A5.out.cell 12
  go_wp2_with fail
  refine (KB W5 B5.out).out.mono ?_
  rintro e w6 ⟨b3, b4, rfl, hM, hb⟩
  have M6 := hid hM
  have F6 := hid (F5.out.below hb F5.out.lt)
  have Q6 := hid (Q5.out.below hb Q5.out.lt)
  have R6 := hid (R5.out.below hb R5.out.lt)
  have O6 := hid (O5.out.below hb O5.out.lt)
  have B6 := hid (B5.out.trans (hb.mono B5.out.size))
  have N3 : Hid (b3 ≠ X + 1 + 1 ∧ b4 ≠ X + 1 + 1 ∧ b3 ≠ X + 1 ∧ b4 ≠ X + 1) := by
    obtain ⟨d3, h3, _⟩ := hM.1
    obtain ⟨d4, h4, _⟩ := hM.2
    exact ⟨rowApart h3 O6.out (by decide), rowApart h4 O6.out (by decide), rowApart h3 R6.out (by decide), rowApart h4 R6.out (by decide)⟩
  clear hb KB r8 r9 r10 r11 r12 A5 R5 O5 B5 hM F5 Q5
  obtain ⟨W7, hW7⟩ : ∃ W, W = w6.setCells (X + 1 + 1) 8 [.int .i64 ni, .bool kp, .int .i64 q, .slice (some ⟨b3, 0, none⟩) rn rn, .slice (some ⟨b4, 0, none⟩) vn vn] := ⟨_, rfl⟩
  have g7 : w6.grownBy W7 (some (X + 1 + 1)) := by rw [hW7]; exact setCells_grown _ _ _
  have O7 : Hid (RowAt W7 (X + 1 + 1) 46 #[.slice (some ⟨b1, 0, none⟩) cn cn, .int .i64 ck, .int .i64 cm, .int .i64 cg, .int .i64 cu, .slice (some ⟨b2, 0, none⟩) kn kn, .string po, .string ma, .int .i64 ni, .bool kp, .int .i64 q, .slice (some ⟨b3, 0, none⟩) rn rn, .slice (some ⟨b4, 0, none⟩) vn vn]) := by rw [hW7]; exact ((((O6.out.set 8 _).set 9 _).set 10 _).set 11 _).set 12 _
  have R7 : Hid (RowAt W7 (X + 1) 46 #[.slice none 0 0, .int .i64 0, .int .i64 0, .int .i64 0, .int .i64 0, .slice none 0 0, .string ⟨#[]⟩, .string ⟨#[]⟩, .int .i64 0, .bool false, .int .i64 0, .slice none 0 0, .slice none 0 0]) := (g7.block _ R6.out.lt (fun e => by have := Option.some.inj e; omega)).trans R6.out
  have B7 : Hid (Below w.heap.size w W7) := B6.out.grown g7 B6.out.size (fun y hy => by have := Option.some.inj hy; have := HX.out; omega)
  have F7 : Hid (FRow W7 b1 109 (cn * 2) (prF cx cy)) := F6.out.far g7 (fun e => by have := Option.some.inj e; have := BB1.out; omega)
  have Q7 : Hid (FRow W7 b2 61 (kn * 2) (akF ko)) := Q6.out.far g7 (fun e => by have := Option.some.inj e; have := G2.out; omega)
  have M7 : Hid (MkB W7 rn ro vn vo b3 b4) := ⟨M6.out.1.far g7 (fun e => N3.out.1 (Option.some.inj e)), M6.out.2.far g7 (fun e => N3.out.2.1 (Option.some.inj e))⟩
  have TH := hid (O6.out.there 8 5 (by simp))
  clear g7 R6 B6 F6 Q6 M6
  go_upto_region 7 with ((refine wpList_store_mid rfl 44 (.tmp 21) (.tmp 20) rfl (X + 1 + 1) 8 #[.int .i64 ni, .bool kp, .int .i64 q, .slice (some ⟨b3, 0, none⟩) rn rn, .slice (some ⟨b4, 0, none⟩) vn vn] rfl rfl TH.out (by kernel_rfl) (by simp [Value.oneCell']) ?_); rw [← hW7])
  clear hW7 TH O6
  have l0 := O7.out.cell 0
  have l1 := O7.out.cell 1
  have l2 := O7.out.cell 2
  have l3 := O7.out.cell 3
  have l4 := O7.out.cell 4
  have l5 := O7.out.cell 5
  have l6 := O7.out.cell 6
  have l7 := O7.out.cell 7
  have l8 := O7.out.cell 8
  have l9 := O7.out.cell 9
  have l10 := O7.out.cell 10
  have l11 := O7.out.cell 11
  have l12 := O7.out.cell 12
  go_wp2_with (refine wpList_store_row rfl 46 (.tmp 2) (.tmp 22) rfl (X + 1) #[.slice (some ⟨b1, 0, none⟩) cn cn, .int .i64 ck, .int .i64 cm, .int .i64 cg, .int .i64 cu, .slice (some ⟨b2, 0, none⟩) kn kn, .string po, .string ma, .int .i64 ni, .bool kp, .int .i64 q, .slice (some ⟨b3, 0, none⟩) rn rn, .slice (some ⟨b4, 0, none⟩) vn vn] rfl rfl _ _ R7.out (by kernel_rfl) rfl (oneWc _ _ _ _ _ _ _ _ _ _ _ _ _ _ _ _ _ _ _ _ _) ?_)
  refine bodyPost_ret (v := .agg #[.slice (some ⟨b1, 0, none⟩) cn cn, .int .i64 ck, .int .i64 cm, .int .i64 cg, .int .i64 cu, .slice (some ⟨b2, 0, none⟩) kn kn, .string po, .string ma, .int .i64 ni, .bool kp, .int .i64 q, .slice (some ⟨b3, 0, none⟩) rn rn, .slice (some ⟨b4, 0, none⟩) vn vn]) ?_ rfl ⟨⟨b1, b2, b3, b4, rfl, ?_⟩, ?_⟩
  · exact results_cell_row Tryz.results6 _ _ (X + 1) _ _ _ _ rfl (R7.out.setRow _) Tryz.underlying46 rfl (by kernel_rfl)
  · have gs : W7.grownBy (W7.setRow (X + 1) #[.slice (some ⟨b1, 0, none⟩) cn cn, .int .i64 ck, .int .i64 cm, .int .i64 cg, .int .i64 cu, .slice (some ⟨b2, 0, none⟩) kn kn, .string po, .string ma, .int .i64 ni, .bool kp, .int .i64 q, .slice (some ⟨b3, 0, none⟩) rn rn, .slice (some ⟨b4, 0, none⟩) vn vn]) (some (X + 1)) := grown_setRow
    have hb1 := BB1.out
    have hb2 := G2.out
    have n3 := N3.out
    have f1 := F7.out.far gs (fun e => by have := Option.some.inj e; omega)
    have f2 := Q7.out.far gs (fun e => by have := Option.some.inj e; omega)
    exact ⟨f1.prs, Aks.of_row f2, Lrs.of_row (M7.out.1.far gs (fun e => n3.2.2.1 (Option.some.inj e))), Ves.of_row (M7.out.2.far gs (fun e => n3.2.2.2 (Option.some.inj e)))⟩
  · exact below_setRow B7.out _ _ (by have := HX.out; omega)
set_option maxRecDepth 20000 in
set_option maxHeartbeats 8000000 in
theorem eqWc (c : Wc) (hB : WcB c) (b1 b2 b3 b4 d1 d2 d3 d4 : Nat) (w : World) (h : WcIn w (c.at b1 b2 b3 b4)) (h' : WcIn w (c.at d1 d2 d3 d4)) :
    Calls Tryz.prog 8 #[.agg #[.slice (some ⟨b1, 0, none⟩) c.n c.n, .int .i64 c.k, .int .i64 c.m, .int .i64 c.g, .int .i64 c.u, .slice (some ⟨b2, 0, none⟩) c.kn c.kn, .string c.po, .string c.ma, .int .i64 c.ni, .bool c.kp, .int .i64 c.q, .slice (some ⟨b3, 0, none⟩) c.rn c.rn, .slice (some ⟨b4, 0, none⟩) c.vn c.vn], .agg #[.slice (some ⟨d1, 0, none⟩) c.n c.n, .int .i64 c.k, .int .i64 c.m, .int .i64 c.g, .int .i64 c.u, .slice (some ⟨d2, 0, none⟩) c.kn c.kn, .string c.po, .string c.ma, .int .i64 c.ni, .bool c.kp, .int .i64 c.q, .slice (some ⟨d3, 0, none⟩) c.rn c.rn, .slice (some ⟨d4, 0, none⟩) c.vn c.vn]] w fun e w' => e = .returned (.bool true) ∧ Below w.heap.size w w' := by
  obtain ⟨W1, hW1⟩ : ∃ W, W = (w.alloc (.cells #[.slice (some ⟨b1, 0, none⟩) c.n c.n, .int .i64 c.k, .int .i64 c.m, .int .i64 c.g, .int .i64 c.u, .slice (some ⟨b2, 0, none⟩) c.kn c.kn, .string c.po, .string c.ma, .int .i64 c.ni, .bool c.kp, .int .i64 c.q, .slice (some ⟨b3, 0, none⟩) c.rn c.rn, .slice (some ⟨b4, 0, none⟩) c.vn c.vn] 46)).alloc (.cells #[.slice (some ⟨d1, 0, none⟩) c.n c.n, .int .i64 c.k, .int .i64 c.m, .int .i64 c.g, .int .i64 c.u, .slice (some ⟨d2, 0, none⟩) c.kn c.kn, .string c.po, .string c.ma, .int .i64 c.ni, .bool c.kp, .int .i64 c.q, .slice (some ⟨d3, 0, none⟩) c.rn c.rn, .slice (some ⟨d4, 0, none⟩) c.vn c.vn] 46) := ⟨_, rfl⟩
  have B1 : Hid (Below w.heap.size w W1) := by rw [hW1]; exact ((Below.refl _ _).alloc (Nat.le_refl _) _).alloc (by rw [size_al]; omega) _
  have R1 : Hid (RowAt W1 w.heap.size 46 #[.slice (some ⟨b1, 0, none⟩) c.n c.n, .int .i64 c.k, .int .i64 c.m, .int .i64 c.g, .int .i64 c.u, .slice (some ⟨b2, 0, none⟩) c.kn c.kn, .string c.po, .string c.ma, .int .i64 c.ni, .bool c.kp, .int .i64 c.q, .slice (some ⟨b3, 0, none⟩) c.rn c.rn, .slice (some ⟨b4, 0, none⟩) c.vn c.vn]) := by rw [hW1]; exact (RowAt.new _ _ _).alloc _
  have S1 : Hid (RowAt W1 (w.heap.size + 1) 46 #[.slice (some ⟨d1, 0, none⟩) c.n c.n, .int .i64 c.k, .int .i64 c.m, .int .i64 c.g, .int .i64 c.u, .slice (some ⟨d2, 0, none⟩) c.kn c.kn, .string c.po, .string c.ma, .int .i64 c.ni, .bool c.kp, .int .i64 c.q, .slice (some ⟨d3, 0, none⟩) c.rn c.rn, .slice (some ⟨d4, 0, none⟩) c.vn c.vn]) := by rw [hW1]; exact RowAt.next _ _ _ (by rw [size_al])
  have KC : ∀ wx, Below w.heap.size w wx → _ := fun wx hb => hid (eqCc (some ⟨b1, 0, none⟩) (some ⟨d1, 0, none⟩) c.n c.n c.n c.x c.y c.k c.m c.g c.u hB.n wx (h.below hb).nd (h'.below hb).nd)
  unfold ccv at KC
  have KA : ∀ wx, Below w.heap.size w wx → _ := fun wx hb => hid (eqAks (some ⟨b2, 0, none⟩) c.kn c.kn (some ⟨d2, 0, none⟩) c.kn c.ko hB.kn wx (h.below hb).ks (h'.below hb).ks)
  have KB : ∀ wx, Below w.heap.size w wx → _ := fun wx hb => hid (eqBk c.ni c.kp c.q (some ⟨b3, 0, none⟩) c.rn c.rn c.ro (some ⟨b4, 0, none⟩) c.vn c.vn c.vo (some ⟨d3, 0, none⟩) c.rn (some ⟨d4, 0, none⟩) c.vn hB.rn hB.vn wx (h.below hb).rs (h.below hb).vs (h'.below hb).rs (h'.below hb).vs)
  clear h h' hB
  obtain ⟨ca, cn, ccap, cx, cy, ck, cm, cg, cu, ka, kn, kc, ko, po, ma, ni, kp, q, ra, rn, rc, ro, va, vn, vc, vo⟩ := c
  dsimp only at KC KA KB R1 S1 hW1 ⊢
  have p1 : (po.toList == po.toList) = true := by simp
  have p2 : (ma.toList == ma.toList) = true := by simp
  have r0 := R1.out.cell 0
  have s0 := S1.out.cell 0
  have r1 := R1.out.cell 1
  have s1 := S1.out.cell 1
  have r2 := R1.out.cell 2
  have s2 := S1.out.cell 2
  have r3 := R1.out.cell 3
  have s3 := S1.out.cell 3
  have r4 := R1.out.cell 4
  have s4 := S1.out.cell 4
  go_enter Tryz.func8, Tryz.ntmps8
  go_upto_region 1 with fail
  rw [← hW1]
  clear hW1
  go_wp2_with fail
  refine (KC W1 B1.out).out.mono ?_
  rintro e w2 ⟨rfl, hb⟩
  have R2 := hid (R1.out.below hb R1.out.lt)
  have S2 := hid (S1.out.below hb S1.out.lt)
  have B2 := hid (B1.out.trans (hb.mono B1.out.size))
  clear hb KC r0 r1 r2 r3 r4 s0 s1 s2 s3 s4 R1 S1 B1
  have r5 := R2.out.cell 5
  have s5 := S2.out.cell 5
  go_wp2_with fail
  refine (KA w2 B2.out).out.mono ?_
  rintro e w3 ⟨rfl, hb⟩
  have R3 := hid (R2.out.below hb R2.out.lt)
  have S3 := hid (S2.out.below hb S2.out.lt)
  have B3 := hid (B2.out.trans (hb.mono B2.out.size))
  clear hb KA r5 s5 R2 S2 B2
  have r6 := R3.out.cell 6
  have s6 := S3.out.cell 6
  have r7 := R3.out.cell 7
  have s7 := S3.out.cell 7
  have r8 := R3.out.cell 8
  have s8 := S3.out.cell 8
  have r9 := R3.out.cell 9
  have s9 := S3.out.cell 9
  have r10 := R3.out.cell 10
  have s10 := S3.out.cell 10
  have r11 := R3.out.cell 11
  have s11 := S3.out.cell 11
  have r12 := R3.out.cell 12
  have s12 := S3.out.cell 12
  go_wp2_with fail
  refine (KB w3 B3.out).out.mono ?_
  rintro e w4 ⟨rfl, hb⟩
  have B4 := hid (B3.out.trans (hb.mono B3.out.size))
  clear hb KB
  go_wp2
  go_ret
  exact ⟨rfl, B4.out⟩
end Go.Proofs.YtokjfffcciddhaaGreatDoor
