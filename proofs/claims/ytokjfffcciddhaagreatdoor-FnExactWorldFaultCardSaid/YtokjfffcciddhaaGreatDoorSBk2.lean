import Derived.Test.YtokjfffcciddhaaGreatDoorQK
import Derived.BigQuiet
namespace Go.Proofs.YtokjfffcciddhaaGreatDoor
open Go.RowKit
/-! The specification: BucketFault (by genbk.py). -/
set_option maxRecDepth 20000 in
set_option maxHeartbeats 8000000 in
theorem sBkF (ni : Int) (kp : Bool) (q : Int) (a0 : Option Addr) (n0 c0 : Nat) (o0 : Nat → Lr) (a : Option Addr) (m cap : Nat) (o : Nat → Ve) (hn : n0 ≤ 1048576) (hs0 : ∀ k, k < n0 → (o0 k).px.size ≤ 1048576) (hm : m ≤ 1048576) (hs1 : ∀ k, k < m → (o k).ky.size ≤ 1048576 ∧ (o k).dt.size ≤ 1048576) (hs : byN o m ≤ 1073741824) (w : World) (h0 : Lrs w a0 n0 c0 o0) (h : Ves w a m cap o) :
    Calls Tryz.prog 13 #[.agg #[.int .i64 ni, .bool kp, .int .i64 q, .slice a0 n0 c0, .slice a m cap]] w fun e w' => e = .returned (.int .i64 (bkV ni q n0 o0 m o)) ∧ Below w.heap.size w w' := by
  obtain ⟨W0, hW0⟩ : ∃ W, W = w.alloc (.cells #[.int .i64 ni, .bool kp, .int .i64 q, .slice a0 n0 c0, .slice a m cap] 44) := ⟨_, rfl⟩
  have A0 : Hid (RowAt W0 w.heap.size 44 #[.int .i64 ni, .bool kp, .int .i64 q, .slice a0 n0 c0, .slice a m cap]) := by rw [hW0]; exact RowAt.new _ _ _
  have B0 : Hid (Below w.heap.size w W0) := by rw [hW0]; exact balLr (Below.refl _ _) _
  have H0 := hid (h0.below B0.out)
  have HH := hid (h.below B0.out)
  have KR := fun wx (hb : Below W0.heap.size W0 wx) => hid (sRules a0 n0 c0 o0 hn hs0 wx (H0.out.below hb))
  have KB := fun wx (hb : Below W0.heap.size W0 wx) => hid (sBytes ni kp q a0 n0 c0 a m cap o hm hs wx (HH.out.below hb))
  have HS1 := hid hs1
  have HV := hid h
  have x0 := A0.out.cell 0
  have x1 := A0.out.cell 1
  have x2 := A0.out.cell 2
  have x3 := A0.out.cell 3
  have x4 := A0.out.cell 4
  have HW0 := hid hW0
  obtain ⟨BV, hBV⟩ : ∃ v, v = bkV ni q n0 o0 m o := ⟨_, rfl⟩
  rw [← hBV]
  have NO : Hid (¬ bkP ni q n0 o0 m o → BV = 1) := fun hh => by rw [hBV]; exact bkV_no hh
  have YE : Hid (bkP ni q n0 o0 m o → BV = 0) := fun hh => by rw [hBV]; exact bkV_ok hh
  obtain ⟨BB, hBB⟩ : ∃ v, v = byN o m := ⟨_, rfl⟩
  have HBB := hid hBB
  rw [← hBB] at KB
  clear h0 h hs hs0 hs1 hW0 hBV hBB
  by_cases h1 : 1 ≤ ni
  · have e1 : decide (ni < 1) = false := by simp; omega
    by_cases h2 : ni ≤ 1099511627776
    · have e2 : decide (1099511627776 < ni) = false := by simp; omega
      by_cases h3 : 0 ≤ q
      · have e3 : decide (q < 0) = false := by simp; omega
        by_cases h4 : q ≤ 400000
        · have e4 : decide (400000 < q) = false := by simp; omega
          by_cases h5 : rlsP n0 o0
          · rw [pb_t h5] at KR
            by_cases h6 : m ≤ 300
            · have e6 : decide ((300 : Int) < (m : Int)) = false := by simp; omega
              by_cases h7 : q = 0
              · have e7 : decide (0 < q) = false := by simp; omega
                have HQ : Hid (wiP q (byN o m : Nat)) := .inl h7
                clear h7
                go_enter Tryz.func13, Tryz.ntmps13
                go_upto_region 1 with fail
                rw [← HW0.out]
                go_quiet ((go_at_call 33; exact Calls.quiet_of_same (KR _ (bdNB (Below.refl _ W0) _)).out))
                go_wp2_with fail
                clear KR KB e1 e2 e3 e4 e6 e7 x0 x1 x2 x3 x4
                go_loopw [3, 4] (fun v u wr => ∃ k : Nat, k ≤ m ∧ v = .int .i64 (lastI o k) ∧ u = .int .i64 (k : Int) ∧ (∀ i, i < k → okV ni o i) ∧ RowAt wr w.heap.size 44 #[.int .i64 ni, .bool kp, .int .i64 q, .slice a0 n0 c0, .slice a m cap] ∧ Below w.heap.size w wr) (fun _ u _ => m - (intOf u).toNat)
                case atStart => exact ⟨0, Nat.zero_le _, rfl, rfl, fun i hi => absurd hi (Nat.not_lt_zero _), A0.out.drewN _, bdNB B0.out _⟩
                case round =>
                  obtain ⟨k, hk, rfl, rfl, hf, hA, hB⟩ := hrel
                  have HF := hid hf
                  have HA := hid hA
                  have HB := hid hB
                  have x0 := hA.cell 0
                  have x4 := hA.cell 4
                  clear hf hA hB 
                  by_cases hlt : k < m
                  · have d3 : (k : Int) < (m : Int) := by omega
                    have k0 : (0 : Int) ≤ (k : Int) := by omega
                    rcases (HV.out.below HB.out).2 with h00 | ⟨b, off, rfl, hbl, hc⟩
                    · omega
                    obtain ⟨y0, y1, y2, y3, y4, y5, y6⟩ := hc k hlt
                    obtain ⟨s1, s2⟩ := HS1.out k hlt
                    have FA : Hid (¬ okV ni o k → BV = 1) := fun hh => NO.out fun hi => hh (hi.2.2.2.1.2 k hlt)
                    have TR : Hid (okV ni o k → ∀ i, i < k + 1 → okV ni o i) := fun hh => all_next HF.out hh
                    have LS : Hid (lastI o (k + 1) = (o k).id) := rfl
                    have OK : okV ni o k ↔ veP (o k) ∧ lastI o k < (o k).id ∧ (o k).id < ni := Iff.rfl
                    rw [OK] at FA TR
                    generalize lastI o k = L at FA TR ⊢
                    generalize o k = T at y0 y1 y2 y3 y4 y5 y6 s1 s2 FA TR LS
                    obtain ⟨ky, id, mr, dt, tm, un, ho⟩ := T
                    dsimp only at y0 y1 y2 y3 y4 y5 y6 s1 s2 FA TR LS
                    obtain ⟨W1, hW1⟩ : ∃ W, W = wr.alloc (.cells #[.string ky, .int .i64 id, .bool mr, .string dt, .int .i64 tm, .int .i64 un, .bool ho] 79) := ⟨_, rfl⟩
                    have z := (RowAt.new wr 79 #[.string ky, .int .i64 id, .bool mr, .string dt, .int .i64 tm, .int .i64 un, .bool ho])
                    rw [← hW1] at z
                    have A1 : Hid (RowAt W1 w.heap.size 44 #[.int .i64 ni, .bool kp, .int .i64 q, .slice a0 n0 c0, .slice (some ⟨b, off, none⟩) m cap]) := by rw [hW1]; exact HA.out.alloc _
                    have B1 : Hid (Below w.heap.size w W1) := by rw [hW1]; exact HB.out.alloc HB.out.size _
                    have K1 := fun w => hid (sKeyB ky s1 w)
                    have K2 := fun w => hid (sTimeB tm w)
                    have K3 := fun w => hid (sTimeB un w)
                    have HW1 := hid hW1
                    clear hc hW1 OK
                    go_upto_region 8 with ((refine wpList_store_row rfl 79 (.tmp 5) (.tmp 59) rfl wr.heap.size #[.string ky, .int .i64 id, .bool mr, .string dt, .int .i64 tm, .int .i64 un, .bool ho] rfl rfl _ _ (RowAt.new wr _ _) (by kernel_rfl) rfl (oneVe _ _ _ _ _ _ _) ?_); rw [World.setRow_alloc_new])
                    rw [← HW1.out]
                    clear y0 y1 y2 y3 y4 y5 y6 x0 x4
                    have z0 := z.cell 0
                    have z1 := z.cell 1
                    have z2 := z.cell 2
                    have z3 := z.cell 3
                    have z4 := z.cell 4
                    have z5 := z.cell 5
                    have z6 := z.cell 6
                    have x0 := A1.out.cell 0
                    have x4 := A1.out.cell 4
                    clear z
                    by_cases g1 : L < id
                    · have d1 : ¬ id ≤ L := by omega
                      by_cases g2 : id < ni
                      · have d2 : ¬ ni ≤ id := by omega
                        by_cases g3 : kyB ky
                        · rw [pb_t g3] at K1
                          by_cases g4 : dt.size ≤ 100000
                          · have d4 : ¬ (100000 : Int) < (dt.size : Int) := by omega
                            by_cases g5 : tmB tm
                            · rw [pb_t g5] at K2
                              by_cases g6 : tmB un
                              · rw [pb_t g6] at K3
                                cases mr with
                                | false =>
                                  have N : Hid (∀ i, i < k + 1 → okV ni o i) := TR.out ⟨⟨g3, g4, g5, g6, fun h => Bool.noConfusion h⟩, g1, g2⟩
                                  clear FA TR
                                  go_wp2_with fail
                                  refine (K1 _).out.mono ?_
                                  rintro e w1 ⟨rfl, hw1⟩
                                  obtain rfl := hw1.symm
                                  clear hw1
                                  go_wp2_with fail
                                  refine (K2 _).out.mono ?_
                                  rintro e w1 ⟨rfl, hw1⟩
                                  obtain rfl := hw1.symm
                                  clear hw1
                                  go_wp2_with fail
                                  refine (K3 _).out.mono ?_
                                  rintro e w1 ⟨rfl, hw1⟩
                                  obtain rfl := hw1.symm
                                  clear hw1
                                  go_wp2
                                  go_roundw
                                  case rel => exact ⟨k + 1, by omega, by rw [LS.out], by go_num, N.out, A1.out, B1.out⟩
                                  case measure => simp [intOf]; omega
                                | true =>
                                  by_cases g7 : dt = ⟨#[]⟩
                                  · subst g7
                                    by_cases g8 : un = 0
                                    · subst g8
                                      cases ho with
                                      | false =>
                                        have N : Hid (∀ i, i < k + 1 → okV ni o i) := TR.out ⟨⟨g3, g4, g5, g6, fun _ => ⟨rfl, rfl, rfl⟩⟩, g1, g2⟩
                                        clear FA TR
                                        go_wp2_with fail
                                        refine (K1 _).out.mono ?_
                                        rintro e w1 ⟨rfl, hw1⟩
                                        obtain rfl := hw1.symm
                                        clear hw1
                                        go_wp2_with fail
                                        refine (K2 _).out.mono ?_
                                        rintro e w1 ⟨rfl, hw1⟩
                                        obtain rfl := hw1.symm
                                        clear hw1
                                        go_wp2_with fail
                                        refine (K3 _).out.mono ?_
                                        rintro e w1 ⟨rfl, hw1⟩
                                        obtain rfl := hw1.symm
                                        clear hw1
                                        go_wp2
                                        go_roundw
                                        case rel => exact ⟨k + 1, by omega, by rw [LS.out], by go_num, N.out, A1.out, B1.out⟩
                                        case measure => simp [intOf]; omega
                                      | true =>
                                        have N : Hid (BV = 1) := FA.out fun h => by have := (h.1.2.2.2.2 rfl).2.2; cases this
                                        clear FA TR
                                        go_wp2_with fail
                                        refine (K1 _).out.mono ?_
                                        rintro e w1 ⟨rfl, hw1⟩
                                        obtain rfl := hw1.symm
                                        clear hw1
                                        go_wp2_with fail
                                        refine (K2 _).out.mono ?_
                                        rintro e w1 ⟨rfl, hw1⟩
                                        obtain rfl := hw1.symm
                                        clear hw1
                                        go_wp2_with fail
                                        refine (K3 _).out.mono ?_
                                        rintro e w1 ⟨rfl, hw1⟩
                                        obtain rfl := hw1.symm
                                        clear hw1
                                        go_wp2
                                        go_ret
                                        exact ⟨by rw [N.out]; rfl, B1.out⟩
                                    · have d8 : (un != 0) = true := bne_iff_ne.2 g8
                                      have N : Hid (BV = 1) := FA.out fun h => g8 (h.1.2.2.2.2 rfl).2.1
                                      clear FA TR
                                      go_wp2_with fail
                                      refine (K1 _).out.mono ?_
                                      rintro e w1 ⟨rfl, hw1⟩
                                      obtain rfl := hw1.symm
                                      clear hw1
                                      go_wp2_with fail
                                      refine (K2 _).out.mono ?_
                                      rintro e w1 ⟨rfl, hw1⟩
                                      obtain rfl := hw1.symm
                                      clear hw1
                                      go_wp2_with fail
                                      refine (K3 _).out.mono ?_
                                      rintro e w1 ⟨rfl, hw1⟩
                                      obtain rfl := hw1.symm
                                      clear hw1
                                      go_wp2
                                      go_ret
                                      exact ⟨by rw [N.out]; rfl, B1.out⟩
                                  · have d7 : dt.toList.isEmpty = false := txt_neB g7
                                    have N : Hid (BV = 1) := FA.out fun h => g7 (h.1.2.2.2.2 rfl).1
                                    clear FA TR
                                    go_wp2_with fail
                                    refine (K1 _).out.mono ?_
                                    rintro e w1 ⟨rfl, hw1⟩
                                    obtain rfl := hw1.symm
                                    clear hw1
                                    go_wp2_with fail
                                    refine (K2 _).out.mono ?_
                                    rintro e w1 ⟨rfl, hw1⟩
                                    obtain rfl := hw1.symm
                                    clear hw1
                                    go_wp2_with fail
                                    refine (K3 _).out.mono ?_
                                    rintro e w1 ⟨rfl, hw1⟩
                                    obtain rfl := hw1.symm
                                    clear hw1
                                    go_wp2
                                    go_ret
                                    exact ⟨by rw [N.out]; rfl, B1.out⟩
                              · rw [pb_f g6] at K3
                                have N : Hid (BV = 1) := FA.out fun h => g6 h.1.2.2.2.1
                                clear FA TR
                                go_wp2_with fail
                                refine (K1 _).out.mono ?_
                                rintro e w1 ⟨rfl, hw1⟩
                                obtain rfl := hw1.symm
                                clear hw1
                                go_wp2_with fail
                                refine (K2 _).out.mono ?_
                                rintro e w1 ⟨rfl, hw1⟩
                                obtain rfl := hw1.symm
                                clear hw1
                                go_wp2_with fail
                                refine (K3 _).out.mono ?_
                                rintro e w1 ⟨rfl, hw1⟩
                                obtain rfl := hw1.symm
                                clear hw1
                                go_wp2
                                go_ret
                                exact ⟨by rw [N.out]; rfl, B1.out⟩
                            · rw [pb_f g5] at K2
                              have N : Hid (BV = 1) := FA.out fun h => g5 h.1.2.2.1
                              clear FA TR
                              go_wp2_with fail
                              refine (K1 _).out.mono ?_
                              rintro e w1 ⟨rfl, hw1⟩
                              obtain rfl := hw1.symm
                              clear hw1
                              go_wp2_with fail
                              refine (K2 _).out.mono ?_
                              rintro e w1 ⟨rfl, hw1⟩
                              obtain rfl := hw1.symm
                              clear hw1
                              go_wp2
                              go_ret
                              exact ⟨by rw [N.out]; rfl, B1.out⟩
                          · have d4 : (100000 : Int) < (dt.size : Int) := by omega
                            have N : Hid (BV = 1) := FA.out fun h => g4 h.1.2.1
                            clear FA TR
                            go_wp2_with fail
                            refine (K1 _).out.mono ?_
                            rintro e w1 ⟨rfl, hw1⟩
                            obtain rfl := hw1.symm
                            clear hw1
                            go_wp2
                            go_ret
                            exact ⟨by rw [N.out]; rfl, B1.out⟩
                        · rw [pb_f g3] at K1
                          have N : Hid (BV = 1) := FA.out fun h => g3 h.1.1
                          clear FA TR
                          go_wp2_with fail
                          refine (K1 _).out.mono ?_
                          rintro e w1 ⟨rfl, hw1⟩
                          obtain rfl := hw1.symm
                          clear hw1
                          go_wp2
                          go_ret
                          exact ⟨by rw [N.out]; rfl, B1.out⟩
                      · have d2 : ni ≤ id := by omega
                        have N : Hid (BV = 1) := FA.out fun h => g2 h.2.2
                        clear FA TR
                        go_wp2
                        go_ret
                        exact ⟨by rw [N.out]; rfl, B1.out⟩
                    · have d1 : id ≤ L := by omega
                      have N : Hid (BV = 1) := FA.out fun h => g1 h.2.1
                      clear FA TR
                      go_wp2
                      go_ret
                      exact ⟨by rw [N.out]; rfl, B1.out⟩
                  · have d3 : ¬ (k : Int) < (m : Int) := by omega
                    have hkm : k = m := by omega
                    subst hkm
                    have N : Hid (BV = 0) := YE.out ⟨⟨h1, h2⟩, ⟨h3, h4⟩, h5, ⟨h6, HF.out⟩, HQ.out⟩
                    go_wp2
                    go_ret
                    exact ⟨by rw [N.out]; rfl, HB.out⟩
              · have e7 : decide (0 < q) = true := by simp; omega
                have hJ := A0.out
                by_cases h8 : (BB : Int) ≤ q
                · have e8 : decide (q < (BB : Int)) = false := by simp; omega
                  have HQ : Hid (wiP q (byN o m : Nat)) := .inr (by rw [← HBB.out]; exact h8)
                  go_enter Tryz.func13, Tryz.ntmps13
                  go_upto_region 1 with fail
                  rw [← HW0.out]
                  go_region_held3 (fun wx => wx.cell? ⟨w.heap.size, 0, none⟩ = some (.int .i64 ni) ∧ wx.cell? ⟨w.heap.size, 1, none⟩ = some (.bool kp) ∧ wx.cell? ⟨w.heap.size, 2, none⟩ = some (.int .i64 q) ∧ wx.cell? ⟨w.heap.size, 3, none⟩ = some (.slice a0 n0 c0) ∧ wx.cell? ⟨w.heap.size, 4, none⟩ = some (.slice a m cap))
                    ((first | exact ⟨hJ.cell 0, hJ.cell 1, hJ.cell 2, hJ.cell 3, hJ.cell 4⟩))
                    ((first
                      | (go_at_call 33; refine (KR _ (Below.refl _ W0).drew).out.mono ?_; rintro e w2 ⟨rfl, rfl⟩)
                      | (go_at_call 34; refine (KB _ (Below.refl _ W0).drew).out.mono ?_; rintro e w3 ⟨rfl, hb3⟩; replace hJ := RowAt.nxB hb3 hJ.drew)))
                  go_wp2_with fail
                  have AX := hid hJ
                  have BX := hid (B0.out.drew.trans (hb3.mono B0.out.size))
                  clear KR KB e1 e2 e3 e4 e6 e7 e8 x0 x1 x2 x3 x4 hb3 hJ
                  go_loopw [3, 4] (fun v u wr => ∃ k : Nat, k ≤ m ∧ v = .int .i64 (lastI o k) ∧ u = .int .i64 (k : Int) ∧ (∀ i, i < k → okV ni o i) ∧ RowAt wr w.heap.size 44 #[.int .i64 ni, .bool kp, .int .i64 q, .slice a0 n0 c0, .slice a m cap] ∧ Below w.heap.size w wr) (fun _ u _ => m - (intOf u).toNat)
                  case atStart => exact ⟨0, Nat.zero_le _, rfl, rfl, fun i hi => absurd hi (Nat.not_lt_zero _), AX.out, BX.out⟩
                  case round =>
                    obtain ⟨k, hk, rfl, rfl, hf, hA, hB⟩ := hrel
                    have HF := hid hf
                    have HA := hid hA
                    have HB := hid hB
                    have x0 := hA.cell 0
                    have x4 := hA.cell 4
                    clear hf hA hB AX BX
                    by_cases hlt : k < m
                    · have d3 : (k : Int) < (m : Int) := by omega
                      have k0 : (0 : Int) ≤ (k : Int) := by omega
                      rcases (HV.out.below HB.out).2 with h00 | ⟨b, off, rfl, hbl, hc⟩
                      · omega
                      obtain ⟨y0, y1, y2, y3, y4, y5, y6⟩ := hc k hlt
                      obtain ⟨s1, s2⟩ := HS1.out k hlt
                      have FA : Hid (¬ okV ni o k → BV = 1) := fun hh => NO.out fun hi => hh (hi.2.2.2.1.2 k hlt)
                      have TR : Hid (okV ni o k → ∀ i, i < k + 1 → okV ni o i) := fun hh => all_next HF.out hh
                      have LS : Hid (lastI o (k + 1) = (o k).id) := rfl
                      have OK : okV ni o k ↔ veP (o k) ∧ lastI o k < (o k).id ∧ (o k).id < ni := Iff.rfl
                      rw [OK] at FA TR
                      generalize lastI o k = L at FA TR ⊢
                      generalize o k = T at y0 y1 y2 y3 y4 y5 y6 s1 s2 FA TR LS
                      obtain ⟨ky, id, mr, dt, tm, un, ho⟩ := T
                      dsimp only at y0 y1 y2 y3 y4 y5 y6 s1 s2 FA TR LS
                      obtain ⟨W1, hW1⟩ : ∃ W, W = wr.alloc (.cells #[.string ky, .int .i64 id, .bool mr, .string dt, .int .i64 tm, .int .i64 un, .bool ho] 79) := ⟨_, rfl⟩
                      have z := (RowAt.new wr 79 #[.string ky, .int .i64 id, .bool mr, .string dt, .int .i64 tm, .int .i64 un, .bool ho])
                      rw [← hW1] at z
                      have A1 : Hid (RowAt W1 w.heap.size 44 #[.int .i64 ni, .bool kp, .int .i64 q, .slice a0 n0 c0, .slice (some ⟨b, off, none⟩) m cap]) := by rw [hW1]; exact HA.out.alloc _
                      have B1 : Hid (Below w.heap.size w W1) := by rw [hW1]; exact HB.out.alloc HB.out.size _
                      have K1 := fun w => hid (sKeyB ky s1 w)
                      have K2 := fun w => hid (sTimeB tm w)
                      have K3 := fun w => hid (sTimeB un w)
                      have HW1 := hid hW1
                      clear hc hW1 OK
                      go_upto_region 8 with ((refine wpList_store_row rfl 79 (.tmp 5) (.tmp 59) rfl wr.heap.size #[.string ky, .int .i64 id, .bool mr, .string dt, .int .i64 tm, .int .i64 un, .bool ho] rfl rfl _ _ (RowAt.new wr _ _) (by kernel_rfl) rfl (oneVe _ _ _ _ _ _ _) ?_); rw [World.setRow_alloc_new])
                      rw [← HW1.out]
                      clear y0 y1 y2 y3 y4 y5 y6 x0 x4
                      have z0 := z.cell 0
                      have z1 := z.cell 1
                      have z2 := z.cell 2
                      have z3 := z.cell 3
                      have z4 := z.cell 4
                      have z5 := z.cell 5
                      have z6 := z.cell 6
                      have x0 := A1.out.cell 0
                      have x4 := A1.out.cell 4
                      clear z
                      by_cases g1 : L < id
                      · have d1 : ¬ id ≤ L := by omega
                        by_cases g2 : id < ni
                        · have d2 : ¬ ni ≤ id := by omega
                          by_cases g3 : kyB ky
                          · rw [pb_t g3] at K1
                            by_cases g4 : dt.size ≤ 100000
                            · have d4 : ¬ (100000 : Int) < (dt.size : Int) := by omega
                              by_cases g5 : tmB tm
                              · rw [pb_t g5] at K2
                                by_cases g6 : tmB un
                                · rw [pb_t g6] at K3
                                  cases mr with
                                  | false =>
                                    have N : Hid (∀ i, i < k + 1 → okV ni o i) := TR.out ⟨⟨g3, g4, g5, g6, fun h => Bool.noConfusion h⟩, g1, g2⟩
                                    clear FA TR
                                    go_wp2_with fail
                                    refine (K1 _).out.mono ?_
                                    rintro e w1 ⟨rfl, hw1⟩
                                    obtain rfl := hw1.symm
                                    clear hw1
                                    go_wp2_with fail
                                    refine (K2 _).out.mono ?_
                                    rintro e w1 ⟨rfl, hw1⟩
                                    obtain rfl := hw1.symm
                                    clear hw1
                                    go_wp2_with fail
                                    refine (K3 _).out.mono ?_
                                    rintro e w1 ⟨rfl, hw1⟩
                                    obtain rfl := hw1.symm
                                    clear hw1
                                    go_wp2
                                    go_roundw
                                    case rel => exact ⟨k + 1, by omega, by rw [LS.out], by go_num, N.out, A1.out, B1.out⟩
                                    case measure => simp [intOf]; omega
                                  | true =>
                                    by_cases g7 : dt = ⟨#[]⟩
                                    · subst g7
                                      by_cases g8 : un = 0
                                      · subst g8
                                        cases ho with
                                        | false =>
                                          have N : Hid (∀ i, i < k + 1 → okV ni o i) := TR.out ⟨⟨g3, g4, g5, g6, fun _ => ⟨rfl, rfl, rfl⟩⟩, g1, g2⟩
                                          clear FA TR
                                          go_wp2_with fail
                                          refine (K1 _).out.mono ?_
                                          rintro e w1 ⟨rfl, hw1⟩
                                          obtain rfl := hw1.symm
                                          clear hw1
                                          go_wp2_with fail
                                          refine (K2 _).out.mono ?_
                                          rintro e w1 ⟨rfl, hw1⟩
                                          obtain rfl := hw1.symm
                                          clear hw1
                                          go_wp2_with fail
                                          refine (K3 _).out.mono ?_
                                          rintro e w1 ⟨rfl, hw1⟩
                                          obtain rfl := hw1.symm
                                          clear hw1
                                          go_wp2
                                          go_roundw
                                          case rel => exact ⟨k + 1, by omega, by rw [LS.out], by go_num, N.out, A1.out, B1.out⟩
                                          case measure => simp [intOf]; omega
                                        | true =>
                                          have N : Hid (BV = 1) := FA.out fun h => by have := (h.1.2.2.2.2 rfl).2.2; cases this
                                          clear FA TR
                                          go_wp2_with fail
                                          refine (K1 _).out.mono ?_
                                          rintro e w1 ⟨rfl, hw1⟩
                                          obtain rfl := hw1.symm
                                          clear hw1
                                          go_wp2_with fail
                                          refine (K2 _).out.mono ?_
                                          rintro e w1 ⟨rfl, hw1⟩
                                          obtain rfl := hw1.symm
                                          clear hw1
                                          go_wp2_with fail
                                          refine (K3 _).out.mono ?_
                                          rintro e w1 ⟨rfl, hw1⟩
                                          obtain rfl := hw1.symm
                                          clear hw1
                                          go_wp2
                                          go_ret
                                          exact ⟨by rw [N.out]; rfl, B1.out⟩
                                      · have d8 : (un != 0) = true := bne_iff_ne.2 g8
                                        have N : Hid (BV = 1) := FA.out fun h => g8 (h.1.2.2.2.2 rfl).2.1
                                        clear FA TR
                                        go_wp2_with fail
                                        refine (K1 _).out.mono ?_
                                        rintro e w1 ⟨rfl, hw1⟩
                                        obtain rfl := hw1.symm
                                        clear hw1
                                        go_wp2_with fail
                                        refine (K2 _).out.mono ?_
                                        rintro e w1 ⟨rfl, hw1⟩
                                        obtain rfl := hw1.symm
                                        clear hw1
                                        go_wp2_with fail
                                        refine (K3 _).out.mono ?_
                                        rintro e w1 ⟨rfl, hw1⟩
                                        obtain rfl := hw1.symm
                                        clear hw1
                                        go_wp2
                                        go_ret
                                        exact ⟨by rw [N.out]; rfl, B1.out⟩
                                    · have d7 : dt.toList.isEmpty = false := txt_neB g7
                                      have N : Hid (BV = 1) := FA.out fun h => g7 (h.1.2.2.2.2 rfl).1
                                      clear FA TR
                                      go_wp2_with fail
                                      refine (K1 _).out.mono ?_
                                      rintro e w1 ⟨rfl, hw1⟩
                                      obtain rfl := hw1.symm
                                      clear hw1
                                      go_wp2_with fail
                                      refine (K2 _).out.mono ?_
                                      rintro e w1 ⟨rfl, hw1⟩
                                      obtain rfl := hw1.symm
                                      clear hw1
                                      go_wp2_with fail
                                      refine (K3 _).out.mono ?_
                                      rintro e w1 ⟨rfl, hw1⟩
                                      obtain rfl := hw1.symm
                                      clear hw1
                                      go_wp2
                                      go_ret
                                      exact ⟨by rw [N.out]; rfl, B1.out⟩
                                · rw [pb_f g6] at K3
                                  have N : Hid (BV = 1) := FA.out fun h => g6 h.1.2.2.2.1
                                  clear FA TR
                                  go_wp2_with fail
                                  refine (K1 _).out.mono ?_
                                  rintro e w1 ⟨rfl, hw1⟩
                                  obtain rfl := hw1.symm
                                  clear hw1
                                  go_wp2_with fail
                                  refine (K2 _).out.mono ?_
                                  rintro e w1 ⟨rfl, hw1⟩
                                  obtain rfl := hw1.symm
                                  clear hw1
                                  go_wp2_with fail
                                  refine (K3 _).out.mono ?_
                                  rintro e w1 ⟨rfl, hw1⟩
                                  obtain rfl := hw1.symm
                                  clear hw1
                                  go_wp2
                                  go_ret
                                  exact ⟨by rw [N.out]; rfl, B1.out⟩
                              · rw [pb_f g5] at K2
                                have N : Hid (BV = 1) := FA.out fun h => g5 h.1.2.2.1
                                clear FA TR
                                go_wp2_with fail
                                refine (K1 _).out.mono ?_
                                rintro e w1 ⟨rfl, hw1⟩
                                obtain rfl := hw1.symm
                                clear hw1
                                go_wp2_with fail
                                refine (K2 _).out.mono ?_
                                rintro e w1 ⟨rfl, hw1⟩
                                obtain rfl := hw1.symm
                                clear hw1
                                go_wp2
                                go_ret
                                exact ⟨by rw [N.out]; rfl, B1.out⟩
                            · have d4 : (100000 : Int) < (dt.size : Int) := by omega
                              have N : Hid (BV = 1) := FA.out fun h => g4 h.1.2.1
                              clear FA TR
                              go_wp2_with fail
                              refine (K1 _).out.mono ?_
                              rintro e w1 ⟨rfl, hw1⟩
                              obtain rfl := hw1.symm
                              clear hw1
                              go_wp2
                              go_ret
                              exact ⟨by rw [N.out]; rfl, B1.out⟩
                          · rw [pb_f g3] at K1
                            have N : Hid (BV = 1) := FA.out fun h => g3 h.1.1
                            clear FA TR
                            go_wp2_with fail
                            refine (K1 _).out.mono ?_
                            rintro e w1 ⟨rfl, hw1⟩
                            obtain rfl := hw1.symm
                            clear hw1
                            go_wp2
                            go_ret
                            exact ⟨by rw [N.out]; rfl, B1.out⟩
                        · have d2 : ni ≤ id := by omega
                          have N : Hid (BV = 1) := FA.out fun h => g2 h.2.2
                          clear FA TR
                          go_wp2
                          go_ret
                          exact ⟨by rw [N.out]; rfl, B1.out⟩
                      · have d1 : id ≤ L := by omega
                        have N : Hid (BV = 1) := FA.out fun h => g1 h.2.1
                        clear FA TR
                        go_wp2
                        go_ret
                        exact ⟨by rw [N.out]; rfl, B1.out⟩
                    · have d3 : ¬ (k : Int) < (m : Int) := by omega
                      have hkm : k = m := by omega
                      subst hkm
                      have N : Hid (BV = 0) := YE.out ⟨⟨h1, h2⟩, ⟨h3, h4⟩, h5, ⟨h6, HF.out⟩, HQ.out⟩
                      go_wp2
                      go_ret
                      exact ⟨by rw [N.out]; rfl, HB.out⟩
                · have e8 : decide (q < (BB : Int)) = true := by simp; omega
                  have N : Hid (BV = 1) := NO.out fun h => by
                    rcases h.2.2.2.2 with h | h
                    · exact h7 h
                    · rw [← HBB.out] at h; exact h8 h
                  go_enter Tryz.func13, Tryz.ntmps13
                  go_upto_region 1 with fail
                  rw [← HW0.out]
                  go_region_held3 (fun wx => wx.cell? ⟨w.heap.size, 0, none⟩ = some (.int .i64 ni) ∧ wx.cell? ⟨w.heap.size, 1, none⟩ = some (.bool kp) ∧ wx.cell? ⟨w.heap.size, 2, none⟩ = some (.int .i64 q) ∧ wx.cell? ⟨w.heap.size, 3, none⟩ = some (.slice a0 n0 c0) ∧ wx.cell? ⟨w.heap.size, 4, none⟩ = some (.slice a m cap))
                    ((first | exact ⟨hJ.cell 0, hJ.cell 1, hJ.cell 2, hJ.cell 3, hJ.cell 4⟩))
                    ((first
                      | (go_at_call 33; refine (KR _ (Below.refl _ W0).drew).out.mono ?_; rintro e w2 ⟨rfl, rfl⟩)
                      | (go_at_call 34; refine (KB _ (Below.refl _ W0).drew).out.mono ?_; rintro e w3 ⟨rfl, hb3⟩; replace hJ := RowAt.nxB hb3 hJ.drew)))
                  have BX := hid (B0.out.drew.trans (hb3.mono B0.out.size))
                  go_wp2
                  go_ret
                  exact ⟨by rw [N.out]; rfl, BX.out⟩
            · have e6 : decide ((300 : Int) < (m : Int)) = true := by simp; omega
              have N : Hid (BV = 1) := NO.out fun h => h6 h.2.2.2.1.1
              go_enter Tryz.func13, Tryz.ntmps13
              go_upto_region 1 with fail
              rw [← HW0.out]
              go_quiet ((go_at_call 33; exact Calls.quiet_of_same (KR _ (bdNB (Below.refl _ W0) _)).out))
              go_wp2
              go_ret
              exact ⟨by rw [N.out]; rfl, bdNB B0.out _⟩
          · rw [pb_f h5] at KR
            have N : Hid (BV = 1) := NO.out fun h => h5 h.2.2.1
            go_enter Tryz.func13, Tryz.ntmps13
            go_upto_region 1 with fail
            rw [← HW0.out]
            go_quiet ((go_at_call 33; exact Calls.quiet_of_same (KR _ (bdNB (Below.refl _ W0) _)).out))
            go_wp2
            go_ret
            exact ⟨by rw [N.out]; rfl, bdNB B0.out _⟩
        · have e4 : decide (400000 < q) = true := by simp; omega
          have N : Hid (BV = 1) := NO.out fun h => h4 h.2.1.2
          go_enter Tryz.func13, Tryz.ntmps13
          go_upto_region 1 with fail
          rw [← HW0.out]
          go_quiet (fail)
          go_wp2
          go_ret
          exact ⟨by rw [N.out]; rfl, bdNB B0.out _⟩
      · have e3 : decide (q < 0) = true := by simp; omega
        have N : Hid (BV = 1) := NO.out fun h => h3 h.2.1.1
        go_enter Tryz.func13, Tryz.ntmps13
        go_upto_region 1 with fail
        rw [← HW0.out]
        go_quiet (fail)
        go_wp2
        go_ret
        exact ⟨by rw [N.out]; rfl, bdNB B0.out _⟩
    · have e2 : decide (1099511627776 < ni) = true := by simp; omega
      have N : Hid (BV = 1) := NO.out fun h => h2 h.1.2
      go_enter Tryz.func13, Tryz.ntmps13
      go_upto_region 1 with fail
      rw [← HW0.out]
      go_quiet (fail)
      go_wp2
      go_ret
      exact ⟨by rw [N.out]; rfl, bdNB B0.out _⟩
  · have e1 : decide (ni < 1) = true := by simp; omega
    have N : Hid (BV = 1) := NO.out fun h => h1 h.1.1
    go_enter Tryz.func13, Tryz.ntmps13
    go_upto_region 1 with fail
    rw [← HW0.out]
    go_quiet (fail)
    go_wp2
    go_ret
    exact ⟨by rw [N.out]; rfl, bdNB B0.out _⟩
end Go.Proofs.YtokjfffcciddhaaGreatDoor
