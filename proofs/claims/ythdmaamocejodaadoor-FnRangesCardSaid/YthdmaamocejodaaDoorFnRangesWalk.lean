import Derived.Test.YthdmaamocejodaaDoorT2
import Derived.Test.YthdmaamocejodaaDoorDrawSpl
import Derived.Test.YthdmaamocejodaaDoorT7
import Derived.Test.YthdmaamocejodaaDoorT6
namespace Go.Proofs.YthdmaamocejodaaDoor
open Go.RowKit
/-! FnRanges. -/
theorem lwAt_0 (w : World) (a : Option Addr) (len cap : Nat) (hc : CodeOk w a len) : Calls Tryd.prog 7 #[.slice a len cap, .int .i64 0] w fun e w' => (∃ r : Nat, e = .returned (.int .i64 r) ∧ r < 256) ∧ w' = w := lwAt_all w a len cap 0 hc (by decide)
theorem lwAt_1 (w : World) (a : Option Addr) (len cap : Nat) (hc : CodeOk w a len) : Calls Tryd.prog 7 #[.slice a len cap, .int .i64 1] w fun e w' => (∃ r : Nat, e = .returned (.int .i64 r) ∧ r < 256) ∧ w' = w := lwAt_all w a len cap 1 hc (by decide)
set_option maxRecDepth 20000 in
set_option maxHeartbeats 4000000 in
theorem fnRanges_small (a : Option Addr) (len cap : Nat) (a' : Option Addr) (len' cap' : Nat) (w : World) (hT : Tab w) (hc : CodeOk w a len) (hlc : len ≤ cap) (hc' : CodeOk w a' len') (hl : len ≤ 1048576) (hl' : len' ≤ 1048576) :
    Calls Tryd.prog 3 #[.slice a len cap, .slice a' len' cap'] w fun e w' => e = .returned (.bool true) ∧ Below w.heap.size w w' := by
  have d0 : decide ((1048576 : Int) < (len : Int)) = false := by simp; omega
  have d1 : decide ((1048576 : Int) < (len' : Int)) = false := by simp; omega
  have HT := hid hT
  have HC := hid hc
  have HC' := hid hc'
  clear hT hc hc'
  go_enter Tryd.func3, Tryd.ntmps3
  go_wp2_with fail
  refine (drawSplit_all w a len cap HC.out hlc).mono ?_
  rintro e w1 ⟨⟨k, m, g, u, d, rfl, hd⟩, hb1⟩
  obtain ⟨v1, hv1⟩ : ∃ v1, v1 = w1.alloc (.cells (cda k m g) 24) := ⟨_, rfl⟩
  have C1 : Hid (RowAt v1 w1.heap.size 24 (cda k m g)) := by rw [hv1]; exact RowAt.new _ _ _
  have B1 : Hid (Below w.heap.size w v1) := by rw [hv1]; exact hb1.alloc hb1.size _
  have HV1 := hid hv1
  have hs1 := hb1.size
  clear hb1 hv1
  by_cases hno : stripeN k m g u ((d.size : Nat) : Int) = -1
  · have HNO := hid hno
    have SP := hid (ispl_no k m g u d v1 (HT.out.belowS B1.out) (by omega) hno)
    clear hno
    go_wp2_with fail
    rw [show w1.alloc (.cells #[.int .i64 k, .int .i64 m, .int .i64 g] 24) = v1 from HV1.out.symm]
    refine SP.out.mono ?_
    rintro e w2 ⟨a2, c2, rfl, _, hb2⟩
    have C2 : Hid (RowAt (w2.alloc (.cells #[.int .i64 1, .slice a2 0 c2] 29)) w1.heap.size 24 (cda k m g)) := (C1.out.below hb2 C1.out.lt).alloc _
    have R2 : Hid (RowAt (w2.alloc (.cells #[.int .i64 1, .slice a2 0 c2] 29)) w2.heap.size 29 #[.int .i64 1, .slice a2 0 c2]) := RowAt.new _ _ _
    have B2 : Hid (Below w.heap.size w (w2.alloc (.cells #[.int .i64 1, .slice a2 0 c2] 29))) := (B1.out.trans (hb2.mono B1.out.size)).alloc (Nat.le_trans B1.out.size hb2.size) _
    have c0 := C2.out.cell 0
    have c1 := C2.out.cell 1
    have c3 := C2.out.cell 2
    clear hb2 SP HV1
    go_wp2_with fail
    refine (sStripe _ _ _ _ _ _).mono ?_
    rintro e w3 ⟨rfl, hw3⟩
    rw [HNO.out]
    have R3 : RowAt w3 w2.heap.size 29 #[.int .i64 1, .slice a2 0 c2] := by rw [hw3]; exact (R2.out.alloc _).alloc _
    have r0 := R3.cell 0
    have B3 : Hid (Below w.heap.size w w3) := by rw [hw3]; exact (B2.out.alloc B2.out.size _).alloc (B2.out.alloc B2.out.size _).size _
    clear hw3 R3 c0 c1 c3
    go_wp2
    go_ret
    exact ⟨rfl, B3.out⟩
  · obtain ⟨K, M, G, U, S, rfl, rfl, rfl, rfl, hS, h1, h2, h3, h4, h5, h6, h7, h8, h9, hn⟩ := stripe_ok hno
    have hS' : S = d.size := by omega
    rw [hS] at hn
    obtain ⟨n, hnv⟩ : ∃ n, n = (S + K * U - 1) / (K * U) := ⟨_, rfl⟩
    rw [← hnv] at h9 hn
    have SP := hid (ispl_ok K M G U n d v1 (HT.out.belowS B1.out) h1 h2 h3 h4 h5 h6 h7 (by omega) h9 (by rw [← hS']; exact hnv) (by rw [hS]; exact hn))
    have HN : Hid (stripeN K M G U S = (n : Int)) := hn
    have eS : ((d.size : Nat) : Int) = (S : Int) := hS
    have HS := hid hS'
    have HNV := hid hnv
    have hS60 : S ≤ 60 := by omega
    clear hno hn hnv hS hS' hd
    go_wp2_with fail
    rw [show w1.alloc (.cells #[.int .i64 (K : Int), .int .i64 (M : Int), .int .i64 (G : Int)] 24) = v1 from HV1.out.symm]
    refine SP.out.mono ?_
    rintro e w2 ⟨a2, c2, rfl, hP, hb2⟩
    obtain ⟨v2, hv2⟩ : ∃ v2, v2 = w2.alloc (.cells #[.int .i64 0, .slice a2 n c2] 29) := ⟨_, rfl⟩
    have T2 : Hid (StpB v2 w2.heap.size a2 n c2 (K + M + G) (spT d K M G U)) := by rw [hv2]; exact hP.stp.alloc _
    have C2 : Hid (RowAt v2 w1.heap.size 24 (cda K M G)) := by rw [hv2]; exact (C1.out.below hb2 C1.out.lt).alloc _
    have R2 : Hid (RowAt v2 w2.heap.size 29 #[.int .i64 0, .slice a2 n c2]) := by rw [hv2]; exact RowAt.new _ _ _
    have B2 : Hid (Below w.heap.size w v2) := by rw [hv2]; exact (B1.out.trans (hb2.mono B1.out.size)).alloc (Nat.le_trans B1.out.size hb2.size) _
    have HV2 := hid hv2
    have c0 := C2.out.cell 0
    have c1 := C2.out.cell 1
    have c3 := C2.out.cell 2
    rw [hv2] at c0 c1 c3
    clear hb2 SP HV1 hP hv2
    go_wp2_with fail
    rw [show w2.alloc (.cells #[.int .i64 0, .slice a2 n c2] 29) = v2 from HV2.out.symm]
    refine (sStripe _ _ _ _ _ _).mono ?_
    rintro e w3 ⟨rfl, hw3⟩
    rw [HN.out]
    have b3 : Below v2.heap.size v2 w3 := by rw [hw3]; exact ((Below.refl _ _).alloc (Nat.le_refl _) _).alloc (by rw [size_al]; omega) _
    have T3 : Hid (StpB w3 w2.heap.size a2 n c2 (K + M + G) (spT d K M G U)) := T2.out.below b3 (Nat.le_of_lt R2.out.lt)
    have C3 : Hid (RowAt w3 w1.heap.size 24 (cda K M G)) := C2.out.below b3 C2.out.lt
    have R3 : Hid (RowAt w3 w2.heap.size 29 #[.int .i64 0, .slice a2 n c2]) := R2.out.below b3 R2.out.lt
    have B3 : Hid (Below w.heap.size w w3) := B2.out.trans (b3.mono B2.out.size)
    have dN : ¬ (n : Int) < 0 := by omega
    clear hw3 b3 T2 C2 R2 B2 HV2 c0 c1 c3 C1 B1
    go_wp2_with fail
    refine (lwAt_0 w3 a' len' cap' (HC'.out.below B3.out)).mono ?_
    rintro e w4 ⟨⟨r1, rfl, hr1⟩, rfl⟩
    obtain ⟨f, hf⟩ : ∃ f, f = r1 % (S + 3) := ⟨_, rfl⟩
    have q1 : (r1 : Int).tmod ((S : Int) + 3) = (f : Int) := by rw [Int.tmod_eq_emod_of_nonneg (by omega), hf, Int.natCast_emod, Int.natCast_add]; rfl
    have q2 : (r1 : Int) % ((S : Int) + 3) = (f : Int) := by rw [hf, Int.natCast_emod, Int.natCast_add]; rfl
    have hfS : f ≤ S + 2 := by have := Nat.mod_lt r1 (show 0 < S + 3 by omega); omega
    have n1 : ¬ (S : Int) + 3 = 0 := by omega
    clear hf
    go_wp2_with fail
    refine (lwAt_1 w4 a' len' cap' (HC'.out.below B3.out)).mono ?_
    rintro e w5 ⟨⟨c, rfl, hcc⟩, rfl⟩
    have c0 := C3.out.cell 0
    have c1 := C3.out.cell 1
    have c3 := C3.out.cell 2
    clear q1 q2 n1 hr1
    obtain ⟨f1, hf1⟩ : ∃ f1, f1 = min f S := ⟨_, rfl⟩
    obtain ⟨e1, he1⟩ : ∃ e1, e1 = min c (S - f1) := ⟨_, rfl⟩
    obtain ⟨t, ht⟩ : ∃ t, t = f1 + e1 := ⟨_, rfl⟩
    have RG := hid (irng_ok K M G U S f c f1 e1 w5 h1 h2 h3 h4 h5 h6 h7 h8 (by omega) (by omega) (by rw [HN.out]; omega) hf1 he1)
    rw [← ht] at RG
    have htS : t ≤ S := by omega
    have hft : f1 ≤ t := by omega
    have HF := hid (And.intro hf1 (And.intro he1 ht))
    clear hf1 he1 ht
    go_wp2_with fail
    refine RG.out.mono ?_
    rintro e w6 ⟨a6, c6, rfl, hR, hb6⟩
    obtain ⟨N, hN⟩ : ∃ N, N = rgN U f1 t := ⟨_, rfl⟩
    rw [← hN] at hR ⊢
    have HNN := hid hN
    obtain ⟨v6, hv6⟩ : ∃ v6, v6 = w6.alloc (.cells #[.int .i64 0, .slice a6 N c6] 35) := ⟨_, rfl⟩
    have A6 : Hid (Rngs v6 a6 N c6 (fun p => ((rgC K U f1 t p : Nat) : Int))) := by rw [hv6]; exact hR.rngs.below ((Below.refl _ _).alloc (Nat.le_refl _) _)
    have T6 : Hid (StpB v6 w2.heap.size a2 n c2 (K + M + G) (spT d K M G U)) := by rw [hv6]; exact (T3.out.below hb6 (Nat.le_of_lt R3.out.lt)).alloc _
    have C6 : Hid (RowAt v6 w1.heap.size 24 (cda K M G)) := by rw [hv6]; exact (C3.out.below hb6 C3.out.lt).alloc _
    have R6 : Hid (RowAt v6 w2.heap.size 29 #[.int .i64 0, .slice a2 n c2]) := by rw [hv6]; exact (R3.out.below hb6 R3.out.lt).alloc _
    have Q6 : Hid (RowAt v6 w6.heap.size 35 #[.int .i64 0, .slice a6 N c6]) := by rw [hv6]; exact RowAt.new _ _ _
    have B6 : Hid (Below w.heap.size w v6) := by rw [hv6]; exact (B3.out.trans (hb6.mono B3.out.size)).alloc (Nat.le_trans B3.out.size hb6.size) _
    have HV6 := hid hv6
    have x0 := R6.out.cell 0
    have x1 := Q6.out.cell 0
    have x2 := Q6.out.cell 1
    rw [hv6] at x0 x1 x2
    have zb := hb6.size
    clear hb6 hv6 hR hN RG T3 C3 R3 B3 c0 c1 c3
    go_upto_region 13 with fail
    rw [show w6.alloc (.cells #[.int .i64 0, .slice a6 N c6] 35) = v6 from HV6.out.symm]
    clear x0 x1 x2 HV6
    go_wp2_with fail
    have hN60 : N ≤ 60 := by have q1 := rgN_le' U f1 t; have q2 := HNN.out; omega
    go_loopw [14, 13] (fun x y wr => ∃ i, i ≤ N ∧ x = .int .i64 (i : Nat) ∧ y = .string (d.extract f1 (rgAt U f1 t i)) ∧ Below v6.heap.size v6 wr) (fun x _ _ => N - (intOf x).toNat)
    case atStart => exact ⟨0, Nat.zero_le _, rfl, by rw [rgAt_zero, extract_none], Below.refl _ _⟩
    case round =>
      obtain ⟨i, hi, rfl, rfl, hB⟩ := hrel
      have HB := hid hB
      have k2 : wr.cell? ⟨w6.heap.size, 1, none⟩ = some (.slice a6 N c6) := (Q6.out.below hB Q6.out.lt).cell 1
      clear hB
      by_cases hlt : i < N
      · have hlt' : (i : Int) < (N : Int) := by omega
        have hlt0 : (0 : Int) ≤ (i : Int) := by omega
        have hlN : i < rgN U f1 t := by rw [← HNN.out]; exact hlt
        obtain ⟨o1, o2⟩ := rgAt_div h6 hlN
        obtain ⟨o3, o4, o5⟩ := rgAt_lt h6 hlN
        have z0 := rgC0 K U f1 t i
        have z1 := rgC1 K U f1 t i
        have z2 := rgC2 K U f1 t i
        have z3 := rgC3 K U f1 t i
        obtain ⟨at', hat⟩ : ∃ at', at' = rgAt U f1 t i := ⟨_, rfl⟩
        obtain ⟨nx, hnx⟩ : ∃ nx, nx = rgAt U f1 t (i + 1) := ⟨_, rfl⟩
        rw [← hat] at o1 o2 o3 o5 z0 z1 z2 z3 ⊢
        rw [← hnx] at o3 o4 o5 z3
        obtain ⟨A, hA⟩ : ∃ A, A = at' / (K * U) := ⟨_, rfl⟩
        obtain ⟨B, hB⟩ : ∃ B, B = at' / U % K := ⟨_, rfl⟩
        obtain ⟨C, hC⟩ : ∃ C, C = at' % U := ⟨_, rfl⟩
        obtain ⟨D, hD⟩ : ∃ D, D = nx - at' := ⟨_, rfl⟩
        rw [← hA] at z0
        rw [← hB] at z1
        rw [← hC] at z2 o5
        rw [← hD] at z3 o5
        have hAK : A = at' / U / K := by rw [hA, Nat.mul_comm, Nat.div_div_eq_div_mul]
        have hABK : A * K + B = at' / U := by rw [hAK, hB, Nat.mul_comm]; exact Nat.div_add_mod _ _
        have hBK : B < K := by rw [hB]; exact Nat.mod_lt _ (by omega)
        have hAn : A < n := by
          have hz : 1 ≤ K * U := Nat.mul_pos (by omega) (by omega)
          rw [hA, HNV.out, Nat.div_lt_iff_lt_mul (by omega)]
          have q := Nat.lt_div_mul_add (a := S + K * U - 1) (b := K * U) (by omega)
          omega
        have hU' : C + D ≤ U := o5
        have hD1 : 1 ≤ D := by omega
        obtain ⟨_, hr0 | ⟨b6, ha6, hb6, hc6⟩⟩ := A6.out
        · omega
        obtain ⟨_, ht0 | ⟨b2, ha2, hb2, hb2', gs, cs, hst⟩⟩ := T6.out
        · omega
        subst ha6 ha2
        obtain ⟨st1, st2, st3⟩ := hst A hAn
        have zz : ∀ q, q < 4 * N → wr.cell? ⟨b6, q, none⟩ = some (.int .i64 ((rgC K U f1 t q : Nat) : Int)) := fun q hq => (HB.out.cell (p := ⟨b6, q, none⟩) hb6).trans (hc6 q hq)
        have y0 : wr.cell? ⟨b6, i * 4, none⟩ = some (.int .i64 (A : Int)) := by rw [Nat.mul_comm, zz _ (by omega), z0]
        have y1 : wr.cell? ⟨b6, i * 4 + 1, none⟩ = some (.int .i64 (B : Int)) := by rw [Nat.mul_comm, zz _ (by omega), z1]
        have y2 : wr.cell? ⟨b6, i * 4 + 2, none⟩ = some (.int .i64 (C : Int)) := by rw [Nat.mul_comm, zz _ (by omega), z2]
        have y3 : wr.cell? ⟨b6, i * 4 + 3, none⟩ = some (.int .i64 (D : Int)) := by rw [Nat.mul_comm, zz _ (by omega), z3]
        have HA := hid hAK
        have HAB := hid hABK
        have HCC := hid hC
        have HD := hid hD
        have HAT := hid hat
        have HNX := hid hnx
        have hnt : nx ≤ t := o4
        have HO := hid o2
        have HO3 := hid o3
        have ST1 := hid st1
        have ST3 := hid st3
        have HBb := hid hb2'
        clear hA hB hC hD hat hnx z0 z1 z2 z3 zz hAK hABK o1 o2 o3 o4 o5 st1 st3 hst hc6 hb2 hb2' hlN
        obtain ⟨Wx, hWx⟩ : ∃ Wx, Wx = wr.alloc (.cells #[.int .i64 (A : Int), .int .i64 (B : Int), .int .i64 (C : Int), .int .i64 (D : Int)] 38) := ⟨_, rfl⟩
        have BX : Hid (Below v6.heap.size v6 Wx) := by rw [hWx]; exact HB.out.alloc HB.out.size _
        have XX : RowAt Wx wr.heap.size 38 #[.int .i64 (A : Int), .int .i64 (B : Int), .int .i64 (C : Int), .int .i64 (D : Int)] := by rw [hWx]; exact RowAt.new _ _ _
        have HWX := hid hWx
        clear hWx
        go_upto_region 18 with fail
        rw [show wr.alloc (.cells #[.int .i64 (A : Int), .int .i64 (B : Int), .int .i64 (C : Int), .int .i64 (D : Int)] 38) = Wx from HWX.out.symm]
        clear y0 y1 y2 y3 k2 HWX
        have g0 : Wx.cell? ⟨wr.heap.size, 0, none⟩ = some (.int .i64 (A : Int)) := XX.cell 0
        have g1 : Wx.cell? ⟨wr.heap.size, 1, none⟩ = some (.int .i64 (B : Int)) := XX.cell 1
        have g2 : Wx.cell? ⟨wr.heap.size, 2, none⟩ = some (.int .i64 (C : Int)) := XX.cell 2
        have g3 : Wx.cell? ⟨wr.heap.size, 3, none⟩ = some (.int .i64 (D : Int)) := XX.cell 3
        have g4 : Wx.cell? ⟨w2.heap.size, 1, none⟩ = some (.slice (some ⟨b2, 0, none⟩) n c2) := (R6.out.below BX.out R6.out.lt).cell 1
        have g5 : Wx.cell? ⟨w1.heap.size, 0, none⟩ = some (.int .i64 (K : Int)) := (C6.out.below BX.out C6.out.lt).cell 0
        have g6 : Wx.cell? ⟨b2, A, none⟩ = some (.slice (some ⟨gs A, 0, none⟩) (K + M + G) (cs A)) := (BX.out.cell (p := ⟨b2, A, none⟩) HBb.out).trans ST1.out
        obtain ⟨L, hL⟩ : ∃ L, L = K + M + G := ⟨_, rfl⟩
        rw [← hL] at g6
        have hLK : (K : Int) ≤ (L : Int) := by omega
        have HL := hid hL
        clear hL
        have i0 : (0 : Int) ≤ (A : Int) := by omega
        have i1 : (A : Int) < (n : Int) := by omega
        have i2 : (0 : Int) ≤ (B : Int) := by omega
        have i3 : (B : Int) < (K : Int) := by omega
        have i4 : (0 : Int) ≤ (C : Int) := by omega
        have i5 : (1 : Int) ≤ (D : Int) := by omega
        obtain ⟨E, hE⟩ : ∃ E, E = C + D := ⟨_, rfl⟩
        have eE : (C : Int) + (D : Int) = (E : Int) := by omega
        have hEU : E ≤ U := by omega
        have hCE : C ≤ E := by omega
        have wE : IntKind.i64.wrap (E : Int) = (E : Int) := wrapF _ (by omega) (by omega)
        have HE := hid hE
        clear hE
        have j0 : decide ((A : Int) < 0) = false := by simp
        have j1 : decide ((n : Int) ≤ (A : Int)) = false := by simp; omega
        have j2 : decide ((B : Int) < 0) = false := by simp
        have j3 : decide ((K : Int) ≤ (B : Int)) = false := by simp; omega
        have j4 : decide ((C : Int) < 0) = false := by simp
        have j5 : decide ((D : Int) < 1) = false := by simp; omega
        have j6 : decide ((U : Int) < (E : Int)) = false := by simp; omega
        have j7 : decide ((L : Int) < (K : Int)) = false := by simp; omega
        go_quiet (fail)
        obtain ⟨Wy, hWy⟩ : ∃ Wy, Wy = Wx.drewN nq := ⟨_, rfl⟩
        rw [← hWy]
        have BY : Hid (Below v6.heap.size v6 Wy) := by rw [hWy]; exact below_drewN BX.out nq
        replace g0 : Wy.cell? ⟨wr.heap.size, 0, none⟩ = some (.int .i64 (A : Int)) := by rw [hWy]; exact g0
        replace g1 : Wy.cell? ⟨wr.heap.size, 1, none⟩ = some (.int .i64 (B : Int)) := by rw [hWy]; exact g1
        replace g2 : Wy.cell? ⟨wr.heap.size, 2, none⟩ = some (.int .i64 (C : Int)) := by rw [hWy]; exact g2
        replace g3 : Wy.cell? ⟨wr.heap.size, 3, none⟩ = some (.int .i64 (D : Int)) := by rw [hWy]; exact g3
        replace g4 : Wy.cell? ⟨w2.heap.size, 1, none⟩ = some (.slice (some ⟨b2, 0, none⟩) n c2) := by rw [hWy]; exact g4
        replace g6 : Wy.cell? ⟨b2, A, none⟩ = some (.slice (some ⟨gs A, 0, none⟩) L (cs A)) := by rw [hWy]; exact g6
        clear hWy g5 BX XX j0 j1 j2 j3 j4 j5 j6 j7
        obtain ⟨P, hP⟩ : ∃ P, P = pcT d U (at' / U) := ⟨_, rfl⟩
        have g7 : Wy.cell? ⟨gs A, B, none⟩ = some (.string P) := by
          rcases ST3.out.2 with h0 | ⟨b, off, he, hb, hcell⟩
          · omega
          · cases he
            have q := hcell B (by omega)
            rw [Nat.zero_add, spT_data d K M G U A B h2 hBK, HAB.out, ← hP] at q
            exact (BY.out.cell (p := ⟨gs A, B, none⟩) hb).trans q
        have hPs : P.size = U := by rw [hP]; exact pcT_size d U _
        have hdS : d.size = S := HS.out.symm
        obtain ⟨X, hX⟩ : ∃ X, X = d.extract at' nx := ⟨_, rfl⟩
        have hnE : at' + D = nx := by have := HD.out; have := HO3.out; omega
        have hPX : P.extract C E = X := by
          rw [hP, HE.out, HCC.out, hX, ← hnE]
          exact piece_extract d U at' D (by rw [← HCC.out]; exact hU') (by omega)
        have hsl : ∀ wx, (Instr.slice 9 (.string P) (some (.int .i64 (C : Int))) (some (.int .i64 (E : Int))) none).run Tryd.prog wx = .ok (.string X) wx := fun wx => by
          rw [run_slice_string_if _ _ _ _ _ _ _ Tryd.underlying9, if_pos (by omega), if_pos (by omega), show ((E : Nat) : Int).toNat = E by omega, show ((C : Nat) : Int).toNat = C by omega, hPX]
        obtain ⟨G1, hG1⟩ : ∃ G1, G1 = d.extract f1 at' := ⟨_, rfl⟩
        obtain ⟨G2, hG2⟩ : ∃ G2, G2 = d.extract f1 nx := ⟨_, rfl⟩
        have hfa : f1 ≤ at' := by rw [HAT.out]; exact (rgAt_le h6 i (by have := HNN.out; omega) hft).1
        have hcat : G1 ++ X = G2 := by rw [hG1, hX, hG2]; exact extract_join d f1 at' nx hfa (by omega)
        have hsz : ¬ 9223372036854775807 < G1.size + X.size := by
          have s1 : G1.size ≤ d.size := by rw [hG1]; show (d.extract f1 at').data.size ≤ d.data.size; rw [ByteArray.data_extract, Array.size_extract]; omega
          have s2 : X.size ≤ d.size := by rw [hX]; show (d.extract at' nx).data.size ≤ d.data.size; rw [ByteArray.data_extract, Array.size_extract]; omega
          omega
        have HG2 := hid hG2
        have i7 : (B : Int) < (L : Int) := by omega
        rw [← hG1]
        clear hP hX hnE hPX hG1 hG2 hPs hdS hfa
        go_wp2_with fail
        go_quiet (fail)
        go_wp2
        go_roundw
        case rel => exact ⟨i + 1, hlt, by go_num, by rw [HG2.out, HNX.out], below_drewN BY.out _⟩
        case measure => simp [intOf]; omega
      · have hlt' : ¬ (i : Int) < (N : Int) := by omega
        obtain rfl : i = N := by omega
        have hend : Hid (rgAt U f1 t i = t) := by
          show _ = _
          by_cases h : f1 < t
          · rw [HNN.out]; exact rgAt_end h6 h
          · have : i = 0 := by rw [HNN.out]; exact if_neg h
            rw [this, rgAt_zero]; omega
        rw [hend.out]
        have BF : Hid (Below w.heap.size w wr) := B6.out.trans (HB.out.mono B6.out.size)
        have hsl : ∀ wx, (Instr.slice 9 (.string d) (some (.int .i64 (f1 : Int))) (some (.int .i64 (t : Int))) none).run Tryd.prog wx = .ok (.string (d.extract f1 t)) wx := fun wx => by
          have hdS := HS.out
          rw [run_slice_string_if _ _ _ _ _ _ _ Tryd.underlying9, if_pos (by omega), if_pos (by omega), show ((t : Nat) : Int).toNat = t by omega, show ((f1 : Nat) : Int).toNat = f1 by omega]
        obtain ⟨Y, hY⟩ : ∃ Y, Y = d.extract f1 t := ⟨_, rfl⟩
        rw [← hY] at hsl ⊢
        clear hY
        obtain ⟨q1, q2, q3⟩ := HF.out
        by_cases c1 : S < f
        · have c1' : (S : Int) < (f : Int) := by omega
          have e1' : (f1 : Int) = (S : Int) := by omega
          have e2' : (t : Int) = (S : Int) := by omega
          rw [e1', e2'] at hsl
          clear q1 q2 q3 e1' e2'
          by_cases c2 : S < S + c
          · have c2' : (S : Int) < (S : Int) + (c : Int) := by omega
            have w2' : IntKind.i64.wrap ((S : Int) + (c : Int)) = (S : Int) + (c : Int) := wrapF _ (by omega) (by omega)
            go_wp2
            go_ret
            exact ⟨by simp, BF.out⟩
          · have c2' : ¬ (S : Int) < (S : Int) + (c : Int) := by omega
            have e3 : (S : Int) + (c : Int) = (S : Int) := by omega
            have w2' : IntKind.i64.wrap (S : Int) = (S : Int) := wrapF _ (by omega) (by omega)
            go_wp2
            go_ret
            exact ⟨by simp, BF.out⟩
        · have c1' : ¬ (S : Int) < (f : Int) := by omega
          have e1' : (f1 : Int) = (f : Int) := by omega
          rw [e1'] at hsl
          by_cases c2 : S < f + c
          · have c2' : (S : Int) < (f : Int) + (c : Int) := by omega
            have e2' : (t : Int) = (S : Int) := by omega
            have w2' : IntKind.i64.wrap ((f : Int) + (c : Int)) = (f : Int) + (c : Int) := wrapF _ (by omega) (by omega)
            rw [e2'] at hsl
            clear q1 q2 q3 e1' e2'
            go_wp2
            go_ret
            exact ⟨by simp, BF.out⟩
          · have e2' : (f : Int) + (c : Int) = (t : Int) := by omega
            have c2' : ¬ (S : Int) < (t : Int) := by omega
            have w2' : IntKind.i64.wrap (t : Int) = (t : Int) := wrapF _ (by omega) (by omega)
            clear q1 q2 q3 e1'
            go_wp2
            go_ret
            exact ⟨by simp, BF.out⟩
set_option maxRecDepth 20000 in
set_option maxHeartbeats 1000000 in
theorem fnRanges_walk {w : World} (hT : Tab w) (a : Option Addr) (len cap : Nat) (z : List Int) (h : IsRow .u8 w a len cap z) (a' : Option Addr) (len' cap' : Nat) (z' : List Int) (h' : IsRow .u8 w a' len' cap' z') :
    Calls Tryd.prog 3 #[.slice a len cap, .slice a' len' cap'] w fun e w' => e = .returned (.bool true) ∧ Below w.heap.size w w' := by
  have m0 := h.le
  have m1 := h'.le
  unfold maxLen at m0 m1
  by_cases hl : len ≤ 1048576
  · by_cases hl' : len' ≤ 1048576
    · exact fnRanges_small a len cap a' len' cap' w hT (codeOk_of w a len cap z h hl) m0.1 (codeOk_of w a' len' cap' z' h' hl') hl hl'
    · have d0 : decide ((1048576 : Int) < (len : Int)) = false := by simp; omega
      have d1 : decide ((1048576 : Int) < (len' : Int)) = true := by simp; omega
      go_enter Tryd.func3, Tryd.ntmps3
      go_wp2
      go_ret
      exact ⟨rfl, Below.refl _ _⟩
  · have d0 : decide ((1048576 : Int) < (len : Int)) = true := by simp; omega
    go_enter Tryd.func3, Tryd.ntmps3
    go_wp2
    go_ret
    exact ⟨rfl, Below.refl _ _⟩
end Go.Proofs.YthdmaamocejodaaDoor
