import Derived.Test.YtjeahllaajpddaaSPlace
import Derived.Deep.CutRange
namespace Go.Proofs.Ytjeahllaajpddaa
open Go.RowKit
/-! The specification's PlaceKey, walked. -/
def lenOf : Value → Nat
  | .slice _ n _ => n
  | _ => 0
set_option maxRecDepth 20000 in
set_option maxHeartbeats 2000000 in
theorem splace_no (a : Option Addr) (n cap : Nat) (x y : Nat → Int) (hl : n ≤ 1048576) (key : ByteArray) (hk : key.size ≤ 1048576) (m : Int) (hno : ¬ (NdOk n x y ∧ 1 ≤ m ∧ m ≤ 64 ∧ key.size ≤ 1000)) (w : World) (h : Prs w a n cap x y) :
    Calls Try.prog 16 #[.slice a n cap, .string key, .int .i64 m] w fun e w' => e = .returned (plv 1 none 0 0) ∧ Below w.heap.size w w' := by
  obtain ⟨W, hW⟩ : ∃ W, W = w.alloc (.cells #[.int .i64 0, .slice none 0 0] 34) := ⟨_, rfl⟩
  have R1 : Hid (RowAt W w.heap.size 34 #[.int .i64 0, .slice none 0 0]) := by rw [hW]; exact RowAt.new _ _ _
  have B1 : Hid (Below w.heap.size w W) := by rw [hW]; exact balN (Below.refl _ _) _
  have NF := hid (sNodes a n cap x y hl W (h.below B1.out))
  have HW := hid hW
  clear hW h
  by_cases hok : NdOk n x y
  · have F : Hid (ndF n x y = 0) := if_pos hok
    rw [F.out] at NF
    by_cases g0 : m < 1
    · have q0 : decide (m < 1) = true := by simp; omega
      go_enter Try.func16, Try.ntmps16
      go_wp2_with fail
      rw [show w.alloc (.cells #[.int .i64 0, .slice none 0 0] 34) = W from HW.out.symm]
      refine NF.out.mono ?_
      rintro e w1 ⟨rfl, rfl⟩
      go_wp2_with (refine wpList_store_row rfl 34 (.tmp 6) (.tmp 30) rfl w.heap.size #[.int .i64 1, .slice none 0 0] rfl rfl _ _ R1.out (by kernel_rfl) rfl (onePl _ _ _ _) ?_)
      refine bodyPost_ret (v := plv 1 none 0 0) ?_ rfl ⟨rfl, below_setRow B1.out _ _ (Nat.le_refl _)⟩
      exact results_cell_row Try.results16 _ _ w.heap.size _ _ _ _ rfl (R1.out.setRow _) Try.underlying34 rfl (by kernel_rfl)
    have q0 : decide (m < 1) = false := by simp; omega
    by_cases g1 : 64 < m
    · have q1 : decide (64 < m) = true := by simp; omega
      go_enter Try.func16, Try.ntmps16
      go_wp2_with fail
      rw [show w.alloc (.cells #[.int .i64 0, .slice none 0 0] 34) = W from HW.out.symm]
      refine NF.out.mono ?_
      rintro e w1 ⟨rfl, rfl⟩
      go_wp2_with (refine wpList_store_row rfl 34 (.tmp 6) (.tmp 30) rfl w.heap.size #[.int .i64 1, .slice none 0 0] rfl rfl _ _ R1.out (by kernel_rfl) rfl (onePl _ _ _ _) ?_)
      refine bodyPost_ret (v := plv 1 none 0 0) ?_ rfl ⟨rfl, below_setRow B1.out _ _ (Nat.le_refl _)⟩
      exact results_cell_row Try.results16 _ _ w.heap.size _ _ _ _ rfl (R1.out.setRow _) Try.underlying34 rfl (by kernel_rfl)
    have q1 : decide (64 < m) = false := by simp; omega
    have g2 : 1000 < key.size := by
      rcases Nat.lt_or_ge 1000 key.size with q | q
      · exact q
      · exact absurd ⟨hok, by omega, by omega, q⟩ hno
    have q2 : decide ((1000 : Int) < ((key.size : Nat) : Int)) = true := by simp; omega
    go_enter Try.func16, Try.ntmps16
    go_wp2_with fail
    rw [show w.alloc (.cells #[.int .i64 0, .slice none 0 0] 34) = W from HW.out.symm]
    refine NF.out.mono ?_
    rintro e w1 ⟨rfl, rfl⟩
    go_wp2_with (refine wpList_store_row rfl 34 (.tmp 6) (.tmp 30) rfl w.heap.size #[.int .i64 1, .slice none 0 0] rfl rfl _ _ R1.out (by kernel_rfl) rfl (onePl _ _ _ _) ?_)
    refine bodyPost_ret (v := plv 1 none 0 0) ?_ rfl ⟨rfl, below_setRow B1.out _ _ (Nat.le_refl _)⟩
    exact results_cell_row Try.results16 _ _ w.heap.size _ _ _ _ rfl (R1.out.setRow _) Try.underlying34 rfl (by kernel_rfl)
  · have F : Hid (ndF n x y = 1) := if_neg hok
    rw [F.out] at NF
    go_enter Try.func16, Try.ntmps16
    go_wp2_with fail
    rw [show w.alloc (.cells #[.int .i64 0, .slice none 0 0] 34) = W from HW.out.symm]
    refine NF.out.mono ?_
    rintro e w1 ⟨rfl, rfl⟩
    go_wp2_with (refine wpList_store_row rfl 34 (.tmp 6) (.tmp 30) rfl w.heap.size #[.int .i64 1, .slice none 0 0] rfl rfl _ _ R1.out (by kernel_rfl) rfl (onePl _ _ _ _) ?_)
    refine bodyPost_ret (v := plv 1 none 0 0) ?_ rfl ⟨rfl, below_setRow B1.out _ _ (Nat.le_refl _)⟩
    exact results_cell_row Try.results16 _ _ w.heap.size _ _ _ _ rfl (R1.out.setRow _) Try.underlying34 rfl (by kernel_rfl)
set_option maxRecDepth 20000 in
set_option maxHeartbeats 8000000 in
theorem splace_ok (a : Option Addr) (n cap : Nat) (x y : Nat → Int) (key : ByteArray) (m : Nat) (hok : NdOk n x y) (hm1 : 1 ≤ m) (hm2 : m ≤ 64) (hk : key.size ≤ 1000) (sc : Nat → Int) (hsc : ∀ i, i < n → sc i = best key i (y i).toNat) (w : World) (h : Prs w a n cap x y) :
    Calls Try.prog 16 #[.slice a n cap, .string key, .int .i64 (m : Int)] w fun e w' =>
      ((gr x sc n m = none ∧ e = .returned (plv 7 none 0 0)) ∨ ∃ l a' c, gr x sc n m = some l ∧ e = .returned (plv 0 a' m c) ∧ OwnNums w' (w.heap.size + 1) 2 .i64 (.slice a' m c) (l.map fun i => ((i : Nat) : Int))) ∧ Below w.heap.size w w' := by
  have hn1 := hok.1
  have hn2 := hok.2.1
  have HOK := hid hok.2.2
  have hmk := fun w => mkBl w n (by omega)
  obtain ⟨W, hW⟩ : ∃ W, W = w.alloc (.cells #[.int .i64 0, .slice none 0 0] 34) := ⟨_, rfl⟩
  have R1 : Hid (RowAt W w.heap.size 34 #[.int .i64 0, .slice none 0 0]) := by rw [hW]; exact RowAt.new _ _ _
  have B1 : Hid (Below w.heap.size w W) := by rw [hW]; exact balN (Below.refl _ _) _
  have Z1 : Hid (W.heap.size = w.heap.size + 1) := by rw [hW]; show _ = _; rw [size_al]
  have NF := hid (sNodes a n cap x y (by omega) W (h.below B1.out))
  have F : Hid (ndF n x y = 0) := if_pos hok
  rw [F.out] at NF
  have HW := hid hW
  have HH := hid h
  have HSC := hid hsc
  clear hW h hok hsc
  have q0 : decide ((m : Int) < 1) = false := by simp; omega
  have q1 : decide ((64 : Int) < (m : Int)) = false := by simp; omega
  have q2 : decide ((1000 : Int) < ((key.size : Nat) : Int)) = false := by simp; omega
  obtain ⟨V, hV⟩ : ∃ V, V = (W.alloc (.cells #[] 2)).alloc (.cells (madeCells #[.bool false] n) 4) := ⟨_, rfl⟩
  have S2 : Hid (OwnNums V (w.heap.size + 1) 2 .i64 (.slice (some ⟨w.heap.size + 1, 0, none⟩) 0 0) ((List.range 0).map sc)) := by
    have := OwnNums.empty W 2 .i64
    rw [Z1.out] at this
    rw [hV]; exact this.alloc _
  have U2 : Hid (FRow V (w.heap.size + 1 + 1) 4 n (fun _ => .bool false)) := by
    rw [hV]
    refine FRow.of (RowAt.next (n := w.heap.size + 1 + 1) _ _ _ (by rw [size_al, Z1.out])) (by simp [madeCells]) fun p hp => ?_
    simp [madeCells]; exact ⟨p, by simp [hp], by rw [Nat.mod_one]; rfl⟩
  have R2 : Hid (RowAt V w.heap.size 34 #[.int .i64 0, .slice none 0 0]) := by rw [hV]; exact (R1.out.alloc _).alloc _
  have B2 : Hid (Below w.heap.size w V) := by rw [hV]; exact balN (balN B1.out _) _
  have Z2 : Hid (V.heap.size = w.heap.size + 3) := by rw [hV]; show _ = _; simp only [size_al]; rw [Z1.out]
  have HV := hid hV
  clear hV
  go_enter Try.func16, Try.ntmps16
  go_wp2_with fail
  rw [show w.alloc (.cells #[.int .i64 0, .slice none 0 0] 34) = W from HW.out.symm]
  refine NF.out.mono ?_
  rintro e w1 ⟨rfl, rfl⟩
  go_upto_region 5 with fail
  rw [show (w1.alloc (.cells #[] 2)).alloc (.cells (madeCells #[.bool false] n) 4) = V from HV.out.symm, Z1.out]
  clear NF HV HW R1 B1 Z1 hmk q0 q1 q2
  go_wp2_with fail
  go_loopw [9, 7] (fun q r wr => ∃ i : Nat, i ≤ n ∧ q = .int .i64 (i : Int) ∧ OwnNums wr (w.heap.size + 1) 2 .i64 r ((List.range i).map sc) ∧ (∃ b, r.ownBlock = some b) ∧ FRow wr (w.heap.size + 1 + 1) 4 n (fun _ => .bool false) ∧ RowAt wr w.heap.size 34 #[.int .i64 0, .slice none 0 0] ∧ Below w.heap.size w wr ∧ w.heap.size + 3 ≤ wr.heap.size) (fun q _ _ => n - (intOf q).toNat)
  case atStart => exact ⟨0, Nat.zero_le _, rfl, S2.out, ⟨_, rfl⟩, U2.out, R2.out, B2.out, by rw [Z2.out]; exact Nat.le_refl _⟩
  case round =>
    obtain ⟨i, hi, rfl, hS, hsm, hU, hR, hB, hz⟩ := hrel
    have HS := hid hS
    have HU := hid hU
    have HR := hid hR
    have HB := hid hB
    clear hS hU hR hB S2 U2 R2 B2 Z2
    by_cases hlt : i < n
    · have hlt' : (i : Int) < (n : Int) := by omega
      have SC := hid (sScore a n cap x y hn2 key (by omega) i hlt (by have := HOK.out i hlt; omega) wr (HH.out.below HB.out))
      rw [← HSC.out i hlt] at SC
      obtain ⟨sv, hsv⟩ : ∃ sv, sv = sc i := ⟨_, rfl⟩
      rw [← hsv] at SC
      have HSV := hid hsv
      clear hsv
      go_wp2_with fail
      refine SC.out.mono ?_
      rintro e w2 ⟨rfl, hb2⟩
      have S2 : Hid (OwnNums w2 (w.heap.size + 1) 2 .i64 u7 ((List.range i).map sc)) := HS.out.grown (r := none) ⟨hb2.os, hb2.tape, hb2.output, hb2.size, fun k hk _ => hb2.block k hk⟩ (by obtain ⟨b, hb⟩ := hsm; rw [hb]; simp)
      have U2 := hid (HU.out.below hb2 HU.out.lt)
      have R2 := hid (HR.out.below hb2 HR.out.lt)
      have B2 : Hid (Below w.heap.size w w2) := HB.out.trans (hb2.mono HB.out.size)
      have z2 := hb2.size
      have L2 : Hid (((List.range i).map sc).length ≤ 1048576) := by show _ ≤ _; simp; omega
      have Y2 : Hid (w.heap.size + 1 ≤ w2.heap.size) := by show _ ≤ _; omega
      clear hb2 SC HS HU HR HB
      go_wp2_with (refine append_fr (w.heap.size + 1) w2 (by rfl) (.tmp 41) (.tmp 46) 32 (by rfl) 2 .i64 8 Try.underlying32 Try.infoI64 (by decide) _ _ sv (by rfl) S2.out Y2.out (by rfl) L2.out ?_; intro v3 w3 hO3 hg3 hf3)
      have U3 := hid (U2.out.far hg3 (S2.out.apartT U2.out (by decide)))
      have R3 : Hid (RowAt w3 w.heap.size 34 #[.int .i64 0, .slice none 0 0]) := (hg3.block _ R2.out.lt (fun e => by have := (World.ownsRow.lt S2.out _ e.symm).1; omega)).trans R2.out
      have B3 : Hid (Below w.heap.size w w3) := B2.out.grown hg3 B2.out.size (fun k e => by have := (World.ownsRow.lt S2.out k e).1; omega)
      have S3 : Hid (OwnNums w3 (w.heap.size + 1) 2 .i64 v3 ((List.range (i + 1)).map sc)) := by rw [List.range_succ, List.map_append, List.map_singleton, ← HSV.out]; exact hO3
      have z3 := hg3.size
      have sm3 : Hid (∃ b, v3.ownBlock = some b) := by
        rcases hO3.2 with ⟨_, q⟩ | ⟨g, c9, cur, rfl, _⟩
        · simp at q
        · exact ⟨g, rfl⟩
      clear hO3 hg3 hf3 S2 U2 R2 B2
      go_wp2
      go_roundw
      case rel => exact ⟨i + 1, hlt, by go_num, S3.out, sm3.out, U3.out, R3.out, B3.out, by omega⟩
      case measure => simp [intOf]; omega
    · have hlt' : ¬ (i : Int) < (n : Int) := by omega
      obtain rfl : n = i := by omega
      obtain ⟨bS, cS, hSl, _, _, hcS, _⟩ := own_at HS.out hsm
      rw [List.length_map, List.length_range] at hSl hcS
      subst hSl
      obtain ⟨V3, hV3⟩ : ∃ V3, V3 = (wr.alloc (.cells #[] 2)).alloc (.cells #[] 2) := ⟨_, rfl⟩
      have P0 : Hid (PlSt w V3 (w.heap.size + 1) (w.heap.size + 1 + 1) n sc x [] (.slice (some ⟨bS, 0, none⟩) n cS) (.slice (some ⟨wr.heap.size, 0, none⟩) 0 0) (.slice (some ⟨wr.heap.size + 1, 0, none⟩) 0 0)) := by
        have ls := World.ownsRow.lt HS.out
        have e1 : OwnNums (wr.alloc (.cells #[] 2)) (w.heap.size + 1) 2 .i64 (.slice (some ⟨wr.heap.size, 0, none⟩) 0 0) [] := World.ownsRow_made wr #[] 0 (by omega) (by decide) rfl
        have e2 : OwnNums ((wr.alloc (.cells #[] 2)).alloc (.cells #[] 2)) (w.heap.size + 1) 2 .i64 (.slice (some ⟨wr.heap.size + 1, 0, none⟩) 0 0) [] := by
          have := World.ownsRow_made (wr.alloc (.cells #[] 2)) (e := 2) (size := 1) #[] 0 (base := w.heap.size + 1) (by rw [size_al]; omega) (by decide) rfl
          rw [size_al] at this; exact this
        rw [hV3]
        refine ⟨(HS.out.alloc _).alloc _, e1.alloc _, e2, ((HU.out.alloc _).alloc _).congr (fun p _ => by simp), (HR.out.alloc _).alloc _, balN (balN HB.out _) _, by omega, by omega, by simp only [size_al]; omega, fun q hq e => ?_, fun q hq e => ?_, fun q hq e => ?_, ⟨hsm, ⟨_, rfl⟩, ⟨_, rfl⟩⟩⟩
        · have := (ls q hq).2; simp [Value.ownBlock] at e; omega
        · have := (ls q hq).2; simp [Value.ownBlock] at e; omega
        · simp [Value.ownBlock] at e hq; omega
      have HV3 := hid hV3
      clear hV3 HS HU HR HB hsm
      go_wp2_with fail
      rw [show (wr.alloc (.cells #[] 2)).alloc (.cells #[] 2) = V3 from HV3.out.symm]
      clear HV3
      go_loopw [10, 11] (fun q r wr => ∃ l : List Nat, l.length ≤ m ∧ gr x sc n l.length = some l ∧ PlSt w wr (w.heap.size + 1) (w.heap.size + 1 + 1) n sc x l (.slice (some ⟨bS, 0, none⟩) n cS) q r) (fun q _ _ => m - lenOf q)
      case atStart => exact ⟨[], Nat.zero_le _, rfl, P0.out⟩
      case round =>
        obtain ⟨l, hlm, hgr, hP⟩ := hrel
        have HGR := hid hgr
        have HP := hid hP
        clear hgr hP P0
        obtain ⟨bO, cO, hO, _, _, hcO, _⟩ := own_at HP.out.O HP.out.some'.2.1
        rw [List.length_map] at hO hcO
        subst hO
        obtain ⟨bD, cD, hD, _, _, hcD, _⟩ := own_at HP.out.D HP.out.some'.2.2
        rw [List.length_map] at hD hcD
        subst hD
        by_cases hlt : l.length < m
        · have hlt' : (l.length : Int) < (m : Int) := by omega
          go_wp2_with fail
          go_loopw [13, 12] (fun q r wx => ∃ k : Nat, k ≤ n ∧ q = .int .i64 (k : Int) ∧ r = .int .i64 (pk x sc l k) ∧ PlSt w wx (w.heap.size + 1) (w.heap.size + 1 + 1) n sc x l (.slice (some ⟨bS, 0, none⟩) n cS) (.slice (some ⟨bO, 0, none⟩) l.length cO) (.slice (some ⟨bD, 0, none⟩) l.length cD)) (fun q _ _ => n - (intOf q).toNat)
          case atStart => exact ⟨0, Nat.zero_le _, rfl, rfl, HP.out⟩
          case round =>
            obtain ⟨k, hkn, rfl, rfl, hP⟩ := hrel
            clear HP
            have HP := hid hP
            clear hP
            obtain ⟨pb1, pb2⟩ := pk_bd x sc l k
            obtain ⟨p, hp⟩ : ∃ p, p = pk x sc l k := ⟨_, rfl⟩
            rw [← hp] at pb1 pb2 ⊢
            have HPK := hid hp
            clear hp
            by_cases hkl : k < n
            · have hkl' : (k : Int) < (n : Int) := by omega
              have hk0 : (0 : Int) ≤ (k : Int) := by omega
              have cU := HP.out.U.cell hkl
              obtain ⟨b9, c9, h9, hb9, hb9', _, hc9⟩ := own_at HP.out.S HP.out.some'.1
              simp at h9
              obtain ⟨h91, h92⟩ := h9
              subst h91
              clear h92
              have hSc : ∀ j, j < n → wr.cell? ⟨bS, j, none⟩ = some (.int .i64 (sc j)) := fun j hj => by
                rw [hc9 j (by simpa using hj), List.getD_eq_getElem?_getD, List.getElem?_map, List.getElem?_range hj]; rfl
              have HSc := hid hSc
              clear hSc hc9
              have cS0 := HSc.out k hkl
              rcases (HH.out.below HP.out.B).2 with h00 | ⟨bN, oN, haN, hbN, hcN⟩
              · omega
              subst haN
              obtain ⟨cN, _⟩ := hcN k hkl
              obtain ⟨X, hX⟩ : ∃ X, X = x k := ⟨_, rfl⟩
              obtain ⟨s9, hs9⟩ : ∃ s9, s9 = sc k := ⟨_, rfl⟩
              rw [← hX] at cN
              rw [← hs9] at cS0
              have HX := hid hX
              have HS9 := hid hs9
              clear hX hs9 hcN
              by_cases c1 : k ∈ l
              · have SU : Hid (pk x sc l (k + 1) = p) := by
                  show _ = _
                  unfold pk; rw [if_neg (fun q => q.1.1 c1), ← HPK.out]
                rw [show decide (k ∈ l) = true by simpa using c1] at cU
                go_wp2
                go_roundw
                case rel => exact ⟨k + 1, by omega, by go_num, by rw [SU.out], HP.out⟩
                case measure => simp [intOf]; omega
              rw [show decide (k ∈ l) = false by simpa using c1] at cU
              by_cases c2 : s9 < 0
              · have SU : Hid (pk x sc l (k + 1) = p) := by
                  show _ = _
                  unfold pk; rw [if_neg (fun q => by have := q.1.2.1; rw [← HS9.out] at this; omega), ← HPK.out]
                have j2 : decide (s9 < 0) = true := by simp; omega
                go_wp2
                go_roundw
                case rel => exact ⟨k + 1, by omega, by go_num, by rw [SU.out], HP.out⟩
                case measure => simp [intOf]; omega
              have j2 : decide (s9 < 0) = false := by simp; omega
              have IN := hid (sIn bD cD (l.map x) X (by simp; omega) (w.heap.size + 1) wr (by rw [List.length_map]; exact HP.out.D))
              rw [List.length_map] at IN
              by_cases c3 : X ∈ l.map x
              · have SU : Hid (pk x sc l (k + 1) = p) := by
                  show _ = _
                  unfold pk; rw [if_neg (fun q => q.1.2.2 (by rw [← HX.out]; exact c3)), ← HPK.out]
                rw [show decide (X ∈ l.map x) = true by simpa using c3] at IN
                go_wp2_with fail
                refine IN.out.mono ?_
                rintro e w9 ⟨rfl, hw9⟩
                rw [hw9]
                clear hw9
                go_wp2
                go_roundw
                case rel => exact ⟨k + 1, by omega, by go_num, by rw [SU.out], HP.out⟩
                case measure => simp [intOf]; omega
              rw [show decide (X ∈ l.map x) = false by simpa using c3] at IN
              have OK : Hid (okP x sc l k) := ⟨c1, by rw [← HS9.out]; omega, by rw [← HX.out]; exact c3⟩
              go_wp2_with fail
              refine IN.out.mono ?_
              rintro e w9 ⟨rfl, hw9⟩
              rw [hw9]
              clear hw9
              clear IN
              by_cases c4 : p < 0
              · have SU : Hid (pk x sc l (k + 1) = (k : Int)) := by
                  show _ = _
                  unfold pk; rw [if_pos ⟨OK.out, Or.inl (by rw [← HPK.out]; exact c4)⟩]
                have j4 : decide (p < 0) = true := by simp; omega
                go_wp2_with fail
                go_quiet (fail)
                go_wp2
                go_roundw
                case rel => exact ⟨k + 1, by omega, by go_num, by rw [SU.out], HP.out.drewN _⟩
                case measure => simp [intOf]; omega
              have j4 : decide (p < 0) = false := by simp; omega
              obtain ⟨pn, rfl⟩ := Int.eq_ofNat_of_zero_le (show 0 ≤ p by omega)
              have hpn : pn < n := by omega
              have cS1 := HSc.out pn hpn
              obtain ⟨t9, ht9⟩ : ∃ t9, t9 = sc pn := ⟨_, rfl⟩
              rw [← ht9] at cS1
              have HT9 := hid ht9
              have i1 : (0 : Int) ≤ (pn : Int) := by omega
              have i2 : (pn : Int) < (n : Int) := by omega
              clear ht9
              by_cases c5 : t9 < s9
              · have SU : Hid (pk x sc l (k + 1) = (k : Int)) := by
                  show _ = _
                  unfold pk; rw [if_pos ⟨OK.out, Or.inr (by rw [← HPK.out, Int.toNat_natCast, ← HT9.out, ← HS9.out]; exact c5)⟩]
                have j5 : decide (t9 < s9) = true := by simp; omega
                go_wp2_with fail
                go_quiet (fail)
                go_wp2
                go_roundw
                case rel => exact ⟨k + 1, by omega, by go_num, by rw [SU.out], HP.out.drewN _⟩
                case measure => simp [intOf]; omega
              · have SU : Hid (pk x sc l (k + 1) = (pn : Int)) := by
                  show _ = _
                  unfold pk; rw [if_neg (fun q => by rw [← HPK.out, Int.toNat_natCast, ← HT9.out, ← HS9.out] at q; rcases q.2 with r | r <;> omega), ← HPK.out]
                have j5 : decide (t9 < s9) = false := by simp; omega
                go_wp2_with fail
                go_quiet (fail)
                go_wp2
                go_roundw
                case rel => exact ⟨k + 1, by omega, by go_num, by rw [SU.out], HP.out.drewN _⟩
                case measure => simp [intOf]; omega
            · have hkl' : ¬ (k : Int) < (n : Int) := by omega
              obtain rfl : n = k := by omega
              by_cases c4 : p < 0
              · have j4 : p < 0 := c4
                have G7 : Hid (gr x sc n m = none) := by
                  have q : gr x sc n (l.length + 1) = none := by
                    unfold gr; rw [HGR.out]; dsimp only; rw [← HPK.out, if_pos c4]
                  obtain ⟨d, hd⟩ : ∃ d, m = l.length + 1 + d := ⟨m - (l.length + 1), by omega⟩
                  rw [hd]; exact gr_none x sc n (l.length + 1) d q
                have R9 := hid HP.out.R
                have B9 : Hid (Below w.heap.size w (wr.setRow w.heap.size #[.int .i64 7, .slice none 0 0])) := below_setRow HP.out.B _ _ (Nat.le_refl _)
                go_wp2_with (refine wpList_store_row rfl 34 (.tmp 6) (.tmp 96) rfl w.heap.size #[.int .i64 7, .slice none 0 0] rfl rfl _ _ R9.out (by kernel_rfl) rfl (onePl _ _ _ _) ?_)
                refine bodyPost_ret (v := plv 7 none 0 0) ?_ rfl ⟨Or.inl ⟨G7.out, rfl⟩, B9.out⟩
                exact results_cell_row Try.results16 _ _ w.heap.size _ _ _ _ rfl (R9.out.setRow _) Try.underlying34 rfl (by kernel_rfl)
              have j4 : ¬ p < 0 := c4
              obtain ⟨pn, rfl⟩ := Int.eq_ofNat_of_zero_le (show 0 ≤ p by omega)
              have hpn : pn < n := by omega
              have GN : Hid (gr x sc n (l.length + 1) = some (l ++ [pn])) := by
                show _ = _
                unfold gr; rw [HGR.out]; dsimp only; rw [← HPK.out, if_neg c4, Int.toNat_natCast]
              have i1 : (0 : Int) ≤ (pn : Int) := by omega
              have i2 : (pn : Int) < (n : Int) := by omega
              have cU := HP.out.U.cell hpn
              have fU := HP.out.U.free pn
              obtain ⟨W1, hW1⟩ : ∃ W1, W1 = wr.setCell ⟨w.heap.size + 1 + 1, pn, none⟩ (.bool true) := ⟨_, rfl⟩
              have g1 : wr.grownBy W1 (some (w.heap.size + 1 + 1)) := by rw [hW1]; exact ⟨rfl, rfl, rfl, by rw [World.size_setCell]; exact Nat.le_refl _, fun k _ hk => Below.heap_setCell _ _ _ k (fun e => hk (by rw [e]))⟩
              have O1 : Hid (OwnNums W1 (w.heap.size + 1) 2 .i64 (.slice (some ⟨bO, 0, none⟩) l.length cO) (l.map fun i => ((i : Nat) : Int))) := HP.out.O.grown g1 (.inr (fun q => HP.out.O.apartT HP.out.U (by decide) q.symm))
              have D1 : Hid (OwnNums W1 (w.heap.size + 1) 2 .i64 (.slice (some ⟨bD, 0, none⟩) l.length cD) (l.map x)) := HP.out.D.grown g1 (.inr (fun q => HP.out.D.apartT HP.out.U (by decide) q.symm))
              have B1 : Hid (Below w.heap.size w W1) := HP.out.B.grown g1 HP.out.B.size (fun k e => by cases e; omega)
              have Y1 : Hid (w.heap.size + 1 ≤ W1.heap.size) := by have := HP.out.lw; have := g1.size; show _ ≤ _; omega
              have L1 : Hid ((l.map fun i => ((i : Nat) : Int)).length ≤ 1048576) := by show _ ≤ _; simp; omega
              have L2 : Hid ((l.map x).length ≤ 1048576) := by show _ ≤ _; simp; omega
              have OD := hid HP.out.od
              have HW1 := hid hW1
              clear hW1 g1
              go_upto_region 22 with fail
              rw [← HW1.out]
              clear cU fU
              go_upto_region 23 with (refine append_fr (w.heap.size + 1) W1 (by rfl) (.tmp 100) (.tmp 102) 32 (by rfl) 2 .i64 8 Try.underlying32 Try.infoI64 (by decide) _ _ (pn : Int) (by rfl) O1.out Y1.out (by rfl) L1.out ?_; intro vO2 w2 hO2 hg2 hf2)
              have D2 : Hid (OwnNums w2 (w.heap.size + 1) 2 .i64 (.slice (some ⟨bD, 0, none⟩) l.length cD) (l.map x)) := D1.out.grown hg2 (.inr (fun q => OD.out bO rfl q))
              have B2 : Hid (Below w.heap.size w w2) := B1.out.grown hg2 B1.out.size (fun k e => by have := (World.ownsRow.lt O1.out k e).1; omega)
              have Y2 : Hid (w.heap.size + 1 ≤ w2.heap.size) := Nat.le_trans Y1.out hg2.size
              rcases (HH.out.below B2.out).2 with h00 | ⟨bN, oN, haN, hbN, hcN⟩
              · omega
              subst haN
              obtain ⟨cN, _⟩ := hcN pn hpn
              obtain ⟨X, hX⟩ : ∃ X, X = x pn := ⟨_, rfl⟩
              rw [← hX] at cN
              have HX := hid hX
              have HO2 := hid hO2
              have HG2 := hid hg2
              have HF2 := hid hf2
              clear hX hcN hO2 hg2 hf2
              go_wp2_with (refine append_fr (w.heap.size + 1) w2 (by rfl) (.tmp 104) (.tmp 110) 32 (by rfl) 2 .i64 8 Try.underlying32 Try.infoI64 (by decide) _ _ X (by rfl) D2.out Y2.out (by rfl) L2.out ?_; intro vD2 w3 hO3 hg3 hf3)
              have PT : Hid (PlSt w w3 (w.heap.size + 1) (w.heap.size + 1 + 1) n sc x (l ++ [pn]) (.slice (some ⟨bS, 0, none⟩) n cS) vO2 vD2) := HP.out.take HW1.out HO2.out HG2.out HF2.out (by rw [← HX.out]; exact hO3) hg3 hf3
              have hlO : Hid (lenOf vO2 = l.length + 1) := by
                obtain ⟨b8, c8, h8, _⟩ := own_at PT.out.O PT.out.some'.2.1
                rw [h8]; show _ = _; simp [lenOf]
              clear hO3 hg3 hf3
              go_wp2
              go_roundw
              case rel => exact ⟨l ++ [pn], by rw [List.length_append]; simp; omega, by rw [List.length_append]; exact GN.out, PT.out⟩
              case measure => rw [hlO.out]; show _ < m - l.length; omega
        · have hlt' : ¬ (l.length : Int) < (m : Int) := by omega
          have hlen : l.length = m := by omega
          have O9 : Hid (OwnNums (wr.setRow w.heap.size #[.int .i64 0, .slice (some ⟨bO, 0, none⟩) m cO]) (w.heap.size + 1) 2 .i64 (.slice (some ⟨bO, 0, none⟩) m cO) (l.map fun i => ((i : Nat) : Int))) := by
            have q := HP.out.O
            rw [hlen] at q
            refine q.grown (r := some w.heap.size) ⟨rfl, rfl, rfl, by rw [setRow_size]; exact Nat.le_refl _, fun k _ hk => setRow_other _ _ _ _ (fun e => hk (by rw [e]))⟩ (.inr fun e => ?_)
            have := (World.ownsRow.lt q bO rfl).1
            simp [Value.ownBlock] at e; omega
          have G9 : Hid (gr x sc n m = some l) := by rw [← hlen]; exact HGR.out
          have B9 : Hid (Below w.heap.size w (wr.setRow w.heap.size #[.int .i64 0, .slice (some ⟨bO, 0, none⟩) m cO])) := below_setRow HP.out.B _ _ (Nat.le_refl _)
          have R9 := hid HP.out.R
          rw [hlen]
          clear HP HGR
          go_wp2_with (refine wpList_store_row rfl 34 (.tmp 6) (.tmp 113) rfl w.heap.size #[.int .i64 0, .slice (some ⟨bO, 0, none⟩) m cO] rfl rfl _ _ R9.out (by kernel_rfl) rfl (onePl _ _ _ _) ?_)
          refine bodyPost_ret (v := plv 0 (some ⟨bO, 0, none⟩) m cO) ?_ rfl ⟨Or.inr ⟨l, G9.out, some ⟨bO, 0, none⟩, cO, rfl, O9.out⟩, B9.out⟩
          exact results_cell_row Try.results16 _ _ w.heap.size _ _ _ _ rfl (R9.out.setRow _) Try.underlying34 rfl (by kernel_rfl)
end Go.Proofs.Ytjeahllaajpddaa
