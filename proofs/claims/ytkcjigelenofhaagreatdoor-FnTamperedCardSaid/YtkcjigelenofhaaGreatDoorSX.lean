import Derived.Test.YtkcjigelenofhaaGreatDoorK2
import Derived.Test.YtkcjigelenofhaaGreatDoorG6
import Derived.Test.YtkcjigelenofhaaGreatDoorG8
namespace Go.Proofs.YtkcjigelenofhaaGreatDoor
open Go.RowKit
theorem bare_P {mt pt bd : ByteArray} {a a' a2 : Option Addr} {n1 c1 c' m4 n2 c2 : Nat} {o1 o2 : Nat → Hp} (hm : m4 ≤ n1) (h : rqP ⟨mt, pt, ⟨a, n1, c1, o1⟩, ⟨a2, n2, c2, o2⟩, bd⟩) : rqP ⟨mt, pt, ⟨a', m4, c', hAt (hpList o1 m4)⟩, ⟨a2, n2, c2, o2⟩, bd⟩ := by
 obtain ⟨h1, h2, h3, h4, h5, h6, h7⟩ := h
 refine ⟨h1, h2, ⟨Nat.le_trans hm h3.1, fun i hi k hk => ?_⟩, h4, h5, fun i hi => ?_, h7⟩
 · have hi' : i < m4 := hi
   show (hAt (hpList o1 m4) i).nm ≠ (hAt (hpList o1 m4) k).nm
   rw [hAt_list _ _ _ hi', hAt_list _ _ _ (by omega)]
   exact h3.2 i (Nat.lt_of_lt_of_le hi' hm) k hk
 · have hi' : i < m4 := hi
   show qyP (hAt (hpList o1 m4) i)
   rw [hAt_list _ _ _ hi']
   exact h6 i (Nat.lt_of_lt_of_le hi' hm)
theorem bare_S {a : Option Addr} {c1 n1 m4 : Nat} (a' : Option Addr) (c' : Nat) (mt pt bd : ByteArray) (o1 : Nat → Hp) (a2 : Option Addr) (n2 c2 : Nat) (o2 : Nat → Hp) (sec : ByteArray) (ts : Nat → ByteArray) (m : Nat) (h : n1 - 1 = m4) :
 sgS ⟨mt, pt, ⟨a', m4, c', hAt (hpList o1 m4)⟩, ⟨a2, n2, c2, o2⟩, bd⟩ sec ts m = sgS (ckB ⟨mt, pt, ⟨a, n1, c1, o1⟩, ⟨a2, n2, c2, o2⟩, bd⟩) sec ts m := by
 subst h
 have e : hpList (hAt (hpList o1 (n1 - 1))) (n1 - 1) = hpList o1 (n1 - 1) := by
  show (List.range (n1 - 1)).map _ = (List.range (n1 - 1)).map _
  exact List.map_congr_left fun i hi => hAt_list _ _ _ (List.mem_range.1 hi)
 unfold sgS canL ckB
 dsimp only
 rw [e]
theorem wrap_of_nat (m : Nat) (h : m ≤ 1048576) : IntKind.i64.wrap (m : Int) = (m : Int) := by rw [IntKind.wrap_i64]; omega
theorem ba_size0 {x : ByteArray} (h : x.size = 0) : x = ⟨#[]⟩ := by
 cases x with
 | mk d => congr 1; exact Array.eq_empty_of_size_eq_zero h
end Go.Proofs.YtkcjigelenofhaaGreatDoor
namespace Go.Proofs.YtkcjigelenofhaaGreatDoor
open Go.RowKit
set_option linter.unusedVariables false
set_option maxRecDepth 20000 in
set_option maxHeartbeats 16000000 in
theorem sCheckG (mt pt : ByteArray) (qb qo n1 c1 : Nat) (o1 : Nat → Hp) (a2 : Option Addr) (n2 c2 : Nat) (o2 : Nat → Hp) (bd : ByteArray) (kA : Option Addr) (n kc : Nat) (ks : Nat → Ak) (now : Int) (hB : RqB ⟨mt, pt, ⟨some ⟨qb, qo, none⟩, n1, c1, o1⟩, ⟨a2, n2, c2, o2⟩, bd⟩ 1048576) (hn : n ≤ 1048576) (hck : ckP ⟨mt, pt, ⟨some ⟨qb, qo, none⟩, n1, c1, o1⟩, ⟨a2, n2, c2, o2⟩, bd⟩ ∧ n ≤ 100) (w : World) (h : RqIn w ⟨mt, pt, ⟨some ⟨qb, qo, none⟩, n1, c1, o1⟩, ⟨a2, n2, c2, o2⟩, bd⟩) (hK : Aks w kA n kc ks) :
 Calls Tryz.prog 15 #[.agg #[.string mt, .string pt, .slice (some ⟨qb, qo, none⟩) n1 c1, .slice a2 n2 c2, .string bd], .slice kA n kc, .int .i64 now] w fun e w' => e = .returned (.agg #[.int .i64 (ckR ⟨mt, pt, ⟨some ⟨qb, qo, none⟩, n1, c1, o1⟩, ⟨a2, n2, c2, o2⟩, bd⟩ n ks now).1, .string (ckR ⟨mt, pt, ⟨some ⟨qb, qo, none⟩, n1, c1, o1⟩, ⟨a2, n2, c2, o2⟩, bd⟩ n ks now).2]) ∧ Below w.heap.size w w' := by
 obtain ⟨W1, hW1⟩ : ∃ W, W = (w.alloc (.cells #[.string mt, .string pt, .slice (some ⟨qb, qo, none⟩) n1 c1, .slice a2 n2 c2, .string bd] 25)).alloc (.cells #[.int .i64 0, .string ⟨#[]⟩] 35) := ⟨_, rfl⟩
 have X3 : Hid (RowAt W1 w.heap.size 25 #[.string mt, .string pt, .slice (some ⟨qb, qo, none⟩) n1 c1, .slice a2 n2 c2, .string bd]) := by rw [hW1]; exact (RowAt.new _ _ _).alloc _
 have X6 : Hid (RowAt W1 (w.heap.size + 1) 35 #[.int .i64 0, .string ⟨#[]⟩]) := by rw [hW1]; exact RowAt.next _ _ _ (by simp only [size_al])
 have B1 : Hid (Below w.heap.size w W1) := by rw [hW1]; exact ((Below.refl _ _).alloc (Nat.le_refl _) _).alloc (by simp) _
 have KR := fun wx (hbx : Below w.heap.size w wx) => hid (sRqF ⟨mt, pt, ⟨some ⟨qb, qo, none⟩, n1, c1, o1⟩, ⟨a2, n2, c2, o2⟩, bd⟩ hB wx (h.below hbx))
 obtain ⟨RVv, hRV⟩ : ∃ v, v = rqV ⟨mt, pt, ⟨some ⟨qb, qo, none⟩, n1, c1, o1⟩, ⟨a2, n2, c2, o2⟩, bd⟩ := ⟨_, rfl⟩
 have HRV := hid hRV
 rw [← hRV] at KR
 have HCK := hid hck
 have HIN := hid h
 have HBB := hid hB
 have HK := hid hK
 obtain ⟨RR, hRR⟩ : ∃ v, v = ckR ⟨mt, pt, ⟨some ⟨qb, qo, none⟩, n1, c1, o1⟩, ⟨a2, n2, c2, o2⟩, bd⟩ n ks now := ⟨_, rfl⟩
 rw [← hRR]
 have HRR := hid hRR
 have HW1 := hid hW1
 have n1b : n1 ≤ 1048576 := hB.qs.1
 obtain ⟨NI, hNI⟩ : ∃ v, v = (n1 : Int) - 5 := ⟨_, rfl⟩
 have wNI : (n1 : Int) - 5 = NI := hNI.symm
 replace hNI := hid hNI
 clear hW1 h hB hK hRV hRR hck
 have x0 := X3.out.cell 0
 have x1 := X3.out.cell 1
 have x2 := X3.out.cell 2
 have x3 := X3.out.cell 3
 have x4 := X3.out.cell 4
 go_enter Tryz.func15, Tryz.ntmps15
 go_wp2_with fail
 rw [← HW1.out]
 refine (KR _ B1.out).out.mono ?_
 rintro e w2 ⟨rfl, hb2⟩
 have X3b := hid (RowAt.nxS hb2 X3.out)
 have X6b := hid (RowAt.nxS hb2 X6.out)
 have B2 := hid (B1.out.trans (hb2.mono B1.out.size))
 clear hb2 X3 X6 B1 x0 x1 x2 x3 x4 HW1
 by_cases h1 : rqP ⟨mt, pt, ⟨some ⟨qb, qo, none⟩, n1, c1, o1⟩, ⟨a2, n2, c2, o2⟩, bd⟩
 case neg =>
  have v1 : RVv = 1 := by rw [HRV.out]; exact rqV_f h1
  subst v1
  exact ((fun q => h1 q.1.1 : ¬ (ckP ⟨mt, pt, ⟨some ⟨qb, qo, none⟩, n1, c1, o1⟩, ⟨a2, n2, c2, o2⟩, bd⟩ ∧ n ≤ 100)) HCK.out).elim
 have v1 : RVv = 0 := by rw [HRV.out]; exact rqV_t h1
 subst v1
 have H1 := hid h1
 by_cases h2 : 5 ≤ n1
 case neg =>
  have d2 : NI < 0 := by rw [hNI.out]; omega
  exact ((fun q => h2 q.1.2.1 : ¬ (ckP ⟨mt, pt, ⟨some ⟨qb, qo, none⟩, n1, c1, o1⟩, ⟨a2, n2, c2, o2⟩, bd⟩ ∧ n ≤ 100)) HCK.out).elim
 obtain ⟨nn, hnn⟩ : ∃ k, n1 = k + 5 := ⟨n1 - 5, by omega⟩
 obtain rfl : NI = (nn : Int) := by rw [hNI.out]; omega
 clear hNI wNI
 have d2 : ¬ (nn : Int) < 0 := by omega
 by_cases h3 : n ≤ 100
 case neg =>
  have d3 : (100 : Int) < (n : Int) := by omega
  exact ((fun q => h3 q.2 : ¬ (ckP ⟨mt, pt, ⟨some ⟨qb, qo, none⟩, n1, c1, o1⟩, ⟨a2, n2, c2, o2⟩, bd⟩ ∧ n ≤ 100)) HCK.out).elim
 have d3 : ¬ (100 : Int) < (n : Int) := by omega
 replace hnn := hid hnn
 have n30 : n1 ≤ 30 := H1.out.2.2.1.1
 clear h1 h2
 obtain ⟨XN, hXN⟩ : ∃ X, X = w2.heap.size := ⟨_, rfl⟩
 obtain ⟨W3, hW3⟩ : ∃ W, W = w2.alloc (.cells #[.string (ckNm 0), .string (ckNm 1), .string (ckNm 2), .string (ckNm 3), .string (ckNm 4)] 9) := ⟨_, rfl⟩
 have b23 : Below w2.heap.size w2 W3 := by rw [hW3]; exact (Below.refl _ _).alloc (Nat.le_refl _) _
 have XNc : Hid (RowAt W3 XN 9 #[.string (ckNm 0), .string (ckNm 1), .string (ckNm 2), .string (ckNm 3), .string (ckNm 4)]) := by rw [hW3, hXN]; exact RowAt.new _ _ _
 have X3c := hid (RowAt.nxS b23 X3b.out)
 have X6c := hid (RowAt.nxS b23 X6b.out)
 have B3 := hid (B2.out.trans (b23.mono B2.out.size))
 have HW3 : Hid (W3 = w2.alloc (.cells #[.string ⟨#[120, 45, 105, 100]⟩, .string ⟨#[120, 45, 102, 114, 111, 109]⟩, .string ⟨#[120, 45, 108, 97, 115, 116, 115]⟩, .string ⟨#[120, 45, 115, 105, 103, 110, 101, 100]⟩, .string ⟨#[120, 45, 115, 117, 109]⟩] 9)) := hW3
 have HXN := hid hXN
 clear hW3 hXN b23 X3b X6b B2
 go_upto_region 5 with fail
 rw [← HW3.out, ← HXN.out]
 clear HW3 HXN
 go_wp2_with fail
 go_loopw [9] (fun v wr => ∃ i : Nat, i ≤ n1 ∧ v = .int .i64 (i : Int) ∧ (∀ q, q < i → ckO ⟨mt, pt, ⟨some ⟨qb, qo, none⟩, n1, c1, o1⟩, ⟨a2, n2, c2, o2⟩, bd⟩ q) ∧ Below W3.heap.size W3 wr) (fun v _ => n1 - (intOf v).toNat)
 case atStart => exact ⟨0, Nat.zero_le _, rfl, fun i hi => absurd hi (Nat.not_lt_zero _), Below.refl _ _⟩
 case round =>
  obtain ⟨i, hi, rfl, hf, hbx⟩ := hrel
  have HF := hid hf
  have HBX := hid hbx
  have X3r := hid (RowAt.nxS hbx X3c.out)
  have X6r := hid (RowAt.nxS hbx X6c.out)
  have XNr := hid (RowAt.nxS hbx XNc.out)
  have Br := hid (B3.out.trans (hbx.mono B3.out.size))
  have x2 := X3r.out.cell 2
  clear hf hbx
  by_cases hlt : i < n1
  · -- DBG<
    have d1 : (i : Int) < (n1 : Int) := by omega
    have i0 : (0 : Int) ≤ (i : Int) := by omega
    rcases (HIN.out.below Br.out).qs.2 with q0 | ⟨b, off, hqe, hbl, hc⟩
    · dsimp only at q0; omega
    cases hqe
    obtain ⟨y0, _⟩ := hc i hlt
    have sz := (HBB.out.qs.2 i hlt).1
    dsimp only at y0 sz
    have FA : Hid (¬ ckO ⟨mt, pt, ⟨some ⟨qb, qo, none⟩, n1, c1, o1⟩, ⟨a2, n2, c2, o2⟩, bd⟩ i → RR = (1, ⟨#[]⟩)) := fun q => by rw [HRR.out]; exact ckR_1 (fun hh => q (hh.1.2.2.1 i hlt))
    have NX : Hid (ckO ⟨mt, pt, ⟨some ⟨qb, qo, none⟩, n1, c1, o1⟩, ⟨a2, n2, c2, o2⟩, bd⟩ i → ∀ q, q < i + 1 → ckO ⟨mt, pt, ⟨some ⟨qb, qo, none⟩, n1, c1, o1⟩, ⟨a2, n2, c2, o2⟩, bd⟩ q) := fun ho q hq => by
     by_cases e : q = i
     · rw [e]; exact ho
     · exact HF.out q (by omega)
    by_cases hin : i < nn
    · have d4 : (i : Int) < (nn : Int) := by omega
      have E : Hid (ckO ⟨mt, pt, ⟨some ⟨qb, qo, none⟩, n1, c1, o1⟩, ⟨a2, n2, c2, o2⟩, bd⟩ i ↔ ¬ bgP (o1 i).nm ⟨#[120, 45]⟩) := by
       unfold ckO
       have : (i < n1 - 5) := by have := hnn.out; omega
       show (if i < n1 - 5 then _ else _) ↔ _
       rw [if_pos this]
      have KB := fun wx => hid (sBegins (o1 i).nm ⟨#[120, 45]⟩ sz (by decide) wx)
      by_cases hg : bgP (o1 i).nm ⟨#[120, 45]⟩
      · rw [pb_t hg] at KB
        have NO : Hid (RR = (1, ⟨#[]⟩)) := FA.out fun q => E.out.1 q hg
        clear hg FA NX E
        generalize (o1 i).nm = T at y0 KB sz
        clear hc
        go_wp2_with fail
        go_quiet ((go_at_call 49; exact Calls.quiet_of_same (KB _).out))
        rename_i nq
        have X6q : Hid (RowAt (wr.drewN nq) (w.heap.size + 1) 35 #[.int .i64 0, .string ⟨#[]⟩]) := X6r.out
        have Bq : Hid (Below w.heap.size w (wr.drewN nq)) := bdNS Br.out nq
        go_wp2_with (refine wpList_store_row rfl 35 (.tmp 6) (.tmp 75) rfl (w.heap.size + 1) #[.int .i64 1, .string ⟨#[]⟩] rfl rfl _ _ X6q.out (by kernel_rfl) rfl (by simp [Value.oneCell']) ?_)
        refine bodyPost_ret (v := .agg #[.int .i64 1, .string ⟨#[]⟩]) ?_ rfl ⟨by rw [NO.out], below_setRow Bq.out _ _ (by omega)⟩
        exact results_cell_row Tryz.results15 _ _ (w.heap.size + 1) _ _ _ _ rfl (X6q.out.setRow _) Tryz.underlying35 rfl (by kernel_rfl)
      · rw [pb_f hg] at KB
        have N2 := hid (NX.out (E.out.2 hg))
        clear hg FA NX E
        generalize (o1 i).nm = T at y0 KB sz
        clear hc
        have d6 : ¬ nn ≤ i := by omega
        have d7 : decide (nn ≤ i) = false := decide_eq_false d6
        have d8 : decide ((nn : Int) ≤ (i : Int)) = false := decide_eq_false (by omega)
        go_wp2_with fail
        go_quiet ((go_at_call 49; exact Calls.quiet_of_same (KB _).out))
        go_wp2
        go_roundw
        case rel => exact ⟨i + 1, by omega, by go_num, N2.out, bdNS HBX.out _⟩
        case measure => simp [intOf]; omega
    · have d4 : ¬ (i : Int) < (nn : Int) := by omega
      have d5 : (nn : Int) ≤ (i : Int) := by omega
      obtain ⟨k, hk⟩ : ∃ k, i = nn + k := ⟨i - nn, by omega⟩
      have k5 : k < 5 := by have := hnn.out; omega
      have eK : (i : Int) - (nn : Int) = (k : Int) := by omega
      have yk : wr.cell? ⟨XN, k, none⟩ = some (.string (ckNm k)) := by
       rw [XNr.out.cell]
       rcases (by omega : k = 0 ∨ k = 1 ∨ k = 2 ∨ k = 3 ∨ k = 4) with rfl | rfl | rfl | rfl | rfl <;> rfl
      have kk0 : (0 : Int) ≤ (k : Int) := by omega
      have kk5 : (k : Int) < 5 := by omega
      have E : Hid (ckO ⟨mt, pt, ⟨some ⟨qb, qo, none⟩, n1, c1, o1⟩, ⟨a2, n2, c2, o2⟩, bd⟩ i ↔ (o1 i).nm = ckNm k) := by
       unfold ckO
       have h5 : ¬ (i < n1 - 5) := by have := hnn.out; omega
       have h6 : i - (n1 - 5) = k := by have := hnn.out; omega
       show (if i < n1 - 5 then _ else (o1 i).nm = ckNm (i - (n1 - 5))) ↔ _
       rw [if_neg h5, h6]
      replace hk := hid hk
      by_cases hg : (o1 i).nm = ckNm k
      · have N2 := hid (NX.out (E.out.2 hg))
        have BQ : ((o1 i).nm.toList == (ckNm k).toList) = true := by rw [ba_beqS2]; simp [hg]
        clear hg FA NX E
        generalize (o1 i).nm = T at y0 BQ sz
        generalize ckNm k = T2 at yk BQ
        clear hc
        go_wp2_with fail
        go_quiet (fail)
        go_wp2
        go_roundw
        case rel => exact ⟨i + 1, by omega, by go_num, N2.out, bdNS HBX.out _⟩
        case measure => simp [intOf]; omega
      · have NO : Hid (RR = (1, ⟨#[]⟩)) := FA.out fun q => hg (E.out.1 q)
        have BQ : ((o1 i).nm.toList == (ckNm k).toList) = false := by rw [ba_beqS2]; simp [hg]
        clear hg FA NX E
        generalize (o1 i).nm = T at y0 BQ sz
        generalize ckNm k = T2 at yk BQ
        clear hc
        go_wp2_with fail
        go_quiet (fail)
        rename_i nq
        have X6q : Hid (RowAt (wr.drewN nq) (w.heap.size + 1) 35 #[.int .i64 0, .string ⟨#[]⟩]) := X6r.out
        have Bq : Hid (Below w.heap.size w (wr.drewN nq)) := bdNS Br.out nq
        go_wp2_with (refine wpList_store_row rfl 35 (.tmp 6) (.tmp 75) rfl (w.heap.size + 1) #[.int .i64 1, .string ⟨#[]⟩] rfl rfl _ _ X6q.out (by kernel_rfl) rfl (by simp [Value.oneCell']) ?_)
        refine bodyPost_ret (v := .agg #[.int .i64 1, .string ⟨#[]⟩]) ?_ rfl ⟨by rw [NO.out], below_setRow Bq.out _ _ (by omega)⟩
        exact results_cell_row Tryz.results15 _ _ (w.heap.size + 1) _ _ _ _ rfl (X6q.out.setRow _) Tryz.underlying35 rfl (by kernel_rfl)
    -- DBG>
  · have d1 : ¬ (i : Int) < (n1 : Int) := by omega
    have hie : n1 = i := by omega
    subst hie
    have AO := hid HF.out
    have VE : Hid (∀ k, ckV ⟨mt, pt, ⟨some ⟨qb, qo, none⟩, n1, c1, o1⟩, ⟨a2, n2, c2, o2⟩, bd⟩ k = (o1 (nn + k)).vl) := fun k => by
     unfold ckV
     show (o1 (n1 - 5 + k)).vl = _
     have : n1 - 5 = nn := by have := hnn.out; omega
     rw [this]
    have CE : Hid (∀ wx, Below w.heap.size w wx → ∀ k, k < 5 → wx.cell? ⟨qb, qo + (nn + k) * 2 + 1, none⟩ = some (.string (ckV ⟨mt, pt, ⟨some ⟨qb, qo, none⟩, n1, c1, o1⟩, ⟨a2, n2, c2, o2⟩, bd⟩ k))) := fun wx hbx k hk => by
     rcases (HIN.out.below hbx).qs.2 with q0 | ⟨b, off, hqe, hbl, hc⟩
     · dsimp only at q0; have := hnn.out; omega
     cases hqe
     rw [VE.out k]
     exact (hc (nn + k) (by dsimp only; have := hnn.out; omega)).2
    have VS : Hid (∀ k, k < 5 → (ckV ⟨mt, pt, ⟨some ⟨qb, qo, none⟩, n1, c1, o1⟩, ⟨a2, n2, c2, o2⟩, bd⟩ k).size ≤ 1000) := fun k hk => by rw [VE.out k]; exact (H1.out.2.2.2.2.2.1 (nn + k) (by dsimp only; have := hnn.out; omega)).2.2
    obtain ⟨m1, hm1⟩ : ∃ m, m = nn + 1 := ⟨_, rfl⟩
    obtain ⟨m2, hm2⟩ : ∃ m, m = nn + 2 := ⟨_, rfl⟩
    obtain ⟨m3, hm3⟩ : ∃ m, m = nn + 3 := ⟨_, rfl⟩
    obtain ⟨m4, hm4⟩ : ∃ m, m = nn + 4 := ⟨_, rfl⟩
    have e1 : (nn : Int) + 1 = (m1 : Int) := by omega
    have e2 : (nn : Int) + 2 = (m2 : Int) := by omega
    have e3 : (nn : Int) + 3 = (m3 : Int) := by omega
    have e4 : (nn : Int) + 4 = (m4 : Int) := by omega
    have l0 : (nn : Int) < (n1 : Int) := by have := hnn.out; omega
    have l1 : (m1 : Int) < (n1 : Int) := by have := hnn.out; omega
    have l2 : (m2 : Int) < (n1 : Int) := by have := hnn.out; omega
    have l3 : (m3 : Int) < (n1 : Int) := by have := hnn.out; omega
    have l4 : (m4 : Int) < (n1 : Int) := by have := hnn.out; omega
    have z0 : (0 : Int) ≤ (nn : Int) := by omega
    have z1 : (0 : Int) ≤ (m1 : Int) := by omega
    have z2 : (0 : Int) ≤ (m2 : Int) := by omega
    have z3 : (0 : Int) ≤ (m3 : Int) := by omega
    have z4 : (0 : Int) ≤ (m4 : Int) := by omega
    obtain ⟨V0, hV0⟩ : ∃ v, v = ckV ⟨mt, pt, ⟨some ⟨qb, qo, none⟩, n1, c1, o1⟩, ⟨a2, n2, c2, o2⟩, bd⟩ 0 := ⟨_, rfl⟩
    obtain ⟨V1, hV1⟩ : ∃ v, v = ckV ⟨mt, pt, ⟨some ⟨qb, qo, none⟩, n1, c1, o1⟩, ⟨a2, n2, c2, o2⟩, bd⟩ 1 := ⟨_, rfl⟩
    obtain ⟨V2, hV2⟩ : ∃ v, v = ckV ⟨mt, pt, ⟨some ⟨qb, qo, none⟩, n1, c1, o1⟩, ⟨a2, n2, c2, o2⟩, bd⟩ 2 := ⟨_, rfl⟩
    obtain ⟨V3, hV3⟩ : ∃ v, v = ckV ⟨mt, pt, ⟨some ⟨qb, qo, none⟩, n1, c1, o1⟩, ⟨a2, n2, c2, o2⟩, bd⟩ 3 := ⟨_, rfl⟩
    obtain ⟨V4, hV4⟩ : ∃ v, v = ckV ⟨mt, pt, ⟨some ⟨qb, qo, none⟩, n1, c1, o1⟩, ⟨a2, n2, c2, o2⟩, bd⟩ 4 := ⟨_, rfl⟩
    have CV : Hid (∀ wx, Below w.heap.size w wx → wx.cell? ⟨qb, qo + nn * 2 + 1, none⟩ = some (.string V0) ∧ wx.cell? ⟨qb, qo + m1 * 2 + 1, none⟩ = some (.string V1) ∧ wx.cell? ⟨qb, qo + m2 * 2 + 1, none⟩ = some (.string V2) ∧ wx.cell? ⟨qb, qo + m3 * 2 + 1, none⟩ = some (.string V3) ∧ wx.cell? ⟨qb, qo + m4 * 2 + 1, none⟩ = some (.string V4)) := fun wx hbx => by
     rw [hV0, hV1, hV2, hV3, hV4, hm1, hm2, hm3, hm4]
     exact ⟨CE.out wx hbx 0 (by omega), CE.out wx hbx 1 (by omega), CE.out wx hbx 2 (by omega), CE.out wx hbx 3 (by omega), CE.out wx hbx 4 (by omega)⟩
    have HV : Hid (V0 = ckV ⟨mt, pt, ⟨some ⟨qb, qo, none⟩, n1, c1, o1⟩, ⟨a2, n2, c2, o2⟩, bd⟩ 0 ∧ V1 = ckV ⟨mt, pt, ⟨some ⟨qb, qo, none⟩, n1, c1, o1⟩, ⟨a2, n2, c2, o2⟩, bd⟩ 1 ∧ V2 = ckV ⟨mt, pt, ⟨some ⟨qb, qo, none⟩, n1, c1, o1⟩, ⟨a2, n2, c2, o2⟩, bd⟩ 2 ∧ V3 = ckV ⟨mt, pt, ⟨some ⟨qb, qo, none⟩, n1, c1, o1⟩, ⟨a2, n2, c2, o2⟩, bd⟩ 3 ∧ V4 = ckV ⟨mt, pt, ⟨some ⟨qb, qo, none⟩, n1, c1, o1⟩, ⟨a2, n2, c2, o2⟩, bd⟩ 4) := ⟨hV0, hV1, hV2, hV3, hV4⟩
    have s0 : V0.size ≤ 1000 := by rw [hV0]; exact VS.out 0 (by omega)
    have s1 : V1.size ≤ 1000 := by rw [hV1]; exact VS.out 1 (by omega)
    have s2 : V2.size ≤ 1000 := by rw [hV2]; exact VS.out 2 (by omega)
    have s3 : V3.size ≤ 1000 := by rw [hV3]; exact VS.out 3 (by omega)
    have s4 : V4.size ≤ 1000 := by rw [hV4]; exact VS.out 4 (by omega)
    have HM4 : Hid (m4 = nn + 4 ∧ n1 = nn + 5) := ⟨hm4, hnn.out⟩
    clear hm1 hm2 hm3 hm4 hV0 hV1 hV2 hV3 hV4 VE CE VS HF hi X3c X6c XNc XNr
    have KT1 := fun wx => hid (sTime V1 (by omega) wx)
    have KT2 := fun wx => hid (sTime V2 (by omega) wx)
    have KNM := fun wx => hid (sNumber V4 (by omega) 10 (by omega) wx)
    have KSP : ∀ wx, Hid (Calls Tryz.prog 59 #[.string V3, .int .u8 44] wx fun e w' => (∃ v, e = .returned v ∧ OwnStrs w' wx.heap.size v (splB 44 V3)) ∧ Below wx.heap.size wx w') := fun wx => sSplit V3 (by omega) 44 wx
    have KID := fun wx => hid (sId V0 (by omega) wx)
    obtain ⟨T1, hT1⟩ : ∃ t, t = timV V1 := ⟨_, rfl⟩
    obtain ⟨T2, hT2⟩ : ∃ t, t = timV V2 := ⟨_, rfl⟩
    obtain ⟨NV, hNV⟩ : ∃ t, t = numV V4 10 := ⟨_, rfl⟩
    rw [← hT1] at KT1
    rw [← hT2] at KT2
    rw [← hNV] at KNM
    have HTN : Hid (T1 = timV V1 ∧ T2 = timV V2 ∧ NV = numV V4 10) := ⟨hT1, hT2, hNV⟩
    clear hT1 hT2 hNV
    obtain ⟨y0, y1, y2, y3, y4⟩ := CV.out wr Br.out
    go_wp2_with fail
    refine (KT1 _).out.mono ?_
    rintro e w4 ⟨rfl, hb4⟩
    have B4 := hid (Br.out.trans (hb4.mono Br.out.size))
    have X34 := hid (RowAt.nxS hb4 X3r.out)
    have X64 := hid (RowAt.nxS hb4 X6r.out)
    clear hb4 y0 y1 y2 y3 y4 x2 X3r X6r Br
    have x2 := X34.out.cell 2
    obtain ⟨y0, y1, y2, y3, y4⟩ := CV.out w4 B4.out
    go_wp2_with fail
    refine (KT2 _).out.mono ?_
    rintro e w5 ⟨rfl, hb5⟩
    have B5 := hid (B4.out.trans (hb5.mono B4.out.size))
    have X35 := hid (RowAt.nxS hb5 X34.out)
    have X65 := hid (RowAt.nxS hb5 X64.out)
    clear hb5 y0 y1 y2 y3 y4 x2 X34 X64 B4 KT1 KT2
    obtain ⟨W6, hW6⟩ : ∃ W, W = w5.alloc (.cells #[] 9) := ⟨_, rfl⟩
    have b56 : Below w5.heap.size w5 W6 := by rw [hW6]; exact (Below.refl _ _).alloc (Nat.le_refl _) _
    have B6 := hid (B5.out.trans (b56.mono B5.out.size))
    have X36 := hid (RowAt.nxS b56 X35.out)
    have X66 := hid (RowAt.nxS b56 X65.out)
    have HW6 := hid hW6
    clear hW6 b56 X35 X65 B5
    go_upto_region 14 with fail
    rw [← HW6.out]
    clear HW6
    have x2 := X36.out.cell 2
    obtain ⟨y0, y1, y2, y3, y4⟩ := CV.out W6 B6.out
    have e00 : (⟨#[]⟩ : ByteArray).toList = [] := by rw [show (⟨#[]⟩ : ByteArray).toList = (⟨#[]⟩ : ByteArray).data.toList from ByteArray.toList_eq ..]
    obtain ⟨b3, hb3⟩ : ∃ b, b = (V3.toList == []) := ⟨_, rfl⟩
    have BQ3 : (V3.toList == []) = b3 := hb3.symm
    have BQ4 : (V3.toList == (⟨#[]⟩ : ByteArray).toList) = b3 := by rw [e00]; exact BQ3
    have HB3 := hid hb3
    have BZ : Hid (b3 = decide (V3 = ⟨#[]⟩)) := by show _ = _; rw [← BQ4, ba_beqS2]
    clear hb3
    go_upto_if 106 with fail
    go_cut [13] from 107 to 114 (fun v wx => ∃ sA sL sc, v = .slice sA sL sc ∧ sL = (ckS ⟨mt, pt, ⟨some ⟨qb, qo, none⟩, n1, c1, o1⟩, ⟨a2, n2, c2, o2⟩, bd⟩).length ∧ Strs wx sA sL sc (tAt (ckS ⟨mt, pt, ⟨some ⟨qb, qo, none⟩, n1, c1, o1⟩, ⟨a2, n2, c2, o2⟩, bd⟩)) ∧ Below W6.heap.size W6 wx)
    case first =>
     cases b3
     case true =>
      have hv3 : V3.size = 0 := by have := BZ.out; rw [of_decide_eq_true this.symm]; rfl
      have HSL : Hid ((ckS ⟨mt, pt, ⟨some ⟨qb, qo, none⟩, n1, c1, o1⟩, ⟨a2, n2, c2, o2⟩, bd⟩).length = 0) := by show _ = _; unfold ckS; rw [← HV.out.2.2.2.1]; unfold sgT; rw [if_pos hv3]; rfl
      go_wp2_with fail
      go_meet
      exact ⟨_, _, _, rfl, HSL.out.symm, ⟨Nat.le_refl _, .inl rfl⟩, Below.refl _ _⟩
     case false =>
      have hv3 : ¬ V3.size = 0 := fun h => by have := BZ.out; rw [ba_size0 h] at this; simp at this
      have HSL : Hid (ckS ⟨mt, pt, ⟨some ⟨qb, qo, none⟩, n1, c1, o1⟩, ⟨a2, n2, c2, o2⟩, bd⟩ = splB 44 V3) := by show _ = _; unfold ckS; rw [← HV.out.2.2.2.1]; unfold sgT; rw [if_neg hv3]
      go_wp2_with fail
      refine (KSP _).out.mono ?_
      rintro e w7 ⟨⟨v, rfl, hO⟩, hb7⟩
      obtain ⟨sA, sc, rfl⟩ := hO.slice
      obtain ⟨g3, rfl, _, hn3, hs3⟩ := OwnStrs.strs (ts := tAt (ckS ⟨mt, pt, ⟨some ⟨qb, qo, none⟩, n1, c1, o1⟩, ⟨a2, n2, c2, o2⟩, bd⟩)) hO (by unfold splB; rw [List.length_map]; have := (splA_len 44 V3.data.toList []).1; omega) (fun i hi => by rw [HSL.out]; unfold tAt; rw [List.getD_eq_getElem?_getD, List.getElem?_eq_getElem hi]; rfl)
      have ST := hid hs3
      clear hs3 hn3
      have B7 := hid hb7
      clear hb7 hO
      go_wp2_with fail
      go_meet
      exact ⟨_, _, _, rfl, by rw [HSL.out], ST.out, B7.out⟩
    case rest =>
     obtain ⟨sA, sL, sc, rfl, hsl, hST, hb7⟩ := hcut
     obtain ⟨W7, rfl⟩ : ∃ v, v = wc := ⟨_, rfl⟩
     have HSL : Hid ((ckS ⟨mt, pt, ⟨some ⟨qb, qo, none⟩, n1, c1, o1⟩, ⟨a2, n2, c2, o2⟩, bd⟩).length = sL) := hsl.symm
     have sLb : sL ≤ 1001 := by rw [hsl]; have := sgT_len V3; rw [HV.out.2.2.2.1] at this s3; show (sgT _).length ≤ _; omega
     clear BQ3 BQ4 HB3 BZ
     have ST := hid hST
     have B7 := hid (B6.out.trans (hb7.mono B6.out.size))
     have X37 := hid (RowAt.nxS hb7 X36.out)
     have X67 := hid (RowAt.nxS hb7 X66.out)
     clear hsl hST hb7 y0 y1 y2 y3 y4 x2 KSP
     have x2 := X37.out.cell 2
     obtain ⟨y0, y1, y2, y3, y4⟩ := CV.out W7 B7.out
     go_wp2_with fail
     refine (KNM _).out.mono ?_
     rintro e wN ⟨rfl, hwN⟩
     obtain rfl := hwN.symm
     clear hwN KNM
     by_cases i1 : idP V0
     case neg =>
      exact ((fun q => i1 (by rw [HV.out.1]; exact q.1.2.2.2.1) : ¬ (ckP ⟨mt, pt, ⟨some ⟨qb, qo, none⟩, n1, c1, o1⟩, ⟨a2, n2, c2, o2⟩, bd⟩ ∧ n ≤ 100)) HCK.out).elim
     rw [pb_t i1] at KID
     have I1 := hid i1
     clear i1
     by_cases t0 : tmP V1
     case neg =>
      exact ((fun q => t0 (by rw [HV.out.2.1]; exact q.1.2.2.2.2.1) : ¬ (ckP ⟨mt, pt, ⟨some ⟨qb, qo, none⟩, n1, c1, o1⟩, ⟨a2, n2, c2, o2⟩, bd⟩ ∧ n ≤ 100)) HCK.out).elim
     have TM0 := hid t0
     obtain ⟨F0, hF0⟩ : ∃ f : Nat, T1 = (f : Int) := ⟨numL V1.data.toList, by rw [HTN.out.1]; exact timV_t t0⟩
     have HF0 : Hid ((F0 : Int) = timV V1) := by rw [← hF0]; exact HTN.out.1
     subst hF0
     have tn0 : ¬ (F0 : Int) < 0 := by omega
     have tb0 : decide ((F0 : Int) < 0) = false := decide_eq_false tn0
     clear t0
     by_cases t1 : tmP V2
     case neg =>
      exact ((fun q => t1 (by rw [HV.out.2.2.1]; exact q.1.2.2.2.2.2.1) : ¬ (ckP ⟨mt, pt, ⟨some ⟨qb, qo, none⟩, n1, c1, o1⟩, ⟨a2, n2, c2, o2⟩, bd⟩ ∧ n ≤ 100)) HCK.out).elim
     have TM1 := hid t1
     obtain ⟨F1, hF1⟩ : ∃ f : Nat, T2 = (f : Int) := ⟨numL V2.data.toList, by rw [HTN.out.2.1]; exact timV_t t1⟩
     have HF1 : Hid ((F1 : Int) = timV V2) := by rw [← hF1]; exact HTN.out.2.1
     subst hF1
     have tn1 : ¬ (F1 : Int) < 0 := by omega
     have tb1 : decide ((F1 : Int) < 0) = false := decide_eq_false tn1
     clear t1
     have X3d : Hid (RowAt W7.drew w.heap.size 25 #[.string mt, .string pt, .slice (some ⟨qb, qo, none⟩) n1 c1, .slice a2 n2 c2, .string bd]) := X37.out
     have X6d : Hid (RowAt W7.drew (w.heap.size + 1) 35 #[.int .i64 0, .string ⟨#[]⟩]) := X67.out
     have Bd : Hid (Below w.heap.size w W7.drew) := B7.out.drew
     have KSG := fun wx (hbx : Below W7.heap.size W7 wx) => hid (sSigned mt pt (some ⟨qb, qo, none⟩) n1 c1 a2 n2 c2 o2 bd sA sL sc (tAt (ckS ⟨mt, pt, ⟨some ⟨qb, qo, none⟩, n1, c1, o1⟩, ⟨a2, n2, c2, o2⟩, bd⟩)) HBB.out.hs.1 (by omega) wx (HIN.out.below (B7.out.trans (hbx.mono B7.out.size))).hs (ST.out.below hbx))
     have D1 : Hid (Below W7.heap.size W7 W7.drew) := (Below.refl _ _).drew
     obtain ⟨TS, hTS⟩ : ∃ t, t = tAt (ckS ⟨mt, pt, ⟨some ⟨qb, qo, none⟩, n1, c1, o1⟩, ⟨a2, n2, c2, o2⟩, bd⟩) := ⟨_, rfl⟩
     have HTS := hid hTS
     rw [← hTS] at KSG
     clear hTS
     by_cases g1 : sgnP n2 o2 TS sL
     case neg =>
      exact ((fun q => g1 (by have := q.1.2.2.2.2.2.2.1; rw [HSL.out, ← HTS.out] at this; exact this) : ¬ (ckP ⟨mt, pt, ⟨some ⟨qb, qo, none⟩, n1, c1, o1⟩, ⟨a2, n2, c2, o2⟩, bd⟩ ∧ n ≤ 100)) HCK.out).elim
     rw [pb_t g1] at KSG
     have G1 := hid g1
     clear g1
     by_cases d1 : dgP V4 10
     case neg =>
      exact ((fun q => d1 (smP_num (by rw [HV.out.2.2.2.2]; exact q.1.2.2.2.2.2.2.2)).1 : ¬ (ckP ⟨mt, pt, ⟨some ⟨qb, qo, none⟩, n1, c1, o1⟩, ⟨a2, n2, c2, o2⟩, bd⟩ ∧ n ≤ 100)) HCK.out).elim
     obtain ⟨SN, hSN⟩ : ∃ f : Nat, NV = (f : Int) := ⟨numL V4.data.toList, by rw [HTN.out.2.2]; exact numV_t d1⟩
     have HSN : Hid (SN = numL V4.data.toList) := by have h1 := HTN.out.2.2; rw [numV_t d1, hSN] at h1; exact Int.ofNat.inj h1
     subst hSN
     have sn0 : ¬ (SN : Int) < 0 := by omega
     have sb0 : decide ((SN : Int) < 0) = false := decide_eq_false sn0
     clear d1
     by_cases lt1 : SN < 2147483647
     case neg =>
      exact ((fun q => lt1 (by rw [HSN.out]; exact (smP_num (by rw [HV.out.2.2.2.2]; exact q.1.2.2.2.2.2.2.2)).2.1) : ¬ (ckP ⟨mt, pt, ⟨some ⟨qb, qo, none⟩, n1, c1, o1⟩, ⟨a2, n2, c2, o2⟩, bd⟩ ∧ n ≤ 100)) HCK.out).elim
     have sb1 : decide ((2147483647 : Int) ≤ (SN : Int)) = false := decide_eq_false (by omega)
     have sb2 : ¬ (2147483647 : Int) ≤ (SN : Int) := by omega
     have wm4 : IntKind.i64.wrap (m4 : Int) = (m4 : Int) := wrap_of_nat m4 (by have := HM4.out; omega)
     have KDC := fun wx => hid (sDecI (SN : Int) SN rfl (by omega) wx)
     obtain ⟨DD, hDD⟩ : ∃ d, d = ofL (Lib.decDigits SN) := ⟨_, rfl⟩
     rw [← hDD] at KDC
     obtain ⟨b5, hb5⟩ : ∃ b, b = (DD.toList == V4.toList) := ⟨_, rfl⟩
     have BQ5 : (DD.toList == V4.toList) = b5 := hb5.symm
     have HB5 := hid hb5
     have HDD := hid hDD
     have LT1 := hid lt1
     clear hb5 hDD lt1
     go_upto_region 17 with fail
     refine wp_region_held_drew (S := fun wx => (wx.cell? ⟨w.heap.size, 0, none⟩ = some (.string mt) ∧ wx.cell? ⟨w.heap.size, 1, none⟩ = some (.string pt)) ∧ (wx.cell? ⟨w.heap.size, 2, none⟩ = some (.slice (some ⟨qb, qo, none⟩) n1 c1) ∧ wx.cell? ⟨w.heap.size, 3, none⟩ = some (.slice a2 n2 c2)) ∧ wx.cell? ⟨w.heap.size, 4, none⟩ = some (.string bd) ∧ wx.cell? ⟨qb, qo + m4 * 2 + 1, none⟩ = some (.string V4)) (by kernel_rfl) ?_ (fun hHeld => ?_)
     · exact ⟨⟨X3d.out.cell 0, X3d.out.cell 1⟩, ⟨X3d.out.cell 2, X3d.out.cell 3⟩, X3d.out.cell 4, (CV.out _ Bd.out).2.2.2.2⟩
     refine wpAnyH_take (i := 0) (oi := { dst := some 123, op := Op.move (Operand.tmp 10), type := 9, pos := "l10_request.go:339", after := #[], guard := none }) (v := ?v4x0) rfl (by kernel_rfl) (by kernel_rfl) (by kernel_rfl) (fun _ _ _ h => h) (Or.inl ⟨by rfl, ?hy4x0⟩) hHeld ?rest4x0
     case hy4x0 => (intro w hSw; (try dsimp only at hSw); go_simp; try with_reducible rfl)
     simp only [Act.put, List.setIfInBounds_toArray, List.set_cons_zero, List.set_cons_succ]
     refine wpAnyH_ready (rs := [1]) (by kernel_rfl) (by simp) ?_
     refine AllReadyH.cons (o := { dst := some 124, op := Op.call { callee := Callee.value (Operand.func 47), args := #[Operand.tmp 123], argTypes := #[9] }, type := 4, pos := "l10_request.go:339", after := #[{ on := 0, ground := Ground.data }], guard := none }) rfl (fun K hK => ?_) AllReadyH.nil
     go_simp
     refine (KID _).out.mono ?_
     rintro e w7 ⟨rfl, hw7⟩
     obtain rfl := hw7
     go_wp2_with fail
     refine hK.out _ _ ?_ (fun hHeld => ?_)
     · exact ⟨⟨X3d.out.cell 0, X3d.out.cell 1⟩, ⟨X3d.out.cell 2, X3d.out.cell 3⟩, X3d.out.cell 4, (CV.out _ Bd.out).2.2.2.2⟩
     clear hK K
     try simp only [Act.put, List.setIfInBounds_toArray, List.set_cons_zero, List.set_cons_succ]
     refine wpAnyH_take (i := 2) (oi := { dst := some 125, op := Op.unOp UnOp.not 4 (Operand.tmp 124), type := 4, pos := "l10_request.go:339", after := #[{ on := 1, ground := Ground.data }], guard := none }) (v := ?v4x2) rfl (by kernel_rfl) (by kernel_rfl) (by kernel_rfl) (fun _ _ _ h => h) (Or.inl ⟨by rfl, ?hy4x2⟩) hHeld ?rest4x2
     case hy4x2 => (intro w hSw; (try dsimp only at hSw); go_simp; try with_reducible rfl)
     simp only [Act.put, List.setIfInBounds_toArray, List.set_cons_zero, List.set_cons_succ]
     refine wpAnyH_take (i := 3) (oi := { dst := some 126, op := Op.move (Operand.tmp 125), type := 4, pos := "l10_request.go:339", after := #[{ on := 2, ground := Ground.data }, { on := 1, ground := Ground.chain }], guard := none }) (v := ?v4x3) rfl (by kernel_rfl) (by kernel_rfl) (by kernel_rfl) (fun _ _ _ h => h) (Or.inl ⟨by rfl, ?hy4x3⟩) hHeld ?rest4x3
     case hy4x3 => (intro w hSw; (try dsimp only at hSw); go_simp; try with_reducible rfl)
     simp only [Act.put, List.setIfInBounds_toArray, List.set_cons_zero, List.set_cons_succ]
     refine wpAnyH_take (i := 4) (oi := { dst := some 127, op := Op.move (Operand.tmp 11), type := 2, pos := "l10_request.go:339", after := #[{ on := 3, ground := Ground.guard }], guard := some (3, false) }) (v := ?v4x4) rfl (by kernel_rfl) (by kernel_rfl) (by kernel_rfl) (fun _ _ _ h => h) (Or.inl ⟨by rfl, ?hy4x4⟩) hHeld ?rest4x4
     case hy4x4 => (intro w hSw; (try dsimp only at hSw); go_simp; try with_reducible rfl)
     simp only [Act.put, List.setIfInBounds_toArray, List.set_cons_zero, List.set_cons_succ]
     refine wpAnyH_take (i := 5) (oi := { dst := some 128, op := Op.binOp BinOp.lss 2 (Operand.tmp 127) (Operand.const (Value.int IntKind.i64 0)) 2, type := 4, pos := "l10_request.go:339", after := #[{ on := 4, ground := Ground.data }, { on := 3, ground := Ground.guard }], guard := some (3, false) }) (v := ?v4x5) rfl (by kernel_rfl) (by kernel_rfl) (by kernel_rfl) (fun _ _ _ h => h) (Or.inl ⟨by rfl, ?hy4x5⟩) hHeld ?rest4x5
     case hy4x5 => (intro w hSw; (try dsimp only at hSw); go_simp; try with_reducible rfl)
     simp only [Act.put, List.setIfInBounds_toArray, List.set_cons_zero, List.set_cons_succ]
     refine wpAnyH_take (i := 6) (oi := { dst := some 129, op := Op.pick (Operand.tmp 126) (Operand.const (Value.bool true)) (Operand.tmp 128), type := 4, pos := "l10_request.go:339", after := #[{ on := 3, ground := Ground.data }, { on := 5, ground := Ground.data }], guard := none }) (v := ?v4x6) rfl (by kernel_rfl) (by kernel_rfl) (by kernel_rfl) (fun _ _ _ h => h) (Or.inl ⟨by rfl, ?hy4x6⟩) hHeld ?rest4x6
     case hy4x6 => (intro w hSw; (try dsimp only at hSw); go_simp; try with_reducible rfl)
     simp only [Act.put, List.setIfInBounds_toArray, List.set_cons_zero, List.set_cons_succ]
     refine wpAnyH_take (i := 7) (oi := { dst := some 130, op := Op.move (Operand.tmp 129), type := 4, pos := "l10_request.go:339", after := #[{ on := 6, ground := Ground.data }, { on := 3, ground := Ground.chain }], guard := none }) (v := ?v4x7) rfl (by kernel_rfl) (by kernel_rfl) (by kernel_rfl) (fun _ _ _ h => h) (Or.inl ⟨by rfl, ?hy4x7⟩) hHeld ?rest4x7
     case hy4x7 => (intro w hSw; (try dsimp only at hSw); go_simp; try with_reducible rfl)
     simp only [Act.put, List.setIfInBounds_toArray, List.set_cons_zero, List.set_cons_succ]
     refine wpAnyH_take (i := 8) (oi := { dst := some 131, op := Op.move (Operand.tmp 12), type := 2, pos := "l10_request.go:339", after := #[{ on := 7, ground := Ground.guard }], guard := some (7, false) }) (v := ?v4x8) rfl (by kernel_rfl) (by kernel_rfl) (by kernel_rfl) (fun _ _ _ h => h) (Or.inl ⟨by rfl, ?hy4x8⟩) hHeld ?rest4x8
     case hy4x8 => (intro w hSw; (try dsimp only at hSw); go_simp; try with_reducible rfl)
     simp only [Act.put, List.setIfInBounds_toArray, List.set_cons_zero, List.set_cons_succ]
     refine wpAnyH_take (i := 9) (oi := { dst := some 132, op := Op.binOp BinOp.lss 2 (Operand.tmp 131) (Operand.const (Value.int IntKind.i64 0)) 2, type := 4, pos := "l10_request.go:339", after := #[{ on := 8, ground := Ground.data }, { on := 7, ground := Ground.guard }], guard := some (7, false) }) (v := ?v4x9) rfl (by kernel_rfl) (by kernel_rfl) (by kernel_rfl) (fun _ _ _ h => h) (Or.inl ⟨by rfl, ?hy4x9⟩) hHeld ?rest4x9
     case hy4x9 => (intro w hSw; (try dsimp only at hSw); go_simp; try with_reducible rfl)
     simp only [Act.put, List.setIfInBounds_toArray, List.set_cons_zero, List.set_cons_succ]
     refine wpAnyH_take (i := 10) (oi := { dst := some 133, op := Op.pick (Operand.tmp 130) (Operand.const (Value.bool true)) (Operand.tmp 132), type := 4, pos := "l10_request.go:339", after := #[{ on := 7, ground := Ground.data }, { on := 9, ground := Ground.data }], guard := none }) (v := ?v4x10) rfl (by kernel_rfl) (by kernel_rfl) (by kernel_rfl) (fun _ _ _ h => h) (Or.inl ⟨by rfl, ?hy4x10⟩) hHeld ?rest4x10
     case hy4x10 => (intro w hSw; (try dsimp only at hSw); go_simp; try with_reducible rfl)
     simp only [Act.put, List.setIfInBounds_toArray, List.set_cons_zero, List.set_cons_succ]
     refine wpAnyH_take (i := 11) (oi := { dst := some 134, op := Op.move (Operand.tmp 133), type := 4, pos := "l10_request.go:339", after := #[{ on := 10, ground := Ground.data }, { on := 7, ground := Ground.chain }], guard := none }) (v := ?v4x11) rfl (by kernel_rfl) (by kernel_rfl) (by kernel_rfl) (fun _ _ _ h => h) (Or.inl ⟨by rfl, ?hy4x11⟩) hHeld ?rest4x11
     case hy4x11 => (intro w hSw; (try dsimp only at hSw); go_simp; try with_reducible rfl)
     simp only [Act.put, List.setIfInBounds_toArray, List.set_cons_zero, List.set_cons_succ]
     refine wpAnyH_take (i := 12) (oi := { dst := some 135, op := Op.load 25 (Operand.tmp 3), type := 25, pos := "l10_request.go:339", after := #[{ on := 11, ground := Ground.guard }], guard := some (11, false) }) (v := ?v4x12) rfl (by kernel_rfl) (by kernel_rfl) (by kernel_rfl) (fun _ _ _ h => h) (Or.inl ⟨by rfl, ?hy4x12⟩) hHeld ?rest4x12
     case hy4x12 => (intro w hSw; (try dsimp only at hSw); go_simp; try with_reducible rfl)
     simp only [Act.put, List.setIfInBounds_toArray, List.set_cons_zero, List.set_cons_succ]
     refine wpAnyH_take (i := 13) (oi := { dst := some 136, op := Op.move (Operand.tmp 13), type := 28, pos := "l10_request.go:339", after := #[{ on := 11, ground := Ground.guard }], guard := some (11, false) }) (v := ?v4x13) rfl (by kernel_rfl) (by kernel_rfl) (by kernel_rfl) (fun _ _ _ h => h) (Or.inl ⟨by rfl, ?hy4x13⟩) hHeld ?rest4x13
     case hy4x13 => (intro w hSw; (try dsimp only at hSw); go_simp; try with_reducible rfl)
     simp only [Act.put, List.setIfInBounds_toArray, List.set_cons_zero, List.set_cons_succ]
     refine wpAnyH_ready (rs := [14]) (by kernel_rfl) (by simp) ?_
     refine AllReadyH.cons (o := { dst := some 137, op := Op.call { callee := Callee.value (Operand.func 48), args := #[Operand.tmp 135, Operand.tmp 136], argTypes := #[25, 28] }, type := 4, pos := "l10_request.go:339", after := #[{ on := 12, ground := Ground.data }, { on := 13, ground := Ground.data }, { on := 11, ground := Ground.chain }, { on := 11, ground := Ground.guard }], guard := some (11, false) }) rfl (fun K hK => ?_) AllReadyH.nil
     go_simp
     refine (KSG _ D1.out).out.mono ?_
     rintro e w8 ⟨rfl, hb8⟩
     have X38 := hid (RowAt.nxS hb8 X3d.out)
     have X68 := hid (RowAt.nxS hb8 X6d.out)
     have B8 := hid (Bd.out.trans (hb8.mono Bd.out.size))
     have D8 := hid hb8
     clear hb8
     go_wp2_with fail
     refine hK.out _ _ ?_ (fun hHeld => ?_)
     · exact ⟨⟨X38.out.cell 0, X38.out.cell 1⟩, ⟨X38.out.cell 2, X38.out.cell 3⟩, X38.out.cell 4, (CV.out w8 B8.out).2.2.2.2⟩
     clear hK K
     try simp only [Act.put, List.setIfInBounds_toArray, List.set_cons_zero, List.set_cons_succ]
     refine wpAnyH_take (i := 15) (oi := { dst := some 138, op := Op.unOp UnOp.not 4 (Operand.tmp 137), type := 4, pos := "l10_request.go:339", after := #[{ on := 14, ground := Ground.data }, { on := 11, ground := Ground.guard }], guard := some (11, false) }) (v := ?v4x15) rfl (by kernel_rfl) (by kernel_rfl) (by kernel_rfl) (fun _ _ _ h => h) (Or.inl ⟨by rfl, ?hy4x15⟩) hHeld ?rest4x15
     case hy4x15 => (intro w hSw; (try dsimp only at hSw); go_simp; try with_reducible rfl)
     simp only [Act.put, List.setIfInBounds_toArray, List.set_cons_zero, List.set_cons_succ]
     refine wpAnyH_take (i := 16) (oi := { dst := some 139, op := Op.pick (Operand.tmp 134) (Operand.const (Value.bool true)) (Operand.tmp 138), type := 4, pos := "l10_request.go:339", after := #[{ on := 11, ground := Ground.data }, { on := 15, ground := Ground.data }], guard := none }) (v := ?v4x16) rfl (by kernel_rfl) (by kernel_rfl) (by kernel_rfl) (fun _ _ _ h => h) (Or.inl ⟨by rfl, ?hy4x16⟩) hHeld ?rest4x16
     case hy4x16 => (intro w hSw; (try dsimp only at hSw); go_simp; try with_reducible rfl)
     simp only [Act.put, List.setIfInBounds_toArray, List.set_cons_zero, List.set_cons_succ]
     refine wpAnyH_take (i := 17) (oi := { dst := some 140, op := Op.move (Operand.tmp 139), type := 4, pos := "l10_request.go:339", after := #[{ on := 16, ground := Ground.data }, { on := 14, ground := Ground.chain }], guard := none }) (v := ?v4x17) rfl (by kernel_rfl) (by kernel_rfl) (by kernel_rfl) (fun _ _ _ h => h) (Or.inl ⟨by rfl, ?hy4x17⟩) hHeld ?rest4x17
     case hy4x17 => (intro w hSw; (try dsimp only at hSw); go_simp; try with_reducible rfl)
     simp only [Act.put, List.setIfInBounds_toArray, List.set_cons_zero, List.set_cons_succ]
     refine wpAnyH_take (i := 18) (oi := { dst := some 141, op := Op.move (Operand.tmp 14), type := 2, pos := "l10_request.go:339", after := #[{ on := 17, ground := Ground.guard }], guard := some (17, false) }) (v := ?v4x18) rfl (by kernel_rfl) (by kernel_rfl) (by kernel_rfl) (fun _ _ _ h => h) (Or.inl ⟨by rfl, ?hy4x18⟩) hHeld ?rest4x18
     case hy4x18 => (intro w hSw; (try dsimp only at hSw); go_simp; try with_reducible rfl)
     simp only [Act.put, List.setIfInBounds_toArray, List.set_cons_zero, List.set_cons_succ]
     refine wpAnyH_take (i := 19) (oi := { dst := some 142, op := Op.binOp BinOp.lss 2 (Operand.tmp 141) (Operand.const (Value.int IntKind.i64 0)) 2, type := 4, pos := "l10_request.go:339", after := #[{ on := 18, ground := Ground.data }, { on := 17, ground := Ground.guard }], guard := some (17, false) }) (v := ?v4x19) rfl (by kernel_rfl) (by kernel_rfl) (by kernel_rfl) (fun _ _ _ h => h) (Or.inl ⟨by rfl, ?hy4x19⟩) hHeld ?rest4x19
     case hy4x19 => (intro w hSw; (try dsimp only at hSw); go_simp; try with_reducible rfl)
     simp only [Act.put, List.setIfInBounds_toArray, List.set_cons_zero, List.set_cons_succ]
     refine wpAnyH_take (i := 20) (oi := { dst := some 143, op := Op.pick (Operand.tmp 140) (Operand.const (Value.bool true)) (Operand.tmp 142), type := 4, pos := "l10_request.go:339", after := #[{ on := 17, ground := Ground.data }, { on := 19, ground := Ground.data }], guard := none }) (v := ?v4x20) rfl (by kernel_rfl) (by kernel_rfl) (by kernel_rfl) (fun _ _ _ h => h) (Or.inl ⟨by rfl, ?hy4x20⟩) hHeld ?rest4x20
     case hy4x20 => (intro w hSw; (try dsimp only at hSw); go_simp; try with_reducible rfl)
     simp only [Act.put, List.setIfInBounds_toArray, List.set_cons_zero, List.set_cons_succ]
     refine wpAnyH_take (i := 21) (oi := { dst := some 144, op := Op.move (Operand.tmp 143), type := 4, pos := "l10_request.go:339", after := #[{ on := 20, ground := Ground.data }, { on := 17, ground := Ground.chain }], guard := none }) (v := ?v4x21) rfl (by kernel_rfl) (by kernel_rfl) (by kernel_rfl) (fun _ _ _ h => h) (Or.inl ⟨by rfl, ?hy4x21⟩) hHeld ?rest4x21
     case hy4x21 => (intro w hSw; (try dsimp only at hSw); go_simp; try with_reducible rfl)
     simp only [Act.put, List.setIfInBounds_toArray, List.set_cons_zero, List.set_cons_succ]
     refine wpAnyH_take (i := 22) (oi := { dst := some 145, op := Op.move (Operand.tmp 14), type := 2, pos := "l10_request.go:339", after := #[{ on := 21, ground := Ground.guard }], guard := some (21, false) }) (v := ?v4x22) rfl (by kernel_rfl) (by kernel_rfl) (by kernel_rfl) (fun _ _ _ h => h) (Or.inl ⟨by rfl, ?hy4x22⟩) hHeld ?rest4x22
     case hy4x22 => (intro w hSw; (try dsimp only at hSw); go_simp; try with_reducible rfl)
     simp only [Act.put, List.setIfInBounds_toArray, List.set_cons_zero, List.set_cons_succ]
     refine wpAnyH_take (i := 23) (oi := { dst := some 146, op := Op.binOp BinOp.geq 2 (Operand.tmp 145) (Operand.const (Value.int IntKind.i64 2147483647)) 2, type := 4, pos := "l10_request.go:339", after := #[{ on := 22, ground := Ground.data }, { on := 21, ground := Ground.guard }], guard := some (21, false) }) (v := ?v4x23) rfl (by kernel_rfl) (by kernel_rfl) (by kernel_rfl) (fun _ _ _ h => h) (Or.inl ⟨by rfl, ?hy4x23⟩) hHeld ?rest4x23
     case hy4x23 => (intro w hSw; (try dsimp only at hSw); go_simp; try with_reducible rfl)
     simp only [Act.put, List.setIfInBounds_toArray, List.set_cons_zero, List.set_cons_succ]
     refine wpAnyH_take (i := 24) (oi := { dst := some 147, op := Op.pick (Operand.tmp 144) (Operand.const (Value.bool true)) (Operand.tmp 146), type := 4, pos := "l10_request.go:339", after := #[{ on := 21, ground := Ground.data }, { on := 23, ground := Ground.data }], guard := none }) (v := ?v4x24) rfl (by kernel_rfl) (by kernel_rfl) (by kernel_rfl) (fun _ _ _ h => h) (Or.inl ⟨by rfl, ?hy4x24⟩) hHeld ?rest4x24
     case hy4x24 => (intro w hSw; (try dsimp only at hSw); go_simp; try with_reducible rfl)
     simp only [Act.put, List.setIfInBounds_toArray, List.set_cons_zero, List.set_cons_succ]
     refine wpAnyH_take (i := 25) (oi := { dst := some 148, op := Op.move (Operand.tmp 147), type := 4, pos := "l10_request.go:339", after := #[{ on := 24, ground := Ground.data }, { on := 21, ground := Ground.chain }], guard := none }) (v := ?v4x25) rfl (by kernel_rfl) (by kernel_rfl) (by kernel_rfl) (fun _ _ _ h => h) (Or.inl ⟨by rfl, ?hy4x25⟩) hHeld ?rest4x25
     case hy4x25 => (intro w hSw; (try dsimp only at hSw); go_simp; try with_reducible rfl)
     simp only [Act.put, List.setIfInBounds_toArray, List.set_cons_zero, List.set_cons_succ]
     refine wpAnyH_take (i := 26) (oi := { dst := some 149, op := Op.move (Operand.tmp 14), type := 2, pos := "l10_request.go:339", after := #[{ on := 25, ground := Ground.guard }], guard := some (25, false) }) (v := ?v4x26) rfl (by kernel_rfl) (by kernel_rfl) (by kernel_rfl) (fun _ _ _ h => h) (Or.inl ⟨by rfl, ?hy4x26⟩) hHeld ?rest4x26
     case hy4x26 => (intro w hSw; (try dsimp only at hSw); go_simp; try with_reducible rfl)
     simp only [Act.put, List.setIfInBounds_toArray, List.set_cons_zero, List.set_cons_succ]
     refine wpAnyH_take (i := 28) (oi := { dst := some 151, op := Op.fieldAddr 25 (Operand.tmp 3) 2, type := 0, pos := "l10_request.go:339", after := #[{ on := 25, ground := Ground.guard }], guard := some (25, false) }) (v := ?v4x28) rfl (by kernel_rfl) (by kernel_rfl) (by kernel_rfl) (fun _ _ _ h => h) (Or.inl ⟨by rfl, ?hy4x28⟩) hHeld ?rest4x28
     case hy4x28 => (intro w hSw; (try dsimp only at hSw); go_simp; try with_reducible rfl)
     simp only [Act.put, List.setIfInBounds_toArray, List.set_cons_zero, List.set_cons_succ]
     refine wpAnyH_take (i := 29) (oi := { dst := some 152, op := Op.load 23 (Operand.tmp 151), type := 23, pos := "l10_request.go:339", after := #[{ on := 28, ground := Ground.data }, { on := 25, ground := Ground.guard }], guard := some (25, false) }) (v := ?v4x29) rfl (by kernel_rfl) (by kernel_rfl) (by kernel_rfl) (fun _ _ _ h => h) (Or.inl ⟨by rfl, ?hy4x29⟩) hHeld ?rest4x29
     case hy4x29 => (intro w hSw; (try dsimp only at hSw); go_simp; try with_reducible rfl)
     simp only [Act.put, List.setIfInBounds_toArray, List.set_cons_zero, List.set_cons_succ]
     refine wpAnyH_take (i := 30) (oi := { dst := some 153, op := Op.move (Operand.tmp 7), type := 3, pos := "l10_request.go:339", after := #[{ on := 25, ground := Ground.guard }], guard := some (25, false) }) (v := ?v4x30) rfl (by kernel_rfl) (by kernel_rfl) (by kernel_rfl) (fun _ _ _ h => h) (Or.inl ⟨by rfl, ?hy4x30⟩) hHeld ?rest4x30
     case hy4x30 => (intro w hSw; (try dsimp only at hSw); go_simp; try with_reducible rfl)
     simp only [Act.put, List.setIfInBounds_toArray, List.set_cons_zero, List.set_cons_succ]
     refine wpAnyH_take (i := 31) (oi := { dst := some 154, op := Op.binOp BinOp.add 3 (Operand.tmp 153) (Operand.const (Value.int IntKind.i64 4)) 3, type := 3, pos := "l10_request.go:339", after := #[{ on := 30, ground := Ground.data }, { on := 25, ground := Ground.guard }], guard := some (25, false) }) (v := ?v4x31) rfl (by kernel_rfl) (by kernel_rfl) (by kernel_rfl) (fun _ _ _ h => h) (Or.inl ⟨by rfl, ?hy4x31⟩) hHeld ?rest4x31
     case hy4x31 => (intro w hSw; (try dsimp only at hSw); go_simp; try with_reducible rfl)
     simp only [Act.put, List.setIfInBounds_toArray, List.set_cons_zero, List.set_cons_succ]
     refine wpAnyH_take (i := 32) (oi := { dst := some 155, op := Op.indexAddr 23 (Operand.tmp 152) (Operand.tmp 154), type := 0, pos := "l10_request.go:339", after := #[{ on := 29, ground := Ground.data }, { on := 31, ground := Ground.data }, { on := 25, ground := Ground.guard }], guard := some (25, false) }) (v := ?v4x32) rfl (by kernel_rfl) (by kernel_rfl) (by kernel_rfl) (fun _ _ _ h => h) (Or.inl ⟨by rfl, ?hy4x32⟩) hHeld ?rest4x32
     case hy4x32 => (intro w hSw; (try dsimp only at hSw); go_simp; try with_reducible rfl)
     simp only [Act.put, List.setIfInBounds_toArray, List.set_cons_zero, List.set_cons_succ]
     refine wpAnyH_take (i := 33) (oi := { dst := some 156, op := Op.fieldAddr 66 (Operand.tmp 155) 1, type := 0, pos := "l10_request.go:339", after := #[{ on := 32, ground := Ground.data }, { on := 25, ground := Ground.guard }], guard := some (25, false) }) (v := ?v4x33) rfl (by kernel_rfl) (by kernel_rfl) (by kernel_rfl) (fun _ _ _ h => h) (Or.inl ⟨by rfl, ?hy4x33⟩) hHeld ?rest4x33
     case hy4x33 => (intro w hSw; (try dsimp only at hSw); go_simp; try with_reducible rfl)
     simp only [Act.put, List.setIfInBounds_toArray, List.set_cons_zero, List.set_cons_succ]
     refine wpAnyH_take (i := 34) (oi := { dst := some 157, op := Op.load 9 (Operand.tmp 156), type := 9, pos := "l10_request.go:339", after := #[{ on := 33, ground := Ground.data }, { on := 25, ground := Ground.guard }], guard := some (25, false) }) (v := ?v4x34) rfl (by kernel_rfl) (by kernel_rfl) (by kernel_rfl) (fun _ _ _ h => h) (Or.inl ⟨by rfl, ?hy4x34⟩) hHeld ?rest4x34
     case hy4x34 => (intro w hSw; (try dsimp only at hSw); go_simp; try with_reducible rfl)
     simp only [Act.put, List.setIfInBounds_toArray, List.set_cons_zero, List.set_cons_succ]
     refine wpAnyH_ready (rs := [27]) (by kernel_rfl) (by simp) ?_
     refine AllReadyH.cons (o := { dst := some 150, op := Op.call { callee := Callee.value (Operand.func 50), args := #[Operand.tmp 149], argTypes := #[2] }, type := 9, pos := "l10_request.go:339", after := #[{ on := 26, ground := Ground.data }, { on := 25, ground := Ground.chain }, { on := 25, ground := Ground.guard }], guard := some (25, false) }) rfl (fun K hK => ?_) AllReadyH.nil
     go_simp
     refine (KDC _).out.mono ?_
     rintro e w9 ⟨rfl, hb9⟩
     have X39 := hid (RowAt.nxS hb9 X38.out)
     have X69 := hid (RowAt.nxS hb9 X68.out)
     have B9 := hid (B8.out.trans (hb9.mono B8.out.size))
     have D9 := hid (D8.out.trans (hb9.mono D8.out.size))
     clear hb9
     go_wp2_with fail
     refine hK.out _ _ ?_ (fun hHeld => ?_)
     · exact ⟨⟨X39.out.cell 0, X39.out.cell 1⟩, ⟨X39.out.cell 2, X39.out.cell 3⟩, X39.out.cell 4, (CV.out w9 B9.out).2.2.2.2⟩
     clear hK K
     try simp only [Act.put, List.setIfInBounds_toArray, List.set_cons_zero, List.set_cons_succ]
     refine wpAnyH_take (i := 35) (oi := { dst := some 158, op := Op.binOp BinOp.neq 9 (Operand.tmp 150) (Operand.tmp 157) 9, type := 4, pos := "l10_request.go:339", after := #[{ on := 27, ground := Ground.data }, { on := 34, ground := Ground.data }, { on := 25, ground := Ground.guard }], guard := some (25, false) }) (v := ?v4x35) rfl (by kernel_rfl) (by kernel_rfl) (by kernel_rfl) (fun _ _ _ h => h) (Or.inl ⟨by rfl, ?hy4x35⟩) hHeld ?rest4x35
     case hy4x35 => (intro w hSw; (try dsimp only at hSw); go_simp; try with_reducible rfl)
     simp only [Act.put, List.setIfInBounds_toArray, List.set_cons_zero, List.set_cons_succ]
     refine wpAnyH_take (i := 36) (oi := { dst := some 159, op := Op.pick (Operand.tmp 148) (Operand.const (Value.bool true)) (Operand.tmp 158), type := 4, pos := "l10_request.go:339", after := #[{ on := 25, ground := Ground.data }, { on := 35, ground := Ground.data }], guard := none }) (v := ?v4x36) rfl (by kernel_rfl) (by kernel_rfl) (by kernel_rfl) (fun _ _ _ h => h) (Or.inl ⟨by rfl, ?hy4x36⟩) hHeld ?rest4x36
     case hy4x36 => (intro w hSw; (try dsimp only at hSw); go_simp; try with_reducible rfl)
     simp only [Act.put, List.setIfInBounds_toArray, List.set_cons_zero, List.set_cons_succ]
     refine wpAnyH_done (by kernel_rfl) ?_ _
     cases b5
     case false =>
      have e5 : DD ≠ V4 := fun h => by have := HB5.out; rw [h] at this; simp at this
      exact ((fun q => e5 (by rw [HDD.out, HSN.out]; exact (ofL_of (smP_num (by rw [HV.out.2.2.2.2]; exact q.1.2.2.2.2.2.2.2)).2.2).symm) : ¬ (ckP ⟨mt, pt, ⟨some ⟨qb, qo, none⟩, n1, c1, o1⟩, ⟨a2, n2, c2, o2⟩, bd⟩ ∧ n ≤ 100)) HCK.out).elim
     have e5 : DD = V4 := by have := HB5.out; rw [ba_beqS2] at this; simpa using this.symm
     have CP : Hid (ckP ⟨mt, pt, ⟨some ⟨qb, qo, none⟩, n1, c1, o1⟩, ⟨a2, n2, c2, o2⟩, bd⟩ ∧ n ≤ 100) := ⟨⟨H1.out, by have := HM4.out.2; show 5 ≤ n1; omega, AO.out, by rw [← HV.out.1]; exact I1.out, by rw [← HV.out.2.1]; exact TM0.out, by rw [← HV.out.2.2.1]; exact TM1.out, by rw [HSL.out, ← HTS.out]; exact G1.out, by rw [← HV.out.2.2.2.2]; exact ⟨SN, LT1.out, by rw [← e5, HDD.out, ofL_l]⟩⟩, h3⟩
     have HV4 : Hid (V4 = ofL (Lib.decDigits SN)) := by rw [← e5, HDD.out]; rfl
     clear e5 HDD LT1
     have D2 : Hid (Below W7.heap.size W7 w9) := D1.out.trans (D9.out.mono D1.out.size)
     clear KDC KSG KID D1 X3d X6d Bd X38 X68 B8 sb0 sb1 sb2
     go_wp2_with fail
     go_loopw [15, 16] (fun a v wx => ∃ j : Nat, j ≤ n ∧ v = .int .i64 ((j : Int) - 1) ∧ ((a = .int .i64 (-1) ∧ ∀ q, j ≤ q → q < n → (ks q).id ≠ V0) ∨ (∃ q : Nat, a = .int .i64 (q : Int) ∧ j ≤ q ∧ q < n ∧ (ks q).id = V0 ∧ ∀ q2, j ≤ q2 → q2 < q → (ks q2).id ≠ V0)) ∧ wx = w9) (fun _ v _ => (intOf v + 1).toNat)
     case atStart => exact ⟨n, Nat.le_refl _, rfl, .inl ⟨rfl, fun q h1 h2 => absurd h1 (by omega)⟩, rfl⟩
     case round =>
      obtain ⟨j, hj, rfl, ha, hww⟩ := hrel
      obtain rfl := hww.symm
      clear hww
      cases j with
      | succ k =>
       -- DBG<
       have HA := hid ha
       clear ha
       have k0 : (0 : Int) ≤ (k : Int) := by omega
       have kn : (k : Int) < (n : Int) := by omega
       have kn2 : k < n := by omega
       have ek : (((k + 1 : Nat) : Int) - 1) = (k : Int) := by omega
       rw [ek]
       rcases (HK.out.below B9.out).2 with q0 | ⟨bk, ok, rfl, hbk, hck⟩
       · omega
       obtain ⟨yk0, _⟩ := hck k kn2
       obtain ⟨KI2, hKI2⟩ : ∃ t, t = (ks k).id := ⟨_, rfl⟩
       rw [← hKI2] at yk0
       have HKI := hid hKI2
       clear hck hKI2 ek
       by_cases e6 : KI2 = V0
       · have BQ6 : (KI2.toList == V0.toList) = true := by rw [ba_beqS2]; simp [e6]
         have N6 : Hid ((ks k).id = V0) := by rw [← HKI.out]; exact e6
         clear e6
         go_wp2
         go_roundw
         case rel => exact ⟨k, by omega, rfl, .inr ⟨k, rfl, Nat.le_refl _, kn2, N6.out, fun q2 h1 h2 => absurd h1 (by omega)⟩, by first | rfl | trivial⟩
         case measure => first | (simp [intOf]; omega) | simp [intOf]
       · have BQ6 : (KI2.toList == V0.toList) = false := by rw [ba_beqS2]; simp [e6]
         have N6 : Hid ((ks k).id ≠ V0) := by rw [← HKI.out]; exact e6
         clear e6
         rcases HA.out with ⟨rfl, hno⟩ | ⟨q, rfl, h1, h2, h4, h5⟩
         · have NN : Hid (∀ q, k ≤ q → q < n → (ks q).id ≠ V0) := fun q h1 h2 => by
            by_cases e : q = k
            · rw [e]; exact N6.out
            · exact hno q (by omega) h2
           clear hno HA
           go_wp2
           go_roundw
           case rel => exact ⟨k, by omega, rfl, .inl ⟨rfl, NN.out⟩, by first | rfl | trivial⟩
           case measure => first | (simp [intOf]; omega) | simp [intOf]
         · have NN : Hid (∀ q2, k ≤ q2 → q2 < q → (ks q2).id ≠ V0) := fun q2 g1 g2 => by
            by_cases e : q2 = k
            · rw [e]; exact N6.out
            · exact h5 q2 (by omega) g2
           have H4 := hid h4
           clear h5 h4 HA
           go_wp2
           go_roundw
           case rel => exact ⟨k, by omega, rfl, .inr ⟨q, rfl, by omega, h2, H4.out, NN.out⟩, by first | rfl | trivial⟩
           case measure => first | (simp [intOf]; omega) | simp [intOf]
       -- DBG>
      | zero =>
       rcases ha with ⟨rfl, hno⟩ | ⟨q, rfl, _, hqn, hq4, hq5⟩
       · have NO : Hid (RR = (5, ⟨#[]⟩)) := by rw [HRR.out]; exact ckR_5 CP.out (by rw [← HV.out.1]; exact fstK_none fun q h => hno q (Nat.zero_le _) h)
         clear hno
         go_wp2_with (refine wpList_store_row rfl 35 (.tmp 6) (.tmp 178) rfl (w.heap.size + 1) #[.int .i64 5, .string ⟨#[]⟩] rfl rfl _ _ X69.out (by kernel_rfl) rfl (by simp [Value.oneCell']) ?_)
         refine bodyPost_ret (v := .agg #[.int .i64 5, .string ⟨#[]⟩]) ?_ rfl ⟨by rw [NO.out], below_setRow B9.out _ _ (by omega)⟩
         exact results_cell_row Tryz.results15 _ _ (w.heap.size + 1) _ _ _ _ rfl (X69.out.setRow _) Tryz.underlying35 rfl (by kernel_rfl)
       have FS : Hid (fstK ks (ckV ⟨mt, pt, ⟨some ⟨qb, qo, none⟩, n1, c1, o1⟩, ⟨a2, n2, c2, o2⟩, bd⟩ 0) n = some q) := by rw [← HV.out.1]; exact fstK_first hqn (fun q2 h => hq5 q2 (Nat.zero_le _) h) hq4
       clear hq4 hq5
       have qn : ¬ (q : Int) < 0 := by omega
       rcases (HK.out.below B9.out).2 with q0 | ⟨bk, ok, rfl, hbk, hck⟩
       · omega
       have CK : Hid (∀ wx, Below w9.heap.size w9 wx → wx.cell? ⟨bk, ok + q * 2 + 1, none⟩ = some (.string (ks q).sec)) := fun wx hbx => (hbx.cell (p := ⟨bk, ok + q * 2 + 1, none⟩) hbk).trans (hck q hqn).2
       obtain ⟨SEC, hSEC⟩ : ∃ t, t = (ks q).sec := ⟨_, rfl⟩
       rw [← hSEC] at CK
       have HSEC := hid hSEC
       have q00 : (0 : Int) ≤ (q : Int) := by omega
       have qlt : (q : Int) < (n : Int) := by omega
       clear hck hSEC
       have x0 := X39.out.cell 0
       have x1 := X39.out.cell 1
       have x2 := X39.out.cell 2
       have x3 := X39.out.cell 3
       have x4 := X39.out.cell 4
       obtain ⟨X17, hX17⟩ : ∃ X, X = w9.heap.size := ⟨_, rfl⟩
       obtain ⟨W10, hW10⟩ : ∃ W, W = w9.alloc (.cells #[.string mt, .string pt, .slice (some ⟨qb, qo, none⟩) n1 c1, .slice a2 n2 c2, .string bd] 25) := ⟨_, rfl⟩
       have R17 : Hid (RowAt W10 X17 25 #[.string mt, .string pt, .slice (some ⟨qb, qo, none⟩) n1 c1, .slice a2 n2 c2, .string bd]) := by rw [hW10, hX17]; exact RowAt.new _ _ _
       have b910 : Hid (Below w9.heap.size w9 W10) := by rw [hW10]; exact (Below.refl _ _).alloc (Nat.le_refl _) _
       have HW10 := hid hW10
       have HX17 := hid hX17
       clear hW10 hX17
       go_upto_region 28 with ((refine wpList_store_row rfl 25 (.tmp 17) (.tmp 179) rfl w9.heap.size #[.string mt, .string pt, .slice (some ⟨qb, qo, none⟩) n1 c1, .slice a2 n2 c2, .string bd] rfl rfl _ _ (RowAt.new w9 _ _) (by kernel_rfl) rfl (by simp [Value.oneCell']) ?_); rw [World.setRow_alloc_new])
       rw [← HW10.out, ← HX17.out]
       clear x0 x1 x2 x3 x4
       obtain ⟨W11, hW11⟩ : ∃ W, W = W10.alloc (.cells #[] 66) := ⟨_, rfl⟩
       have b911 : Hid (Below w9.heap.size w9 W11) := by rw [hW11]; exact b910.out.alloc b910.out.size _
       have QC : Hid (∀ k, k < m4 → W11.cell? ⟨qb, qo + k * 2, none⟩ = some (.string (hAt (hpList o1 m4) k).nm) ∧ W11.cell? ⟨qb, qo + k * 2 + 1, none⟩ = some (.string (hAt (hpList o1 m4) k).vl)) := fun k hk => by
        rcases (HIN.out.below (B9.out.trans (b911.out.mono B9.out.size))).qs.2 with q0 | ⟨b, off, hqe, hbl, hc⟩
        · dsimp only at q0; have := HM4.out; omega
        cases hqe
        rw [hAt_list _ _ _ hk]
        exact hc k (by dsimp only; have := HM4.out; omega)
       have cap1 : n1 ≤ c1 := HIN.out.qs.1
       have l5 : (m4 : Int) ≤ (c1 : Int) := by have := HM4.out; omega
       have l6 : (m4 : Int) ≤ (n1 : Int) := by have := HM4.out; omega
       have x2 : (W10.alloc (.cells #[] 66)).cell? ⟨w.heap.size, 2, none⟩ = some (.slice (some ⟨qb, qo, none⟩) n1 c1) := by rw [← hW11]; exact (X39.out.below b911.out X39.out.lt).cell 2
       have R17b : Hid (RowAt W11 X17 25 #[.string mt, .string pt, .slice (some ⟨qb, qo, none⟩) n1 c1, .slice a2 n2 c2, .string bd]) := by rw [hW11]; exact R17.out.alloc _
       have HW11 := hid hW11
       have OE : Hid (OwnHp W11 W10.heap.size (.slice (some ⟨W10.heap.size, 0, none⟩) 0 0) []) := by rw [hW11]; exact OwnHp.empty W10
       have z11 : W10.heap.size ≤ W11.heap.size := by rw [hW11]; simp
       have lm4 : (hpList o1 m4).length = m4 := hpList_len _ _
       clear hW11
       go_upto_region 29 with (at_builtin; rw [← HW11.out]; refine append_hps W10.heap.size W11 rfl (.tmp 180) (.tmp 185) 23 rfl Tryz.underlying23 Tryz.infoHpG _ [] rfl OE.out z11 qb qo m4 c1 (hpList o1 m4) rfl lm4 QC.out (by simp; have := HM4.out; omega) ?_; intro v7 w12 hO7 hg7; rw [List.nil_append] at hO7; have R17c := row_grown R17b.out hg7 (OwnHp.neRowS OE.out R17b.out (by decide)); have t2 := R17c.cell 2; have f2 := R17c.free 2; obtain ⟨g7, c7, hv7, hg8, hg9, hg10, hcc7⟩ := hO7.shape (by rw [lm4]; have := HM4.out; omega); rw [lm4] at hv7; subst hv7)
       obtain ⟨W13, hW13⟩ : ∃ W, W = w12.setCell ⟨X17, 2, none⟩ (.slice (some ⟨g7, 0, none⟩) m4 c7) := ⟨_, rfl⟩
       have R17d : Hid (RowAt W13 X17 25 #[.string mt, .string pt, .slice (some ⟨g7, 0, none⟩) m4 c7, .slice a2 n2 c2, .string bd]) := by rw [hW13]; exact R17c.set 2 _
       have x17l : w9.heap.size ≤ X17 := by rw [HX17.out]; exact Nat.le_refl _
       have b12 : Below w9.heap.size w9 w12 := b911.out.grown hg7 b911.out.size (fun j hj => by have := (World.ownsRow.lt OE.out j hj).1; have := b910.out.size; omega)
       have b13 : Hid (Below w9.heap.size w9 W13) := by rw [hW13]; exact b12.setCell (by simp; omega) _
       have O13 : Hid (OwnHp W13 W10.heap.size (.slice (some ⟨g7, 0, none⟩) m4 c7) (hpList o1 m4)) := by rw [hW13]; exact OwnHp.setCellS hO7 (OwnHp.neRowS hO7 R17c (by decide))
       have HW13 := hid hW13
       have B13 := hid (B9.out.trans (b13.out.mono B9.out.size))
       have X313 := hid (X39.out.below b13.out X39.out.lt)
       have X613 := hid (X69.out.below b13.out X69.out.lt)
       rw [← HW13.out]
       clear hW13 b12 hO7 hg7 R17c t2 f2 hg8 hg9 hg10 hcc7 x2 R17b QC OE z11 HW11 b911 R17 HW10 b910 HW13
       have yk := CK.out W13 b13.out
       obtain ⟨y0, y1, y2, y3, y4⟩ := CV.out W13 B13.out
       have x2 := X313.out.cell 2
       by_cases sa : 1 ≤ SEC.size
       case neg =>
        have NO : Hid (RR = (12, ⟨#[]⟩)) := by rw [HRR.out]; exact ckR_12 CP.out FS.out (fun q => sa (by rw [HSEC.out]; exact q.1.1))
        have d7 : (SEC.size : Int) < 1 := by omega
        have d8 : decide ((SEC.size : Int) < 1) = true := decide_eq_true d7
        go_quiet (fail)
        rename_i nq
        have X6q : Hid (RowAt (W13.drewN nq) (w.heap.size + 1) 35 #[.int .i64 0, .string ⟨#[]⟩]) := X613.out
        have Bq : Hid (Below w.heap.size w (W13.drewN nq)) := bdNS B13.out nq
        go_wp2_with (refine wpList_store_row rfl 35 (.tmp 6) (.tmp 222) rfl (w.heap.size + 1) #[.int .i64 12, .string ⟨#[]⟩] rfl rfl _ _ X6q.out (by kernel_rfl) rfl (by simp [Value.oneCell']) ?_)
        refine bodyPost_ret (v := .agg #[.int .i64 12, .string ⟨#[]⟩]) ?_ rfl ⟨by rw [NO.out], below_setRow Bq.out _ _ (by omega)⟩
        exact results_cell_row Tryz.results15 _ _ (w.heap.size + 1) _ _ _ _ rfl (X6q.out.setRow _) Tryz.underlying35 rfl (by kernel_rfl)
       have d9 : ¬ (SEC.size : Int) < 1 := by omega
       have d10 : decide ((SEC.size : Int) < 1) = false := decide_eq_false d9
       by_cases sb : SEC.size ≤ 100
       case neg =>
        have NO : Hid (RR = (12, ⟨#[]⟩)) := by rw [HRR.out]; exact ckR_12 CP.out FS.out (fun q => sb (by rw [HSEC.out]; exact q.1.2))
        have d7 : (100 : Int) < (SEC.size : Int) := by omega
        have d8 : decide ((100 : Int) < (SEC.size : Int)) = true := decide_eq_true d7
        go_quiet (fail)
        rename_i nq
        have X6q : Hid (RowAt (W13.drewN nq) (w.heap.size + 1) 35 #[.int .i64 0, .string ⟨#[]⟩]) := X613.out
        have Bq : Hid (Below w.heap.size w (W13.drewN nq)) := bdNS B13.out nq
        go_wp2_with (refine wpList_store_row rfl 35 (.tmp 6) (.tmp 222) rfl (w.heap.size + 1) #[.int .i64 12, .string ⟨#[]⟩] rfl rfl _ _ X6q.out (by kernel_rfl) rfl (by simp [Value.oneCell']) ?_)
        refine bodyPost_ret (v := .agg #[.int .i64 12, .string ⟨#[]⟩]) ?_ rfl ⟨by rw [NO.out], below_setRow Bq.out _ _ (by omega)⟩
        exact results_cell_row Tryz.results15 _ _ (w.heap.size + 1) _ _ _ _ rfl (X6q.out.setRow _) Tryz.underlying35 rfl (by kernel_rfl)
       have d11 : ¬ (100 : Int) < (SEC.size : Int) := by omega
       have d12 : decide ((100 : Int) < (SEC.size : Int)) = false := decide_eq_false d11
       have RBP : rqP ⟨mt, pt, ⟨some ⟨g7, 0, none⟩, m4, c7, hAt (hpList o1 m4)⟩, ⟨a2, n2, c2, o2⟩, bd⟩ := bare_P (by have := HM4.out; omega) H1.out
       have TSZ : ∀ i, i < sL → (TS i).size ≤ 1000 := fun i hi => Nat.le_trans (sgn_sz H1.out G1.out i hi) (by omega)
       have KSM := fun wx hb1 hb2 => hid (sSum10 mt pt g7 0 m4 c7 (hAt (hpList o1 m4)) a2 n2 c2 o2 bd RBP SEC sb sA sL sc TS G1.out.2 TSZ wx hb1 hb2)
       have STW : Hid (∀ wx, Below W13.heap.size W13 wx → RqIn wx ⟨mt, pt, ⟨some ⟨g7, 0, none⟩, m4, c7, hAt (hpList o1 m4)⟩, ⟨a2, n2, c2, o2⟩, bd⟩ ∧ Strs wx sA sL sc TS) := fun wx hbx => ⟨⟨by have := O13.out.hps; rw [lm4] at this; obtain ⟨a8, c8, e8, h8⟩ := this; cases e8; exact h8.below hbx, (HIN.out.below (B13.out.trans (hbx.mono B13.out.size))).hs⟩, by rw [HTS.out]; exact (ST.out.below (D2.out.trans ((b13.out.trans (hbx.mono b13.out.size)).mono D2.out.size)))⟩
       obtain ⟨SG, hSG⟩ : ∃ v, v = sgS ⟨mt, pt, ⟨some ⟨g7, 0, none⟩, m4, c7, hAt (hpList o1 m4)⟩, ⟨a2, n2, c2, o2⟩, bd⟩ SEC TS sL := ⟨_, rfl⟩
       rw [← hSG] at KSM
       have SGB : 0 ≤ SG := by rw [hSG]; exact (sgS_bd RBP SEC sb TS sL G1.out.2 TSZ).1
       have HSQ : Hid (SG = (SN : Int) ↔ smQ ⟨mt, pt, ⟨some ⟨qb, qo, none⟩, n1, c1, o1⟩, ⟨a2, n2, c2, o2⟩, bd⟩ (ks q).sec) := by
        have e9 := bare_S (a := some ⟨qb, qo, none⟩) (c1 := c1) (some ⟨g7, 0, none⟩) c7 mt pt bd o1 a2 n2 c2 o2 SEC TS sL (show n1 - 1 = m4 by have := HM4.out; omega)
        unfold smQ
        rw [hSG, e9, HTS.out, ← HV.out.2.2.2.2, ← HSN.out, ← HSEC.out, HSL.out]
        exact ⟨fun h => ⟨⟨sa, sb⟩, h⟩, fun h => h.2⟩
       obtain ⟨SD, hSD⟩ : ∃ v, v = ofL (Lib.decDigits SG.toNat) := ⟨_, rfl⟩
       rw [← hSD] at KSM
       have HSD := hid hSD
       clear hSD hSG
       have R17e : Hid (RowAt W13.drew X17 25 #[.string mt, .string pt, .slice (some ⟨g7, 0, none⟩) m4 c7, .slice a2 n2 c2, .string bd]) := R17d.out
       have X313e : Hid (RowAt W13.drew w.heap.size 25 #[.string mt, .string pt, .slice (some ⟨qb, qo, none⟩) n1 c1, .slice a2 n2 c2, .string bd]) := X313.out
       have X613e : Hid (RowAt W13.drew (w.heap.size + 1) 35 #[.int .i64 0, .string ⟨#[]⟩]) := X613.out
       have B13e : Hid (Below w.heap.size w W13.drew) := B13.out.drew
       have b13e : Hid (Below w9.heap.size w9 W13.drew) := b13.out.drew
       have E13 : Hid (Below W13.heap.size W13 W13.drew) := (Below.refl _ _).drew
       have wm4 : IntKind.i64.wrap (m4 : Int) = (m4 : Int) := wrap_of_nat m4 (by have := HM4.out; omega)
       clear yk y0 y1 y2 y3 y4 x2
       obtain ⟨b7, hb7⟩ : ∃ b, b = (SD.toList == V4.toList) := ⟨_, rfl⟩
       have BQ7 : (SD.toList == V4.toList) = b7 := hb7.symm
       have HB7 := hid hb7
       clear hb7
       refine wp_region_held_drew (S := fun wx => (wx.cell? ⟨X17, 0, none⟩ = some (.string mt) ∧ wx.cell? ⟨X17, 1, none⟩ = some (.string pt)) ∧ (wx.cell? ⟨X17, 2, none⟩ = some (.slice (some ⟨g7, 0, none⟩) m4 c7) ∧ wx.cell? ⟨X17, 3, none⟩ = some (.slice a2 n2 c2)) ∧ wx.cell? ⟨X17, 4, none⟩ = some (.string bd) ∧ wx.cell? ⟨bk, ok + q * 2 + 1, none⟩ = some (.string SEC) ∧ wx.cell? ⟨w.heap.size, 2, none⟩ = some (.slice (some ⟨qb, qo, none⟩) n1 c1) ∧ wx.cell? ⟨qb, qo + m4 * 2 + 1, none⟩ = some (.string V4)) (by kernel_rfl) ?_ (fun hHeld => ?_)
       · exact ⟨⟨R17e.out.cell 0, R17e.out.cell 1⟩, ⟨R17e.out.cell 2, R17e.out.cell 3⟩, R17e.out.cell 4, CK.out _ b13e.out, X313e.out.cell 2, (CV.out _ B13e.out).2.2.2.2⟩
       refine wpAnyH_take (i := 0) (oi := { dst := some 188, op := Op.move (Operand.tmp 1), type := 33, pos := "l10_request.go:353", after := #[], guard := none }) (v := ?v5x0) rfl (by kernel_rfl) (by kernel_rfl) (by kernel_rfl) (fun _ _ _ h => h) (Or.inl ⟨by rfl, ?hy5x0⟩) hHeld ?rest5x0
       case hy5x0 => (intro w hSw; (try dsimp only at hSw); go_simp; try with_reducible rfl)
       simp only [Act.put, List.setIfInBounds_toArray, List.set_cons_zero, List.set_cons_succ]
       refine wpAnyH_take (i := 1) (oi := { dst := some 189, op := Op.move (Operand.tmp 15), type := 3, pos := "l10_request.go:353", after := #[], guard := none }) (v := ?v5x1) rfl (by kernel_rfl) (by kernel_rfl) (by kernel_rfl) (fun _ _ _ h => h) (Or.inl ⟨by rfl, ?hy5x1⟩) hHeld ?rest5x1
       case hy5x1 => (intro w hSw; (try dsimp only at hSw); go_simp; try with_reducible rfl)
       simp only [Act.put, List.setIfInBounds_toArray, List.set_cons_zero, List.set_cons_succ]
       refine wpAnyH_take (i := 2) (oi := { dst := some 190, op := Op.indexAddr 33 (Operand.tmp 188) (Operand.tmp 189), type := 0, pos := "l10_request.go:353", after := #[{ on := 0, ground := Ground.data }, { on := 1, ground := Ground.data }], guard := none }) (v := ?v5x2) rfl (by kernel_rfl) (by kernel_rfl) (by kernel_rfl) (fun _ _ _ h => h) (Or.inl ⟨by rfl, ?hy5x2⟩) hHeld ?rest5x2
       case hy5x2 => (intro w hSw; (try dsimp only at hSw); go_simp; try with_reducible rfl)
       simp only [Act.put, List.setIfInBounds_toArray, List.set_cons_zero, List.set_cons_succ]
       refine wpAnyH_take (i := 3) (oi := { dst := some 191, op := Op.fieldAddr 27 (Operand.tmp 190) 1, type := 0, pos := "l10_request.go:353", after := #[{ on := 2, ground := Ground.data }], guard := none }) (v := ?v5x3) rfl (by kernel_rfl) (by kernel_rfl) (by kernel_rfl) (fun _ _ _ h => h) (Or.inl ⟨by rfl, ?hy5x3⟩) hHeld ?rest5x3
       case hy5x3 => (intro w hSw; (try dsimp only at hSw); go_simp; try with_reducible rfl)
       simp only [Act.put, List.setIfInBounds_toArray, List.set_cons_zero, List.set_cons_succ]
       refine wpAnyH_take (i := 4) (oi := { dst := some 192, op := Op.load 9 (Operand.tmp 191), type := 9, pos := "l10_request.go:353", after := #[{ on := 3, ground := Ground.data }], guard := none }) (v := ?v5x4) rfl (by kernel_rfl) (by kernel_rfl) (by kernel_rfl) (fun _ _ _ h => h) (Or.inl ⟨by rfl, ?hy5x4⟩) hHeld ?rest5x4
       case hy5x4 => (intro w hSw; (try dsimp only at hSw); go_simp; try with_reducible rfl)
       simp only [Act.put, List.setIfInBounds_toArray, List.set_cons_zero, List.set_cons_succ]
       refine wpAnyH_take (i := 5) (oi := { dst := some 193, op := Op.call { callee := Callee.builtin Builtin.len, args := #[Operand.tmp 192], argTypes := #[9] }, type := 3, pos := "l10_request.go:353", after := #[{ on := 4, ground := Ground.data }], guard := none }) (v := ?v5x5) rfl (by kernel_rfl) (by kernel_rfl) (by kernel_rfl) (fun _ _ _ h => h) (Or.inl ⟨by rfl, ?hy5x5⟩) hHeld ?rest5x5
       case hy5x5 => (intro w hSw; (try dsimp only at hSw); go_simp; try with_reducible rfl)
       simp only [Act.put, List.setIfInBounds_toArray, List.set_cons_zero, List.set_cons_succ]
       refine wpAnyH_take (i := 6) (oi := { dst := some 194, op := Op.binOp BinOp.lss 3 (Operand.tmp 193) (Operand.const (Value.int IntKind.i64 1)) 3, type := 4, pos := "l10_request.go:353", after := #[{ on := 5, ground := Ground.data }], guard := none }) (v := ?v5x6) rfl (by kernel_rfl) (by kernel_rfl) (by kernel_rfl) (fun _ _ _ h => h) (Or.inl ⟨by rfl, ?hy5x6⟩) hHeld ?rest5x6
       case hy5x6 => (intro w hSw; (try dsimp only at hSw); go_simp; try with_reducible rfl)
       simp only [Act.put, List.setIfInBounds_toArray, List.set_cons_zero, List.set_cons_succ]
       refine wpAnyH_take (i := 7) (oi := { dst := some 195, op := Op.move (Operand.tmp 194), type := 4, pos := "l10_request.go:353", after := #[{ on := 6, ground := Ground.data }], guard := none }) (v := ?v5x7) rfl (by kernel_rfl) (by kernel_rfl) (by kernel_rfl) (fun _ _ _ h => h) (Or.inl ⟨by rfl, ?hy5x7⟩) hHeld ?rest5x7
       case hy5x7 => (intro w hSw; (try dsimp only at hSw); go_simp; try with_reducible rfl)
       simp only [Act.put, List.setIfInBounds_toArray, List.set_cons_zero, List.set_cons_succ]
       refine wpAnyH_take (i := 8) (oi := { dst := some 196, op := Op.move (Operand.tmp 1), type := 33, pos := "l10_request.go:353", after := #[{ on := 7, ground := Ground.guard }], guard := some (7, false) }) (v := ?v5x8) rfl (by kernel_rfl) (by kernel_rfl) (by kernel_rfl) (fun _ _ _ h => h) (Or.inl ⟨by rfl, ?hy5x8⟩) hHeld ?rest5x8
       case hy5x8 => (intro w hSw; (try dsimp only at hSw); go_simp; try with_reducible rfl)
       simp only [Act.put, List.setIfInBounds_toArray, List.set_cons_zero, List.set_cons_succ]
       refine wpAnyH_take (i := 9) (oi := { dst := some 197, op := Op.move (Operand.tmp 15), type := 3, pos := "l10_request.go:353", after := #[{ on := 7, ground := Ground.guard }], guard := some (7, false) }) (v := ?v5x9) rfl (by kernel_rfl) (by kernel_rfl) (by kernel_rfl) (fun _ _ _ h => h) (Or.inl ⟨by rfl, ?hy5x9⟩) hHeld ?rest5x9
       case hy5x9 => (intro w hSw; (try dsimp only at hSw); go_simp; try with_reducible rfl)
       simp only [Act.put, List.setIfInBounds_toArray, List.set_cons_zero, List.set_cons_succ]
       refine wpAnyH_take (i := 10) (oi := { dst := some 198, op := Op.indexAddr 33 (Operand.tmp 196) (Operand.tmp 197), type := 0, pos := "l10_request.go:353", after := #[{ on := 8, ground := Ground.data }, { on := 9, ground := Ground.data }, { on := 7, ground := Ground.guard }], guard := some (7, false) }) (v := ?v5x10) rfl (by kernel_rfl) (by kernel_rfl) (by kernel_rfl) (fun _ _ _ h => h) (Or.inl ⟨by rfl, ?hy5x10⟩) hHeld ?rest5x10
       case hy5x10 => (intro w hSw; (try dsimp only at hSw); go_simp; try with_reducible rfl)
       simp only [Act.put, List.setIfInBounds_toArray, List.set_cons_zero, List.set_cons_succ]
       refine wpAnyH_take (i := 11) (oi := { dst := some 199, op := Op.fieldAddr 27 (Operand.tmp 198) 1, type := 0, pos := "l10_request.go:353", after := #[{ on := 10, ground := Ground.data }, { on := 7, ground := Ground.guard }], guard := some (7, false) }) (v := ?v5x11) rfl (by kernel_rfl) (by kernel_rfl) (by kernel_rfl) (fun _ _ _ h => h) (Or.inl ⟨by rfl, ?hy5x11⟩) hHeld ?rest5x11
       case hy5x11 => (intro w hSw; (try dsimp only at hSw); go_simp; try with_reducible rfl)
       simp only [Act.put, List.setIfInBounds_toArray, List.set_cons_zero, List.set_cons_succ]
       refine wpAnyH_take (i := 12) (oi := { dst := some 200, op := Op.load 9 (Operand.tmp 199), type := 9, pos := "l10_request.go:353", after := #[{ on := 11, ground := Ground.data }, { on := 7, ground := Ground.guard }], guard := some (7, false) }) (v := ?v5x12) rfl (by kernel_rfl) (by kernel_rfl) (by kernel_rfl) (fun _ _ _ h => h) (Or.inl ⟨by rfl, ?hy5x12⟩) hHeld ?rest5x12
       case hy5x12 => (intro w hSw; (try dsimp only at hSw); go_simp; try with_reducible rfl)
       simp only [Act.put, List.setIfInBounds_toArray, List.set_cons_zero, List.set_cons_succ]
       refine wpAnyH_take (i := 13) (oi := { dst := some 201, op := Op.call { callee := Callee.builtin Builtin.len, args := #[Operand.tmp 200], argTypes := #[9] }, type := 3, pos := "l10_request.go:353", after := #[{ on := 12, ground := Ground.data }, { on := 7, ground := Ground.guard }], guard := some (7, false) }) (v := ?v5x13) rfl (by kernel_rfl) (by kernel_rfl) (by kernel_rfl) (fun _ _ _ h => h) (Or.inl ⟨by rfl, ?hy5x13⟩) hHeld ?rest5x13
       case hy5x13 => (intro w hSw; (try dsimp only at hSw); go_simp; try with_reducible rfl)
       simp only [Act.put, List.setIfInBounds_toArray, List.set_cons_zero, List.set_cons_succ]
       refine wpAnyH_take (i := 14) (oi := { dst := some 202, op := Op.binOp BinOp.gtr 3 (Operand.tmp 201) (Operand.const (Value.int IntKind.i64 100)) 3, type := 4, pos := "l10_request.go:353", after := #[{ on := 13, ground := Ground.data }, { on := 7, ground := Ground.guard }], guard := some (7, false) }) (v := ?v5x14) rfl (by kernel_rfl) (by kernel_rfl) (by kernel_rfl) (fun _ _ _ h => h) (Or.inl ⟨by rfl, ?hy5x14⟩) hHeld ?rest5x14
       case hy5x14 => (intro w hSw; (try dsimp only at hSw); go_simp; try with_reducible rfl)
       simp only [Act.put, List.setIfInBounds_toArray, List.set_cons_zero, List.set_cons_succ]
       refine wpAnyH_take (i := 15) (oi := { dst := some 203, op := Op.pick (Operand.tmp 195) (Operand.const (Value.bool true)) (Operand.tmp 202), type := 4, pos := "l10_request.go:353", after := #[{ on := 7, ground := Ground.data }, { on := 14, ground := Ground.data }], guard := none }) (v := ?v5x15) rfl (by kernel_rfl) (by kernel_rfl) (by kernel_rfl) (fun _ _ _ h => h) (Or.inl ⟨by rfl, ?hy5x15⟩) hHeld ?rest5x15
       case hy5x15 => (intro w hSw; (try dsimp only at hSw); go_simp; try with_reducible rfl)
       simp only [Act.put, List.setIfInBounds_toArray, List.set_cons_zero, List.set_cons_succ]
       refine wpAnyH_take (i := 16) (oi := { dst := some 204, op := Op.move (Operand.tmp 203), type := 4, pos := "l10_request.go:353", after := #[{ on := 15, ground := Ground.data }, { on := 7, ground := Ground.chain }], guard := none }) (v := ?v5x16) rfl (by kernel_rfl) (by kernel_rfl) (by kernel_rfl) (fun _ _ _ h => h) (Or.inl ⟨by rfl, ?hy5x16⟩) hHeld ?rest5x16
       case hy5x16 => (intro w hSw; (try dsimp only at hSw); go_simp; try with_reducible rfl)
       simp only [Act.put, List.setIfInBounds_toArray, List.set_cons_zero, List.set_cons_succ]
       refine wpAnyH_take (i := 17) (oi := { dst := some 205, op := Op.load 25 (Operand.tmp 17), type := 25, pos := "l10_request.go:353", after := #[{ on := 16, ground := Ground.guard }], guard := some (16, false) }) (v := ?v5x17) rfl (by kernel_rfl) (by kernel_rfl) (by kernel_rfl) (fun _ _ _ h => h) (Or.inl ⟨by rfl, ?hy5x17⟩) hHeld ?rest5x17
       case hy5x17 => (intro w hSw; (try dsimp only at hSw); go_simp; try with_reducible rfl)
       simp only [Act.put, List.setIfInBounds_toArray, List.set_cons_zero, List.set_cons_succ]
       refine wpAnyH_take (i := 18) (oi := { dst := some 206, op := Op.move (Operand.tmp 1), type := 33, pos := "l10_request.go:353", after := #[{ on := 16, ground := Ground.guard }], guard := some (16, false) }) (v := ?v5x18) rfl (by kernel_rfl) (by kernel_rfl) (by kernel_rfl) (fun _ _ _ h => h) (Or.inl ⟨by rfl, ?hy5x18⟩) hHeld ?rest5x18
       case hy5x18 => (intro w hSw; (try dsimp only at hSw); go_simp; try with_reducible rfl)
       simp only [Act.put, List.setIfInBounds_toArray, List.set_cons_zero, List.set_cons_succ]
       refine wpAnyH_take (i := 19) (oi := { dst := some 207, op := Op.move (Operand.tmp 15), type := 3, pos := "l10_request.go:353", after := #[{ on := 16, ground := Ground.guard }], guard := some (16, false) }) (v := ?v5x19) rfl (by kernel_rfl) (by kernel_rfl) (by kernel_rfl) (fun _ _ _ h => h) (Or.inl ⟨by rfl, ?hy5x19⟩) hHeld ?rest5x19
       case hy5x19 => (intro w hSw; (try dsimp only at hSw); go_simp; try with_reducible rfl)
       simp only [Act.put, List.setIfInBounds_toArray, List.set_cons_zero, List.set_cons_succ]
       refine wpAnyH_take (i := 20) (oi := { dst := some 208, op := Op.indexAddr 33 (Operand.tmp 206) (Operand.tmp 207), type := 0, pos := "l10_request.go:353", after := #[{ on := 18, ground := Ground.data }, { on := 19, ground := Ground.data }, { on := 16, ground := Ground.guard }], guard := some (16, false) }) (v := ?v5x20) rfl (by kernel_rfl) (by kernel_rfl) (by kernel_rfl) (fun _ _ _ h => h) (Or.inl ⟨by rfl, ?hy5x20⟩) hHeld ?rest5x20
       case hy5x20 => (intro w hSw; (try dsimp only at hSw); go_simp; try with_reducible rfl)
       simp only [Act.put, List.setIfInBounds_toArray, List.set_cons_zero, List.set_cons_succ]
       refine wpAnyH_take (i := 21) (oi := { dst := some 209, op := Op.fieldAddr 27 (Operand.tmp 208) 1, type := 0, pos := "l10_request.go:353", after := #[{ on := 20, ground := Ground.data }, { on := 16, ground := Ground.guard }], guard := some (16, false) }) (v := ?v5x21) rfl (by kernel_rfl) (by kernel_rfl) (by kernel_rfl) (fun _ _ _ h => h) (Or.inl ⟨by rfl, ?hy5x21⟩) hHeld ?rest5x21
       case hy5x21 => (intro w hSw; (try dsimp only at hSw); go_simp; try with_reducible rfl)
       simp only [Act.put, List.setIfInBounds_toArray, List.set_cons_zero, List.set_cons_succ]
       refine wpAnyH_take (i := 22) (oi := { dst := some 210, op := Op.load 9 (Operand.tmp 209), type := 9, pos := "l10_request.go:353", after := #[{ on := 21, ground := Ground.data }, { on := 16, ground := Ground.guard }], guard := some (16, false) }) (v := ?v5x22) rfl (by kernel_rfl) (by kernel_rfl) (by kernel_rfl) (fun _ _ _ h => h) (Or.inl ⟨by rfl, ?hy5x22⟩) hHeld ?rest5x22
       case hy5x22 => (intro w hSw; (try dsimp only at hSw); go_simp; try with_reducible rfl)
       simp only [Act.put, List.setIfInBounds_toArray, List.set_cons_zero, List.set_cons_succ]
       refine wpAnyH_take (i := 23) (oi := { dst := some 211, op := Op.move (Operand.tmp 13), type := 28, pos := "l10_request.go:353", after := #[{ on := 16, ground := Ground.guard }], guard := some (16, false) }) (v := ?v5x23) rfl (by kernel_rfl) (by kernel_rfl) (by kernel_rfl) (fun _ _ _ h => h) (Or.inl ⟨by rfl, ?hy5x23⟩) hHeld ?rest5x23
       case hy5x23 => (intro w hSw; (try dsimp only at hSw); go_simp; try with_reducible rfl)
       simp only [Act.put, List.setIfInBounds_toArray, List.set_cons_zero, List.set_cons_succ]
       refine wpAnyH_take (i := 25) (oi := { dst := some 213, op := Op.fieldAddr 25 (Operand.tmp 3) 2, type := 0, pos := "l10_request.go:353", after := #[{ on := 16, ground := Ground.guard }], guard := some (16, false) }) (v := ?v5x25) rfl (by kernel_rfl) (by kernel_rfl) (by kernel_rfl) (fun _ _ _ h => h) (Or.inl ⟨by rfl, ?hy5x25⟩) hHeld ?rest5x25
       case hy5x25 => (intro w hSw; (try dsimp only at hSw); go_simp; try with_reducible rfl)
       simp only [Act.put, List.setIfInBounds_toArray, List.set_cons_zero, List.set_cons_succ]
       refine wpAnyH_take (i := 26) (oi := { dst := some 214, op := Op.load 23 (Operand.tmp 213), type := 23, pos := "l10_request.go:353", after := #[{ on := 25, ground := Ground.data }, { on := 16, ground := Ground.guard }], guard := some (16, false) }) (v := ?v5x26) rfl (by kernel_rfl) (by kernel_rfl) (by kernel_rfl) (fun _ _ _ h => h) (Or.inl ⟨by rfl, ?hy5x26⟩) hHeld ?rest5x26
       case hy5x26 => (intro w hSw; (try dsimp only at hSw); go_simp; try with_reducible rfl)
       simp only [Act.put, List.setIfInBounds_toArray, List.set_cons_zero, List.set_cons_succ]
       refine wpAnyH_take (i := 27) (oi := { dst := some 215, op := Op.move (Operand.tmp 7), type := 3, pos := "l10_request.go:353", after := #[{ on := 16, ground := Ground.guard }], guard := some (16, false) }) (v := ?v5x27) rfl (by kernel_rfl) (by kernel_rfl) (by kernel_rfl) (fun _ _ _ h => h) (Or.inl ⟨by rfl, ?hy5x27⟩) hHeld ?rest5x27
       case hy5x27 => (intro w hSw; (try dsimp only at hSw); go_simp; try with_reducible rfl)
       simp only [Act.put, List.setIfInBounds_toArray, List.set_cons_zero, List.set_cons_succ]
       refine wpAnyH_take (i := 28) (oi := { dst := some 216, op := Op.binOp BinOp.add 3 (Operand.tmp 215) (Operand.const (Value.int IntKind.i64 4)) 3, type := 3, pos := "l10_request.go:353", after := #[{ on := 27, ground := Ground.data }, { on := 16, ground := Ground.guard }], guard := some (16, false) }) (v := ?v5x28) rfl (by kernel_rfl) (by kernel_rfl) (by kernel_rfl) (fun _ _ _ h => h) (Or.inl ⟨by rfl, ?hy5x28⟩) hHeld ?rest5x28
       case hy5x28 => (intro w hSw; (try dsimp only at hSw); go_simp; try with_reducible rfl)
       simp only [Act.put, List.setIfInBounds_toArray, List.set_cons_zero, List.set_cons_succ]
       refine wpAnyH_take (i := 29) (oi := { dst := some 217, op := Op.indexAddr 23 (Operand.tmp 214) (Operand.tmp 216), type := 0, pos := "l10_request.go:353", after := #[{ on := 26, ground := Ground.data }, { on := 28, ground := Ground.data }, { on := 16, ground := Ground.guard }], guard := some (16, false) }) (v := ?v5x29) rfl (by kernel_rfl) (by kernel_rfl) (by kernel_rfl) (fun _ _ _ h => h) (Or.inl ⟨by rfl, ?hy5x29⟩) hHeld ?rest5x29
       case hy5x29 => (intro w hSw; (try dsimp only at hSw); go_simp; try with_reducible rfl)
       simp only [Act.put, List.setIfInBounds_toArray, List.set_cons_zero, List.set_cons_succ]
       refine wpAnyH_take (i := 30) (oi := { dst := some 218, op := Op.fieldAddr 66 (Operand.tmp 217) 1, type := 0, pos := "l10_request.go:353", after := #[{ on := 29, ground := Ground.data }, { on := 16, ground := Ground.guard }], guard := some (16, false) }) (v := ?v5x30) rfl (by kernel_rfl) (by kernel_rfl) (by kernel_rfl) (fun _ _ _ h => h) (Or.inl ⟨by rfl, ?hy5x30⟩) hHeld ?rest5x30
       case hy5x30 => (intro w hSw; (try dsimp only at hSw); go_simp; try with_reducible rfl)
       simp only [Act.put, List.setIfInBounds_toArray, List.set_cons_zero, List.set_cons_succ]
       refine wpAnyH_take (i := 31) (oi := { dst := some 219, op := Op.load 9 (Operand.tmp 218), type := 9, pos := "l10_request.go:353", after := #[{ on := 30, ground := Ground.data }, { on := 16, ground := Ground.guard }], guard := some (16, false) }) (v := ?v5x31) rfl (by kernel_rfl) (by kernel_rfl) (by kernel_rfl) (fun _ _ _ h => h) (Or.inl ⟨by rfl, ?hy5x31⟩) hHeld ?rest5x31
       case hy5x31 => (intro w hSw; (try dsimp only at hSw); go_simp; try with_reducible rfl)
       simp only [Act.put, List.setIfInBounds_toArray, List.set_cons_zero, List.set_cons_succ]
       refine wpAnyH_ready (rs := [24]) (by kernel_rfl) (by simp) ?_
       refine AllReadyH.cons (o := { dst := some 212, op := Op.call { callee := Callee.value (Operand.func 52), args := #[Operand.tmp 205, Operand.tmp 210, Operand.tmp 211], argTypes := #[25, 9, 28] }, type := 9, pos := "l10_request.go:353", after := #[{ on := 17, ground := Ground.data }, { on := 22, ground := Ground.data }, { on := 23, ground := Ground.data }, { on := 16, ground := Ground.chain }, { on := 16, ground := Ground.guard }], guard := some (16, false) }) rfl (fun K hK => ?_) AllReadyH.nil
       go_simp
       refine (KSM _ (STW.out _ E13.out).1 (STW.out _ E13.out).2).out.mono ?_
       rintro e w14 ⟨rfl, hb14⟩
       have F14 := hid hb14
       have X1714 := hid (RowAt.nxS hb14 R17e.out)
       have X314 := hid (RowAt.nxS hb14 X313e.out)
       have X614 := hid (RowAt.nxS hb14 X613e.out)
       have B14 := hid (B13e.out.trans (hb14.mono B13e.out.size))
       have b14 := hid (b13e.out.trans (hb14.mono b13e.out.size))
       clear hb14
       go_wp2_with fail
       refine hK.out _ _ ?_ (fun hHeld => ?_)
       · exact ⟨⟨X1714.out.cell 0, X1714.out.cell 1⟩, ⟨X1714.out.cell 2, X1714.out.cell 3⟩, X1714.out.cell 4, CK.out w14 b14.out, X314.out.cell 2, (CV.out w14 B14.out).2.2.2.2⟩
       clear hK K
       try simp only [Act.put, List.setIfInBounds_toArray, List.set_cons_zero, List.set_cons_succ]
       refine wpAnyH_take (i := 32) (oi := { dst := some 220, op := Op.binOp BinOp.neq 9 (Operand.tmp 212) (Operand.tmp 219) 9, type := 4, pos := "l10_request.go:353", after := #[{ on := 24, ground := Ground.data }, { on := 31, ground := Ground.data }, { on := 16, ground := Ground.guard }], guard := some (16, false) }) (v := ?v5x32) rfl (by kernel_rfl) (by kernel_rfl) (by kernel_rfl) (fun _ _ _ h => h) (Or.inl ⟨by rfl, ?hy5x32⟩) hHeld ?rest5x32
       case hy5x32 => (intro w hSw; (try dsimp only at hSw); go_simp; try with_reducible rfl)
       simp only [Act.put, List.setIfInBounds_toArray, List.set_cons_zero, List.set_cons_succ]
       refine wpAnyH_take (i := 33) (oi := { dst := some 221, op := Op.pick (Operand.tmp 204) (Operand.const (Value.bool true)) (Operand.tmp 220), type := 4, pos := "l10_request.go:353", after := #[{ on := 16, ground := Ground.data }, { on := 32, ground := Ground.data }], guard := none }) (v := ?v5x33) rfl (by kernel_rfl) (by kernel_rfl) (by kernel_rfl) (fun _ _ _ h => h) (Or.inl ⟨by rfl, ?hy5x33⟩) hHeld ?rest5x33
       case hy5x33 => (intro w hSw; (try dsimp only at hSw); go_simp; try with_reducible rfl)
       simp only [Act.put, List.setIfInBounds_toArray, List.set_cons_zero, List.set_cons_succ]
       refine wpAnyH_done (by kernel_rfl) ?_ _
       cases b7
       case false =>
        have e7 : SG ≠ (SN : Int) := fun h => by have := HB7.out; rw [HSD.out, HV4.out, h] at this; simp at this
        have NO : Hid (RR = (12, ⟨#[]⟩)) := by rw [HRR.out]; exact ckR_12 CP.out FS.out (fun q => e7 (HSQ.out.2 q))
        clear e7
        go_wp2_with (refine wpList_store_row rfl 35 (.tmp 6) (.tmp 222) rfl (w.heap.size + 1) #[.int .i64 12, .string ⟨#[]⟩] rfl rfl _ _ X614.out (by kernel_rfl) rfl (by simp [Value.oneCell']) ?_)
        refine bodyPost_ret (v := .agg #[.int .i64 12, .string ⟨#[]⟩]) ?_ rfl ⟨by rw [NO.out], below_setRow B14.out _ _ (by omega)⟩
        exact results_cell_row Tryz.results15 _ _ (w.heap.size + 1) _ _ _ _ rfl (X614.out.setRow _) Tryz.underlying35 rfl (by kernel_rfl)
       have SMQ : Hid (smQ ⟨mt, pt, ⟨some ⟨qb, qo, none⟩, n1, c1, o1⟩, ⟨a2, n2, c2, o2⟩, bd⟩ (ks q).sec) := HSQ.out.1 (by have h0 := HB7.out; rw [ba_beqS2] at h0; have h1 : SD = V4 := (by simpa using h0.symm); rw [HSD.out, HV4.out] at h1; have := dec_inj (ofL_inj h1); omega)
       have f0b : F0 ≤ 4102444800 := by obtain ⟨n9, l9, e9⟩ := TM0.out; have h9 := HF0.out; rw [timV_t TM0.out, e9, numL_dec] at h9; omega
       have f1b : F1 ≤ 4102444800 := by obtain ⟨n9, l9, e9⟩ := TM1.out; have h9 := HF1.out; rw [timV_t TM1.out, e9, numL_dec] at h9; omega
       have LQ9 : Hid (lateQ ⟨mt, pt, ⟨some ⟨qb, qo, none⟩, n1, c1, o1⟩, ⟨a2, n2, c2, o2⟩, bd⟩ now ↔ ((F0 : Int) ≤ now ∧ now ≤ (F0 : Int) + (F1 : Int))) := by unfold lateQ; rw [← HV.out.2.1, ← HV.out.2.2.1, HF0.out, HF1.out, timV_t TM0.out, timV_t TM1.out]; exact Iff.rfl
       obtain ⟨FF, hFF⟩ : ∃ f : Nat, f = F0 + F1 := ⟨_, rfl⟩
       have wFF : IntKind.i64.wrap ((F0 : Int) + (F1 : Int)) = (FF : Int) := by rw [IntKind.wrap_i64]; omega
       have wFG : (F0 : Int) + (F1 : Int) = (FF : Int) := by omega
       have wFH : IntKind.i64.wrap (FF : Int) = (FF : Int) := by rw [IntKind.wrap_i64]; omega
       rw [wFG] at LQ9
       replace hFF := hid hFF
       by_cases n9 : now < (F0 : Int)
       case pos =>
        have NO : Hid (RR = (13, ⟨#[]⟩)) := by rw [HRR.out]; exact ckR_13 CP.out FS.out SMQ.out (fun q => by have := LQ9.out.1 q; omega)
        have n9b : decide (now < (F0 : Int)) = true := decide_eq_true n9
        go_wp2_with (refine wpList_store_row rfl 35 (.tmp 6) (.tmp 233) rfl (w.heap.size + 1) #[.int .i64 13, .string ⟨#[]⟩] rfl rfl _ _ X614.out (by kernel_rfl) rfl (by simp [Value.oneCell']) ?_)
        refine bodyPost_ret (v := .agg #[.int .i64 13, .string ⟨#[]⟩]) ?_ rfl ⟨by rw [NO.out], below_setRow B14.out _ _ (by omega)⟩
        exact results_cell_row Tryz.results15 _ _ (w.heap.size + 1) _ _ _ _ rfl (X614.out.setRow _) Tryz.underlying35 rfl (by kernel_rfl)
       have n9b : decide (now < (F0 : Int)) = false := decide_eq_false n9
       by_cases n8 : (FF : Int) < now
       case pos =>
        have NO : Hid (RR = (13, ⟨#[]⟩)) := by rw [HRR.out]; exact ckR_13 CP.out FS.out SMQ.out (fun q => by have := LQ9.out.1 q; omega)
        have n8b : decide ((FF : Int) < now) = true := decide_eq_true n8
        go_wp2_with (refine wpList_store_row rfl 35 (.tmp 6) (.tmp 233) rfl (w.heap.size + 1) #[.int .i64 13, .string ⟨#[]⟩] rfl rfl _ _ X614.out (by kernel_rfl) rfl (by simp [Value.oneCell']) ?_)
        refine bodyPost_ret (v := .agg #[.int .i64 13, .string ⟨#[]⟩]) ?_ rfl ⟨by rw [NO.out], below_setRow B14.out _ _ (by omega)⟩
        exact results_cell_row Tryz.results15 _ _ (w.heap.size + 1) _ _ _ _ rfl (X614.out.setRow _) Tryz.underlying35 rfl (by kernel_rfl)
       have n8b : decide ((FF : Int) < now) = false := decide_eq_false n8
       have NO : Hid (RR = (0, V0)) := by rw [HRR.out, HV.out.1]; exact ckR_0 CP.out FS.out SMQ.out (LQ9.out.2 ⟨by omega, by omega⟩)
       go_wp2_with (refine wpList_store_row rfl 35 (.tmp 6) (.tmp 235) rfl (w.heap.size + 1) #[.int .i64 0, .string V0] rfl rfl _ _ X614.out (by kernel_rfl) rfl (by simp [Value.oneCell']) ?_)
       refine bodyPost_ret (v := .agg #[.int .i64 0, .string V0]) ?_ rfl ⟨by rw [NO.out], below_setRow B14.out _ _ (by omega)⟩
       exact results_cell_row Tryz.results15 _ _ (w.heap.size + 1) _ _ _ _ rfl (X614.out.setRow _) Tryz.underlying35 rfl (by kernel_rfl)
end Go.Proofs.YtkcjigelenofhaaGreatDoor
