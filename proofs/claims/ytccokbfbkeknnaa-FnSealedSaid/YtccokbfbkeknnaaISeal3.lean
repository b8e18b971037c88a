import Derived.Test.YtccokbfbkeknnaaISeal2
namespace Go.Proofs.Ytccokbfbkeknnaa
open Go.RowKit
/-! The program's StreamOf, wrapKey, sealData. -/
set_option maxRecDepth 20000 in
set_option maxHeartbeats 2000000 in
theorem iStm (key : ByteArray) (nonce size : Int) (hn1 : nonce ≤ 9223372036854775807) (w : World) :
    Calls Try.prog 16 #[.string key, .int .i64 nonce, .int .i64 size] w fun e w' => e = .returned (.string (ofL (stmV key nonce size))) ∧ Below w.heap.size w w' := by
  have K := fun wx => hid (iKey key wx)
  by_cases h1 : keyP key
  case neg =>
    have E : Hid (stmV key nonce size = []) := if_neg fun q => h1 q.1
    rw [pb_f h1] at K
    clear h1
    go_enter Try.func16, Try.ntmps16
    go_wp2_with fail
    refine (K _).out.mono ?_
    rintro e w1 ⟨rfl, hw⟩
    obtain rfl := hw.symm
    go_wp2
    go_ret
    exact ⟨by rw [E.out]; rfl, Below.refl _ _⟩
  rw [pb_t h1] at K
  by_cases h2 : 0 ≤ nonce
  case neg =>
    have E : Hid (stmV key nonce size = []) := if_neg fun q => h2 q.2.1
    have d2 : decide (nonce < 0) = true := by simp; omega
    clear h1 h2
    go_enter Try.func16, Try.ntmps16
    go_wp2_with fail
    refine (K _).out.mono ?_
    rintro e w1 ⟨rfl, hw⟩
    obtain rfl := hw.symm
    go_wp2
    go_ret
    exact ⟨by rw [E.out]; rfl, Below.refl _ _⟩
  have d2 : decide (nonce < 0) = false := by simp; omega
  by_cases h3 : 0 ≤ size
  case neg =>
    have E : Hid (stmV key nonce size = []) := if_neg fun q => h3 q.2.2.1
    have d3 : decide (size < 0) = true := by simp; omega
    clear h1 h2 h3
    go_enter Try.func16, Try.ntmps16
    go_wp2_with fail
    refine (K _).out.mono ?_
    rintro e w1 ⟨rfl, hw⟩
    obtain rfl := hw.symm
    go_wp2
    go_ret
    exact ⟨by rw [E.out]; rfl, Below.refl _ _⟩
  have d3 : decide (size < 0) = false := by simp; omega
  by_cases h4 : size ≤ 200000
  case neg =>
    have E : Hid (stmV key nonce size = []) := if_neg fun q => h4 q.2.2.2
    have d4 : decide (200000 < size) = true := by simp; omega
    clear h1 h2 h3 h4
    go_enter Try.func16, Try.ntmps16
    go_wp2_with fail
    refine (K _).out.mono ?_
    rintro e w1 ⟨rfl, hw⟩
    obtain rfl := hw.symm
    go_wp2
    go_ret
    exact ⟨by rw [E.out]; rfl, Below.refl _ _⟩
  have d4 : decide (200000 < size) = false := by simp; omega
  have E : Hid (stmV key nonce size = stB (sx0 key nonce) size.toNat) := if_pos ⟨h1, h2, h3, h4⟩
  obtain ⟨n, rfl⟩ := Int.eq_ofNat_of_zero_le h3
  have HX := sx0_bd key nonce
  have KS := fun wx => hid (iStart key nonce h1 hn1 wx)
  generalize sx0 key nonce = X at KS HX E
  have HX0 := hid HX.1
  have HX1 := hid HX.2
  clear h1 HX
  go_enter Try.func16, Try.ntmps16
  go_wp2_with fail
  refine (K _).out.mono ?_
  rintro e w1 ⟨rfl, hw⟩
  obtain rfl := hw.symm
  go_wp2_with fail
  refine (KS _).out.mono ?_
  rintro e w1 ⟨b, rfl, hwb, hR, hb1⟩
  have hbw := hR.lt
  have HR := hid hR
  have B1 := hid hb1
  have HWB := hid hwb
  have HBW := hid hbw
  clear hR hb1 hwb hbw KS K
  go_wp2_with (first | (at_make; refine make_nums w1 w1 rfl (.const (.int .i64 0)) (.tmp 27) 22 rfl 5 .u8 1 Try.underlying22 Try.info5 (by decide) .i64 .i64 (n : Int) n rfl rfl rfl (by omega) (Below.refl _ _) ?_) | go_in)
  intro w2 O2 hb2
  have HR2 := hid (HR.out.below hb2 HBW.out)
  have HO2 := hid O2
  have HB2 := hid (hb2.mono (Nat.le_of_lt HBW.out))
  clear HR O2 hb2 d2 d3 d4
  go_wp2_with fail
  go_loopw [8, 30] (fun v i wr => ∃ k : Nat, k ≤ n ∧ i = .int .i64 (k : Int) ∧ OwnNums wr w1.heap.size 5 .u8 v (ni (stB X k)) ∧ RowAt wr b 2 #[.int .i64 (sX X k)] ∧ Below b w1 wr ∧ w1.heap.size ≤ wr.heap.size) (fun _ i _ => n - (intOf i).toNat)
  case atStart => exact ⟨0, Nat.zero_le _, rfl, HO2.out, HR2.out, HB2.out, HB2.out.size⟩
  case round =>
    obtain ⟨k, hk, rfl, hown, hR, hbel, hsz⟩ := hrel
    by_cases hlt : k < n
    · have hlt' : (k : Int) < (n : Int) := by omega
      have NX := hid (ni_stB X k)
      have hl : (ni (stB X k)).length ≤ 200000 := by rw [ni_len, stB_len]; omega
      have KN := hid (iNext b X k HX0.out HX1.out wr hR)
      obtain ⟨y, hy⟩ : ∃ y, y = sX X (k + 1) / 256 % 256 := ⟨_, rfl⟩
      obtain ⟨x1, hx1⟩ : ∃ x, x = sX X (k + 1) := ⟨_, rfl⟩
      rw [← hy] at NX KN
      rw [← hx1] at KN
      have HX2 := hid hx1
      clear hy hx1
      generalize ni (stB X k) = Z at hown NX hl
      have R3 : Hid (RowAt (wr.setCell ⟨b, 0, none⟩ (.int .i64 x1)) b 2 #[.int .i64 x1]) := hR.set 0 _
      have B3 : Hid (Below b w1 (wr.setCell ⟨b, 0, none⟩ (.int .i64 x1))) := hbel.setCell (Nat.le_refl _) _
      have O3 : Hid (OwnNums (wr.setCell ⟨b, 0, none⟩ (.int .i64 x1)) w1.heap.size 5 .u8 u8 Z) := hown.setCell b 0 HBW.out _
      clear hown hR hbel hsz
      go_wp2_with fail
      refine KN.out.mono ?_
      rintro e w3 ⟨rfl, hw3⟩
      rw [← hw3] at R3 B3 O3
      clear hw3 KN
      go_wp2_with (first | (at_builtin; refine append_num2 w1.heap.size _ rfl (.tmp 32) (.tmp 35) 22 rfl 5 .u8 1 Try.underlying22 Try.info5 (by decide) _ Z y rfl O3.out B3.out.size rfl (by omega) ?_) | go_in)
      intro v' w4 hown4 hg4
      have R4 : Hid (RowAt w4 b 2 #[.int .i64 x1]) := (hg4.block b (Nat.lt_of_lt_of_le HBW.out B3.out.size) (O3.out.ne HBW.out)).trans R3.out
      have B4 : Hid (Below b w1 w4) := B3.out.grown hg4 (Nat.le_trans (Nat.le_of_lt HBW.out) B3.out.size) (fun j hj => Nat.le_trans (Nat.le_of_lt HBW.out) (World.ownsRow.lt O3.out j hj).1)
      clear hg4 R3 B3 O3
      go_wp2
      go_roundw
      case rel => exact ⟨k + 1, by omega, by go_num, by rw [NX.out]; exact hown4, by rw [← HX2.out]; exact R4.out, B4.out, B4.out.size⟩
      case measure => simp [intOf]; omega
    · have hkn : k = n := by omega
      subst hkn
      have hlt' : ¬ (k : Int) < (k : Int) := by omega
      have hcv := conv_owned wr 22 5 9 Try.underlying22 Try.underlying5 Try.underlying9 hown
      rw [ni_str] at hcv
      have B2 := hid (B1.out.trans (hbel.mono HWB.out))
      clear hbel
      go_wp2
      go_ret
      exact ⟨by rw [E.out]; rfl, B2.out⟩
set_option maxRecDepth 20000 in
set_option maxHeartbeats 1000000 in
theorem iWrap (m dk : ByteArray) (nonce : Int) (hm : keyP m) (hd : keyP dk) (h1 : nonce ≤ 9223372036854775807) (w : World) :
    Calls Try.prog 30 #[.string m, .string dk, .int .i64 nonce] w fun e w' => e = .returned (.string (ofL (wpL m dk nonce))) ∧ Below w.heap.size w w' := by
  have d2 := hd.2
  have KT := fun wx => hid (iptext_all dk (by omega) wx)
  have TZ := putText_size dk (by omega)
  have KS := fun wx => hid (isum_all (putText dk) 8 (by decide) (by omega) wx)
  have SB := sum_bd (putText dk) 8
  have KF := fun wx => hid (iFour (sumOf (putText dk) 8) SB.1 SB.2 wx)
  have FZ := four_size (sumOf (putText dk) 8)
  have KK := fun wx => hid (iStart m nonce hm h1 wx)
  have HX := sx0_bd m nonce
  have KV := fun b wx r => hid (iVeil (putText dk ++ four (sumOf (putText dk) 8)) b (sx0 m nonce) HX.1 HX.2 (by rw [sizeApp]; omega) wx r)
  have e2 : xl (putText dk ++ four (sumOf (putText dk) 8)).data.toList (stB (sx0 m nonce) (putText dk ++ four (sumOf (putText dk) 8)).size) = wpL m dk nonce := by
    unfold wpL xrL stmL
    rw [← baLen, ba_app]
  rw [e2] at KV
  clear e2
  generalize ofL (wpL m dk nonce) = R at KV ⊢
  generalize hs : sumOf (putText dk) 8 = sm at KS KF KV FZ SB
  generalize four sm = F at KF KV FZ
  generalize putText dk = T at KT KS KV TZ hs
  clear hs hm hd SB HX
  have zz : ¬ 9223372036854775807 < T.size + F.size := by omega
  go_enter Try.func30, Try.ntmps30
  go_wp2_with fail
  refine (KT _).out.mono ?_
  rintro e w1 ⟨rfl, hb1⟩
  have B1 := hid hb1
  clear hb1
  go_wp2_with fail
  refine (KS _).out.mono ?_
  rintro e w2 ⟨rfl, hw⟩
  obtain rfl := hw.symm
  go_wp2_with fail
  refine (KF _).out.mono ?_
  rintro e w2 ⟨rfl, hb2⟩
  have B2 := hid (B1.out.trans (hb2.mono B1.out.size))
  clear hb2 B1
  go_wp2_with fail
  refine (KK _).out.mono ?_
  rintro e w3 ⟨b, rfl, hwb, hR, hb3⟩
  have B3 := hid (B2.out.trans (hb3.mono B2.out.size))
  have HWB := hid (Nat.le_trans B2.out.size hwb)
  have HR := hid hR
  clear hb3 B2 hwb hR
  go_wp2_with fail
  refine (KV b _ HR.out).out.mono ?_
  rintro e w4 ⟨rfl, hb4⟩
  have B4 := hid (B3.out.trans (hb4.mono HWB.out))
  clear hb4 B3
  go_wp2
  go_ret
  exact ⟨rfl, B4.out⟩
set_option maxRecDepth 20000 in
set_option maxHeartbeats 1000000 in
theorem iSData (dk data : ByteArray) (nonce : Int) (hd : keyP dk) (hz : data.size ≤ 100000) (h1 : nonce ≤ 9223372036854775807) (w : World) :
    Calls Try.prog 31 #[.string dk, .string data, .int .i64 nonce] w fun e w' => e = .returned (.string (ofL (dtL dk nonce data))) ∧ Below w.heap.size w w' := by
  have d2 := hd.2
  have KS := fun wx => hid (isum_all (dk ++ data) 6 (by decide) (by rw [sizeApp]; omega) wx)
  have SB := sum_bd (dk ++ data) 6
  have KF := fun wx => hid (iFour (sumOf (dk ++ data) 6) SB.1 SB.2 wx)
  have FZ := four_size (sumOf (dk ++ data) 6)
  have KK := fun wx => hid (iStart dk nonce hd h1 wx)
  have HX := sx0_bd dk nonce
  have KV := fun b wx r => hid (iVeil (data ++ four (sumOf (dk ++ data) 6)) b (sx0 dk nonce) HX.1 HX.2 (by rw [sizeApp]; omega) wx r)
  have e2 : xl (data ++ four (sumOf (dk ++ data) 6)).data.toList (stB (sx0 dk nonce) (data ++ four (sumOf (dk ++ data) 6)).size) = dtL dk nonce data := by
    unfold dtL xrL stmL
    rw [← baLen, ba_app]
  rw [e2] at KV
  clear e2
  generalize ofL (dtL dk nonce data) = R at KV ⊢
  generalize hs : sumOf (dk ++ data) 6 = sm at KS KF KV FZ SB
  generalize four sm = F at KF KV FZ
  clear hs hd SB HX
  have z0 : ¬ 9223372036854775807 < dk.size + data.size := by omega
  have z1 : ¬ 9223372036854775807 < data.size + F.size := by omega
  go_enter Try.func31, Try.ntmps31
  go_wp2_with fail
  refine (KS _).out.mono ?_
  rintro e w2 ⟨rfl, hw⟩
  obtain rfl := hw.symm
  go_wp2_with fail
  refine (KF _).out.mono ?_
  rintro e w2 ⟨rfl, hb2⟩
  have B2 := hid hb2
  clear hb2
  go_wp2_with fail
  refine (KK _).out.mono ?_
  rintro e w3 ⟨b, rfl, hwb, hR, hb3⟩
  have B3 := hid (B2.out.trans (hb3.mono B2.out.size))
  have HWB := hid (Nat.le_trans B2.out.size hwb)
  have HR := hid hR
  clear hb3 B2 hwb hR
  go_wp2_with fail
  refine (KV b _ HR.out).out.mono ?_
  rintro e w4 ⟨rfl, hb4⟩
  have B4 := hid (B3.out.trans (hb4.mono HWB.out))
  clear hb4 B3
  go_wp2
  go_ret
  exact ⟨rfl, B4.out⟩
end Go.Proofs.Ytccokbfbkeknnaa
