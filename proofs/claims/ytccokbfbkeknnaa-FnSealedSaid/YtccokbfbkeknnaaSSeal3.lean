import Derived.Test.YtccokbfbkeknnaaSSeal2
namespace Go.Proofs.Ytccokbfbkeknnaa
open Go.RowKit
/-! The specification's SealObject, l11Unwrap. -/
set_option maxRecDepth 20000 in
set_option maxHeartbeats 2000000 in
theorem sSeal (m dk : ByteArray) (nonce : Int) (data : ByteArray) (h1 : nonce ≤ 9223372036854775807) (hd : data.size ≤ 1048576) (w : World) :
    Calls Try.prog 10 #[.string m, .string dk, .int .i64 nonce, .string data] w fun e w' => e = .returned (sealO m dk nonce data) ∧ Below w.heap.size w w' := by
  have J := Jn.box w 26 #[.int .i64 0, .string ⟨#[]⟩, .string ⟨#[]⟩]
  obtain ⟨W0, hW0⟩ : ∃ W, W = w.alloc (.cells #[.int .i64 0, .string ⟨#[]⟩, .string ⟨#[]⟩] 26) := ⟨_, rfl⟩
  rw [← hW0] at J
  have K1 := fun wx => hid (sKey m wx)
  have K2 := fun wx => hid (sKey dk wx)
  have q0 : W0.cell? ⟨w.heap.size, 0, none⟩ = some (.int .i64 0) := J.out.1.cell 0
  have q1 : W0.cell? ⟨w.heap.size, 1, none⟩ = some (.string ⟨#[]⟩) := J.out.1.cell 1
  have q2 : W0.cell? ⟨w.heap.size, 2, none⟩ = some (.string ⟨#[]⟩) := J.out.1.cell 2
  have f0 := J.out.1.free 0
  have f1 := J.out.1.free 1
  have f2 := J.out.1.free 2
  by_cases p1 : keyP m
  case neg =>
    have E : Hid (sealO m dk nonce data = slV 1 ⟨#[]⟩ ⟨#[]⟩) := if_neg fun q => p1 q.1
    rw [pb_f p1] at K1
    clear p1
    go_enter Try.func10, Try.ntmps10
    go_wp2_with fail
    rw [← hW0]
    clear hW0
    refine (K1 _).out.mono ?_
    rintro e w1 ⟨rfl, hw⟩
    obtain rfl := hw.symm
    go_wp2
    refine bodyPost_ret (v := slV 1 ⟨#[]⟩ ⟨#[]⟩) (by simp [results, Try.results10, go_sem, q0, q1, q2, slV]) rfl ⟨by rw [E.out], ?_⟩
    exact ((J.out.2.setCell (Nat.le_refl _) _).setCell (Nat.le_refl _) _).setCell (Nat.le_refl _) _
  rw [pb_t p1] at K1
  by_cases p2 : keyP dk
  case neg =>
    have E : Hid (sealO m dk nonce data = slV 1 ⟨#[]⟩ ⟨#[]⟩) := if_neg fun q => p2 q.2.1
    rw [pb_f p2] at K2
    clear p1 p2
    go_enter Try.func10, Try.ntmps10
    go_wp2_with fail
    rw [← hW0]
    clear hW0
    refine (K1 _).out.mono ?_
    rintro e w1 ⟨rfl, hw⟩
    obtain rfl := hw.symm
    go_wp2_with fail
    refine (K2 _).out.mono ?_
    rintro e w1 ⟨rfl, hw⟩
    obtain rfl := hw.symm
    go_wp2
    refine bodyPost_ret (v := slV 1 ⟨#[]⟩ ⟨#[]⟩) (by simp [results, Try.results10, go_sem, q0, q1, q2, slV]) rfl ⟨by rw [E.out], ?_⟩
    exact ((J.out.2.setCell (Nat.le_refl _) _).setCell (Nat.le_refl _) _).setCell (Nat.le_refl _) _
  rw [pb_t p2] at K2
  by_cases p3 : 0 ≤ nonce
  case neg =>
    have E : Hid (sealO m dk nonce data = slV 1 ⟨#[]⟩ ⟨#[]⟩) := if_neg fun q => p3 q.2.2
    have d3 : decide (nonce < 0) = true := by simp; omega
    clear p1 p2 p3
    go_enter Try.func10, Try.ntmps10
    go_wp2_with fail
    rw [← hW0]
    clear hW0
    refine (K1 _).out.mono ?_
    rintro e w1 ⟨rfl, hw⟩
    obtain rfl := hw.symm
    go_wp2_with fail
    refine (K2 _).out.mono ?_
    rintro e w1 ⟨rfl, hw⟩
    obtain rfl := hw.symm
    go_wp2
    refine bodyPost_ret (v := slV 1 ⟨#[]⟩ ⟨#[]⟩) (by simp [results, Try.results10, go_sem, q0, q1, q2, slV]) rfl ⟨by rw [E.out], ?_⟩
    exact ((J.out.2.setCell (Nat.le_refl _) _).setCell (Nat.le_refl _) _).setCell (Nat.le_refl _) _
  have d3 : decide (nonce < 0) = false := by simp; omega
  by_cases p4 : data.size ≤ 100000
  case neg =>
    have E : Hid (sealO m dk nonce data = slV 2 ⟨#[]⟩ ⟨#[]⟩) := by show _ = _; unfold sealO; rw [if_pos ⟨p1, p2, p3⟩, if_neg p4]
    have d4 : (100000 : Int) < (data.size : Int) := by omega
    clear p1 p2 p3 p4
    go_enter Try.func10, Try.ntmps10
    go_wp2_with fail
    rw [← hW0]
    clear hW0
    refine (K1 _).out.mono ?_
    rintro e w1 ⟨rfl, hw⟩
    obtain rfl := hw.symm
    go_wp2_with fail
    refine (K2 _).out.mono ?_
    rintro e w1 ⟨rfl, hw⟩
    obtain rfl := hw.symm
    go_wp2
    refine bodyPost_ret (v := slV 2 ⟨#[]⟩ ⟨#[]⟩) (by simp [results, Try.results10, go_sem, q0, q1, q2, slV]) rfl ⟨by rw [E.out], ?_⟩
    exact ((J.out.2.setCell (Nat.le_refl _) _).setCell (Nat.le_refl _) _).setCell (Nat.le_refl _) _
  have d4 : ¬ (100000 : Int) < (data.size : Int) := by omega
  have E : Hid (sealO m dk nonce data = slV 0 (ofL (wpL m dk nonce)) (ofL (dtL dk nonce data))) := by show _ = _; unfold sealO; rw [if_pos ⟨p1, p2, p3⟩, if_pos p4]
  have KW := fun wx => hid (sWrap m dk nonce p1 p2 p3 h1 wx)
  have k2 := p2.2
  have KS := fun wx => hid (ssum_all (dk ++ data) 6 (by decide) (by rw [sizeApp]; omega) wx)
  have SB := sum_bd (dk ++ data) 6
  have KF := fun wx => hid (sFour (sumOf (dk ++ data) 6) SB.1 SB.2 wx)
  have FZ := four_size (sumOf (dk ++ data) 6)
  have KX := fun wx => hid (sXor (data ++ four (sumOf (dk ++ data) 6)) dk nonce p2 p3 h1 (by rw [sizeApp]; omega) wx)
  have e1 : (data ++ four (sumOf (dk ++ data) 6)).data.toList = data.data.toList ++ (four (sumOf (dk ++ data) 6)).data.toList := ba_app _ _
  rw [e1] at KX
  have e2 : xrL (data.data.toList ++ (four (sumOf (dk ++ data) 6)).data.toList) dk nonce = dtL dk nonce data := rfl
  rw [e2] at KX
  clear e1 e2
  generalize ofL (dtL dk nonce data) = R at KX E
  generalize ofL (wpL m dk nonce) = V at KW E
  generalize hs : sumOf (dk ++ data) 6 = sm at KS KF KX FZ SB
  generalize four sm = F at KF KX FZ
  clear hs SB p1 p2 p3
  have z0 : ¬ 9223372036854775807 < dk.size + data.size := by omega
  have z1 : ¬ 9223372036854775807 < data.size + F.size := by omega
  go_enter Try.func10, Try.ntmps10
  go_wp2_with fail
  rw [← hW0]
  clear hW0
  refine (K1 _).out.mono ?_
  rintro e w1 ⟨rfl, hw⟩
  obtain rfl := hw.symm
  go_wp2_with fail
  refine (K2 _).out.mono ?_
  rintro e w1 ⟨rfl, hw⟩
  obtain rfl := hw.symm
  go_wp2_with fail
  refine (KW _).out.mono ?_
  rintro e w1 ⟨rfl, hb1⟩
  replace J := Jn.next hb1 J
  clear hb1 q0 q1 q2 f0 f1 f2
  go_wp2_with fail
  refine (KS _).out.mono ?_
  rintro e w2 ⟨rfl, hw⟩
  obtain rfl := hw.symm
  go_wp2_with fail
  refine (KF _).out.mono ?_
  rintro e w2 ⟨rfl, hb2⟩
  replace J := Jn.next hb2 J
  clear hb2
  go_wp2_with fail
  refine (KX _).out.mono ?_
  rintro e w3 ⟨rfl, hb3⟩
  replace J := Jn.next hb3 J
  clear hb3
  have q0 : w3.cell? ⟨w.heap.size, 0, none⟩ = some (.int .i64 0) := J.out.1.cell 0
  have q1 : w3.cell? ⟨w.heap.size, 1, none⟩ = some (.string ⟨#[]⟩) := J.out.1.cell 1
  have q2 : w3.cell? ⟨w.heap.size, 2, none⟩ = some (.string ⟨#[]⟩) := J.out.1.cell 2
  have f0 := J.out.1.free 0
  have f1 := J.out.1.free 1
  have f2 := J.out.1.free 2
  go_wp2
  refine bodyPost_ret (v := slV 0 V R) (by simp [results, Try.results10, go_sem, q0, q1, q2, slV]) rfl ⟨by rw [E.out], ?_⟩
  exact ((J.out.2.setCell (Nat.le_refl _) _).setCell (Nat.le_refl _) _).setCell (Nat.le_refl _) _
end Go.Proofs.Ytccokbfbkeknnaa
