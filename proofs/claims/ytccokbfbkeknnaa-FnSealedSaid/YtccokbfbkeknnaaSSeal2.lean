import Derived.Test.YtccokbfbkeknnaaSSeal
import Derived.Laws.BitsAllLaws
namespace Go.Proofs.Ytccokbfbkeknnaa
open Go.RowKit
/-! The specification's l11Xor, l11Wrap, SealObject. -/
theorem xl_take (a b : ByteArray) (k : Nat) (ha : k < a.size) (hb : k < b.size) : xl (a.data.toList.take (k + 1)) (b.data.toList.take (k + 1)) = xl (a.data.toList.take k) (b.data.toList.take k) ++ [a[k] ^^^ b[k]] := by
  have e1 : a.data.toList.take (k + 1) = a.data.toList.take k ++ [a[k]] := take_snoc a k ha
  have e2 : b.data.toList.take (k + 1) = b.data.toList.take k ++ [b[k]] := take_snoc b k hb
  rw [e1, e2]
  unfold xl
  rw [List.zipWith_append (by simp; omega)]
  rfl
theorem ni_xl (a b : ByteArray) (k : Nat) (ha : k < a.size) (hb : k < b.size) :
    ni (xl (a.data.toList.take (k + 1)) (b.data.toList.take (k + 1))) = ni (xl (a.data.toList.take k) (b.data.toList.take k)) ++ [bits .xor .u8 (a[k].toNat : Int) (b[k].toNat : Int)] := by
  rw [xl_take a b k ha hb, ni_app, u8_xor_nat _ _ a[k].toNat_lt b[k].toNat_lt]
  rfl
set_option maxRecDepth 20000 in
set_option maxHeartbeats 2000000 in
theorem sXor (t key : ByteArray) (nonce : Int) (hk : keyP key) (h0 : 0 ≤ nonce) (h1 : nonce ≤ 9223372036854775807) (ht : t.size ≤ 200000) (w : World) :
    Calls Try.prog 34 #[.string t, .string key, .int .i64 nonce] w fun e w' => e = .returned (.string (ofL (xrL t.data.toList key nonce))) ∧ Below w.heap.size w w' := by
  have KS := fun wx => hid (sStm key nonce (t.size : Int) h1 wx)
  have e1 : stmV key nonce (t.size : Int) = stmL key nonce t.size := if_pos ⟨hk, h0, by omega, by omega⟩
  rw [e1] at KS
  have SZ : (ofL (stmL key nonce t.size)).size = t.size := by rw [ofL_size]; unfold stmL; exact stB_len _ _
  have EX : Hid (∀ v : List UInt8, v = xl t.data.toList (ofL (stmL key nonce t.size)).data.toList → v = xrL t.data.toList key nonce) := fun v hv => by
    rw [hv, ofL_l]
    unfold xrL
    rw [show t.data.toList.length = t.size by simp]
  obtain ⟨S, hS⟩ : ∃ S, S = ofL (stmL key nonce t.size) := ⟨_, rfl⟩
  rw [← hS] at KS SZ EX
  clear hS e1 hk
  have HSZ := hid SZ
  clear SZ
  go_enter Try.func34, Try.ntmps34
  go_wp2_with fail
  refine (KS _).out.mono ?_
  rintro e w1 ⟨rfl, hb1⟩
  have B1 := hid hb1
  clear hb1 KS
  go_wp2_with fail
  go_loopw [8, 9] (fun v i wr => ∃ k : Nat, k ≤ t.size ∧ i = .int .i64 (k : Int) ∧ OwnNums wr w1.heap.size 5 .u8 v (ni (xl (t.data.toList.take k) (S.data.toList.take k))) ∧ Below w1.heap.size w1 wr) (fun _ i _ => t.size - (intOf i).toNat)
  case atStart => exact ⟨0, Nat.zero_le _, rfl, OwnNums.empty w1 5 .u8, (Below.refl _ _).alloc (Nat.le_refl _) _⟩
  case round =>
    obtain ⟨k, hk, rfl, hown, hbel⟩ := hrel
    by_cases hlt : k < t.size
    · have hls : k < S.size := by rw [HSZ.out]; exact hlt
      have i0 : (0 : Int) ≤ (k : Int) := by omega
      have i1 : (k : Int) < (t.size : Int) := by omega
      have i2 : (k : Int) < (S.size : Int) := by omega
      have NX := hid (ni_xl t S k hlt hls)
      have hl : (ni (xl (t.data.toList.take k) (S.data.toList.take k))).length ≤ 200000 := by rw [ni_len, xl_len]; simp; omega
      generalize ni (xl (t.data.toList.take k) (S.data.toList.take k)) = Z at hown NX hl
      go_wp2_with fail
      go_region_held3 (fun _ => True) (trivial) ((refine step_append_nums w1 _ (by rfl) _ _ 22 (by rfl) 5 .u8 1 Try.underlying22 Try.info5 (by decide) _ Z [bits .xor .u8 ((t[k]'hlt).toNat : Int) ((S[k]'hls).toNat : Int)] (by rfl) (by first | exact (hown.alloc _).drew | exact hown.drew.alloc _) (by first | exact (hbel.alloc hbel.size _).drew | exact hbel.drew.alloc hbel.size _) _ 1 (by exact heap_alloc_new _ _) (by rfl) rfl (by decide) (by omega) ?_; intro g cap w3 hown3 hbel3))
      all_goals go_wp2
      all_goals
        go_roundw
        case rel => exact ⟨k + 1, by omega, by go_num, by rw [NX.out]; exact hown3, hbel3⟩
        case measure => simp [intOf]; omega
    · have hkn : k = t.size := by omega
      have hcv := conv_owned wr 22 5 9 Try.underlying22 Try.underlying5 Try.underlying9 hown
      rw [ni_str] at hcv
      have R : Hid (xl (t.data.toList.take k) (S.data.toList.take k) = xrL t.data.toList key nonce) := EX.out _ (by
        rw [hkn, List.take_of_length_le (by simp), List.take_of_length_le (by rw [baLen, HSZ.out]; exact Nat.le_refl _)])
      have B2 := hid (B1.out.trans (hbel.mono B1.out.size))
      clear hkn
      have hlt' : ¬ (k : Int) < (t.size : Int) := by omega
      go_wp2
      go_ret
      exact ⟨by rw [← R.out]; rfl, B2.out⟩
set_option maxRecDepth 20000 in
set_option maxHeartbeats 1000000 in
theorem sWrap (m dk : ByteArray) (nonce : Int) (hm : keyP m) (hd : keyP dk) (h0 : 0 ≤ nonce) (h1 : nonce ≤ 9223372036854775807) (w : World) :
    Calls Try.prog 33 #[.string m, .string dk, .int .i64 nonce] w fun e w' => e = .returned (.string (ofL (wpL m dk nonce))) ∧ Below w.heap.size w w' := by
  have d2 := hd.2
  have KT := fun wx => hid (sptext_all dk (by omega) wx)
  have TZ := putText_size dk (by omega)
  have KS := fun wx => hid (ssum_all (putText dk) 8 (by decide) (by omega) wx)
  have SB := sum_bd (putText dk) 8
  have KF := fun wx => hid (sFour (sumOf (putText dk) 8) SB.1 SB.2 wx)
  have FZ := four_size (sumOf (putText dk) 8)
  have KX := fun wx => hid (sXor (putText dk ++ four (sumOf (putText dk) 8)) m nonce hm h0 h1 (by rw [sizeApp]; omega) wx)
  have e1 : (putText dk ++ four (sumOf (putText dk) 8)).data.toList = (putText dk).data.toList ++ (four (sumOf (putText dk) 8)).data.toList := ba_app _ _
  rw [e1] at KX
  have e2 : xrL ((putText dk).data.toList ++ (four (sumOf (putText dk) 8)).data.toList) m nonce = wpL m dk nonce := rfl
  rw [e2] at KX
  clear e1 e2
  generalize ofL (wpL m dk nonce) = R at KX ⊢
  generalize hs : sumOf (putText dk) 8 = sm at KS KF KX FZ SB
  generalize four sm = F at KF KX FZ
  generalize putText dk = T at KT KS KX TZ hs
  clear hs hm hd SB
  have zz : ¬ 9223372036854775807 < T.size + F.size := by omega
  go_enter Try.func33, Try.ntmps33
  go_wp2_with fail
  refine (KT _).out.mono ?_
  rintro e w1 ⟨rfl, hb1⟩
  have B1 := hid hb1
  clear hb1
  go_wp2_with fail
  refine (KS _).out.mono ?_
  rintro e w2 ⟨rfl, hw⟩
  obtain rfl := hw.symm
  go_wp2_with fail
  refine (KF _).out.mono ?_
  rintro e w2 ⟨rfl, hb2⟩
  have B2 := hid (B1.out.trans (hb2.mono B1.out.size))
  clear hb2 B1
  go_wp2_with fail
  refine (KX _).out.mono ?_
  rintro e w3 ⟨rfl, hb3⟩
  have B3 := hid (B2.out.trans (hb3.mono B2.out.size))
  clear hb3 B2
  go_wp2
  go_ret
  exact ⟨rfl, B3.out⟩
end Go.Proofs.Ytccokbfbkeknnaa
