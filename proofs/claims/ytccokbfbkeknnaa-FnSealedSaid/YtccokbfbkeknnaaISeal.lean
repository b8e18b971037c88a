import Derived.Test.YtccokbfbkeknnaaSSeal2
namespace Go.Proofs.Ytccokbfbkeknnaa
open Go.RowKit
/-! The program's sealing: keys, sums in four bytes, the closure that gives a stream's next byte. -/
set_option maxRecDepth 20000 in
theorem iKey (k : ByteArray) (w : World) : Calls Try.prog 28 #[.string k] w fun e w' => e = .returned (.bool (pb (keyP k))) ∧ w' = w := by
  by_cases h1 : 1 ≤ k.size
  · have d1 : (1 : Int) ≤ (k.size : Int) := by omega
    by_cases h2 : k.size ≤ 200
    · have d2 : decide ((k.size : Int) ≤ 200) = true := by simp; omega
      have E : Hid (pb (keyP k) = true) := pb_t ⟨h1, h2⟩
      go_enter Try.func28, Try.ntmps28
      go_wp2
      go_ret
      exact ⟨by rw [E.out]; rfl, rfl⟩
    · have d2 : decide ((k.size : Int) ≤ 200) = false := by simp; omega
      have E : Hid (pb (keyP k) = false) := pb_f fun q => h2 q.2
      go_enter Try.func28, Try.ntmps28
      go_wp2
      go_ret
      exact ⟨by rw [E.out]; rfl, rfl⟩
  · have d1 : ¬ (1 : Int) ≤ (k.size : Int) := by omega
    have E : Hid (pb (keyP k) = false) := pb_f fun q => h1 q.1
    go_enter Try.func28, Try.ntmps28
    go_wp2
    go_ret
    exact ⟨by rw [E.out]; rfl, rfl⟩
set_option maxRecDepth 20000 in
set_option maxHeartbeats 1000000 in
theorem iFour (n : Int) (h0 : 0 ≤ n) (h1 : n ≤ 2147483647) (w : World) :
    Calls Try.prog 46 #[.int .i64 n] w fun e w' => e = .returned (.string (four n)) ∧ Below w.heap.size w w' := by
  have cv : (convert 22 9 (.slice (some ⟨w.heap.size, 0, none⟩) 4 4)).run Try.prog (w.alloc (.cells #[.int .u8 (n / 16777216), .int .u8 (n / 65536 % 256), .int .u8 (n / 256 % 256), .int .u8 (n % 256)] 5)) = .ok (.string (four n)) (w.alloc (.cells #[.int .u8 (n / 16777216), .int .u8 (n / 65536 % 256), .int .u8 (n / 256 % 256), .int .u8 (n % 256)] 5)) :=
    run_convert_bytes_arg (P := Try.prog) _ 22 5 Try.underlying22 Try.underlying5 w.heap.size 0 4 4 [n / 16777216, n / 65536 % 256, n / 256 % 256, n % 256] rfl (fun i hi => by
      have R := RowAt.new w 5 #[.int .u8 (n / 16777216), .int .u8 (n / 65536 % 256), .int .u8 (n / 256 % 256), .int .u8 (n % 256)]
      have hi4 : i < 4 := hi
      rcases (by omega : i = 0 ∨ i = 1 ∨ i = 2 ∨ i = 3) with rfl | rfl | rfl | rfl
      · exact R.cell 0
      · exact R.cell 1
      · exact R.cell 2
      · exact R.cell 3) 9 Try.underlying9
  go_enter Try.func46, Try.ntmps46
  go_wp2
  go_ret
  exact ⟨rfl, (Below.refl _ w).alloc (Nat.le_refl _) _⟩
set_option maxRecDepth 20000 in
set_option maxHeartbeats 1000000 in
theorem iNext (b : Nat) (X : Int) (k : Nat) (h0 : 0 ≤ X) (h1 : X ≤ 2147483647) (w : World) (R : RowAt w b 2 #[.int .i64 (sX X k)]) :
    Calls Try.prog 53 #[.pointer (some ⟨b, 0, none⟩)] w fun e w' => e = .returned (.int .u8 (sX X (k + 1) / 256 % 256)) ∧ w' = w.setCell ⟨b, 0, none⟩ (.int .i64 (sX X (k + 1))) := by
  have bd := sX_bd X h0 h1 k
  have e1 : Hid (sX X (k + 1) = sX X k * 48271 % 2147483647) := rfl
  rw [e1.out]
  have c0 := R.cell 0
  have f0 := R.free 0
  obtain ⟨x, hx⟩ : ∃ x, x = sX X k := ⟨_, rfl⟩
  rw [← hx] at bd c0 ⊢
  have R2 := R.set 0 (.int .i64 (x * 48271 % 2147483647))
  have c1 := R2.cell 0
  have b0 := bd.1
  have b1 := bd.2
  clear hx e1 R R2 bd
  go_enter Try.func53, Try.ntmps53
  go_wp2
  go_ret
  exact ⟨rfl, rfl⟩
set_option maxRecDepth 20000 in
set_option maxHeartbeats 1000000 in
theorem iStart (key : ByteArray) (nonce : Int) (hk : keyP key) (h1 : nonce ≤ 9223372036854775807) (w : World) :
    Calls Try.prog 41 #[.string key, .int .i64 nonce] w fun e w' => ∃ b, e = .returned (.func (.func 53) #[] #[.pointer (some ⟨b, 0, none⟩)]) ∧ w.heap.size ≤ b ∧ RowAt w' b 2 #[.int .i64 (sX (sx0 key nonce) 0)] ∧ Below w.heap.size w w' := by
  have hmf : ∀ (fn : Fn) (first cap : Array Value) (w : World), (Instr.makeFunc fn first cap).run Try.prog w = .ok (.func fn first cap) w := fun _ _ _ _ => rfl
  have e0 : sX (sx0 key nonce) 0 = sx0 key nonce := rfl
  rw [e0]
  have KP := fun wx => hid (iput_all nonce h1 wx)
  have hz := putNum_size nonce
  have k2 := hk.2
  have KS := fun wx => hid (isum_all (key ++ putNum nonce) 7 (by decide) (by rw [sizeApp]; omega) wx)
  have e7 : sumOf (key ++ putNum nonce) 7 = sx0 key nonce := rfl
  rw [e7] at KS
  generalize putNum nonce = P at KP KS hz
  generalize sx0 key nonce = X at KS
  clear e7 e0 hk
  have zz : ¬ 9223372036854775807 < key.size + P.size := by omega
  go_enter Try.func41, Try.ntmps41
  go_wp2_with fail
  refine (KP _).out.mono ?_
  rintro e w1 ⟨rfl, hb1⟩
  have B1 := hid hb1
  clear hb1
  go_wp2_with fail
  refine (KS _).out.mono ?_
  rintro e w2 ⟨rfl, hw⟩
  obtain rfl := hw.symm
  go_wp2
  go_ret
  exact ⟨w1.heap.size, rfl, B1.out.size, RowAt.new _ _ _, B1.out.alloc B1.out.size _⟩
end Go.Proofs.Ytccokbfbkeknnaa
