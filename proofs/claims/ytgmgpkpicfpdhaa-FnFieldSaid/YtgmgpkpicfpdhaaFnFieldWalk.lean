import Derived.Test.YtgmgpkpicfpdhaaFieldV8
import Derived.Test.YtgmgpkpicfpdhaaFieldV16
import Derived.Test.YtgmgpkpicfpdhaaIPow8e
namespace Go.Proofs.Ytgmgpkpicfpdhaa
open Go.RowKit
theorem ipowv8 (A : Nat) (n : Int) (N R : Nat) (hA : A < 256) (hN : N < 1000) (hn : n = (N : Int)) (HR : Hid (gp 8 29 A N = R)) (w : World) :
    Calls Try.prog 22 #[.int .i64 A, .int .i64 n] w fun e w' => e = .returned (.int .i64 R) ∧ Below w.heap.size w w' := by
  subst hn
  have h := ipow8 A N (by omega) w
  have e : powI 8 29 (A : Int) (N : Int) = (R : Int) := by
    unfold powI; rw [inT_of (T := 2 ^ 8) hA, decide_eq_true (by omega), Bool.and_true, if_pos rfl]; exact congrArg (fun x : Nat => (x : Int)) HR.out
  rw [e] at h; exact h
set_option maxRecDepth 20000 in
set_option maxHeartbeats 8000000 in
theorem fnField_small (a0 : Option Addr) (len0 cap0 : Nat) (a1 : Option Addr) (len1 cap1 : Nat) (w : World) (c0 : CodeOk w a0 len0) (c1 : CodeOk w a1 len1) :
    Calls Try.prog 5 #[.slice a0 len0 cap0, .slice a1 len1 cap1] w fun e w' => e = .returned (.bool true) ∧ Below w.heap.size w w' := by
  have z0 := c0.1
  have z1 := c1.1
  have d0 : decide ((1048576 : Int) < (len0 : Int)) = false := by simp; omega
  have d1 : decide ((1048576 : Int) < (len1 : Int)) = false := by simp; omega
  go_enter Try.func5, Try.ntmps5
  go_wp2_with fail
  refine (lwAt_all _ a0 len0 cap0 0 c0 (by omega)).mono ?_
  rintro e u ⟨⟨a, rfl, ha⟩, hu⟩
  obtain rfl := hu.symm
  go_wp2_with fail
  refine (lwAt_all _ a0 len0 cap0 1 c0 (by omega)).mono ?_
  rintro e u ⟨⟨b, rfl, hb⟩, hu⟩
  obtain rfl := hu.symm
  go_wp2_with fail
  refine (lwAt_all _ a0 len0 cap0 2 c0 (by omega)).mono ?_
  rintro e u ⟨⟨c, rfl, hc⟩, hu⟩
  obtain rfl := hu.symm
  obtain ⟨ab, hab, Hab⟩ := prod_v8 a b ha
  obtain ⟨bc, hbc, Hbc⟩ := prod_v8 b c hb
  obtain ⟨ac, hac, Hac⟩ := prod_v8 a c ha
  obtain ⟨abc, habc, Habc⟩ := prod_v8 ab c hab
  obtain ⟨bxc, hbxc, Hbxc, Ebxc⟩ := xor_v8 b c hb hc
  obtain ⟨P, hP, HP⟩ := prod_v8 a bxc ha
  have EP := dist_v8 hab hac Hab Hac Hbxc HP
  go_wp2_with fail
  refine (imulv8 a b ab ha hb Hab _).mono ?_
  rintro e v1 ⟨rfl, hv1⟩
  have bv1 : Below w.heap.size w v1 := hv1
  clear hv1
  go_wp2_with fail
  refine (smulv8 a b ab ha hb Hab _).mono ?_
  rintro e u ⟨rfl, hu⟩
  obtain rfl := hu.symm
  go_wp2_with fail
  refine (imulv8 a b ab ha hb Hab _).mono ?_
  rintro e v2 ⟨rfl, hv2⟩
  have bv2 : Below w.heap.size w v2 := below_trans' bv1 hv2
  clear hv2 bv1
  go_wp2_with fail
  refine (imulv8 b a ab hb ha (comm_v8 ha hb Hab) _).mono ?_
  rintro e v3 ⟨rfl, hv3⟩
  have bv3 : Below w.heap.size w v3 := below_trans' bv2 hv3
  clear hv3 bv2
  go_wp2_with fail
  refine (imulv8 a b ab ha hb Hab _).mono ?_
  rintro e v4 ⟨rfl, hv4⟩
  have bv4 : Below w.heap.size w v4 := below_trans' bv3 hv4
  clear hv4 bv3
  go_wp2_with fail
  refine (imulv8 ab c abc hab hc Habc _).mono ?_
  rintro e v5 ⟨rfl, hv5⟩
  have bv5 : Below w.heap.size w v5 := below_trans' bv4 hv5
  clear hv5 bv4
  go_wp2_with fail
  refine (imulv8 b c bc hb hc Hbc _).mono ?_
  rintro e v6 ⟨rfl, hv6⟩
  have bv6 : Below w.heap.size w v6 := below_trans' bv5 hv6
  clear hv6 bv5
  go_wp2_with fail
  refine (imulv8 a bc abc ha hbc (assoc_v8 ha hb hc Hab Hbc Habc) _).mono ?_
  rintro e v7 ⟨rfl, hv7⟩
  have bv7 : Below w.heap.size w v7 := below_trans' bv6 hv7
  clear hv7 bv6
  go_wp2_with fail
  refine (imulv8 a bxc P ha hbxc HP _).mono ?_
  rintro e v8 ⟨rfl, hv8⟩
  have bv8 : Below w.heap.size w v8 := below_trans' bv7 hv8
  clear hv8 bv7
  go_wp2_with fail
  refine (imulv8 a b ab ha hb Hab _).mono ?_
  rintro e v9 ⟨rfl, hv9⟩
  have bv9 : Below w.heap.size w v9 := below_trans' bv8 hv9
  clear hv9 bv8
  go_wp2_with fail
  refine (imulv8 a c ac ha hc Hac _).mono ?_
  rintro e v10 ⟨rfl, hv10⟩
  have bv10 : Below w.heap.size w v10 := below_trans' bv9 hv10
  clear hv10 bv9
  obtain ⟨ia, hia, Hia⟩ := pow_v8 a 254 ha
  obtain ⟨pb, hpb, Hpb⟩ := pow_v8 a b ha
  obtain ⟨pc, hpc, Hpc⟩ := pow_v8 a c ha
  obtain ⟨pbc, hpbc, Hpbc⟩ := pow_v8 a (b + c) ha
  by_cases a0 : a = 0
  · have a0' : ¬ 0 < a := by omega
    have A0 := hid a0
    clear a0
    go_wp2_with fail
    refine (ipowv8 a b b pb ha (by omega) rfl Hpb _).mono ?_
    rintro e v11 ⟨rfl, hv11⟩
    have bv11 : Below w.heap.size w v11 := below_trans' bv10 hv11
    clear hv11 bv10
    go_wp2_with fail
    refine (ipowv8 a c c pc ha (by omega) rfl Hpc _).mono ?_
    rintro e v12 ⟨rfl, hv12⟩
    have bv12 : Below w.heap.size w v12 := below_trans' bv11 hv12
    clear hv12 bv11
    go_wp2_with fail
    refine (imulv8 pb pc pbc hpb hpc (add_v8 ha Hpb Hpc Hpbc) _).mono ?_
    rintro e v13 ⟨rfl, hv13⟩
    have bv13 : Below w.heap.size w v13 := below_trans' bv12 hv13
    clear hv13 bv12
    go_wp2_with fail
    refine (ipowv8 a (b + c) (b + c) pbc ha (by omega) (by omega) Hpbc _).mono ?_
    rintro e v14 ⟨rfl, hv14⟩
    have bv14 : Below w.heap.size w v14 := below_trans' bv13 hv14
    clear hv14 bv13
    go_wp2_with fail
    refine (lwAt_all _ a1 len1 cap1 0 (c1.below bv14) (by omega)).mono ?_
    rintro e u ⟨⟨x0, rfl, hx0⟩, hu⟩
    obtain rfl := hu.symm
    go_wp2_with fail
    refine (lwAt_all _ a1 len1 cap1 1 (c1.below bv14) (by omega)).mono ?_
    rintro e u ⟨⟨x1, rfl, hx1⟩, hu⟩
    obtain rfl := hu.symm
    obtain ⟨x, hx, Ex⟩ : ∃ x : Nat, x < 65536 ∧ ((x0 : Int) * 256 + (x1 : Int)) = (x : Int) := ⟨x0 * 256 + x1, by omega, by omega⟩
    go_wp2_with fail
    refine (lwAt_all _ a1 len1 cap1 2 (c1.below bv14) (by omega)).mono ?_
    rintro e u ⟨⟨y0, rfl, hy0⟩, hu⟩
    obtain rfl := hu.symm
    go_wp2_with fail
    refine (lwAt_all _ a1 len1 cap1 3 (c1.below bv14) (by omega)).mono ?_
    rintro e u ⟨⟨y1, rfl, hy1⟩, hu⟩
    obtain rfl := hu.symm
    obtain ⟨y, hy, Ey⟩ : ∃ y : Nat, y < 65536 ∧ ((y0 : Int) * 256 + (y1 : Int)) = (y : Int) := ⟨y0 * 256 + y1, by omega, by omega⟩
    go_wp2_with fail
    refine (lwAt_all _ a1 len1 cap1 4 (c1.below bv14) (by omega)).mono ?_
    rintro e u ⟨⟨z0, rfl, hz0⟩, hu⟩
    obtain rfl := hu.symm
    go_wp2_with fail
    refine (lwAt_all _ a1 len1 cap1 5 (c1.below bv14) (by omega)).mono ?_
    rintro e u ⟨⟨z1, rfl, hz1⟩, hu⟩
    obtain rfl := hu.symm
    obtain ⟨z, hz, Ez⟩ : ∃ z : Nat, z < 65536 ∧ ((z0 : Int) * 256 + (z1 : Int)) = (z : Int) := ⟨z0 * 256 + z1, by omega, by omega⟩
    obtain ⟨xy, hxy, Hxy⟩ := prod_v16 x y hx
    obtain ⟨yz, hyz, Hyz⟩ := prod_v16 y z hy
    obtain ⟨xz, hxz, Hxz⟩ := prod_v16 x z hx
    obtain ⟨xyz, hxyz, Hxyz⟩ := prod_v16 xy z hxy
    obtain ⟨yxz, hyxz, Hyxz, Eyxz⟩ := xor_v16 y z hy hz
    obtain ⟨Q, hQ, HQ⟩ := prod_v16 x yxz hx
    have EQ := dist_v16 hxy hxz Hxy Hxz Hyxz HQ
    go_wp2_with fail
    refine (imulv16 x y xy hx hy Hxy _).mono ?_
    rintro e v15 ⟨rfl, hv15⟩
    have bv15 : Below w.heap.size w v15 := below_trans' bv14 hv15
    clear hv15 bv14
    go_wp2_with fail
    refine (smulv16 x y xy hx hy Hxy _).mono ?_
    rintro e u ⟨rfl, hu⟩
    obtain rfl := hu.symm
    go_wp2_with fail
    refine (imulv16 x y xy hx hy Hxy _).mono ?_
    rintro e v16 ⟨rfl, hv16⟩
    have bv16 : Below w.heap.size w v16 := below_trans' bv15 hv16
    clear hv16 bv15
    go_wp2_with fail
    refine (imulv16 y x xy hy hx (comm_v16 hx hy Hxy) _).mono ?_
    rintro e v17 ⟨rfl, hv17⟩
    have bv17 : Below w.heap.size w v17 := below_trans' bv16 hv17
    clear hv17 bv16
    go_wp2_with fail
    refine (imulv16 x y xy hx hy Hxy _).mono ?_
    rintro e v18 ⟨rfl, hv18⟩
    have bv18 : Below w.heap.size w v18 := below_trans' bv17 hv18
    clear hv18 bv17
    go_wp2_with fail
    refine (imulv16 xy z xyz hxy hz Hxyz _).mono ?_
    rintro e v19 ⟨rfl, hv19⟩
    have bv19 : Below w.heap.size w v19 := below_trans' bv18 hv19
    clear hv19 bv18
    go_wp2_with fail
    refine (imulv16 y z yz hy hz Hyz _).mono ?_
    rintro e v20 ⟨rfl, hv20⟩
    have bv20 : Below w.heap.size w v20 := below_trans' bv19 hv20
    clear hv20 bv19
    go_wp2_with fail
    refine (imulv16 x yz xyz hx hyz (assoc_v16 hx hy hz Hxy Hyz Hxyz) _).mono ?_
    rintro e v21 ⟨rfl, hv21⟩
    have bv21 : Below w.heap.size w v21 := below_trans' bv20 hv21
    clear hv21 bv20
    go_wp2_with fail
    refine (imulv16 x yxz Q hx hyxz HQ _).mono ?_
    rintro e v22 ⟨rfl, hv22⟩
    have bv22 : Below w.heap.size w v22 := below_trans' bv21 hv22
    clear hv22 bv21
    go_wp2_with fail
    refine (imulv16 x y xy hx hy Hxy _).mono ?_
    rintro e v23 ⟨rfl, hv23⟩
    have bv23 : Below w.heap.size w v23 := below_trans' bv22 hv23
    clear hv23 bv22
    go_wp2_with fail
    refine (imulv16 x z xz hx hz Hxz _).mono ?_
    rintro e v24 ⟨rfl, hv24⟩
    have bv24 : Below w.heap.size w v24 := below_trans' bv23 hv24
    clear hv24 bv23
    obtain ⟨ix, hix, Hix⟩ := pow_v16 x 65534 hx
    by_cases x0 : x = 0
    · subst x0
      go_wp2
      go_ret
      exact ⟨rfl, bv24⟩
    · have x0' : ((x : Int) == 0) = false := by simp; omega
      go_wp2_with fail
      refine (iinvv16 x ix hx Hix _).mono ?_
      rintro e v25 ⟨rfl, hv25⟩
      have bv25 : Below w.heap.size w v25 := below_trans' bv24 hv25
      clear hv25 bv24
      go_wp2_with fail
      refine (imulv16 x ix 1 hx hix (inv_v16 hx x0 Hix) _).mono ?_
      rintro e v26 ⟨rfl, hv26⟩
      have bv26 : Below w.heap.size w v26 := below_trans' bv25 hv26
      clear hv26 bv25
      go_wp2
      go_ret
      exact ⟨rfl, bv26⟩
  · have a0' : 0 < a := by omega
    have A0 := hid a0
    clear a0
    go_wp2_with fail
    refine (iinvv8 a ia ha Hia _).mono ?_
    rintro e v11 ⟨rfl, hv11⟩
    have bv11 : Below w.heap.size w v11 := below_trans' bv10 hv11
    clear hv11 bv10
    go_wp2_with fail
    refine (imulv8 a ia 1 ha hia (inv_v8 ha A0.out Hia) _).mono ?_
    rintro e v12 ⟨rfl, hv12⟩
    have bv12 : Below w.heap.size w v12 := below_trans' bv11 hv12
    clear hv12 bv11
    go_wp2_with fail
    refine (ipowv8 a b b pb ha (by omega) rfl Hpb _).mono ?_
    rintro e v13 ⟨rfl, hv13⟩
    have bv13 : Below w.heap.size w v13 := below_trans' bv12 hv13
    clear hv13 bv12
    go_wp2_with fail
    refine (ipowv8 a c c pc ha (by omega) rfl Hpc _).mono ?_
    rintro e v14 ⟨rfl, hv14⟩
    have bv14 : Below w.heap.size w v14 := below_trans' bv13 hv14
    clear hv14 bv13
    go_wp2_with fail
    refine (imulv8 pb pc pbc hpb hpc (add_v8 ha Hpb Hpc Hpbc) _).mono ?_
    rintro e v15 ⟨rfl, hv15⟩
    have bv15 : Below w.heap.size w v15 := below_trans' bv14 hv15
    clear hv15 bv14
    go_wp2_with fail
    refine (ipowv8 a (b + c) (b + c) pbc ha (by omega) (by omega) Hpbc _).mono ?_
    rintro e v16 ⟨rfl, hv16⟩
    have bv16 : Below w.heap.size w v16 := below_trans' bv15 hv16
    clear hv16 bv15
    go_wp2_with fail
    refine (lwAt_all _ a1 len1 cap1 0 (c1.below bv16) (by omega)).mono ?_
    rintro e u ⟨⟨x0, rfl, hx0⟩, hu⟩
    obtain rfl := hu.symm
    go_wp2_with fail
    refine (lwAt_all _ a1 len1 cap1 1 (c1.below bv16) (by omega)).mono ?_
    rintro e u ⟨⟨x1, rfl, hx1⟩, hu⟩
    obtain rfl := hu.symm
    obtain ⟨x, hx, Ex⟩ : ∃ x : Nat, x < 65536 ∧ ((x0 : Int) * 256 + (x1 : Int)) = (x : Int) := ⟨x0 * 256 + x1, by omega, by omega⟩
    go_wp2_with fail
    refine (lwAt_all _ a1 len1 cap1 2 (c1.below bv16) (by omega)).mono ?_
    rintro e u ⟨⟨y0, rfl, hy0⟩, hu⟩
    obtain rfl := hu.symm
    go_wp2_with fail
    refine (lwAt_all _ a1 len1 cap1 3 (c1.below bv16) (by omega)).mono ?_
    rintro e u ⟨⟨y1, rfl, hy1⟩, hu⟩
    obtain rfl := hu.symm
    obtain ⟨y, hy, Ey⟩ : ∃ y : Nat, y < 65536 ∧ ((y0 : Int) * 256 + (y1 : Int)) = (y : Int) := ⟨y0 * 256 + y1, by omega, by omega⟩
    go_wp2_with fail
    refine (lwAt_all _ a1 len1 cap1 4 (c1.below bv16) (by omega)).mono ?_
    rintro e u ⟨⟨z0, rfl, hz0⟩, hu⟩
    obtain rfl := hu.symm
    go_wp2_with fail
    refine (lwAt_all _ a1 len1 cap1 5 (c1.below bv16) (by omega)).mono ?_
    rintro e u ⟨⟨z1, rfl, hz1⟩, hu⟩
    obtain rfl := hu.symm
    obtain ⟨z, hz, Ez⟩ : ∃ z : Nat, z < 65536 ∧ ((z0 : Int) * 256 + (z1 : Int)) = (z : Int) := ⟨z0 * 256 + z1, by omega, by omega⟩
    obtain ⟨xy, hxy, Hxy⟩ := prod_v16 x y hx
    obtain ⟨yz, hyz, Hyz⟩ := prod_v16 y z hy
    obtain ⟨xz, hxz, Hxz⟩ := prod_v16 x z hx
    obtain ⟨xyz, hxyz, Hxyz⟩ := prod_v16 xy z hxy
    obtain ⟨yxz, hyxz, Hyxz, Eyxz⟩ := xor_v16 y z hy hz
    obtain ⟨Q, hQ, HQ⟩ := prod_v16 x yxz hx
    have EQ := dist_v16 hxy hxz Hxy Hxz Hyxz HQ
    go_wp2_with fail
    refine (imulv16 x y xy hx hy Hxy _).mono ?_
    rintro e v17 ⟨rfl, hv17⟩
    have bv17 : Below w.heap.size w v17 := below_trans' bv16 hv17
    clear hv17 bv16
    go_wp2_with fail
    refine (smulv16 x y xy hx hy Hxy _).mono ?_
    rintro e u ⟨rfl, hu⟩
    obtain rfl := hu.symm
    go_wp2_with fail
    refine (imulv16 x y xy hx hy Hxy _).mono ?_
    rintro e v18 ⟨rfl, hv18⟩
    have bv18 : Below w.heap.size w v18 := below_trans' bv17 hv18
    clear hv18 bv17
    go_wp2_with fail
    refine (imulv16 y x xy hy hx (comm_v16 hx hy Hxy) _).mono ?_
    rintro e v19 ⟨rfl, hv19⟩
    have bv19 : Below w.heap.size w v19 := below_trans' bv18 hv19
    clear hv19 bv18
    go_wp2_with fail
    refine (imulv16 x y xy hx hy Hxy _).mono ?_
    rintro e v20 ⟨rfl, hv20⟩
    have bv20 : Below w.heap.size w v20 := below_trans' bv19 hv20
    clear hv20 bv19
    go_wp2_with fail
    refine (imulv16 xy z xyz hxy hz Hxyz _).mono ?_
    rintro e v21 ⟨rfl, hv21⟩
    have bv21 : Below w.heap.size w v21 := below_trans' bv20 hv21
    clear hv21 bv20
    go_wp2_with fail
    refine (imulv16 y z yz hy hz Hyz _).mono ?_
    rintro e v22 ⟨rfl, hv22⟩
    have bv22 : Below w.heap.size w v22 := below_trans' bv21 hv22
    clear hv22 bv21
    go_wp2_with fail
    refine (imulv16 x yz xyz hx hyz (assoc_v16 hx hy hz Hxy Hyz Hxyz) _).mono ?_
    rintro e v23 ⟨rfl, hv23⟩
    have bv23 : Below w.heap.size w v23 := below_trans' bv22 hv23
    clear hv23 bv22
    go_wp2_with fail
    refine (imulv16 x yxz Q hx hyxz HQ _).mono ?_
    rintro e v24 ⟨rfl, hv24⟩
    have bv24 : Below w.heap.size w v24 := below_trans' bv23 hv24
    clear hv24 bv23
    go_wp2_with fail
    refine (imulv16 x y xy hx hy Hxy _).mono ?_
    rintro e v25 ⟨rfl, hv25⟩
    have bv25 : Below w.heap.size w v25 := below_trans' bv24 hv25
    clear hv25 bv24
    go_wp2_with fail
    refine (imulv16 x z xz hx hz Hxz _).mono ?_
    rintro e v26 ⟨rfl, hv26⟩
    have bv26 : Below w.heap.size w v26 := below_trans' bv25 hv26
    clear hv26 bv25
    obtain ⟨ix, hix, Hix⟩ := pow_v16 x 65534 hx
    by_cases x0 : x = 0
    · subst x0
      go_wp2
      go_ret
      exact ⟨rfl, bv26⟩
    · have x0' : ((x : Int) == 0) = false := by simp; omega
      go_wp2_with fail
      refine (iinvv16 x ix hx Hix _).mono ?_
      rintro e v27 ⟨rfl, hv27⟩
      have bv27 : Below w.heap.size w v27 := below_trans' bv26 hv27
      clear hv27 bv26
      go_wp2_with fail
      refine (imulv16 x ix 1 hx hix (inv_v16 hx x0 Hix) _).mono ?_
      rintro e v28 ⟨rfl, hv28⟩
      have bv28 : Below w.heap.size w v28 := below_trans' bv27 hv28
      clear hv28 bv27
      go_wp2
      go_ret
      exact ⟨rfl, bv28⟩
set_option maxRecDepth 20000 in
set_option maxHeartbeats 1000000 in
theorem fnField_walk {w : World} (a0 : Option Addr) (len0 cap0 : Nat) (z0 : List Int) (h0 : IsRow .u8 w a0 len0 cap0 z0) (a1 : Option Addr) (len1 cap1 : Nat) (z1 : List Int) (h1 : IsRow .u8 w a1 len1 cap1 z1) :
    Calls Try.prog 5 #[.slice a0 len0 cap0, .slice a1 len1 cap1] w fun e w' => e = .returned (.bool true) ∧ Below w.heap.size w w' := by
  have m0 := h0.le
  have m1 := h1.le
  unfold maxLen at m0 m1
  by_cases hl0 : len0 ≤ 1048576
  · by_cases hl1 : len1 ≤ 1048576
    · exact fnField_small a0 len0 cap0 a1 len1 cap1 w (codeOk_of w a0 len0 cap0 z0 h0 hl0) (codeOk_of w a1 len1 cap1 z1 h1 hl1)
    · have d0 : decide ((1048576 : Int) < (len0 : Int)) = false := by simp; omega
      have d1 : decide ((1048576 : Int) < (len1 : Int)) = true := by simp; omega
      go_enter Try.func5, Try.ntmps5
      go_wp2
      go_ret
      exact ⟨rfl, Below.refl _ _⟩
  · have d0 : decide ((1048576 : Int) < (len0 : Int)) = true := by simp; omega
    go_enter Try.func5, Try.ntmps5
    go_wp2
    go_ret
    exact ⟨rfl, Below.refl _ _⟩
end Go.Proofs.Ytgmgpkpicfpdhaa
