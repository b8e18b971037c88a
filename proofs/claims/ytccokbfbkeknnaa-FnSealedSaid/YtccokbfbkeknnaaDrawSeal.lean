import Derived.Test.YtccokbfbkeknnaaDrawRec
namespace Go.Proofs.Ytccokbfbkeknnaa
open Go.RowKit
attribute [local go_sem ↓] Go.wp_at_zero Go.wp_at_succ
/-! DrawSealObject. -/
set_option maxRecDepth 20000 in
set_option maxHeartbeats 2000000 in
theorem drawSeal_all (w : World) (a : Option Addr) (len cap : Nat) (hc : CodeOk w a len) (hlc : len ≤ cap) :
    Calls Try.prog 8 #[.slice a len cap] w fun e w' => (∃ (m k : ByteArray) (nonce : Int) (d : ByteArray), e = .returned (.tuple #[.string m, .string k, .int .i64 nonce, .string d]) ∧ m.size ≤ 6 ∧ k.size ≤ 300 ∧ -1 ≤ nonce ∧ nonce ≤ 98 ∧ d.size ≤ 300) ∧ Below w.heap.size w w' := by
  go_enter Try.func8, Try.ntmps8
  go_wp2_with fail
  refine (source_all w a len cap hc hlc).mono ?_
  rintro e w1 ⟨rfl, hs, hb⟩
  go_wp2_with fail
  refine (word_all w _ w.heap.size a len cap 0 hs (by omega)).mono ?_
  rintro e w2 ⟨⟨m, rfl, hm⟩, ⟨p2, hs2, hp2⟩, hg2⟩
  have B2 := hid (below_src hb hg2)
  clear hs hb hg2
  go_wp2_with fail
  refine (word_all w _ w.heap.size a len cap p2 hs2 (by omega)).mono ?_
  rintro e w3 ⟨⟨k, rfl, hk⟩, ⟨p3, hs3, hp3⟩, hg3⟩
  have B3 := hid (below_src B2.out hg3)
  clear hs2 hg3 B2
  go_wp2_with fail
  refine (one_all w _ w.heap.size a len cap p3 12 hs3 (by omega) (by decide) (by decide)).mono ?_
  rintro e w4 ⟨⟨b1, rfl⟩, hs4, hg4⟩
  have B4 := hid (below_src B3.out hg4)
  clear hs3 hg4 B3
  obtain ⟨M, hM⟩ : ∃ M : ByteArray, M = if b1 then ⟨#[]⟩ else m := ⟨_, rfl⟩
  have MZ : Hid (M.size ≤ 6) := by
    show _ ≤ _
    rw [hM]
    cases b1
    · exact hm
    · show (⟨#[]⟩ : ByteArray).size ≤ 6
      decide
  cases b1
  all_goals
    simp only [Bool.false_eq_true, if_false, if_true] at hM
    subst hM
    go_wp2_with fail
    refine (one_all w _ w.heap.size a len cap (p3 + 1) 12 hs4 (by omega) (by decide) (by decide)).mono ?_
    rintro e w5 ⟨⟨b2, rfl⟩, hs5, hg5⟩
    have B5 := hid (below_src B4.out hg5)
    clear hs4 hg5 B4
    cases b2
    · go_wp2_with fail
      refine (n_all w _ w.heap.size a len cap (p3 + 1 + 1) 100 hs5 (by omega) (by decide) (by decide)).mono ?_
      rintro e w6 ⟨⟨r, rfl, hr0, hr1⟩, hs6, hg6⟩
      have B6 := hid (below_src B5.out hg6)
      clear hs5 hg6 B5
      go_wp2_with fail
      refine (long_all w _ w.heap.size a len cap (p3 + 1 + 1 + 1) hs6 (by omega)).mono ?_
      rintro e w7 ⟨⟨d, rfl, hd⟩, ⟨p7, hs7, hp7⟩, hg7⟩
      have B7 := hid (below_src B6.out hg7)
      clear hs6 hg7 B6 hs7
      go_wp2
      refine bodyPost_ret (v := .tuple #[.string _, .string _, .int .i64 (r - 1), .string _]) (by simp [results, Try.results8, go_sem]; rfl) rfl ⟨⟨_, _, _, _, rfl, MZ.out, by omega, by omega, by omega, hd⟩, B7.out⟩
    · go_wp2_with fail
      refine (n_all w _ w.heap.size a len cap (p3 + 1 + 1) 3 hs5 (by omega) (by decide) (by decide)).mono ?_
      rintro e w6 ⟨⟨r1, rfl, hr0, hr1⟩, hs6, hg6⟩
      obtain ⟨R1, rfl⟩ := Int.eq_ofNat_of_zero_le hr0
      have B6 := hid (below_src B5.out hg6)
      clear hs5 hg6 B5
      obtain ⟨N, hN⟩ : ∃ N, N = 199 + R1 := ⟨_, rfl⟩
      have hw1 : IntKind.i64.wrap (N : Int) = (N : Int) := by simp [IntKind.wrap, IntKind.bits, IntKind.signed]; omega
      have hw2 : 199 + (R1 : Int) = (N : Int) := by omega
      have mk := mk8 N (by omega)
      have N9 : N ≤ 250 := by omega
      clear hN hr0 hr1
      obtain ⟨z, hz⟩ : ∃ z, z = strOfNums (List.replicate N 0) := ⟨_, rfl⟩
      have zz : z.size ≤ 300 := by rw [hz, strOfNums_size]; simp; omega
      have HZ := hid hz
      clear hz
      have cv0 := conv_zz z HZ (w6.alloc (.cells (zs8 N) 5)) w6.heap.size N (RowAt.new w6 _ _)
      obtain ⟨W6, hW6⟩ : ∃ W, W = w6.alloc (.cells (zs8 N) 5) := ⟨_, rfl⟩
      have S6 : Hid (Src w W6 w.heap.size a len cap (p3 + 1 + 1 + 1)) := by rw [hW6]; exact hs6.alloc _
      have C6 : Hid (Below w.heap.size w W6) := by rw [hW6]; exact B6.out.alloc B6.out.size _
      go_wp2_with fail
      rw [← hW6]
      clear hW6 cv0 hs6 B6
      refine (n_all w _ w.heap.size a len cap (p3 + 1 + 1 + 1) 100 S6.out (by omega) (by decide) (by decide)).mono ?_
      rintro e w7 ⟨⟨r, rfl, hr0, hr1⟩, hs7, hg7⟩
      have B7 := hid (below_src C6.out hg7)
      clear S6 hg7 C6
      go_wp2_with fail
      refine (long_all w _ w.heap.size a len cap (p3 + 1 + 1 + 1 + 1) hs7 (by omega)).mono ?_
      rintro e w8 ⟨⟨d, rfl, hd⟩, ⟨p8, hs8, hp8⟩, hg8⟩
      have B8 := hid (below_src B7.out hg8)
      clear hs7 hg8 B7 hs8
      go_wp2
      refine bodyPost_ret (v := .tuple #[.string _, .string _, .int .i64 (r - 1), .string _]) (by simp [results, Try.results8, go_sem]) rfl ⟨⟨_, _, _, _, rfl, MZ.out, zz, by omega, by omega, hd⟩, B8.out⟩
end Go.Proofs.Ytccokbfbkeknnaa
