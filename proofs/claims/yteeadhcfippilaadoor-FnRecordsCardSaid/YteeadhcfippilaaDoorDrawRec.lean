import Derived.Test.YteeadhcfippilaaDoorDrawKeyB
import Derived.Lib.AppendZerosOnto
import Derived.OwnWalk
import Derived.Deep.OwnRows
namespace Go.Proofs.YteeadhcfippilaaDoor
open Go.RowKit
attribute [local go_sem ↓] Go.wp_at_zero Go.wp_at_succ
/-! DrawPutRecord: a key and data of few bytes. -/
def zs8 (N : Nat) : Array Value := madeCells #[.int .u8 0] N
theorem zs8_at (N i : Nat) (h : i < N) : (zs8 N)[i]? = some (.int .u8 0) := by
  unfold zs8 madeCells
  simp [h, Nat.mod_one]
theorem str_z (N : Nat) : (strOfNums (List.replicate N 0)).size = N := by rw [strOfNums_size]; simp
theorem mk8 (N : Nat) (h : N ≤ 1000) : ∀ X, (Instr.makeSlice 22 (.int .i64 (N : Nat)) (.int .i64 (N : Nat))).run Tryd.prog X = .ok (.slice (some ⟨X.heap.size, 0, none⟩) N N) (X.alloc (.cells (zs8 N) 5)) :=
  fun X => run_make_row' (P := Tryd.prog) 22 5 (.int .u8 0) 1 Tryd.underlying22 Tryd.info5 rfl .i64 .i64 N (by omega) (by omega) X
theorem conv_zs (X : World) (b N : Nat) (h : RowAt X b 5 (zs8 N)) : (convert 22 9 (.slice (some ⟨b, 0, none⟩) N N)).run Tryd.prog X = .ok (.string (strOfNums (List.replicate N 0))) X :=
  run_convert_bytes_arg (P := Tryd.prog) X 22 5 Tryd.underlying22 Tryd.underlying5 b 0 N N (List.replicate N 0) (by simp) (fun i hi => by
    have := h.cell i
    rw [Nat.zero_add, this, zs8_at N i hi]
    simp [hi, List.getD_eq_getElem?_getD]) 9 Tryd.underlying9
theorem conv_zz (z : ByteArray) {N0 : Nat} (hz : Hid (z = strOfNums (List.replicate N0 0))) (X : World) (b N : Nat) (h : RowAt X b 5 (zs8 N0)) (hN : N = N0 := by rfl) : (convert 22 9 (.slice (some ⟨b, 0, none⟩) N N)).run Tryd.prog X = .ok (.string z) X := by subst hN; rw [hz.out]; exact conv_zs X b N h
def recC (z : ByteArray) : Array Value := #[.string ⟨#[]⟩, .string ⟨#[231]⟩, .string z]
theorem recC_at (z : ByteArray) (hz : z.size ≤ 300) (k : Nat) (hk : k < 3) : ∃ t : ByteArray, (#[.string ⟨#[]⟩, .string ⟨#[231]⟩, .string z] : Array Value)[k]? = some (.string t) ∧ t.size ≤ 300 := by
  rcases (by omega : k = 0 ∨ k = 1 ∨ k = 2) with rfl | rfl | rfl
  · exact ⟨_, rfl, by decide⟩
  · exact ⟨_, rfl, by decide⟩
  · exact ⟨_, rfl, hz⟩
set_option maxRecDepth 20000 in
set_option maxHeartbeats 2000000 in
theorem drawRec_all (w : World) (a : Option Addr) (len cap : Nat) (hc : CodeOk w a len) (hlc : len ≤ cap) :
    Calls Tryd.prog 4 #[.slice a len cap] w fun e w' => (∃ (k : ByteArray) (g : Bool) (d : ByteArray), e = .returned (.tuple #[.string k, .bool g, .string d]) ∧ k.size ≤ 300 ∧ d.size ≤ 300) ∧ Below w.heap.size w w' := by
  go_enter Tryd.func4, Tryd.ntmps4
  go_wp2_with fail
  refine (source_all w a len cap hc hlc).mono ?_
  rintro e w1 ⟨rfl, hs, hb⟩
  go_wp2_with fail
  refine (key_all w _ w.heap.size a len cap 0 hs (by omega)).mono ?_
  rintro e w2 ⟨⟨k, rfl, hk⟩, ⟨p2, hs2, hp2⟩, hg2⟩
  have HB2 := hid (below_src hb hg2)
  clear hs hb hg2
  go_wp2_with fail
  refine (one_all w _ w.heap.size a len cap p2 6 hs2 (by omega) (by decide) (by decide)).mono ?_
  rintro e w3 ⟨⟨b, rfl⟩, hs3, hg3⟩
  have HB3 : Hid (Below w.heap.size w w3) := below_src HB2.out hg3
  clear hs2 hg3 HB2
  have K : Hid (k.size ≤ 300) := by show _ ≤ _; omega
  clear hk
  cases b with
  | false =>
    go_wp2_with fail
    refine (one_all w _ w.heap.size a len cap (p2 + 1) 3 hs3 (by omega) (by decide) (by decide)).mono ?_
    rintro e u4 ⟨⟨g, rfl⟩, t4, y4⟩
    have B4 : Hid (Below w.heap.size w u4) := below_src HB3.out y4
    clear y4
    go_wp2_with fail
    refine (n_all w _ w.heap.size a len cap ((p2 + 1) + 1) 30 t4 (by omega) (by decide) (by decide)).mono ?_
    rintro e u5 ⟨⟨r, rfl, hr0, hr1⟩, t5, y5⟩
    obtain ⟨R, rfl⟩ := Int.eq_ofNat_of_zero_le hr0
    have B5 : Hid (Below w.heap.size w u5) := below_src B4.out y5
    clear y5 t4 B4
    go_wp2_with fail
    refine (bytes_all w _ w.heap.size a len cap ((p2 + 1) + 1 + 1) R t5 (by omega) (by omega)).mono ?_
    rintro e u6 ⟨⟨d, rfl, hd⟩, ⟨p6, t6, hp6⟩, y6⟩
    have B6 : Hid (Below w.heap.size w u6) := below_src B5.out y6
    clear y6 t5 B5
    have HD : Hid (d.size ≤ 300) := by show _ ≤ _; omega
    cases g with
    | false =>
      go_wp2
      go_ret3
      exact ⟨⟨_, _, _, rfl, K.out, HD.out⟩, B6.out⟩
    | true =>
      go_wp2_with fail
      refine (one_all w _ w.heap.size a len cap p6 4 t6 (by omega) (by decide) (by decide)).mono ?_
      rintro e u7 ⟨⟨b2, rfl⟩, t7, y7⟩
      have B7 : Hid (Below w.heap.size w u7) := below_src B6.out y7
      clear y7 t7 t6 B6
      cases b2 with
      | false =>
        go_wp2
        go_ret3
        exact ⟨⟨_, _, _, rfl, K.out, by decide⟩, B7.out⟩
      | true =>
        go_wp2
        go_ret3
        exact ⟨⟨_, _, _, rfl, K.out, HD.out⟩, B7.out⟩
  | true =>
    go_wp2_with fail
    go_region_with ((first
      | (go_at_call 14; refine (n_all w _ w.heap.size a len cap (p2 + 1) 3 (by first | exact hs3.drew | exact hs3) (by omega) (by omega) (by omega)).mono ?_; rintro e v1 ⟨⟨r1, rfl, hr0, hr1⟩, hs4, hg4⟩; obtain ⟨R1, rfl⟩ := Int.eq_ofNat_of_zero_le hr0; obtain ⟨N, hN⟩ : ∃ N, N = 199 + R1 := ⟨_, rfl⟩; have hw1 : IntKind.i64.wrap (N : Int) = (N : Int) := (by simp [IntKind.wrap, IntKind.bits, IntKind.signed]; omega); have hw2 : 199 + (R1 : Int) = (N : Int) := (by omega); have mk := mk8 N (by omega); have N9 : N ≤ 250 := (by omega); have HN := hid hN; have HR1 := hid hr1; clear hN hr0 hr1; obtain ⟨z, hz⟩ : ∃ z, z = strOfNums (List.replicate N 0) := ⟨_, rfl⟩; have zz : z.size ≤ 300 := (by rw [hz, strOfNums_size]; simp; omega); have HZ := hid hz; clear hz; have cv0 := conv_zz z HZ (v1.alloc (.cells (zs8 N) 5)) v1.heap.size N (RowAt.new v1 _ _); have B1 : Hid (Below w.heap.size w v1) := (by first | exact below_src HB3.out hg4 | exact below_src HB3.out.drew hg4); have c1 : w.heap.size < v1.heap.size := hs4.lt)
      | (go_at_call 14; refine (n_all w _ w.heap.size a len cap (p2 + 1 + 1) 3 (by first | exact hs4 | exact hs4.alloc _ | exact (hs4.alloc _).alloc _) (by omega) (by omega) (by omega)).mono ?_; rintro e v2 ⟨⟨r2, rfl, h20, h21⟩, hs5, hg5⟩; obtain ⟨R2, rfl⟩ := Int.eq_ofNat_of_zero_le h20; obtain ⟨t2, hk2, ht2⟩ := recC_at z zz R2 (by omega); have HT2 := hid ht2; clear ht2; have B2 : Hid (Below w.heap.size w v2) := (by first | exact below_src B1.out hg5 | exact below_src (B1.out.alloc (by omega) _) hg5 | exact below_src ((B1.out.alloc (by omega) _).alloc (by simp; omega) _) hg5); (first | have rz := row_far (RowAt.new v1 5 (zs8 N)) hg5 (by omega) | have rz := row_far ((RowAt.new v1 5 (zs8 N)).alloc _) hg5 (by omega) | skip); (first | have cv1 := conv_zz z HZ v2 _ N rz | skip); have cv2 := conv_zz z HZ (v2.alloc (.cells (zs8 N) 5)) v2.heap.size N (RowAt.new v2 _ _); (first | have rl := row_far (RowAt.next (v1.alloc (.cells (zs8 N) 5)) 9 #[.string ⟨#[]⟩, .string ⟨#[231]⟩, .string z] (n := v1.heap.size + 1) (by simp)) hg5 (by omega) | skip); (first | have lc : v2.cell? ⟨v1.heap.size + 1, R2, none⟩ = some (.string t2) := (by rw [rl.cell R2]; exact hk2) | skip))))
    all_goals (
      have c2 : w.heap.size < v2.heap.size := hs5.lt
      go_wp2_with fail
      refine (one_all w _ w.heap.size a len cap (p2 + 1 + 1 + 1) 3 (by first | exact hs5 | exact hs5.alloc _ | exact (hs5.alloc _).alloc _) (by omega) (by decide) (by decide)).mono ?_
      rintro e u4 ⟨⟨g, rfl⟩, t4, y4⟩
      have B4 : Hid (Below w.heap.size w u4) := (by first | exact below_src B2.out y4 | exact below_src (B2.out.alloc (by omega) _) y4 | exact below_src ((B2.out.alloc (by omega) _).alloc (by simp; omega) _) y4)
      clear y4
      go_wp2_with fail
      refine (n_all w _ w.heap.size a len cap ((p2 + 1 + 1 + 1) + 1) 30 t4 (by omega) (by decide) (by decide)).mono ?_
      rintro e u5 ⟨⟨r, rfl, hr0, hr1⟩, t5, y5⟩
      obtain ⟨R, rfl⟩ := Int.eq_ofNat_of_zero_le hr0
      have B5 : Hid (Below w.heap.size w u5) := below_src B4.out y5
      clear y5 t4 B4
      go_wp2_with fail
      refine (bytes_all w _ w.heap.size a len cap ((p2 + 1 + 1 + 1) + 1 + 1) R t5 (by omega) (by omega)).mono ?_
      rintro e u6 ⟨⟨d, rfl, hd⟩, ⟨p6, t6, hp6⟩, y6⟩
      have B6 : Hid (Below w.heap.size w u6) := below_src B5.out y6
      clear y6 t5 B5
      have HD : Hid (d.size ≤ 300) := by show _ ≤ _; omega
      cases g with
      | false =>
        go_wp2
        go_ret3
        exact ⟨⟨_, _, _, rfl, HT2.out, HD.out⟩, B6.out⟩
      | true =>
        go_wp2_with fail
        refine (one_all w _ w.heap.size a len cap p6 4 t6 (by omega) (by decide) (by decide)).mono ?_
        rintro e u7 ⟨⟨b2, rfl⟩, t7, y7⟩
        have B7 : Hid (Below w.heap.size w u7) := below_src B6.out y7
        clear y7 t7 t6 B6
        cases b2 with
        | false =>
          go_wp2
          go_ret3
          exact ⟨⟨_, _, _, rfl, HT2.out, by decide⟩, B7.out⟩
        | true =>
          go_wp2
          go_ret3
          exact ⟨⟨_, _, _, rfl, HT2.out, HD.out⟩, B7.out⟩
    )
end Go.Proofs.YteeadhcfippilaaDoor
