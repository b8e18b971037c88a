import Derived.Test.YteimhnklebppkaaBack
import Derived.Test.YteimhnklebppkaaGetText
import Derived.Test.YteimhnklebppkaaIUnHex
import Derived.Test.YteimhnklebppkaaDraw2
namespace Go.Proofs.Yteimhnklebppkaa
open Go.RowKit
theorem iunhex_all (s : ByteArray) (hs : s.size ≤ 1048576) (w : World) :
    Calls Try.prog 11 #[.string s] w fun e w' => e = .returned (textV (unhex s)) ∧ Below w.heap.size w w' := by
  by_cases h : 100000 < s.size
  · exact iunhex_no s hs h w
  · exact iunhex_yes s (by omega) w
theorem ihex_small (s : ByteArray) (hs : s.size ≤ 100000) (w : World) :
    Calls Try.prog 12 #[.string s] w fun e w' => e = .returned (.string (hexOf s)) ∧ Below w.heap.size w w' := by
  unfold hexOf; rw [if_neg (by omega)]; exact ihex_any s hs w
theorem CodeOk.below {w w1 : World} {a : Option Addr} {len : Nat} (h : CodeOk w a len) (hb : Below w.heap.size w w1) : CodeOk w1 a len := by
  refine ⟨h.1, ?_⟩
  rcases h.2 with h0 | ⟨b, off, rfl, hbl, hc⟩
  · exact Or.inl h0
  · refine Or.inr ⟨b, off, rfl, Nat.lt_of_lt_of_le hbl hb.size, fun i hi => ?_⟩
    obtain ⟨z, hz, hcell⟩ := hc i hi
    exact ⟨z, hz, (hb.cell (p := ⟨b, off + i, none⟩) hbl).trans hcell⟩
theorem below_trans' {w w1 w2 : World} (h1 : Below w.heap.size w w1) (h2 : Below w1.heap.size w1 w2) : Below w.heap.size w w2 := h1.trans (h2.mono h1.size)

set_option maxRecDepth 20000 in
set_option maxHeartbeats 2000000 in
theorem fnNumbers_small (a0 : Option Addr) (len0 cap0 : Nat) (a1 : Option Addr) (len1 cap1 : Nat) (w : World) (c0 : CodeOk w a0 len0) (l0 : len0 ≤ cap0) (c1 : CodeOk w a1 len1) (l1 : len1 ≤ cap1) :
    Calls Try.prog 3 #[.slice a0 len0 cap0, .slice a1 len1 cap1] w fun e w' => e = .returned (.bool true) ∧ Below w.heap.size w w' := by
  have z0 := c0.1
  have z1 := c1.1
  have d0 : decide ((1048576 : Int) < (len0 : Int)) = false := by simp; omega
  have d1 : decide ((1048576 : Int) < (len1 : Int)) = false := by simp; omega
  go_enter Try.func3, Try.ntmps3
  go_wp2_with fail
  refine (drawPutNum_all w a0 len0 cap0 c0 l0).mono ?_
  rintro e w1 ⟨⟨n, rfl, hn0, hn1⟩, hb1⟩
  go_wp2_with fail
  refine (drawPutText_all w1 a1 len1 cap1 (c1.below hb1) l1).mono ?_
  rintro e w2 ⟨⟨hd, rfl, hh⟩, hb2⟩
  have hb3 := below_trans' hb1 hb2
  clear hb1 hb2
  go_wp2_with fail
  refine (iput_all n hn1 _).mono ?_
  rintro e w3 ⟨rfl, hb4⟩
  have hb5 := below_trans' hb3 hb4
  clear hb3 hb4
  have hps := putNum_size n
  have hsz : (hd ++ putNum n ++ { data := #[120] }).size ≤ 1048576 := by
    rw [ByteArray.size_append, ByteArray.size_append]; show hd.size + (putNum n).size + 1 ≤ _; omega
  have HSZ := hid hsz
  clear hsz
  go_wp2_with fail
  refine (igetNum_all _ _ HSZ.out _).mono ?_
  rintro e w4 ⟨rfl, hb6⟩
  have hb7 := below_trans' hb5 hb6
  clear hb5 hb6
  by_cases hneg : n < 0
  · have hp : putNum n = ByteArray.empty := by unfold putNum; rw [if_pos hneg]
    have he : (putNum n).toList.isEmpty = true := by rw [hp, ByteArray.toList_eq]; rfl
    obtain ⟨g, x, y, hv⟩ := numV_form (hd.size : Nat) (getNum (hd ++ putNum n ++ { data := #[120] }) (hd.size : Nat))
    rw [hv]
    clear hv hp
    go_wp2
    go_ret
    exact ⟨rfl, hb7.alloc hb7.size _⟩
  · obtain ⟨m, rfl⟩ := Int.eq_ofNat_of_zero_le (show 0 ≤ n by omega)
    have hget : getNum (hd ++ putNum m ++ { data := #[120] }) (hd.size : Nat) = some (m, (putNum m).size) := by
      have := get_put (hd ++ putNum m ++ { data := #[120] }) hd.data.toList [120] m (by omega) (by simp [ByteArray.data_append])
      rw [show hd.data.toList.length = hd.size by simp] at this
      exact this
    rw [hget]
    simp only [numV]
    clear hget
    go_wp2_with fail
    have hb8 := hb7.alloc hb7.size (.cells #[.bool true, .int .i64 m, .int .i64 ((hd.size : Int) + ((putNum m).size : Nat))] 27)
    refine (drawPutText_all _ a0 len0 cap0 (c0.below hb8) l0).mono ?_
    rintro e w5 ⟨⟨t, rfl, ht⟩, hb9⟩
    have hb10 := below_trans' hb8 hb9
    clear hb7 hb8 hb9
    go_wp2_with fail
    refine (iptext_all t (by omega) _).mono ?_
    rintro e w6 ⟨rfl, hb11⟩
    have hb12 := below_trans' hb10 hb11
    clear hb10 hb11
    have hpt : (putText t).size ≤ 400 := by
      unfold putText; rw [if_neg (by omega), ByteArray.size_append]; have := putNum_size t.size; omega
    have HSZ2 : Hid ((hd ++ putText t).size ≤ 1048576) := by show _ ≤ _; rw [ByteArray.size_append]; omega
    go_wp2_with fail
    refine (igetText_all _ _ HSZ2.out _).mono ?_
    rintro e w7 ⟨rfl, hb13⟩
    have hb14 := below_trans' hb12 hb13
    clear hb12 hb13
    have hget : getText (hd ++ putText t) (hd.size : Nat) = some (t, ((hd.size + (putText t).size : Nat) : Int)) := by
      have := getText_put (hd ++ putText t) t hd.data.toList (by omega) (by simp [ByteArray.data_append])
      rw [show hd.data.toList.length = hd.size by simp] at this
      exact this
    rw [hget]
    simp only [textV]
    clear hget
    go_wp2_with fail
    refine (ihex_small t (by omega) _).mono ?_
    rintro e w8 ⟨rfl, hb15⟩
    have hb16 := below_trans' hb14 hb15
    clear hb14 hb15
    have HSZ3 : Hid ((hexOf t).size ≤ 1048576) := by
      show _ ≤ _; unfold hexOf; rw [if_neg (by omega), strOfNums_size, hexL_len]; simp; omega
    go_wp2_with fail
    refine (iunhex_all _ HSZ3.out _).mono ?_
    rintro e w9 ⟨rfl, hb17⟩
    have hb18 := below_trans' hb16 hb17
    clear hb16 hb17
    rw [unhex_hex t (by omega)]
    simp only [textV]
    go_wp2
    go_ret
    exact ⟨rfl, hb18.alloc hb18.size _⟩
theorem fnNumbers_walk {w : World} (a0 : Option Addr) (len0 cap0 : Nat) (z0 : List Int) (h0 : IsRow .u8 w a0 len0 cap0 z0) (a1 : Option Addr) (len1 cap1 : Nat) (z1 : List Int) (h1 : IsRow .u8 w a1 len1 cap1 z1) :
    Calls Try.prog 3 #[.slice a0 len0 cap0, .slice a1 len1 cap1] w fun e w' => e = .returned (.bool true) ∧ Below w.heap.size w w' := by
  have m0 := h0.le
  have m1 := h1.le
  unfold maxLen at m0 m1
  by_cases hl0 : len0 ≤ 1048576
  · by_cases hl1 : len1 ≤ 1048576
    · exact fnNumbers_small a0 len0 cap0 a1 len1 cap1 w (codeOk_of w a0 len0 cap0 z0 h0 hl0) m0.1 (codeOk_of w a1 len1 cap1 z1 h1 hl1) m1.1
    · have d0 : decide ((1048576 : Int) < (len0 : Int)) = false := by simp; omega
      have d1 : decide ((1048576 : Int) < (len1 : Int)) = true := by simp; omega
      go_enter Try.func3, Try.ntmps3
      go_wp2
      go_ret
      exact ⟨rfl, Below.refl _ _⟩
  · have d0 : decide ((1048576 : Int) < (len0 : Int)) = true := by simp; omega
    go_enter Try.func3, Try.ntmps3
    go_wp2
    go_ret
    exact ⟨rfl, Below.refl _ _⟩
end Go.Proofs.Yteimhnklebppkaa
