import Derived.Test.YteeadhcfippilaaDoorRecBack
import Derived.Test.YteeadhcfippilaaDoorIRec
import Derived.Test.YteeadhcfippilaaDoorDrawRec
import Derived.Test.YteeadhcfippilaaDoorTurn
namespace Go.Proofs.YteeadhcfippilaaDoor
open Go.RowKit
theorem getRec_some (s : ByteArray) (p : Int) (f : Fr) (h : getRec s p = some f) : frmN s p.toNat = some f ∧ sumOf (s.extract f.at' (f.next - 4)) 5 = sum4 s (f.next - 4) := by
  unfold getRec at h
  split at h
  · split at h
    · cases h
    · rename_i g hg
      split at h
      · rename_i hc
        have := Option.some.inj h
        subst this
        exact ⟨hg, hc⟩
      · cases h
  · cases h
theorem rec_turned (H k d : ByteArray) (g : Bool) (hok : RecOk k g d) (j : Nat) (x : UInt8) (hj : j < (recV k g d).size) (hx : x ≠ (recV k g d)[j]) :
    rcN (getRec (H ++ ⟨(turned (recV k g d) j x).toArray⟩) (H.size : Nat)) ≠ (((H.size + (recV k g d).size : Nat)) : Int) := by
  have hv : recV k g d = recT k g d ++ four (sumOf (recT k g d) 5) := if_pos hok
  have hz := recT_size k g d hok.2.1 hok.2.2.2
  have sz : (recV k g d).size = (recT k g d).size + 4 := by rw [hv, ByteArray.size_append, four_size]
  have hl : (recV k g d).data.toList = (recT k g d).data.toList ++ (four (sumOf (recT k g d) 5)).data.toList := by rw [← ba_app, ← hv]
  have hH : H.data.toList.length = H.size := by simp
  cases hg : getRec (H ++ ⟨(turned (recV k g d) j x).toArray⟩) (H.size : Nat) with
  | none => show (0 : Int) ≠ _; omega
  | some f =>
    show ((f.next : Nat) : Int) ≠ _
    intro e
    have e' : f.next = H.size + (recV k g d).size := by omega
    obtain ⟨h1, h2⟩ := getRec_some _ _ f hg
    have h3 := (frm_in _ _ f h1).1
    rw [Int.toNat_natCast] at h3
    rw [h3, e', sz, show H.size + ((recT k g d).size + 4) - 4 = H.size + (recT k g d).size by omega] at h2
    have tn := turned_no H.data.toList (recT k g d) (H ++ ⟨(turned (recV k g d) j x).toArray⟩) (by omega) j x (recV k g d).data.toList hl (by simpa using hj) (by
      intro q; apply hx; rw [q]; simp; rfl) (by rw [ba_app]; unfold turned; simp)
    rw [hH] at tn
    exact tn h2
theorem rec_read (H k d : ByteArray) (g : Bool) (hok : RecOk k g d) (X : ByteArray) (hX : X = (H ++ recV k g d) ++ ⟨#[120]⟩) :
    recordV X (getRec X (H.size : Nat)) = .agg #[.string k, .bool g, .string d, .int .i64 (H.size : Nat), .int .i64 ((H.size : Int) + ((recV k g d).size : Int))] := by
  obtain ⟨f, h1, h2, h3, h4, h5, h6⟩ := rec_put X k d g H.data.toList [120] hok (by rw [hX, ba_app, ba_app])
  have hH : H.data.toList.length = H.size := by simp
  rw [hH] at h1 h5 h6
  rw [h1]
  unfold recordV
  simp only [rcK, rcG, rcD, rcA, rcN]
  rw [h2, h3, h4, h5, h6]
  simp
set_option maxRecDepth 20000 in
set_option maxHeartbeats 4000000 in
theorem fnRecords_small (ea eb : Addr) (a : Option Addr) (len cap : Nat) (a' : Option Addr) (len' cap' : Nat) (w : World) (hE : Errs w ea eb) (hc : CodeOk w a len) (hlc : len ≤ cap) (hc' : CodeOk w a' len') (hlc' : len' ≤ cap') (hl : len ≤ 1048576) (hl' : len' ≤ 1048576) :
    Calls Tryd.prog 3 #[.slice a len cap, .slice a' len' cap'] w fun e w' => e = .returned (.bool true) ∧ Below w.heap.size w w' := by
  have d0 : decide ((1048576 : Int) < (len : Int)) = false := by simp; omega
  have d1 : decide ((1048576 : Int) < (len' : Int)) = false := by simp; omega
  have HE := hid hE
  clear hE
  go_enter Tryd.func3, Tryd.ntmps3
  go_wp2_with fail
  refine (drawRec_all w a len cap hc hlc).mono ?_
  rintro e w1 ⟨⟨k, g, d, rfl, hk, hd⟩, hb1⟩
  have PI := fun w => hid (iPutRec k g d (by omega) (by omega) w)
  have PS := fun w => hid (sPutRec k g d (by omega) (by omega) w)
  have HK := hid hk
  have HD := hid hd
  clear hk hd
  by_cases hok : RecOk k g d
  case neg =>
    have E : recV k g d = ⟨#[]⟩ := if_neg hok
    rw [E] at PI PS
    clear E hok
    go_wp2_with fail
    refine (PI _).out.mono ?_
    rintro e w2 ⟨rfl, hb2⟩
    go_wp2_with fail
    refine (PS _).out.mono ?_
    rintro e w3 ⟨rfl, hb3⟩
    go_wp2
    go_ret
    exact ⟨rfl, below_trans' (below_trans' hb1 hb2) hb3⟩
  have HOK := hid hok
  have tz : (recV k g d).size ≤ 100224 := by
    have hz := recT_size k g d hok.2.1 hok.2.2.2
    rw [show recV k g d = recT k g d ++ four (sumOf (recT k g d) 5) from if_pos hok, ByteArray.size_append, four_size]; omega
  have tz0 : 0 < (recV k g d).size := by rw [show recV k g d = recT k g d ++ four (sumOf (recT k g d) 5) from if_pos hok, ByteArray.size_append, four_size]; omega
  have ne : (recV k g d).toList.isEmpty = false := ba_some _ (by omega)
  obtain ⟨t, ht⟩ : ∃ t, t = recV k g d := ⟨_, rfl⟩
  have HT := hid ht
  rw [← ht] at PI PS tz ne tz0
  clear ht hok
  go_wp2_with fail
  refine (PI _).out.mono ?_
  rintro e w2 ⟨rfl, hb2⟩
  go_wp2_with fail
  refine (PS _).out.mono ?_
  rintro e w3 ⟨rfl, hb3⟩
  have HB3 : Hid (Below w.heap.size w w3) := below_trans' (below_trans' hb1 hb2) hb3
  clear hb1 hb2 hb3
  go_wp2_with fail
  refine (drawPutText_all w3 a' len' cap' (hc'.below HB3.out) hlc').mono ?_
  rintro e w4 ⟨⟨H, rfl, hH⟩, hb4⟩
  have HB4 : Hid (Below w.heap.size w w4) := below_trans' HB3.out hb4
  clear HB3 hb4
  have RR := hid (rec_read H k d g HOK.out _ rfl)
  rw [← HT.out] at RR
  obtain ⟨X1, hX1⟩ : ∃ X, X = H ++ t := ⟨_, rfl⟩
  have x1z : X1.size = H.size + t.size := by rw [hX1, ByteArray.size_append]
  have q1 : H ++ t = X1 := hX1.symm
  rw [q1] at RR
  obtain ⟨X2, hX2⟩ : ∃ X, X = X1 ++ (⟨#[120]⟩ : ByteArray) := ⟨_, rfl⟩
  have x2z : X2.size = H.size + t.size + 1 := by rw [hX2, ByteArray.size_append, x1z]; rfl
  have q2 : X1 ++ (⟨#[120]⟩ : ByteArray) = X2 := hX2.symm
  rw [q2] at RR
  have o1 : ¬ 9223372036854775807 < H.size + t.size := by omega
  have o2 : ¬ 9223372036854775807 < X1.size + 1 := by omega
  have I1 := fun w h => hid (iGetRec X2 (H.size : Nat) (by omega) w ea eb h)
  rw [RR.out] at I1
  have X1Z := hid x1z
  have X2Z := hid x2z
  have HHH := hid hH
  clear x1z x2z hX1 hX2 hH
  go_wp2_with fail
  refine (I1 _ (HE.out.below HB4.out)).out.mono ?_
  rintro e w5 ⟨rfl, hb5⟩
  have HB5 : Hid (Below w.heap.size w w5) := below_trans' HB4.out hb5
  clear HB4 hb5 I1 RR
  have wN : IntKind.i64.wrap ((H.size : Int) + (t.size : Int)) = (H.size : Int) + (t.size : Int) := by have := HHH.out; simp [IntKind.wrap, IntKind.bits, IntKind.signed]; omega
  obtain ⟨W6, hW6⟩ : ∃ W, W = w5.alloc (.cells #[.string k, .bool g, .string d, .int .i64 (H.size : Nat), .int .i64 ((H.size : Int) + (t.size : Int))] 28) := ⟨_, rfl⟩
  have hB6 : Blk W6 w5.heap.size #[.string k, .bool g, .string d, .int .i64 (H.size : Nat), .int .i64 ((H.size : Int) + (t.size : Int))] 28 := by rw [hW6]; exact Blk.made w5 _ _
  have HB6 : Hid (Below w.heap.size w W6) := by show Below _ _ _; rw [hW6]; exact HB5.out.alloc HB5.out.size _
  have z6 : w5.heap.size < W6.heap.size := hB6.lt
  have hc6 := hc'.below HB6.out
  go_wp2_with fail
  rw [← hW6]
  clear hW6
  refine (lwAt_all _ a' len' cap' 0 hc6 (by decide)).mono ?_
  rintro e v1 ⟨⟨r0, rfl, hr0⟩, rfl⟩
  go_wp2_with fail
  refine (lwAt_all _ a' len' cap' 1 hc6 (by decide)).mono ?_
  rintro e v2 ⟨⟨r1, rfl, hr1⟩, rfl⟩
  go_wp2_with fail
  refine (lwAt_all _ a' len' cap' 2 hc6 (by decide)).mono ?_
  rintro e v3 ⟨⟨r2, rfl, hr2⟩, rfl⟩
  have wA : (r0 : Int) * 256 + (r1 : Int) = ((r0 * 256 + r1 : Nat) : Int) := by omega
  have LT := fun w => hid (lwTurn_all t (r0 * 256 + r1) r2 (by omega) tz0 (by omega) hr2 w)
  rw [← wA] at LT
  clear wA
  go_wp2_with fail
  refine (LT _).out.mono ?_
  rintro e w7 ⟨⟨j, x, hj, hx, rfl⟩, hb7⟩
  have RT := hid (rec_turned H k d g HOK.out j x (by rw [← HT.out]; exact hj) (by
    intro q; apply hx; rw [q]; simp only [← HT.out]))
  rw [← HT.out] at RT
  have ty : (turned t j x).length = t.size := by unfold turned; simp
  obtain ⟨T2, hT2⟩ : ∃ T : ByteArray, T = ⟨(turned t j x).toArray⟩ := ⟨_, rfl⟩
  have t2z : T2.size = t.size := by rw [hT2, ← ty]; simp [ByteArray.size]
  rw [← hT2] at RT ⊢
  obtain ⟨Y, hY⟩ : ∃ Y, Y = H ++ T2 := ⟨_, rfl⟩
  have yz : Y.size = H.size + t.size := by rw [hY, ByteArray.size_append, t2z]
  have q3 : H ++ T2 = Y := hY.symm
  rw [q3] at RT
  have o3 : ¬ 9223372036854775807 < H.size + T2.size := by rw [t2z]; exact o1
  have I2 := fun w h => hid (iGetRec Y (H.size : Nat) (by have := HHH.out; omega) w ea eb h)
  obtain ⟨N2, hN2⟩ : ∃ N, N = rcN (getRec Y (H.size : Nat)) := ⟨_, rfl⟩
  have NE : Hid (N2 ≠ (H.size : Int) + (t.size : Int)) := by have := RT.out; rw [← hN2] at this; show _ ≠ _; omega
  have ne2 : (N2 != (H.size : Int) + (t.size : Int)) = true := by have := NE.out; simp [this]
  have I3 : ∀ w, Errs w ea eb → Hid (Calls Tryd.prog 8 #[.string Y, .int .i64 (H.size : Nat)] w fun e w' => e = .returned (.agg #[.string (rcK Y (getRec Y (H.size : Nat))), .bool (rcG (getRec Y (H.size : Nat))), .string (rcD Y (getRec Y (H.size : Nat))), .int .i64 (rcA (getRec Y (H.size : Nat))), .int .i64 N2]) ∧ Below w.heap.size w w') := fun w h => by rw [hN2]; exact I2 w h
  have hB7 : Blk w7 w5.heap.size #[.string k, .bool g, .string d, .int .i64 (H.size : Nat), .int .i64 ((H.size : Int) + (t.size : Int))] 28 := hB6.next hb7
  have HB7 : Hid (Below w.heap.size w w7) := below_trans' HB6.out hb7
  clear I2 RT hT2 t2z hY yz ty hx hN2 hb7 hB6 HB6 hc6 LT NE
  go_wp2_with fail
  refine (I3 _ (HE.out.below HB7.out)).out.mono ?_
  rintro e w8 ⟨rfl, hb8⟩
  have hB8 := Blk.next hb8 hB7
  have HB8 : Hid (Below w.heap.size w w8) := below_trans' HB7.out hb8
  have m4 := hB8.cell 4 _ rfl
  have z8 : w5.heap.size < w8.heap.size := hB8.lt
  have z9 : w.heap.size ≤ w8.heap.size := HB8.out.size
  clear hb8 hB7 HB7 hB8
  go_wp2
  go_ret
  exact ⟨rfl, HB8.out.alloc z9 _⟩
set_option maxHeartbeats 1000000 in
theorem fnRecords_walk {w : World} (hL : ∃ ea eb, Errs w ea eb) (a : Option Addr) (len cap : Nat) (z : List Int) (h : IsRow .u8 w a len cap z) (a' : Option Addr) (len' cap' : Nat) (z' : List Int) (h' : IsRow .u8 w a' len' cap' z') :
    Calls Tryd.prog 3 #[.slice a len cap, .slice a' len' cap'] w fun e w' => e = .returned (.bool true) ∧ Below w.heap.size w w' := by
  have m0 := h.le
  have m1 := h'.le
  unfold maxLen at m0 m1
  obtain ⟨ea, eb, hE⟩ := hL
  by_cases hl : len ≤ 1048576
  · by_cases hl' : len' ≤ 1048576
    · exact fnRecords_small ea eb a len cap a' len' cap' w hE (codeOk_of w a len cap z h hl) m0.1 (codeOk_of w a' len' cap' z' h' hl') m1.1 hl hl'
    · have d0 : decide ((1048576 : Int) < (len : Int)) = false := by simp; omega
      have d1 : decide ((1048576 : Int) < (len' : Int)) = true := by simp; omega
      go_enter Tryd.func3, Tryd.ntmps3
      go_wp2
      go_ret
      exact ⟨rfl, Below.refl _ _⟩
  · have d0 : decide ((1048576 : Int) < (len : Int)) = true := by simp; omega
    go_enter Tryd.func3, Tryd.ntmps3
    go_wp2
    go_ret
    exact ⟨rfl, Below.refl _ _⟩
end Go.Proofs.YteeadhcfippilaaDoor
