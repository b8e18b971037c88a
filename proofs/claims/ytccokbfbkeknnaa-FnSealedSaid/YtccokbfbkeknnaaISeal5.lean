import Derived.Test.YtccokbfbkeknnaaISeal4
namespace Go.Proofs.Ytccokbfbkeknnaa
open Go.RowKit
/-! The program's dataKeyOf. -/
set_option maxRecDepth 20000 in
set_option maxHeartbeats 2000000 in
theorem iDKey (m : ByteArray) (c : Int) (wr dt : ByteArray) (nonce : Int) (h1 : nonce ≤ 9223372036854775807) (w : World) :
    Calls Try.prog 37 #[.string m, .agg #[.int .i64 c, .string wr, .string dt], .int .i64 nonce] w fun e w' => e = .returned (.tuple #[.string (unwO m c wr dt nonce).2, .int .i64 (unwO m c wr dt nonce).1]) ∧ Below w.heap.size w w' := by
  have J := Jn.box w 26 #[.int .i64 c, .string wr, .string dt]
  obtain ⟨W0, hW0⟩ : ∃ W, W = w.alloc (.cells #[.int .i64 c, .string wr, .string dt] 26) := ⟨_, rfl⟩
  rw [← hW0] at J
  have K1 := fun wx => hid (iKey m wx)
  have KF := fun wx => hid (iSFits c wr dt wx)
  have q0 : W0.cell? ⟨w.heap.size, 0, none⟩ = some (.int .i64 c) := J.out.1.cell 0
  have q1 : W0.cell? ⟨w.heap.size, 1, none⟩ = some (.string wr) := J.out.1.cell 1
  have q2 : W0.cell? ⟨w.heap.size, 2, none⟩ = some (.string dt) := J.out.1.cell 2
  by_cases p1 : keyP m
  case neg =>
    have E : Hid (unwO m c wr dt nonce = (1, ⟨#[]⟩)) := if_neg fun q => p1 q.1
    rw [pb_f p1] at K1
    clear p1
    go_enter Try.func37, Try.ntmps37
    go_wp2_with fail
    rw [← hW0]
    clear hW0
    refine (K1 _).out.mono ?_
    rintro e w1 ⟨rfl, hw⟩
    obtain rfl := hw.symm
    go_wp2
    go_ret2
    exact ⟨by rw [E.out]; rfl, J.out.2⟩
  rw [pb_t p1] at K1
  by_cases p2 : 0 ≤ nonce
  case neg =>
    have E : Hid (unwO m c wr dt nonce = (1, ⟨#[]⟩)) := if_neg fun q => p2 q.2.1
    have d2 : decide (nonce < 0) = true := by simp; omega
    clear p1 p2
    go_enter Try.func37, Try.ntmps37
    go_wp2_with fail
    rw [← hW0]
    clear hW0
    refine (K1 _).out.mono ?_
    rintro e w1 ⟨rfl, hw⟩
    obtain rfl := hw.symm
    go_wp2
    go_ret2
    exact ⟨by rw [E.out]; rfl, J.out.2⟩
  have d2 : decide (nonce < 0) = false := by simp; omega
  by_cases p3 : sfP c wr dt
  case neg =>
    have E : Hid (unwO m c wr dt nonce = (1, ⟨#[]⟩)) := if_neg fun q => p3 q.2.2
    rw [pb_f p3] at KF
    clear p1 p2 p3
    go_enter Try.func37, Try.ntmps37
    go_wp2_with fail
    rw [← hW0]
    clear hW0
    refine (K1 _).out.mono ?_
    rintro e w1 ⟨rfl, hw⟩
    obtain rfl := hw.symm
    go_wp2_with fail
    refine (KF _).out.mono ?_
    rintro e w1 ⟨rfl, hb1⟩
    replace J := Jn.next hb1 J
    clear hb1 q0 q1 q2
    have q1 : w1.cell? ⟨w.heap.size, 1, none⟩ = some (.string wr) := J.out.1.cell 1
    go_wp2
    go_ret2
    exact ⟨by rw [E.out]; rfl, J.out.2⟩
  rw [pb_t p3] at KF
  obtain ⟨T, hT⟩ : ∃ T, T = gtT (getText (ofL (xrL wr.data.toList m nonce)) 0) := ⟨_, rfl⟩
  have E0 := hid (unw_of m c wr dt nonce ⟨p1, p2, p3⟩ T hT)
  have KU := fun wx => hid (iUnwK m wr nonce p1 p3.2.1 h1 T hT wx)
  generalize pb (keyP T ∧ ofL (wpL m T nonce) = wr) = B at E0 KU
  clear hT p1 p2 p3
  cases B with
  | true =>
    have E : Hid (unwO m c wr dt nonce = (0, T)) := by show _ = _; rw [E0.out]; rfl
    clear E0
    go_enter Try.func37, Try.ntmps37
    go_wp2_with fail
    rw [← hW0]
    clear hW0
    refine (K1 _).out.mono ?_
    rintro e w1 ⟨rfl, hw⟩
    obtain rfl := hw.symm
    go_wp2_with fail
    refine (KF _).out.mono ?_
    rintro e w1 ⟨rfl, hb1⟩
    replace J := Jn.next hb1 J
    clear hb1 q0 q1 q2
    have q1 : w1.cell? ⟨w.heap.size, 1, none⟩ = some (.string wr) := J.out.1.cell 1
    go_wp2_with fail
    refine (KU _).out.mono ?_
    rintro e w2 ⟨rfl, hb2⟩
    replace J := Jn.next hb2 J
    clear hb2 q1
    go_wp2
    go_ret2
    exact ⟨by rw [E.out]; rfl, J.out.2⟩
  | false =>
    have E : Hid (unwO m c wr dt nonce = (12, ⟨#[]⟩)) := by show _ = _; rw [E0.out]; rfl
    clear E0
    go_enter Try.func37, Try.ntmps37
    go_wp2_with fail
    rw [← hW0]
    clear hW0
    refine (K1 _).out.mono ?_
    rintro e w1 ⟨rfl, hw⟩
    obtain rfl := hw.symm
    go_wp2_with fail
    refine (KF _).out.mono ?_
    rintro e w1 ⟨rfl, hb1⟩
    replace J := Jn.next hb1 J
    clear hb1 q0 q1 q2
    have q1 : w1.cell? ⟨w.heap.size, 1, none⟩ = some (.string wr) := J.out.1.cell 1
    go_wp2_with fail
    refine (KU _).out.mono ?_
    rintro e w2 ⟨rfl, hb2⟩
    replace J := Jn.next hb2 J
    clear hb2 q1
    go_wp2
    go_ret2
    exact ⟨by rw [E.out]; rfl, J.out.2⟩
end Go.Proofs.Ytccokbfbkeknnaa
