import Derived.Test.YtccokbfbkeknnaaSealOf2
import Derived.Test.YtccokbfbkeknnaaSealBack
import Derived.Test.YtccokbfbkeknnaaDrawSeal
import Derived.Test.YtccokbfbkeknnaaTurn
namespace Go.Proofs.Ytccokbfbkeknnaa
open Go.RowKit
/-! FnSealed, out of contracts of the program's functions. -/
theorem wfZ (n : Int) (h0 : -9223372036854775808 ≤ n) (h1 : n ≤ 9223372036854775807) : (Lit.int .i64 n).wf = true := by
  have a : IntKind.i64.min = -9223372036854775808 := rfl
  have b : IntKind.i64.max = 9223372036854775807 := rfl
  show (decide (IntKind.i64.min ≤ n) && decide (n ≤ IntKind.i64.max)) = true
  rw [a, b]
  simp
  omega
theorem row_next {w w' : World} {b : Nat} {t : TypeId} {cs : Array Value} (R : Hid (RowAt w b t cs)) (hb : Below w.heap.size w w') : Hid (RowAt w' b t cs) := R.out.below hb R.out.lt
theorem row_more {w : World} {b : Nat} {t : TypeId} {cs : Array Value} (R : Hid (RowAt w b t cs)) (o : Obj) : Hid (RowAt (w.alloc o) b t cs) := R.out.alloc o
theorem lwTurnI (t : ByteArray) (z : Int) (at' by' : Nat) (hz : z = (at' : Int)) (hs : t.size ≤ 1048576) (h0 : 0 < t.size) (ha : at' ≤ 1000000) (hb : by' < 256) (w : World) :
    Calls Try.prog 12 #[.string t, .int .i64 z, .int .i64 by'] w fun e w' => (∃ (k : Nat) (d : UInt8), ∃ h : k < t.size, d ≠ t[k] ∧ e = .returned (.string ⟨(turned t k d).toArray⟩)) ∧ Below w.heap.size w w' := by subst hz; exact lwTurn_all t at' by' hs h0 ha hb w
theorem opnO_back {m dk data : ByteArray} {nonce : Int} (hm : keyP m) (hd : keyP dk) (hn : 0 ≤ nonce) (hz : data.size ≤ 100000) : opnO m 0 (ofL (wpL m dk nonce)) (ofL (dtL dk nonce data)) nonce = bsV 0 data := by
  have z : (ofL (dtL dk nonce data)).size ≤ 100004 := by rw [ofL_size]; unfold dtL; rw [xrL_len, List.length_append, baL, four_len]; omega
  unfold opnO
  rw [unw_wrap hm hd hn z]
  simp only [if_true]
  exact opn_data dk data nonce
theorem opnO_turned {m dk data : ByteArray} {nonce : Int} (hm : keyP m) (hd : keyP dk) (hn : 0 ≤ nonce) (hz : data.size ≤ 100000) (j : Nat) (x : UInt8) (hj : j < (ofL (dtL dk nonce data)).size) (hx : x ≠ (ofL (dtL dk nonce data))[j]) :
    opnO m 0 (ofL (wpL m dk nonce)) ⟨(turned (ofL (dtL dk nonce data)) j x).toArray⟩ nonce = bsV 12 ⟨#[]⟩ := by
  have hl : (dtL dk nonce data).length = data.size + 4 := by unfold dtL; rw [xrL_len, List.length_append, baL, four_len]
  have e : (⟨(turned (ofL (dtL dk nonce data)) j x).toArray⟩ : ByteArray) = ofL ((dtL dk nonce data).set j x) := by unfold turned; rw [ofL_l]; rfl
  have z : (ofL ((dtL dk nonce data).set j x)).size ≤ 100004 := by rw [ofL_size, List.length_set, hl]; omega
  have hj2 : j < (dtL dk nonce data).length := by rw [ofL_size] at hj; exact hj
  have hx2 : x ≠ (dtL dk nonce data)[j] := by
    intro q
    apply hx
    rw [q]
    have : (ofL (dtL dk nonce data)).data.toList[j]? = some ((ofL (dtL dk nonce data))[j]) := by
      rw [Array.getElem?_toList]
      exact Array.getElem?_eq_getElem (by exact hj)
    rw [ofL_l, List.getElem?_eq_getElem hj2] at this
    exact Option.some.inj this
  rw [e]
  unfold opnO
  rw [unw_wrap hm hd hn z]
  simp only [if_true]
  exact opn_turned dk data nonce hd hz j x hj2 hx2
theorem rewO_back {m now dk dt : ByteArray} {nonce : Int} (hm : keyP m) (hw : keyP now) (hd : keyP dk) (hn : 0 ≤ nonce) (hz : dt.size ≤ 100004) : rewO m now 0 (ofL (wpL m dk nonce)) dt nonce = slV 0 (ofL (wpL now dk nonce)) dt := by
  unfold rewO
  rw [if_pos hw, unw_wrap hm hd hn hz]
  simp only [if_true]
set_option maxRecDepth 20000 in
set_option maxHeartbeats 4000000 in
theorem fnSealed_core
    (HS : ∀ (m dk : ByteArray) (nonce : Int) (data : ByteArray), m.size ≤ 1048576 → dk.size ≤ 1048576 → (Lit.int .i64 nonce).wf = true → data.size ≤ 1048576 → ∀ w, Calls Try.prog 9 #[.string m, .string dk, .int .i64 nonce, .string data] w fun e w' => e = .returned (sealO m dk nonce data) ∧ Below w.heap.size w w')
    (HO : ∀ (m : ByteArray) (c : Int) (wr dt : ByteArray) (nonce : Int), m.size ≤ 1048576 → (Lit.int .i64 c).wf = true → wr.size ≤ 1048576 → dt.size ≤ 1048576 → (Lit.int .i64 nonce).wf = true → ∀ w, Calls Try.prog 11 #[.string m, .agg #[.int .i64 c, .string wr, .string dt], .int .i64 nonce] w fun e w' => e = .returned (opnO m c wr dt nonce) ∧ Below w.heap.size w w')
    (HR : ∀ (old now : ByteArray) (c : Int) (wr dt : ByteArray) (nonce : Int), old.size ≤ 1048576 → now.size ≤ 1048576 → (Lit.int .i64 c).wf = true → wr.size ≤ 1048576 → dt.size ≤ 1048576 → (Lit.int .i64 nonce).wf = true → ∀ w, Calls Try.prog 14 #[.string old, .string now, .agg #[.int .i64 c, .string wr, .string dt], .int .i64 nonce] w fun e w' => e = .returned (rewO old now c wr dt nonce) ∧ Below w.heap.size w w')
    {w : World} (a : Option Addr) (len cap : Nat) (hc : CodeOk w a len) (hlc : len ≤ cap) (a' : Option Addr) (len' cap' : Nat) (hc' : CodeOk w a' len') :
    Calls Try.prog 3 #[.slice a len cap, .slice a' len' cap'] w fun e w' => e = .returned (.bool true) ∧ Below w.heap.size w w' := by
  have l0 := hc.1
  have l1 := hc'.1
  have d0 : decide ((1048576 : Int) < (len : Int)) = false := by simp; omega
  have d1 : decide ((1048576 : Int) < (len' : Int)) = false := by simp; omega
  have DR := hid (drawSeal_all w a len cap hc hlc)
  have HC' := hid hc'
  have HS' := hid HS
  have HO' := hid HO
  have HR' := hid HR
  clear HS HO HR hc hc' hlc l0 l1
  go_enter Try.func3, Try.ntmps3
  go_wp2_with fail
  refine DR.out.mono ?_
  rintro e w1 ⟨⟨m, k, nonce, d, rfl, hm, hk, hn0, hn1, hd⟩, hb1⟩
  have B1 := hid hb1
  clear hb1 DR d0 d1
  have wn := wfZ nonce (by omega) (by omega)
  have KI := fun wx => hid (HS'.out m k nonce d (by omega) (by omega) wn (by omega) wx)
  have KS := fun wx => hid (sSeal m k nonce d (by omega) (by omega) wx)
  by_cases hv : keyP m ∧ keyP k ∧ 0 ≤ nonce
  case neg =>
    have E : sealO m k nonce d = .agg #[.int .i64 1, .string ⟨#[]⟩, .string ⟨#[]⟩] := if_neg hv
    rw [E] at KI KS
    clear E hv HS' HO' HR'
    go_wp2_with fail
    refine (KI _).out.mono ?_
    rintro e w2 ⟨rfl, hb2⟩
    have B2 := hid (B1.out.trans (hb2.mono B1.out.size))
    clear hb2 B1
    obtain ⟨X9, hX9⟩ : ∃ X, X = w2.heap.size := ⟨_, rfl⟩
    obtain ⟨W2, hW2⟩ : ∃ W, W = w2.alloc (.cells #[.int .i64 1, .string ⟨#[]⟩, .string ⟨#[]⟩] 26) := ⟨_, rfl⟩
    have R9 : Hid (RowAt W2 X9 26 #[.int .i64 1, .string ⟨#[]⟩, .string ⟨#[]⟩]) := by rw [hW2, hX9]; exact RowAt.new _ _ _
    have B3 : Hid (Below w.heap.size w W2) := by rw [hW2]; exact B2.out.alloc B2.out.size _
    clear B2
    go_wp2_with fail
    rw [← hW2, ← hX9]
    clear hW2 hX9
    refine (KS _).out.mono ?_
    rintro e w3 ⟨rfl, hb3⟩
    have B4 := hid (B3.out.trans (hb3.mono B3.out.size))
    replace R9 := row_next R9 hb3
    clear hb3 B3
    obtain ⟨X10, hX10⟩ : ∃ X, X = w3.heap.size := ⟨_, rfl⟩
    obtain ⟨W3, hW3⟩ : ∃ W, W = w3.alloc (.cells #[.int .i64 1, .string ⟨#[]⟩, .string ⟨#[]⟩] 26) := ⟨_, rfl⟩
    have R10 : Hid (RowAt W3 X10 26 #[.int .i64 1, .string ⟨#[]⟩, .string ⟨#[]⟩]) := by rw [hW3, hX10]; exact RowAt.new _ _ _
    have R9' : Hid (RowAt W3 X9 26 #[.int .i64 1, .string ⟨#[]⟩, .string ⟨#[]⟩]) := by rw [hW3]; exact R9.out.alloc _
    have B5 : Hid (Below w.heap.size w W3) := by rw [hW3]; exact B4.out.alloc B4.out.size _
    clear B4 R9
    have x0 : W3.cell? ⟨X9, 0, none⟩ = some (.int .i64 1) := R9'.out.cell 0
    have x1 : W3.cell? ⟨X9, 1, none⟩ = some (.string ⟨#[]⟩) := R9'.out.cell 1
    have x2 : W3.cell? ⟨X9, 2, none⟩ = some (.string ⟨#[]⟩) := R9'.out.cell 2
    have y0 : W3.cell? ⟨X10, 0, none⟩ = some (.int .i64 1) := R10.out.cell 0
    have y1 : W3.cell? ⟨X10, 1, none⟩ = some (.string ⟨#[]⟩) := R10.out.cell 1
    have y2 : W3.cell? ⟨X10, 2, none⟩ = some (.string ⟨#[]⟩) := R10.out.cell 2
    go_upto_region 6 with fail
    rw [← hW3, ← hX10]
    clear hW3 hX10
    go_wp2
    go_ret
    exact ⟨rfl, B5.out⟩
  obtain ⟨vm, vk, vn⟩ := hv
  have wk : keyP ⟨#[110, 101, 119]⟩ := by unfold keyP; decide
  have E : sealO m k nonce d = .agg #[.int .i64 0, .string (ofL (wpL m k nonce)), .string (ofL (dtL k nonce d))] := by unfold sealO; rw [if_pos ⟨vm, vk, vn⟩, if_pos (by omega)]; rfl
  rw [E] at KI KS
  have AZ := wpL_size m k nonce vk
  have DZ : (ofL (dtL k nonce d)).size = d.size + 4 := by rw [ofL_size]; unfold dtL; rw [xrL_len, List.length_append, baL, four_len]
  have A2Z := wpL_size ⟨#[110, 101, 119]⟩ k nonce vk
  have wz := wfZ 0 (by decide) (by decide)
  have O1 := fun wx => hid (HO'.out m 0 (ofL (wpL m k nonce)) (ofL (dtL k nonce d)) nonce (by omega) wz (by omega) (by omega) wn wx)
  rw [opnO_back vm vk vn (by omega)] at O1
  have O2 : ∀ (j : Nat) (x : UInt8) (hj : j < (ofL (dtL k nonce d)).size), x ≠ (ofL (dtL k nonce d))[j] → ∀ wx, Hid (Calls Try.prog 11 #[.string m, .agg #[.int .i64 0, .string (ofL (wpL m k nonce)), .string ⟨(turned (ofL (dtL k nonce d)) j x).toArray⟩], .int .i64 nonce] wx fun e w' => e = .returned (bsV 12 ⟨#[]⟩) ∧ Below wx.heap.size wx w') := fun j x hj hx wx => by
    have := HO'.out m 0 (ofL (wpL m k nonce)) ⟨(turned (ofL (dtL k nonce d)) j x).toArray⟩ nonce (by omega) wz (by omega) (by show (turned (ofL (dtL k nonce d)) j x).toArray.size ≤ _; unfold turned; simp; omega) wn wx
    rw [opnO_turned vm vk vn (by omega) j x hj hx] at this
    exact this
  have R1 := fun wx => hid (HR'.out m ⟨#[110, 101, 119]⟩ 0 (ofL (wpL m k nonce)) (ofL (dtL k nonce d)) nonce (by omega) (by decide) wz (by omega) (by omega) wn wx)
  rw [rewO_back vm wk vk vn (by omega)] at R1
  have O3 := fun wx => hid (HO'.out ⟨#[110, 101, 119]⟩ 0 (ofL (wpL ⟨#[110, 101, 119]⟩ k nonce)) (ofL (dtL k nonce d)) nonce (by decide) wz (by omega) (by omega) wn wx)
  rw [opnO_back wk vk vn (by omega)] at O3
  clear E HS' HO' HR' wk vm vk vn wz wn
  generalize ofL (wpL m k nonce) = A at KI KS AZ O1 O2 R1
  generalize ofL (wpL ⟨#[110, 101, 119]⟩ k nonce) = A2 at A2Z R1 O3
  generalize ofL (dtL k nonce d) = D at KI KS DZ O1 O2 R1 O3
  unfold bsV at O1 O2 O3
  unfold slV at R1
  have lD : ((D.size : Int) != (d.size : Int) + 4) = false := by simp; omega
  go_wp2_with fail
  refine (KI _).out.mono ?_
  rintro e w2 ⟨rfl, hb2⟩
  have B2 := hid (B1.out.trans (hb2.mono B1.out.size))
  clear hb2 B1
  obtain ⟨X9, hX9⟩ : ∃ X, X = w2.heap.size := ⟨_, rfl⟩
  obtain ⟨W2, hW2⟩ : ∃ W, W = w2.alloc (.cells #[.int .i64 0, .string A, .string D] 26) := ⟨_, rfl⟩
  have R9 : Hid (RowAt W2 X9 26 #[.int .i64 0, .string A, .string D]) := by rw [hW2, hX9]; exact RowAt.new _ _ _
  have B3 : Hid (Below w.heap.size w W2) := by rw [hW2]; exact B2.out.alloc B2.out.size _
  clear B2
  go_wp2_with fail
  rw [← hW2, ← hX9]
  clear hW2 hX9
  refine (KS _).out.mono ?_
  rintro e w3 ⟨rfl, hb3⟩
  have B4 := hid (B3.out.trans (hb3.mono B3.out.size))
  replace R9 := row_next R9 hb3
  clear hb3 B3
  obtain ⟨X10, hX10⟩ : ∃ X, X = w3.heap.size := ⟨_, rfl⟩
  obtain ⟨W3, hW3⟩ : ∃ W, W = w3.alloc (.cells #[.int .i64 0, .string A, .string D] 26) := ⟨_, rfl⟩
  have R10 : Hid (RowAt W3 X10 26 #[.int .i64 0, .string A, .string D]) := by rw [hW3, hX10]; exact RowAt.new _ _ _
  have R9' : Hid (RowAt W3 X9 26 #[.int .i64 0, .string A, .string D]) := by rw [hW3]; exact R9.out.alloc _
  have B5 : Hid (Below w.heap.size w W3) := by rw [hW3]; exact B4.out.alloc B4.out.size _
  clear B4 R9
  have x0 : W3.cell? ⟨X9, 0, none⟩ = some (.int .i64 0) := R9'.out.cell 0
  have x1 : W3.cell? ⟨X9, 1, none⟩ = some (.string A) := R9'.out.cell 1
  have x2 : W3.cell? ⟨X9, 2, none⟩ = some (.string D) := R9'.out.cell 2
  have y0 : W3.cell? ⟨X10, 0, none⟩ = some (.int .i64 0) := R10.out.cell 0
  have y1 : W3.cell? ⟨X10, 1, none⟩ = some (.string A) := R10.out.cell 1
  have y2 : W3.cell? ⟨X10, 2, none⟩ = some (.string D) := R10.out.cell 2
  go_upto_region 6 with fail
  rw [← hW3, ← hX10]
  clear hW3 hX10
  go_wp2_with fail
  refine (O1 _).out.mono ?_
  rintro e w4 ⟨rfl, hb4⟩
  have B6 := hid (B5.out.trans (hb4.mono B5.out.size))
  have S9 := row_next R9' hb4
  clear hb4 B5 R9' R10 x0 x1 x2 y0 y1 y2
  obtain ⟨X11, hX11⟩ : ∃ X, X = w4.heap.size := ⟨_, rfl⟩
  obtain ⟨W4, hW4⟩ : ∃ W, W = w4.alloc (.cells #[.int .i64 0, .string d] 29) := ⟨_, rfl⟩
  obtain ⟨X12, hX12⟩ : ∃ X, X = w4.heap.size + 1 := ⟨_, rfl⟩
  obtain ⟨W5, hW5⟩ : ∃ W, W = W4.alloc (.cells #[.int .i64 0, .string A, .string D] 26) := ⟨_, rfl⟩
  have T9 : Hid (RowAt W4 X9 26 #[.int .i64 0, .string A, .string D]) := by rw [hW4]; exact S9.out.alloc _
  have T11 : Hid (RowAt W4 X11 29 #[.int .i64 0, .string d]) := by rw [hW4, hX11]; exact RowAt.new _ _ _
  have B7 : Hid (Below w.heap.size w W4) := by rw [hW4]; exact B6.out.alloc B6.out.size _
  have e12 : X12 = W4.heap.size := by rw [hX12, hW4, World.size_alloc]
  have U9 : Hid (RowAt W5 X9 26 #[.int .i64 0, .string A, .string D]) := by rw [hW5]; exact T9.out.alloc _
  have U12 : Hid (RowAt W5 X12 26 #[.int .i64 0, .string A, .string D]) := by rw [hW5, e12]; exact RowAt.new _ _ _
  have B8 : Hid (Below w.heap.size w W5) := by rw [hW5]; exact B7.out.alloc B7.out.size _
  have NE : Hid (X9 ≠ X12) := by show _ ≠ _; rw [e12]; have := T9.out.lt; omega
  have HX12 : Hid (w.heap.size ≤ X12) := by show _ ≤ _; rw [e12]; exact B7.out.size
  clear S9 B6 B7
  have x0 : W4.cell? ⟨X9, 0, none⟩ = some (.int .i64 0) := T9.out.cell 0
  have x1 : W4.cell? ⟨X9, 1, none⟩ = some (.string A) := T9.out.cell 1
  have x2 : W4.cell? ⟨X9, 2, none⟩ = some (.string D) := T9.out.cell 2
  have o0 : W4.cell? ⟨X11, 0, none⟩ = some (.int .i64 0) := T11.out.cell 0
  have o1 : W4.cell? ⟨X11, 1, none⟩ = some (.string d) := T11.out.cell 1
  have HW5 := hid hW5
  have HE12 := hid e12
  clear e12 hW5 hX12
  go_upto_region 11 with fail
  rw [← hW4, ← hX11]
  clear hW4 hX11
  go_upto_region 14 with fail
  rw [← HE12.out, ← HW5.out]
  clear x0 x1 x2 o0 o1 T9 T11 HW5 HE12
  have L0 := fun (i : Nat) (hi : i ≤ 1000) wx (hb : Below w.heap.size w wx) => hid (lwAt_all wx a' len' cap' i (HC'.out.below hb) hi)
  have x2 : W5.cell? ⟨X9, 2, none⟩ = some (.string D) := U9.out.cell 2
  have LA0 : ∀ wx, Below w.heap.size w wx → Hid (Calls Try.prog 13 #[.slice a' len' cap', .int .i64 0] wx fun e w' => (∃ r : Nat, e = .returned (.int .i64 r) ∧ r < 256) ∧ w' = wx) := fun wx hb => L0 0 (by decide) wx hb
  have LA1 : ∀ wx, Below w.heap.size w wx → Hid (Calls Try.prog 13 #[.slice a' len' cap', .int .i64 1] wx fun e w' => (∃ r : Nat, e = .returned (.int .i64 r) ∧ r < 256) ∧ w' = wx) := fun wx hb => L0 1 (by decide) wx hb
  have LA2 : ∀ wx, Below w.heap.size w wx → Hid (Calls Try.prog 13 #[.slice a' len' cap', .int .i64 2] wx fun e w' => (∃ r : Nat, e = .returned (.int .i64 r) ∧ r < 256) ∧ w' = wx) := fun wx hb => L0 2 (by decide) wx hb
  clear L0
  go_region_law (first
    | (go_simp; go_at_call_of 13 (Value.int IntKind.i64 0); refine (LA0 _ (by first | exact B8.out | exact B8.out.drew)).out.mono ?_; rintro e v0 ⟨⟨r0, rfl, hr0⟩, hw0⟩; obtain rfl := hw0.symm; have hm0 : IntKind.i64.wrap ((r0 : Int) * 256) = (r0 : Int) * 256 := (by rw [IntKind.wrap_i64]; omega); dsimp only)
    | (go_simp; go_at_call_of 13 (Value.int IntKind.i64 1); refine (LA1 _ (by first | exact B8.out | exact B8.out.drew)).out.mono ?_; rintro e v1 ⟨⟨r1, rfl, hr1⟩, hw1⟩; obtain rfl := hw1.symm; have hm1 : IntKind.i64.wrap ((r0 : Int) * 256 + (r1 : Int)) = (r0 : Int) * 256 + (r1 : Int) := (by rw [IntKind.wrap_i64]; omega); dsimp only)
    | (go_simp; go_at_call_of 13 (Value.int IntKind.i64 2); refine (LA2 _ (by first | exact B8.out | exact B8.out.drew)).out.mono ?_; rintro e v2 ⟨⟨r2, rfl, hr2⟩, hw2⟩; obtain rfl := hw2.symm; dsimp only)
    | (go_simp; go_at_call 12; refine (lwTurnI D _ (r0 * 256 + r1) r2 (by first | omega | (simp; done)) (by omega) (by omega) (by omega) hr2 _).mono ?_; rintro e w6 ⟨⟨j, x, hj, hx, rfl⟩, hb6⟩; (first | replace U9 := row_next U9 hb6 | replace U9 := row_next (hid U9.out.drew) hb6); (first | replace U12 := row_next U12 hb6 | replace U12 := row_next (hid U12.out.drew) hb6); (first | replace B8 := hid (B8.out.trans (hb6.mono B8.out.size)) | replace B8 := hid (B8.out.drew.trans (hb6.mono B8.out.size))); have z2 : w6.cell? ⟨X12, 2, none⟩ = some (.string D) := U12.out.cell 2; have f2 := U12.out.free 2; clear hb6; dsimp only))
  all_goals
    obtain ⟨W7, hW7⟩ : ∃ W, W = w6.setCell ⟨X12, 2, none⟩ (.string ⟨(turned D j x).toArray⟩) := ⟨_, rfl⟩
    have V12 : Hid (RowAt W7 X12 26 #[.int .i64 0, .string A, .string ⟨(turned D j x).toArray⟩]) := by rw [hW7]; exact U12.out.set 2 _
    have V9 : Hid (RowAt W7 X9 26 #[.int .i64 0, .string A, .string D]) := by rw [hW7]; exact U9.out.other _ _ (by dsimp only; exact fun q => NE.out q)
    have B9 : Hid (Below w.heap.size w W7) := by rw [hW7]; exact B8.out.setCell HX12.out _
    have KO := fun wx => O2 j x hj hx wx
    rw [← hW7]
    clear hW7 z2 f2 U9 U12 B8 O2 hx
    generalize (⟨(turned D j x).toArray⟩ : ByteArray) = TD at V12 KO ⊢
    have v0 : W7.cell? ⟨X12, 0, none⟩ = some (.int .i64 0) := V12.out.cell 0
    have v1 : W7.cell? ⟨X12, 1, none⟩ = some (.string A) := V12.out.cell 1
    have v2 : W7.cell? ⟨X12, 2, none⟩ = some (.string TD) := V12.out.cell 2
    have fd : ∀ wx, (Instr.field 29 (.agg #[.int .i64 12, .string ⟨#[]⟩]) 0).run Try.prog wx = .ok (.int .i64 12) wx := fun wx => by kernel_rfl
    go_wp2_with fail
    refine (KO _).out.mono ?_
    rintro e w8 ⟨rfl, hb8⟩
    replace V9 := row_next V9 hb8
    replace B9 := hid (B9.out.trans (hb8.mono B9.out.size))
    clear hb8 v0 v1 v2 V12 KO
    have x0 : w8.cell? ⟨X9, 0, none⟩ = some (.int .i64 0) := V9.out.cell 0
    have x1 : w8.cell? ⟨X9, 1, none⟩ = some (.string A) := V9.out.cell 1
    have x2 : w8.cell? ⟨X9, 2, none⟩ = some (.string D) := V9.out.cell 2
    go_wp2_with fail
    refine (R1 _).out.mono ?_
    rintro e w9 ⟨rfl, hb9⟩
    replace V9 := row_next V9 hb9
    replace B9 := hid (B9.out.trans (hb9.mono B9.out.size))
    clear hb9 x0 x1 x2
    obtain ⟨X13, hX13⟩ : ∃ X, X = w9.heap.size := ⟨_, rfl⟩
    obtain ⟨W9, hW9⟩ : ∃ W, W = w9.alloc (.cells #[.int .i64 0, .string A2, .string D] 26) := ⟨_, rfl⟩
    have R13 : Hid (RowAt W9 X13 26 #[.int .i64 0, .string A2, .string D]) := by rw [hW9, hX13]; exact RowAt.new _ _ _
    have Q9 : Hid (RowAt W9 X9 26 #[.int .i64 0, .string A, .string D]) := by rw [hW9]; exact V9.out.alloc _
    have C9 : Hid (Below w.heap.size w W9) := by rw [hW9]; exact B9.out.alloc B9.out.size _
    clear V9 B9
    have s0 : W9.cell? ⟨X13, 0, none⟩ = some (.int .i64 0) := R13.out.cell 0
    have s1 : W9.cell? ⟨X13, 1, none⟩ = some (.string A2) := R13.out.cell 1
    have s2 : W9.cell? ⟨X13, 2, none⟩ = some (.string D) := R13.out.cell 2
    go_upto_region 18 with fail
    rw [← hW9, ← hX13]
    clear hW9 hX13
    go_wp2_with fail
    refine (O3 _).out.mono ?_
    rintro e w10 ⟨rfl, hb10⟩
    replace R13 := row_next R13 hb10
    replace Q9 := row_next Q9 hb10
    replace C9 := hid (C9.out.trans (hb10.mono C9.out.size))
    clear hb10 s0 s1 s2
    obtain ⟨X14, hX14⟩ : ∃ X, X = w10.heap.size := ⟨_, rfl⟩
    obtain ⟨W10, hW10⟩ : ∃ W, W = w10.alloc (.cells #[.int .i64 0, .string d] 29) := ⟨_, rfl⟩
    have R14 : Hid (RowAt W10 X14 29 #[.int .i64 0, .string d]) := by rw [hW10, hX14]; exact RowAt.new _ _ _
    have P13 : Hid (RowAt W10 X13 26 #[.int .i64 0, .string A2, .string D]) := by rw [hW10]; exact R13.out.alloc _
    have P9 : Hid (RowAt W10 X9 26 #[.int .i64 0, .string A, .string D]) := by rw [hW10]; exact Q9.out.alloc _
    have C10 : Hid (Below w.heap.size w W10) := by rw [hW10]; exact C9.out.alloc C9.out.size _
    clear R13 Q9 C9
    have s0 : W10.cell? ⟨X13, 0, none⟩ = some (.int .i64 0) := P13.out.cell 0
    have s2 : W10.cell? ⟨X13, 2, none⟩ = some (.string D) := P13.out.cell 2
    have x2 : W10.cell? ⟨X9, 2, none⟩ = some (.string D) := P9.out.cell 2
    have t0 : W10.cell? ⟨X14, 0, none⟩ = some (.int .i64 0) := R14.out.cell 0
    have t1 : W10.cell? ⟨X14, 1, none⟩ = some (.string d) := R14.out.cell 1
    go_upto_region 19 with fail
    rw [← hW10, ← hX14]
    clear hW10 hX14
    go_wp2
    go_ret
    exact ⟨rfl, C10.out⟩
end Go.Proofs.Ytccokbfbkeknnaa
