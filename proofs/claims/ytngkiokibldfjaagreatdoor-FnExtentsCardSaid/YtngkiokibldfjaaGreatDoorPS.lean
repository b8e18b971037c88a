import Derived.Test.YtngkiokibldfjaaGreatDoorPL
import Derived.Test.YtngkiokibldfjaaGreatDoorPK
import Derived.Laws.Bits64b
import Derived.Deep.OwnRows
import Derived.Deep.CutBlock
import Derived.Test.YtngkiokibldfjaaGreatDoorPR
import Derived.Test.YtngkiokibldfjaaGreatDoorPE
import Derived.Deep.RegionHeld3
import Derived.Deep.AppendLies
import Derived.Deep.RegionLaw
import Derived.OrdersIn
import Derived.OrdersHeld
import Derived.Deep.RegionHeld
import Derived.RangeFuncCalls
import Derived.OwnWalkIn
namespace Go.Proofs.YtngkiokibldfjaaGreatDoor
open Go.RowKit
set_option linter.unusedVariables false
/-! slices.Repeat of one number; math/bits.Mul. -/
set_option maxRecDepth 20000 in
set_option maxHeartbeats 2000000 in
theorem iMul64 (y : Nat) (hy : y < 4294967296) (w : World) :
    Calls Tryz.prog 117 #[.int .u64 1, .int .u64 (y : Int)] w fun e w' => e = .returned (.tuple #[.int .u64 0, .int .u64 (y : Int)]) ∧ w' = w := by
  have m1 : bits .and .u64 1 4294967295 = 1 := by decide
  have my : bits .and .u64 (y : Int) 4294967295 = (y : Int) := by
    have h := bits_and_u64_nat y 4294967295 (by omega) (by omega)
    have e : y &&& 4294967295 = y := by
      have := Nat.and_two_pow_sub_one_eq_mod y 32
      rw [show (2 : Nat) ^ 32 - 1 = 4294967295 by decide, show (2 : Nat) ^ 32 = 4294967296 by decide] at this
      omega
    rw [e] at h
    exact h
  have m0 : bits .and .u64 0 4294967295 = 0 := by decide
  have dy : (y : Int) / 4294967296 = 0 := by omega
  have wy : IntKind.u64.wrap (y : Int) = (y : Int) := by rw [IntKind.wrap_u64]; omega
  go_enter Tryz.func117, Tryz.ntmps117
  go_wp2
  go_ret2
  exact ⟨rfl, rfl⟩
set_option maxRecDepth 20000 in
set_option maxHeartbeats 2000000 in
theorem iMul (y : Nat) (hy : y < 4294967296) (w : World) :
    Calls Tryz.prog 102 #[.int .u64 1, .int .u64 (y : Int)] w fun e w' => e = .returned (.tuple #[.int .u64 0, .int .u64 (y : Int)]) ∧ w' = w := by
  have K := hid (iMul64 y hy w)
  have wy : IntKind.u64.wrap (y : Int) = (y : Int) := by rw [IntKind.wrap_u64]; omega
  go_enter Tryz.func102, Tryz.ntmps102
  go_wp2_with fail
  refine K.out.mono ?_
  rintro e w1 ⟨rfl, rfl⟩
  go_wp2
  go_ret2
  exact ⟨rfl, rfl⟩
theorem Tryz.szIt : (Tryz.prog.info? 3).map (·.size) = some 1 := by kernel_rfl
theorem Tryz.infoIt : (Tryz.prog.info? 3).map (fun i => (i.zero, i.size, i.bytes)) = some (some (.int .i64 0), 1, 8) := by kernel_rfl
/-- a row of c numbers of which the first n are -1 -/
def RpAt (w : World) (b c n : Nat) : Prop := ∃ cs : Array Value, RowAt w b 3 cs ∧ cs.size = c ∧ ∀ k, k < n → cs[k]? = some (.int .i64 (-1))
theorem RpAt.copy {w : World} {b c n m : Nat} (h : RpAt w b c n) (hc : n + m ≤ c) (a : Addr) (sL sC dC : Nat) (hm : m = Nat.min sL (c - n)) (hs : ∀ j, j < m → w.cell? (a.add j) = some (.int .i64 (-1))) (ty : TypeId) :
    ∃ w', (Builtin.copy_ #[70, 70] ty #[.slice (some ⟨b, n, none⟩) (c - n) dC, .slice (some a) sL sC]).run Tryz.prog w = .ok (.int .i64 (m : Int)) w' ∧ RpAt w' b c (n + m) ∧ w.grownBy w' (some b) := by
  obtain ⟨cs, hr, hz, hf⟩ := h
  have hl : (List.replicate m (Value.int .i64 (-1))).length = m := List.length_replicate
  have hrun := run_copyK (P := Tryz.prog) w 70 70 ty 3 1 b n (c - n) dC a sL sC cs 3 (List.replicate m (.int .i64 (-1))) Tryz.underlying70 Tryz.szIt hr (by rw [hl, Nat.mul_one]; exact hm)
    (fun j v hj => by
      obtain ⟨h1, h2⟩ := List.getElem?_eq_some_iff.1 hj
      rw [List.getElem_replicate] at h2
      rw [hl] at h1
      rw [← h2]
      exact hs j h1) (by rw [hl]; omega) (fun v hv => by rw [(List.mem_replicate.1 hv).2]; rfl)
  rw [hl, ← hm] at hrun
  refine ⟨_, hrun, ⟨_, hr.setRow _, ?_, fun k hk => ?_⟩, setRow_grown _ _ _⟩
  · simp only [List.size_toArray, List.length_append, List.length_take, List.length_drop, List.length_replicate, Array.length_toList, hz]; omega
  · rw [List.getElem?_toArray, List.append_assoc]
    by_cases c1 : k < n
    · rw [List.getElem?_append_left (by rw [List.length_take, Array.length_toList]; omega), List.getElem?_take_of_lt c1, Array.getElem?_toList]
      exact hf k c1
    · have e : (cs.toList.take n).length = n := by rw [List.length_take, Array.length_toList]; omega
      rw [List.getElem?_append_right (by omega), e, List.getElem?_append_left (by rw [hl]; omega), List.getElem?_replicate, if_pos (by omega)]
theorem RpAt.own {w : World} {b c base : Nat} (h : RpAt w b c c) (hb : base ≤ b) (hc : c ≤ maxLen) : OwnNums w base 3 .i64 (.slice (some ⟨b, 0, none⟩) c c) (List.replicate c (-1)) := by
  obtain ⟨cs, hr, hz, hf⟩ := h
  have hl : (List.replicate c (-1 : Int)).length = c := List.length_replicate
  refine ⟨by rw [List.length_map, hl, Nat.mul_one], .inr ⟨b, c, cs, by rw [hl], hb, hr, by rw [hl]; exact Nat.le_refl _, hc, by rw [hz, Nat.mul_one], ?_⟩⟩
  rw [hl, Nat.mul_one, List.take_of_length_le (by rw [Array.length_toList]; omega), List.map_replicate]
  apply List.ext_getElem?
  intro k
  rw [List.getElem?_replicate, Array.getElem?_toList]
  split
  · rename_i q; exact hf k q
  · rename_i q; exact Array.getElem?_eq_none (by omega)
theorem RpAt.below {w w' : World} {b c n : Nat} (h : RpAt w b c n) (hb : Below w.heap.size w w') : RpAt w' b c n := by
  obtain ⟨cs, hr, hz, hf⟩ := h
  exact ⟨cs, hr.below hb hr.lt, hz, hf⟩
theorem RpAt.lt {w : World} {b c n : Nat} (h : RpAt w b c n) : b < w.heap.size := by
  obtain ⟨cs, hr, _⟩ := h
  exact hr.lt
theorem RpAt.cell {w : World} {b c n : Nat} (h : RpAt w b c n) {k : Nat} (hk : k < n) : w.cell? ⟨b, k, none⟩ = some (.int .i64 (-1)) := by
  obtain ⟨cs, hr, hz, hf⟩ := h
  exact (hr.cell k).trans (hf k hk)
set_option maxRecDepth 20000 in
set_option maxHeartbeats 2000000 in
theorem iRepI (x c : Nat) (hc : c ≤ 2000000000) (w : World) (hx : RowAt w x 3 #[.int .i64 (-1)]) :
    Calls Tryz.prog 89 #[.slice (some ⟨x, 0, none⟩) 1 1, .int .i64 (c : Int)] w fun e w' => ∃ v, e = .returned v ∧ OwnNums w' w.heap.size 3 .i64 v (List.replicate c (-1)) ∧ Below w.heap.size w w' := by
  have K := fun w => hid (iMul c (by omega) w)
  have HX := hid hx
  have wc : IntKind.u64.wrap (c : Int) = (c : Int) := by rw [IntKind.wrap_u64]; omega
  have wd : IntKind.i64.wrap (c : Int) = (c : Int) := by rw [IntKind.wrap_i64]; omega
  have c0 : ¬ (c : Int) < 0 := by omega
  have c1 : ¬ (9223372036854775807 : Int) < (c : Int) := by omega
  have hmk := fun W => run_make_row' (P := Tryz.prog) 70 3 (.int .i64 0) 8 Tryz.underlying70 Tryz.infoIt rfl .i64 .i64 c (by omega) (by omega) W
  obtain ⟨W1, hW1⟩ : ∃ W, W = w.alloc (.cells (madeCells #[.int .i64 0] c) 3) := ⟨_, rfl⟩
  have R1 : RpAt W1 w.heap.size c 0 := by rw [hW1]; exact ⟨_, RowAt.new _ _ _, by simp [madeCells], fun k hk => by omega⟩
  have b1 : Below w.heap.size w W1 := by rw [hW1]; exact (Below.refl _ _).alloc (Nat.le_refl _) _
  obtain ⟨m, hm⟩ : ∃ m, m = Nat.min 1 (c - 0) := ⟨_, rfl⟩
  have hmc : m ≤ c ∧ m ≤ 1 := by rw [hm]; exact ⟨by have := Nat.min_le_right 1 (c - 0); omega, Nat.min_le_left _ _⟩
  have hC1 := fun ty => R1.copy (m := m) (by omega) ⟨x, 0, none⟩ 1 1 c hm (fun j hj => by
    obtain rfl : j = 0 := by omega
    rw [Addr.add_lit]
    exact (hx.below b1 hx.lt).cell 0) ty
  clear hx
  go_enter Tryz.func89, Tryz.ntmps89
  go_wp2_with fail
  refine (K _).out.mono ?_
  rintro e w1 ⟨rfl, hw⟩
  obtain rfl := hw.symm
  go_upto_region 7 with fail
  rw [← hW1]
  obtain ⟨W2, hr2, R2, G2⟩ := hC1 3
  rw [Nat.sub_zero] at hr2
  have B2 : Hid (Below w.heap.size w W2) := b1.grown G2 b1.size (fun g e => by have := Option.some.inj e; omega)
  have HR2 := hid R2
  have HM : Hid (0 < m ∨ c = 0) := by
    rcases Nat.eq_zero_or_pos c with h | h
    · exact .inr h
    · refine .inl ?_
      rw [hm]
      have : Nat.min 1 (c - 0) = 1 := Nat.min_eq_left (by omega)
      omega
  rw [Nat.zero_add] at HR2
  have MC := hid hmc.1
  clear hC1 G2 R2 R1 b1 hW1 hm hmc K hmk
  go_wp2_with (at_builtin; refine list_copyK _ rfl _ _ 70 rfl _ _ rfl rfl hr2 ?_)
  clear hr2
  obtain ⟨nb, hnb⟩ : ∃ b, b = w.heap.size := ⟨_, rfl⟩
  have HNB := hid hnb
  rw [← hnb] at HR2 ⊢
  clear hnb
  go_loopw [8] (fun q wr => ∃ n : Nat, q = .int .i64 (n : Int) ∧ n ≤ c ∧ (0 < n ∨ c = 0) ∧ RpAt wr nb c n ∧ Below w.heap.size w wr) (fun q _ => c - (intOf q).toNat)
  case atStart => exact ⟨m, rfl, MC.out, HM.out, HR2.out, B2.out⟩
  case round =>
    obtain ⟨n, rfl, hn, hn0, hR, hB⟩ := hrel
    have HR := hid hR
    have HB := hid hB
    clear hR hB HR2 B2
    by_cases hlt : n < c
    · have d0 : (n : Int) < (c : Int) := by omega
      have d1 : (n : Int) ≤ (c : Int) := by omega
      have d2 : (0 : Int) ≤ (n : Int) := by omega
      have d3 : ¬ (c = n) := by omega
      obtain ⟨k, hk⟩ : ∃ k, k = Nat.min n (c - n) := ⟨_, rfl⟩
      have hkc : n + k ≤ c := by have : Nat.min n (c - n) ≤ c - n := Nat.min_le_right _ _; omega
      have hkn : k ≤ n := by have : Nat.min n (c - n) ≤ n := Nat.min_le_left _ _; omega
      have hk0 : 0 < k := by
        rcases hn0 with h | h
        · rcases Nat.le_total n (c - n) with q | q
          · have : Nat.min n (c - n) = n := Nat.min_eq_left q
            omega
          · have : Nat.min n (c - n) = c - n := Nat.min_eq_right q
            omega
        · omega
      have RD : RpAt wr.drew nb c n := HR.out.below (Below.refl _ _).drew
      obtain ⟨W5, hr5, R5, G5⟩ := RD.copy hkc ⟨nb, 0, none⟩ n c (c - n) hk (fun j hj => by rw [Addr.add_lit, Nat.zero_add]; exact RD.cell (by omega)) 3
      have wk : IntKind.i64.wrap ((n : Int) + (k : Int)) = (n : Int) + (k : Int) := by rw [IntKind.wrap_i64]; omega
      have HR5 := hid R5
      have B5 : Hid (Below w.heap.size w W5) := (HB.out.drew).grown G5 HB.out.size (fun g e => by have := Option.some.inj e; have := HNB.out; omega)
      have HK := hid (And.intro hkc hk0)
      clear hk hkn hk0 hkc RD R5 G5 hn0
      go_upto_region 9 with fail
      go_region_law (refine step_copyK rfl _ _ 70 rfl _ _ (by simp [Act.eval, Act.put]) (by simp [Act.eval, Act.put]) hr5 ?_)
      try simp [Act.put]
      go_wp2
      go_roundw
      case rel => exact ⟨n + k, by go_num, HK.out.1, .inl (by have := HK.out.2; omega), HR5.out, B5.out⟩
      case measure => simp [intOf]; have := HK.out; omega
    · obtain rfl : n = c := by omega
      have FIN := hid (HR.out.own (base := w.heap.size) (by have := HNB.out; omega) (by unfold maxLen; omega))
      have d0 : ¬ (n : Int) < (n : Int) := by omega
      go_wp2
      go_ret
      exact ⟨_, rfl, FIN.out, HB.out⟩
end Go.Proofs.YtngkiokibldfjaaGreatDoor
namespace Go.Proofs.YtngkiokibldfjaaGreatDoor
open Go.RowKit
set_option linter.unusedVariables false
/-! The number of a key. -/
/-- the numbers of more keys -/
def Ext (NK NK' : List ByteArray) : Prop := ∀ (i : Nat) (k : ByteArray), NK[i]? = some k → NK'[i]? = some k
theorem Ext.refl (NK : List ByteArray) : Ext NK NK := fun _ _ h => h
theorem Ext.trans {A B C : List ByteArray} (h : Ext A B) (k : Ext B C) : Ext A C := fun i x hx => k i x (h i x hx)
theorem Ext.snoc (NK : List ByteArray) (k : ByteArray) : Ext NK (NK ++ [k]) := fun i x hx => by rw [List.getElem?_append_left (List.getElem?_eq_some_iff.1 hx).1]; exact hx
def NumQ (mb : Nat) (NK : List ByteArray) (key : ByteArray) (w : World) (e : Ending) (w' : World) : Prop :=
  ∃ (j : Nat) (NK' : List ByteArray), e = .returned (.int .i64 (j : Int)) ∧ NK'[j]? = some key ∧ NumsAt w' mb NK' ∧ Ext NK NK' ∧ NK'.length ≤ NK.length + 1 ∧ w.grownBy w' (some mb)
set_option maxRecDepth 20000 in
set_option maxHeartbeats 4000000 in
theorem iNum (X mb : Nat) (cs : Array Value) (NK : List ByteArray) (key : ByteArray) (hk : key.size ≤ 1048576) (hn : NK.length ≤ 1099511627776) (w : World) (hX : RowAt w X 72 cs) (h5 : cs[5]? = some (.map (some mb))) (hM : NumsAt w mb NK) :
    Calls Tryz.prog 88 #[.pointer (some ⟨X, 0, none⟩), .string key] w fun e w' => NumQ mb NK key w e w' := by
  obtain ⟨hnd, D, hD, hO⟩ := id hM
  have C5 : Hid (w.cell? ⟨X, 5, none⟩ = some (.map (some mb))) := (hX.cell 5).trans h5
  have HKY : Hid (keyOf Tryz.prog 9 (.string key) = some (nKey key)) := WideMaps.keyOf_string_mk Tryz.underlying9 (by unfold maxLen; omega)
  have HZ : Hid ((zeroValue 3).run Tryz.prog w = .ok (.int .i64 0) w) := by show (zeroValue 3).run Tryz.prog w = .ok (.int .i64 0) w; kernel_rfl
  have c5 := C5.out
  have xl : X < w.heap.size := hX.lt
  by_cases hm : key ∈ NK
  · have HB : Hid (Maps.has D (nKey key) = true) := (hD.has key).2 hm
    obtain ⟨j, hj⟩ := List.mem_iff_getElem?.1 hm
    have HAT : Hid (D.atKey (nKey key) (.lit (.int .i64 0)) = .lit (.int .i64 (j : Int))) := hD.at_ j key _ hj
    have FIN : Hid (NumQ mb NK key w (.returned (.int .i64 (j : Int))) w) := ⟨j, NK, rfl, hj, hM, Ext.refl _, by omega, below_grown (Below.refl _ _) _⟩
    have MO := hid hO
    clear hnd hD hO hM h5 hX hm hj
    go_enter Tryz.func88, Tryz.ntmps88
    go_wp2_with (first | (at_lookup; refine wpList_lookup_own_ok_int _ rfl _ _ 69 rfl 9 3 .i64 lawN Tryz.underlying69 Tryz.underlying3 HZ.out mb NK.length D rfl MO.out (.string key) (nKey key) rfl HKY.out ?_; intro c hat hwc; rw [HB.out]; rw [HAT.out] at hat; injection hat with hat; injection hat with _ hat; subst hat; clear hwc) | fail)
    go_ret
    exact FIN.out
  · have HB : Hid (Maps.has D (nKey key) = false) := by
      show _ = _
      cases hh : Maps.has D (nKey key) with
      | false => rfl
      | true => exact absurd ((hD.has key).1 hh) hm
    have SZ : Hid (Maps.size D = NK.length) := hD.size
    have DP := hid (hD.put hm)
    have ND : Hid ((NK ++ [key]).Nodup) := by
      show (NK ++ [key]).Nodup
      rw [List.nodup_append]
      refine ⟨hnd, by simp, fun a ha b hb => ?_⟩
      simp at hb
      subst hb
      exact fun e => hm (e ▸ ha)
    have MO := hid hO
    have HEL : Hid (plainElem (H := Unit) Tryz.prog 3 (.int .i64 (NK.length : Int)) = some (.lit (.int .i64 (NK.length : Int)), [])) := plainElem_int Tryz.underlying3 (wfN _ (by omega) (by omega))
    have KC := fun w => hid (clone_any key w (by omega))
    have XL := hid xl
    have LN := hid hn
    have HX := hid hX
    have UP : ∀ wx, Below w.heap.size w wx → Hid (∃ w8, (Instr.mapUpdate 69 (.map (some mb)) (.string key) (.int .i64 (NK.length : Int))).run Tryz.prog wx = .ok () w8 ∧ w8.ownsMap Tryz.prog 9 (plainElem Tryz.prog 3) mb (NK.length + 1) (D.put (nKey key) (.lit (.int .i64 (NK.length : Int)))) ∧ wx.grownBy w8 (some mb)) := fun wx hb => by
      obtain ⟨es, clock, hb0, F, hs, hD0⟩ := MO.out
      have hO' : wx.ownsMap Tryz.prog 9 (plainElem Tryz.prog 3) mb NK.length D := ⟨es, clock, (hb.block mb (Array.getElem?_eq_some_iff.1 hb0).1).trans hb0, F, hs, hD0⟩
      exact hO'.update lawN Tryz.underlying69 (by have := LN.out; unfold maxLen; omega) HKY.out HEL.out
    have hln : ∀ ty, (Builtin.len_ #[69] ty #[.map (some mb)]).run Tryz.prog w = .ok (.int .i64 (NK.length : Int)) w := fun ty => by rw [hO.len Tryz.underlying69 ty, hD.size]
    have XM : Hid (X ≠ mb) := hM.ne hX
    clear hnd hD hO hM h5 hX hm
    go_enter Tryz.func88, Tryz.ntmps88
    go_upto_region 3 with (first | (at_lookup; refine wpList_lookup_own_ok_int _ rfl _ _ 69 rfl 9 3 .i64 lawN Tryz.underlying69 Tryz.underlying3 HZ.out mb NK.length D rfl MO.out (.string key) (nKey key) rfl HKY.out ?_; intro c hat hwc; rw [HB.out]; clear hat hwc) | fail)
    go_upto_region 4 with (first | (at_len; refine wpList_len_own _ rfl _ 69 rfl 9 3 Tryz.underlying69 _ mb NK.length D rfl MO.out ?_; rw [SZ.out]) | fail)
    clear hln
    go_region_held3 (fun wx => wx.cell? ⟨X, 5, none⟩ = some (.map (some mb))) (first | exact c5 | exact k9.out | exact k8.out | (go_keep; done)) ((go_at_call 27; refine (KC _).out.mono ?_; rintro e w9 ⟨rfl, hb9⟩; have b9 : Hid (Below w.heap.size w w9) := (Below.refl _ _).drew.trans hb9; have k9 : Hid (w9.cell? ⟨X, 5, none⟩ = some (.map (some mb))) := (HX.out.below b9.out HX.out.lt).cell 5 |>.trans (by exact (HX.out.cell 5).symm.trans C5.out); obtain ⟨w8, hU, hO8, hg8⟩ := (UP w9 b9.out).out; have M8 := hid hO8; have G8 := hid hg8; have k8 : Hid (w8.cell? ⟨X, 5, none⟩ = some (.map (some mb))) := (G8.out.cell k9.out (fun e => XM.out (Option.some.inj e))); clear hb9 hO8 hg8))
    all_goals
      have FIN : Hid (NumQ mb NK key w (.returned (.int .i64 (NK.length : Int))) w8) := ⟨NK.length, NK ++ [key], rfl, by simp, ⟨ND.out, _, DP.out, by rw [List.length_append]; exact M8.out⟩, Ext.snoc _ _, by simp, grown_trans (below_grown b9.out _) G8.out⟩
      clear hU
      go_wp2
      go_ret
      exact FIN.out
end Go.Proofs.YtngkiokibldfjaaGreatDoor
namespace Go.Proofs.YtngkiokibldfjaaGreatDoor
open Go.RowKit
set_option linter.unusedVariables false
/-! A filed frame is appended; what a search has found. -/
theorem TG.fresh {ts : List TypeId} {mp : Bool} {X : Nat} {w A B : World} {r : Option Nat} (h : TG ts mp X w A) (hX : X ≤ w.heap.size) (hg : A.grownBy B r) (hr : ∀ g, r = some g → w.heap.size ≤ g) : TG ts mp X w B :=
  ⟨hg.os.trans h.os, hg.tape.trans h.tape, hg.output.trans h.output, Nat.le_trans h.size hg.size, fun k hk => (hg.block k (by have := h.size; omega) (fun e => by have := hr k e.symm; omega)).trans (h.low k hk),
    fun k t cs q hn => (hg.block k (h.row k t cs q hn).lt (fun e => by have := hr k e.symm; have := q.lt; omega)).trans (h.row k t cs q hn),
    fun hm k es c q => (hg.block k (Array.getElem?_eq_some_iff.1 (h.map hm k es c q)).1 (fun e => by have := hr k e.symm; have := (Array.getElem?_eq_some_iff.1 q).1; omega)).trans (h.map hm k es c q),
    fun k ds q => (hg.block k (Array.getElem?_eq_some_iff.1 (h.dfr k ds q)).1 (fun e => by have := hr k e.symm; have := (Array.getElem?_eq_some_iff.1 q).1; omega)).trans (h.dfr k ds q)⟩
theorem step_append_fl (base : Nat) (w : World) {ops : Array Oper} {op : Oper} {a : Act} {K : Act → World → Prop} {Q : Exit → Act → World → Prop} {E : Prop} (hgd : op.guard = none) (s x : Operand)
    (ho : op.op = .call { callee := .builtin .append, args := #[s, x], argTypes := #[68, 68] })
    (v : Value) (P : List (Fr × Nat)) (y : Fr × Nat) (hs : a.eval s = v) (hown : OwnFl w base v P) (hsz : base ≤ w.heap.size)
    (b : Nat) (R : RowAt w b 112 (flC y).toArray) (hx : a.eval x = .slice (some ⟨b, 0, none⟩) 1 1) (hlen : P.length + 1 ≤ 1048576)
    (h : ∀ g cap w', OwnFl w' base (.slice (some ⟨g, 0, none⟩) (P.length + 1) cap) (P ++ [y]) → w.grownBy w' v.ownBlock → (v.ownBlock = some g ∨ g = w.heap.size) → K (a.put op.dst (.slice (some ⟨g, 0, none⟩) (P.length + 1) cap)) w') :
    if Region.wanted op (yielded ops a.tmps) = true then Oper.wp Tryz.prog op a w K Q else E := by
  obtain ⟨i0, hi, hz0, hz1, hz2⟩ := info_parts Tryz.infoF8
  refine step_append_lies _ hgd s x _ ho base 112 i0 _ 8 64 Tryz.underlying68 hi hz0 hz1 hz2 rfl (by decide) v P.length (flL P) hs hown ⟨b, 0, none⟩ 1 1 (flC y) hx rfl ?_ ?_ (by decide) ?_ ?_ hsz w.heap.size rfl ?_
  · intro j u hj
    rw [Addr.add_lit, Nat.zero_add, R.cell]
    simpa using hj
  · intro u hu
    exact flL_one [y] u (by simpa [flL] using hu)
  · unfold maxLen; omega
  · omega
  · intro g cap w' h1 h2 h3 _
    exact h g cap w' (by
      unfold OwnFl
      rw [flL_app, List.length_append]
      simpa [flL] using h1) h2 h3
theorem OwnFl.belowA {A B : World} {base : Nat} {v : Value} {P : List (Fr × Nat)} (ho : OwnFl A base v P) (h : Below A.heap.size A B) : OwnFl B base v P := orKeep ho fun g cur _ r => r.below h r.lt
/-- what a search from q on has told: a record, or that there is none ahead of e -/
def NextF (d : ByteArray) (q e : Nat) (a b : Int) (c : Bool) (x y z u : Int) (ok : Bool) : Prop :=
  (ok = true ∧ ∃ f : Fr, getRec d (f.at' : Nat) = some f ∧ q ≤ f.at' ∧ f.at' < e ∧ (∀ k : Nat, q ≤ k → k < f.at' → getRec d (k : Nat) = none) ∧ a = (f.kat : Nat) ∧ b = (f.ksz : Nat) ∧ c = f.gone ∧ x = (f.bat : Nat) ∧ y = (f.bsz : Nat) ∧ z = (f.at' : Nat) ∧ u = (f.next : Nat)) ∨
  (ok = false ∧ ∀ k : Nat, q ≤ k → k < e → getRec d (k : Nat) = none)
theorem FindP.next {d : ByteArray} {q e : Nat} {r : Ending} (h : FindP d q e r) : ∃ (a b : Int) (c : Bool) (x y z u : Int) (ok : Bool), r = .returned (.tuple #[.agg #[.int .i64 a, .int .i64 b, .bool c, .int .i64 x, .int .i64 y, .int .i64 z, .int .i64 u], .bool ok]) ∧ NextF d q e a b c x y z u ok := by
  rcases h with ⟨f, h1, h2, h3, h4, rfl⟩ | ⟨h1, rfl⟩
  · exact ⟨_, _, _, _, _, _, _, true, rfl, .inl ⟨rfl, f, h1, h2, h3, h4, rfl, rfl, rfl, rfl, rfl, rfl, rfl⟩⟩
  · exact ⟨0, 0, false, 0, 0, 0, 0, false, rfl, .inr ⟨rfl, h1⟩⟩
theorem rg_snoc (d : ByteArray) (p q : Nat) (f : Fr) (hpq : p ≤ q) (h : getRec d (f.at' : Nat) = some f) (h1 : q ≤ f.at') (hn : ∀ k : Nat, q ≤ k → k < f.at' → getRec d (k : Nat) = none) : rg d (f.at' + 1 - p) p = rg d (q - p) p ++ [f] := by
  have e : f.at' + 1 - p = (q - p) + ((f.at' - q) + 1) := by omega
  rw [e, rg_add, show p + (q - p) = q by omega, rg_add, rg_none d (f.at' - q) q (fun k a b => hn k a (by omega)), show q + (f.at' - q) = f.at' by omega, rg_yes d 0 _ f h]
  rfl
theorem rg_stop (d : ByteArray) (p q e : Nat) (hpq : p ≤ q) (hqe : q ≤ e) (hn : ∀ k : Nat, q ≤ k → k < e → getRec d (k : Nat) = none) : rg d (e - p) p = rg d (q - p) p := by
  have e1 : e - p = (q - p) + (e - q) := by omega
  rw [e1, rg_add, show p + (q - p) = q by omega, rg_none d (e - q) q (fun k a b => hn k a (by omega)), List.append_nil]
/-- the numbers of filed frames are those of their keys -/
def FlK (d : ByteArray) (NK : List ByteArray) (P : List (Fr × Nat)) : Prop := ∀ p ∈ P, NK[p.2]? = some (rcK d (some p.1))
theorem FlK.ext {d : ByteArray} {NK NK' : List ByteArray} {P : List (Fr × Nat)} (h : FlK d NK P) (he : Ext NK NK') : FlK d NK' P := fun p hp => he _ _ (h p hp)
theorem FlK.snoc {d : ByteArray} {NK : List ByteArray} {P : List (Fr × Nat)} {y : Fr × Nat} (h : FlK d NK P) (hy : NK[y.2]? = some (rcK d (some y.1))) : FlK d NK (P ++ [y]) := fun p hp => by
  rcases List.mem_append.1 hp with q | q
  · exact h p q
  · simp at q
    subst q
    exact hy
end Go.Proofs.YtngkiokibldfjaaGreatDoor
namespace Go.Proofs.YtngkiokibldfjaaGreatDoor
open Go.RowKit
/-! A region that draws its order, in a round: out of what is held of it alone. -/
theorem rowsIn_of {l n : Nat} {P : Program} {row : String} {args : Array Value} {w : World} {R : Value → World → Prop} (h : Rows P row args w R) : RowsIn (Fence.wide.inRound l) n P row args w R :=
  fun c cs _ => let ⟨v, w', r, s⟩ := h c cs; ⟨v, w', r, stepsIn_wide.2 s⟩
theorem uponIn_of {l n : Nat} {P : Program} {o : Oper} {a : Act} {K : Act → World → Prop} {Q : Exit → Act → World → Prop} (r : Result Next) (h : o.upon P a K Q r) : o.uponIn (Fence.wide.inRound l) n P a K Q r := by
  cases r with
  | ok x w' =>
    cases x with
    | value v => exact h
    | skip => exact h
    | defer d => exact h
    | enter f args => exact ⟨fun q => (by cases q), CallsIn.inRound l (callsIn_wide.2 h)⟩
    | row r args => exact ⟨fun q => (by cases q), rowsIn_of h⟩
    | _ => exact h.elim
  | halt x w' =>
    cases x with
    | panic v => exact h
    | _ => exact h.elim
theorem wpAnyIn_of {l n : Nat} {P : Program} {md : Region.Mode} {ops : Array Oper} {Q : Exit → Act → World → Prop} (hd : ∀ (i : Nat) (o : Oper), ops[i]? = some o → ∀ c : Call, o.op ≠ Op.defer c) (hQ : ¬ LetsOut Q) :
    ∀ (fuel : Nat) (listed : Array Bool) (a : Act) (w : World), wpAny P md ops Q fuel listed a w → wpAnyIn (Fence.wide.inRound l) n P md ops Q fuel listed a w
  | 0, _, _, _, h => h
  | fuel + 1, listed, a, w, h => by
    refine ⟨h.1, fun i hi => ?_⟩
    have hop := h.2 i hi
    unfold wpOp at hop
    unfold wpOpIn
    cases ho : ops[i]? with
    | none => rw [ho] at hop; exact wpAnyIn_of hd hQ fuel _ _ _ hop
    | some o =>
      rw [ho] at hop
      simp only at hop ⊢
      split
      · rename_i hw
        rw [if_pos hw] at hop
        rcases hop with h1 | h1
        · refine ⟨fun _ _ => trivial, ?_⟩
          rw [Oper.semAt_plain (Fence.wide.inRound l) _ _ (hd i o ho)]
          refine uponIn_of _ (Oper.wp_mono (P := P) (fun a w => wpAnyIn_of hd hQ fuel _ a w) h1)
        · exact absurd h1.2 hQ
      · rename_i hw
        rw [if_neg hw] at hop
        exact ⟨fun _ _ => trivial, wpAnyIn_of hd hQ fuel _ _ _ hop⟩
theorem wpIn_region_of {l n id : Nat} {P : Program} {ops : Array Oper} {Q : Exit → Act → World → Prop} {S : World → Prop} {a : Act} {w : World} (hm : P.follows .mixedOrders = true)
    (hd : ∀ (i : Nat) (o : Oper), ops[i]? = some o → ∀ c : Call, o.op ≠ Op.defer c) (hQ : ¬ LetsOut Q) (hS : S w.drew)
    (h : S w.drew → wpAnyH P .any ops Q S ops.size (Array.replicate ops.size false) a w.drew) : (Code.region id ops true).wpIn (Fence.wide.inRound l) n P Q a w :=
  wpIn_region_any hm (wpAnyIn_of hd hQ _ _ _ _ (wpAny_of_held _ _ _ _ (h hS)))
/-- no operation of these defers -/
def noDefer (ops : Array Oper) : Bool := ops.all fun o => match o.op with | .defer _ => false | _ => true
theorem noDefer_spec {ops : Array Oper} (h : noDefer ops = true) : ∀ (i : Nat) (o : Oper), ops[i]? = some o → ∀ c : Call, o.op ≠ Op.defer c := fun i o ho c e => by
  obtain ⟨hi, rfl⟩ := Array.getElem?_eq_some_iff.1 ho
  have := Array.all_eq_true.1 h i hi
  rw [e] at this; cases this
/-- an append as a step of a region -/
theorem step_append_fresh {P : Program} (w : World) {ops : Array Oper} {o : Oper} {a : Act} {K : Act → World → Prop} {Q : Exit → Act → World → Prop} {E : Prop}
    (hg : o.guard = none) (s x : Operand) (t : TypeId) (hop : o.op = Op.call { callee := Callee.builtin Builtin.append, args := #[s, x], argTypes := #[t, t] })
    (base : Nat) (e : TypeId) (i : TypeInfo) (z : Value) (size bytes : Nat) (h1 : P.underlying t = some (.slice e)) (h2 : P.info? e = some i) (h3 : i.zero = some z) (h4 : i.size = size) (h5 : i.bytes = bytes) (h6 : z.cells.size = size) (h7 : 0 < size)
    (v : Value) (k : Nat) (xs : List Value) (hs : a.eval s = v) (hown : w.ownsRow base e size v k xs) (ad : Addr) (m c : Nat) (news : List Value) (hx : a.eval x = .slice (some ad) m c) (hn : news.length = m * size)
    (hc : ∀ j u, news[j]? = some u → w.cell? (ad.add j) = some u) (h1c : ∀ u ∈ news, u.oneCell' = true) (b1 : k + m ≤ maxLen) (b2 : (k + m) * bytes ≤ 140737488355328) (b3 : base ≤ w.heap.size)
    (hK : ∀ v' w', w'.ownsRow base e size v' (k + m) (xs ++ news) → w.grownBy w' v.ownBlock → (v'.ownBlock = v.ownBlock ∨ ∀ q, v'.ownBlock = some q → w.heap.size ≤ q) → K (a.put o.dst v') w') :
    if Region.wanted o (yielded ops a.tmps) = true then Oper.wp P o a w K Q else E := by
  obtain ⟨v', w', hrun, r1, r2, r3⟩ := run_append_fresh (P := P) w base t o.type e i z size bytes h1 h2 h3 h4 h5 h6 h7 v k xs hown ad m c news hn hc h1c b1 b2 b3
  rw [if_pos (by simp [Region.wanted, hg])]
  unfold Oper.wp
  simp [execOp, hop, resolve, invoke, builtin, hs, hx, hrun, Result.andThen, Oper.upon]
  exact hK v' w' r1 r2 r3
end Go.Proofs.YtngkiokibldfjaaGreatDoor
