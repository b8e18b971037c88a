import Derived.Test.YthdmaamocejodaaDoorCLoc
namespace Go.Proofs.YthdmaamocejodaaDoor
open Go.RowKit
/-- the factor by which shard s is made of data d -/
def rowN (K M G s d : Nat) : Nat :=
  if d < K then
    if s < K then (if s = d then 1 else 0)
    else if s < K + M then gp 8 29 (s ^^^ d) 254
    else if s < K + M + G then (if d % G = s - K - M then 1 else 0) else 0
  else 0
/-- the table with the data's rows up to k -/
def tabD (k p : Nat) : Value := .int .u8 ((if p / 32 = p % 32 ∧ p / 32 < k then 1 else 0 : Nat) : Int)
/-- the table of all rows below s -/
def tabS (K M G s p : Nat) : Value := .int .u8 ((if p / 32 < s then rowN K M G (p / 32) (p % 32) else 0 : Nat) : Int)
theorem tabD_start (p : Nat) : (Value.int .u8 0) = tabD 0 p := by unfold tabD; rw [if_neg (by omega)]; rfl
theorem tabD_step (k p : Nat) (hk : k < 32) : putF (tabD k) (k * 32 + k) (.int .u8 1) p = tabD (k + 1) p := by
  unfold putF tabD
  by_cases h : p = k * 32 + k
  · rw [if_pos h, if_pos (show p / 32 = p % 32 ∧ p / 32 < k + 1 by omega)]; rfl
  · rw [if_neg h]
    by_cases h2 : p / 32 = p % 32 ∧ p / 32 < k
    · rw [if_pos h2, if_pos (show p / 32 = p % 32 ∧ p / 32 < k + 1 by omega)]
    · rw [if_neg h2, if_neg (by omega)]
theorem tabD_end (K M G p : Nat) : tabD K p = tabS K M G K p := by
  unfold tabD tabS rowN
  by_cases h : p / 32 < K
  · rw [if_pos h]
    by_cases h1 : p % 32 < K
    · rw [if_pos h1, if_pos h]
      by_cases h2 : p / 32 = p % 32
      · rw [if_pos ⟨h2, h⟩, if_pos h2]
      · rw [if_neg (fun h => h2 h.1), if_neg h2]
    · rw [if_neg h1, if_neg (by omega)]
  · rw [if_neg h, if_neg (fun h2 => h h2.2)]
/-- a row laid -/
theorem tabS_lay (K M G s : Nat) (vs : List Value) (hl : vs.length = 32) (hv : ∀ d, d < 32 → vs[d]? = some (.int .u8 ((rowN K M G s d : Nat) : Int))) (p : Nat) : layF (tabS K M G s) (s * 32) vs p = tabS K M G (s + 1) p := by
  unfold layF tabS
  by_cases h : s * 32 ≤ p ∧ p < s * 32 + vs.length
  · rw [if_pos h, List.getD_eq_getElem?_getD, hv (p - s * 32) (by omega), if_pos (show p / 32 < s + 1 by omega), show p / 32 = s by omega, show p % 32 = p - s * 32 by omega]; rfl
  · rw [if_neg h]
    by_cases h2 : p / 32 < s
    · rw [if_pos h2, if_pos (show p / 32 < s + 1 by omega)]
    · rw [if_neg h2, if_neg (show ¬ p / 32 < s + 1 by omega)]
/-- a global parity's cells -/
theorem gp_row (K M G i d : Nat) (hi : i < M) (hd : d < 32) : gpF K M (i * 33 + (1 + d)) = .int .u8 ((rowN K M G (K + i) d : Nat) : Int) := by
  unfold gpF rowN
  rw [if_neg (show ¬ (i * 33 + (1 + d)) % 33 = 0 by omega), show (i * 33 + (1 + d)) / 33 = i by omega, show (i * 33 + (1 + d)) % 33 - 1 = d by omega]
  by_cases h : d < K
  · rw [if_pos h, if_pos h, if_neg (show ¬ K + i < K by omega), if_pos (show K + i < K + M by omega), cauL_at hi h]
  · rw [if_neg h, if_neg h]
theorem lp_row (K M G g d : Nat) (mem : Nat → Value) (hg : g < G) (hd : d < 32) : lpF K M G mem (g * 34 + (1 + d)) = .int .u8 ((rowN K M G (K + M + g) d : Nat) : Int) := by
  unfold lpF rowN lfac
  rw [if_neg (show ¬ (g * 34 + (1 + d)) % 34 = 0 by omega), if_neg (show ¬ (g * 34 + (1 + d)) % 34 = 33 by omega), show (g * 34 + (1 + d)) / 34 = g by omega, show (g * 34 + (1 + d)) % 34 - 1 = d by omega]
  by_cases h : d < K
  · rw [if_pos h, if_neg (show ¬ K + M + g < K by omega), if_neg (show ¬ K + M + g < K + M by omega), if_pos (show K + M + g < K + M + G by omega), show K + M + g - K - M = g by omega]
    by_cases h2 : d % G = g
    · rw [if_pos ⟨h, h2⟩, if_pos h2]
    · rw [if_neg (fun h3 => h2 h3.2), if_neg h2]
  · rw [if_neg h, if_neg (fun h3 => h h3.1)]
def tz : Array Value := ((List.range 2048).map fun _ => Value.int .u8 0).toArray
theorem zvT (w : World) : (zeroValue 70).run Tryd.prog w = .ok (.agg tz) w := by kernel_rfl
theorem zvG (w : World) : (zeroValue 96).run Tryd.prog w = .ok (.agg gz) w := by kernel_rfl
theorem zvL (w : World) : (zeroValue 102).run Tryd.prog w = .ok (.agg lz) w := by kernel_rfl
theorem gz_size : gz.size = 33 := by kernel_rfl
theorem lz_size : lz.size = 34 := by kernel_rfl
theorem tz_size : tz.size = 2048 := by kernel_rfl
theorem range_of_row {w : World} {b : Nat} {t : TypeId} {cs : List Value} (h : RowAt w b t cs.toArray) (n : Nat) : w.rangeAt b 0 (cs.take n) := fun j v hv => by
  rw [Nat.zero_add, h.cell j]
  rw [List.getElem?_take] at hv
  split at hv
  · simpa using hv
  · cases hv
structure RwSt (w wr : World) (K M G : Nat) (f : Nat → Value) : Prop where
  C : RowAt wr w.heap.size 24 (cda K M G)
  R0 : RowAt wr (w.heap.size + 1) 70 tz
  R : FRow wr (w.heap.size + 2) 70 2048 f
  B : Below w.heap.size w wr
  S : w.heap.size + 3 ≤ wr.heap.size
theorem RwSt.alloc {w wr : World} {K M G : Nat} {f : Nat → Value} (h : RwSt w wr K M G f) (o : Obj) : RwSt w (wr.alloc o) K M G f := ⟨h.C.alloc o, h.R0.alloc o, h.R.alloc o, bal h.B o (Nat.le_refl _), by rw [size_al]; have := h.S; omega⟩
theorem RwSt.below {w wr w2 : World} {K M G : Nat} {f : Nat → Value} (h : RwSt w wr K M G f) (hb : Below wr.heap.size wr w2) : RwSt w w2 K M G f := by
  have h3 := h.S
  exact ⟨h.C.below hb (by omega), h.R0.below hb (by omega), h.R.below hb (by omega), h.B.trans (hb.mono h.B.size), Nat.le_trans h3 hb.size⟩
theorem RwSt.put {w wr w2 : World} {K M G : Nat} {f f' : Nat → Value} (h : RwSt w wr K M G f) (hg : wr.grownBy w2 (some (w.heap.size + 2))) (hR : FRow w2 (w.heap.size + 2) 70 2048 f') : RwSt w w2 K M G f' := by
  have h3 := h.S
  exact ⟨rowFar h.C hg (fun e => by have e2 : w.heap.size = w.heap.size + 2 := Option.some.inj e; omega), rowFar h.R0 hg (fun e => by have e2 : w.heap.size + 1 = w.heap.size + 2 := Option.some.inj e; omega), hR, h.B.grown hg h.B.size (fun b hb => by have e2 : w.heap.size + 2 = b := Option.some.inj hb; omega), Nat.le_trans h3 hg.size⟩
theorem RwSt.code {w wr : World} {K M G : Nat} {f : Nat → Value} (h : RwSt w wr K M G f) : wr.cell? ⟨w.heap.size, 0, none⟩ = some (.int .i64 K) ∧ wr.cell? ⟨w.heap.size, 1, none⟩ = some (.int .i64 M) ∧ wr.cell? ⟨w.heap.size, 2, none⟩ = some (.int .i64 G) := ⟨h.C.cell 0, h.C.cell 1, h.C.cell 2⟩
set_option maxRecDepth 20000 in
set_option maxHeartbeats 4000000 in
theorem irows (K M G : Nat) (hK1 : 1 ≤ K) (hK : K ≤ 32) (hM : M ≤ 16) (hG : G ≤ K) (h64 : K + M + G ≤ 64) (w : World) :
    Calls Tryd.prog 25 #[cdv K M G] w fun e w' => e = .returned (.agg ((List.range 2048).map (tabS K M G (K + M + G))).toArray) ∧ Below w.heap.size w w' := by
  have hz := zvT
  have hzG := zvG
  have hzL := zvL
  go_enter Tryd.func25, Tryd.ntmps25
  go_wp2_with fail
  obtain ⟨W0, hW0⟩ : ∃ W0, W0 = ((w.alloc (.cells (cda K M G) 24)).alloc (.cells tz 70)).alloc (.cells tz 70) := ⟨_, rfl⟩
  have T0 : Hid (RwSt w W0 K M G (tabD 0)) := by
    have h2 : RowAt W0 (w.heap.size + 2) 70 tz := by rw [hW0]; exact RowAt.next _ _ _ (by rw [size_al, size_al])
    refine ⟨?_, ?_, FRow.of h2 (by kernel_rfl) (fun p hp => ?_), ?_, ?_⟩
    · rw [hW0]; exact ((RowAt.new w _ _).alloc _).alloc _
    · rw [hW0]; exact (RowAt.next _ _ _ (by rw [size_al])).alloc _
    · rw [← tabD_start]; unfold tz; simp [hp]
    · rw [hW0]; exact bal (bal (bal (Below.refl _ _) _ (Nat.le_refl _)) _ (Nat.le_refl _)) _ (Nat.le_refl _)
    · rw [hW0, size_al, size_al, size_al]; omega
  rw [← hW0]
  clear hW0
  go_loopw [11] (fun y wr => ∃ (k : Nat), k ≤ K ∧ y = .int .i64 k ∧ RwSt w wr K M G (tabD k)) (fun y _ => K - (intOf y).toNat)
  case atStart => exact ⟨0, Nat.zero_le _, rfl, T0.out⟩
  case round =>
    obtain ⟨k, hk, rfl, hst⟩ := hrel
    have ST := hid hst
    clear hst T0
    by_cases hlt : k < K
    · have hlt' : (k : Int) < (K : Int) := by omega
      have i0 : (0 : Int) ≤ (k : Int) := by omega
      have i1 : (k : Int) < 64 := by omega
      have i2 : (k : Int) < 32 := by omega
      have k1 : wr.cell? ⟨w.heap.size + 2, k * 32 + k, none⟩ = some (tabD k (k * 32 + k)) := ST.out.R.cell (by omega)
      have f1 := ST.out.R.free (k * 32 + k)
      have N1 : Hid (RwSt w (wr.setCell ⟨w.heap.size + 2, k * 32 + k, none⟩ (.int .u8 1)) K M G (tabD (k + 1))) := ST.out.put grown_set ((ST.out.R.set _ _).congr fun p _ => tabD_step k p (by omega))
      obtain ⟨x1, hx1⟩ : ∃ x, x = tabD k (k * 32 + k) := ⟨_, rfl⟩
      rw [← hx1] at k1
      clear hx1
      go_wp2
      go_roundw
      case rel => exact ⟨k + 1, by omega, by go_num, N1.out⟩
      case measure => simp [intOf]; omega
    · have hke : k = K := by omega
      have ST1 : Hid (RwSt w wr K M G (tabS K M G (K + 0))) := by
        rw [hke] at ST
        exact ST.out.put (below_grown (Below.refl _ _) _) (ST.out.R.congr fun p _ => tabD_end K M G p)
      have hlt' : ¬ (k : Int) < (K : Int) := by omega
      obtain ⟨c0, c1, c2⟩ := ST1.out.code
      clear hke ST
      go_wp2_with fail
      refine (iglob K M G hK1 hK hM _).mono ?_
      rintro e w1 ⟨gb, rfl, hgb, hF1, hb1⟩
      have ST0 := hid (ST1.out.below hb1)
      have FB0 := hid hF1
      have HGB : Hid (gb ≠ w.heap.size + 2) := by have := ST1.out.S; show _ ≠ _; omega
      clear hb1 hF1 ST1 c0 c1 c2 hgb
      go_wp2_with fail
      go_loopw [22] (fun y wr => ∃ (i : Nat), i ≤ M ∧ y = .int .i64 i ∧ RwSt w wr K M G (tabS K M G (K + i)) ∧ FRow wr gb 96 (M * 33) (gpF K M)) (fun y _ => M - (intOf y).toNat)
      case atStart => exact ⟨0, Nat.zero_le _, rfl, ST0.out, FB0.out⟩
      case round =>
        obtain ⟨i, hi, rfl, hst, hfb⟩ := hrel
        have ST := hid hst
        have FB := hid hfb
        clear hst hfb ST0 FB0
        by_cases hlt : i < M
        · have hlt' : (i : Int) < (M : Int) := by omega
          have i0 : (0 : Int) ≤ (i : Int) := by omega
          obtain ⟨cs, hcs⟩ : ∃ cs, cs = (List.range 33).map fun j => gpF K M (i * 33 + j) := ⟨_, rfl⟩
          have hr1 : Hid (wr.rangeAt gb (i * 33) cs) := by rw [hcs]; exact FB.out.range (i * 33) 33 (by omega)
          have hl1 : Hid (cs.length = 33) := by show _ = _; rw [hcs]; simp
          have hat : Hid (∀ j, j < 33 → cs[j]? = some (gpF K M (i * 33 + j))) := fun j hj => by rw [hcs, List.getElem?_map, List.getElem?_range hj]; rfl
          have hon : Hid (∀ v ∈ cs, v.oneCell' = true) := fun v hv => by
            rw [hcs] at hv
            obtain ⟨j, _, rfl⟩ := List.mem_map.1 hv
            show (gpF K M (i * 33 + j)).oneCell' = true
            unfold gpF; split <;> rfl
          have hi1 : Hid ((Tryd.prog.info? 96).map (·.size) = some cs.length) := by show _ = _; rw [hl1.out]; kernel_rfl
          have hi2 : Hid ((Tryd.prog.info? 96).map (·.size) = some cs.toArray.size) := by show _ = _; rw [List.size_toArray]; exact hi1.out
          have hon2 : Hid (cs.toArray.all (·.oneCell') = true) := all_oneCell_toArray hon.out
          have hsz : Hid (gz.size = cs.toArray.size) := by show _ = _; rw [gz_size, List.size_toArray, hl1.out]
          have hi3 : Hid ((Tryd.prog.info? 94).map (·.size) = some (cs.take 33).length) := by show _ = _; rw [List.length_take, hl1.out]; kernel_rfl
          have N0 : Hid ((wr.alloc (.cells cs.toArray 96)).rangeAt wr.heap.size 0 (cs.take 33)) := range_of_row (RowAt.new wr _ _) 33
          have N1 := hid (ST.out.alloc (.cells cs.toArray 96))
          have N2 := hid (FB.out.alloc (.cells cs.toArray 96))
          have E1 : Hid ((cs.take 33).length = 33) := by show _ = _; rw [List.length_take, hl1.out]; rfl
          have E2 : Hid ((cs.take 33)[0]? = some (.int .i64 ((K + i : Nat) : Int))) := by
            show _ = _
            rw [List.getElem?_take, if_pos (by decide), hat.out 0 (by decide), Nat.add_zero]
            unfold gpF; rw [if_pos (by omega), show i * 33 / 33 = i by omega]
          have E3 : Hid (∀ v ∈ cs.take 33, v.oneCell' = true) := fun v hv => hon.out v (List.mem_of_mem_take hv)
          have E4 : Hid (((cs.take 33).drop 1).length = 32) := by show _ = _; rw [List.length_drop, E1.out]
          have E5 : Hid (∀ d, d < 32 → ((cs.take 33).drop 1)[d]? = some (.int .u8 ((rowN K M G (K + i) d : Nat) : Int))) := fun d hd => by
            rw [List.getElem?_drop, List.getElem?_take, if_pos (by omega), hat.out (1 + d) (by omega), gp_row K M G i d hlt hd]
          have hne : Hid (gb ≠ w.heap.size + 2) := HGB.out
          clear hcs
          go_wp2_with (first
            | (refine wpList_load_mid rfl 96 (.tmp 24) rfl gb (i * 33) rfl cs _ hr1.out Tryd.underlying96 rfl hi1.out ?_)
            | ((refine wpList_store_row rfl 96 (.tmp 6) (.tmp 25) rfl wr.heap.size cs.toArray rfl rfl _ _ (RowAt.new wr _ _) hi2.out hsz.out hon2.out ?_); rw [World.setRow_alloc_new])
            | (refine wpList_load_mid rfl 94 (.tmp 26) rfl wr.heap.size 0 rfl (cs.take 33) _ N0.out Tryd.underlying94 rfl hi3.out ?_))
          refine (ienter (cs.take 33) (K + i) (w.heap.size + 2) _ E1.out E2.out (by omega) E3.out _ N1.out.R).mono ?_
          rintro e w4 ⟨rfl, hR4, hg4⟩
          have ST4 : Hid (RwSt w w4 K M G (tabS K M G (K + (i + 1)))) := N1.out.put hg4 (hR4.congr fun p _ => tabS_lay K M G (K + i) _ E4.out E5.out p)
          have FB4 : Hid (FRow w4 gb 96 (M * 33) (gpF K M)) := N2.out.far hg4 (fun e => hne.out (Option.some.inj e))
          clear hR4 hg4 N0 N1 N2
          go_wp2
          go_roundw
          case rel => exact ⟨i + 1, by omega, by go_num, ST4.out, FB4.out⟩
          case measure => simp [intOf]; omega
        · have hie : i = M := by omega
          have STE : Hid (RwSt w wr K M G (tabS K M G (K + M))) := by rw [hie] at ST; exact ST
          have hlt' : ¬ (i : Int) < (M : Int) := by omega
          clear hie ST FB
          obtain ⟨c0, c1, c2⟩ := STE.out.code
          go_wp2_with fail
          refine (iloc K M G hK1 hK hM hG _).mono ?_
          rintro e w2 ⟨lb, rfl, hlb, ⟨mem, hF2, hmem⟩, hb2⟩
          have ST0 : Hid (RwSt w w2 K M G (tabS K M G (K + M + 0))) := STE.out.below hb2
          have FB0 := hid hF2
          have HMem := hid hmem
          have HLB : Hid (lb ≠ w.heap.size + 2) := by have := STE.out.S; show _ ≠ _; omega
          clear hb2 hF2 hmem STE c0 c1 c2 hlb HGB
          go_wp2_with fail
          go_loopw [33] (fun y wr => ∃ (i : Nat), i ≤ G ∧ y = .int .i64 i ∧ RwSt w wr K M G (tabS K M G (K + M + i)) ∧ FRow wr lb 102 (G * 34) (lpF K M G mem)) (fun y _ => G - (intOf y).toNat)
          case atStart => exact ⟨0, Nat.zero_le _, rfl, ST0.out, FB0.out⟩
          case round =>
            obtain ⟨i, hi, rfl, hst, hfb⟩ := hrel
            have ST := hid hst
            have FB := hid hfb
            clear hst hfb ST0 FB0
            by_cases hlt : i < G
            · have hlt' : (i : Int) < (G : Int) := by omega
              have i0 : (0 : Int) ≤ (i : Int) := by omega
              obtain ⟨cs, hcs⟩ : ∃ cs, cs = (List.range 34).map fun j => lpF K M G mem (i * 34 + j) := ⟨_, rfl⟩
              have hr1 : Hid (wr.rangeAt lb (i * 34) cs) := by rw [hcs]; exact FB.out.range (i * 34) 34 (by omega)
              have hl1 : Hid (cs.length = 34) := by show _ = _; rw [hcs]; simp
              have hat : Hid (∀ j, j < 34 → cs[j]? = some (lpF K M G mem (i * 34 + j))) := fun j hj => by rw [hcs, List.getElem?_map, List.getElem?_range hj]; rfl
              have hon : Hid (∀ v ∈ cs, v.oneCell' = true) := fun v hv => by
                rw [hcs] at hv
                obtain ⟨j, _, rfl⟩ := List.mem_map.1 hv
                show (lpF K M G mem (i * 34 + j)).oneCell' = true
                unfold lpF; split; rfl; split; exact HMem.out _; rfl
              have hi1 : Hid ((Tryd.prog.info? 102).map (·.size) = some cs.length) := by show _ = _; rw [hl1.out]; kernel_rfl
              have hi2 : Hid ((Tryd.prog.info? 102).map (·.size) = some cs.toArray.size) := by show _ = _; rw [List.size_toArray]; exact hi1.out
              have hon2 : Hid (cs.toArray.all (·.oneCell') = true) := all_oneCell_toArray hon.out
              have hsz : Hid (lz.size = cs.toArray.size) := by show _ = _; rw [lz_size, List.size_toArray, hl1.out]
              have hi3 : Hid ((Tryd.prog.info? 94).map (·.size) = some (cs.take 33).length) := by show _ = _; rw [List.length_take, hl1.out]; kernel_rfl
              have N0 : Hid ((wr.alloc (.cells cs.toArray 102)).rangeAt wr.heap.size 0 (cs.take 33)) := range_of_row (RowAt.new wr _ _) 33
              have N1 := hid (ST.out.alloc (.cells cs.toArray 102))
              have N2 := hid (FB.out.alloc (.cells cs.toArray 102))
              have E1 : Hid ((cs.take 33).length = 33) := by show _ = _; rw [List.length_take, hl1.out]; rfl
              have E2 : Hid ((cs.take 33)[0]? = some (.int .i64 ((K + M + i : Nat) : Int))) := by
                show _ = _
                rw [List.getElem?_take, if_pos (by decide), hat.out 0 (by decide), Nat.add_zero]
                unfold lpF; rw [if_pos (by omega), show i * 34 / 34 = i by omega]
              have E3 : Hid (∀ v ∈ cs.take 33, v.oneCell' = true) := fun v hv => hon.out v (List.mem_of_mem_take hv)
              have E4 : Hid (((cs.take 33).drop 1).length = 32) := by show _ = _; rw [List.length_drop, E1.out]
              have E5 : Hid (∀ d, d < 32 → ((cs.take 33).drop 1)[d]? = some (.int .u8 ((rowN K M G (K + M + i) d : Nat) : Int))) := fun d hd => by
                rw [List.getElem?_drop, List.getElem?_take, if_pos (by omega), hat.out (1 + d) (by omega), lp_row K M G i d mem hlt hd]
              have hne : Hid (lb ≠ w.heap.size + 2) := HLB.out
              clear hcs
              go_wp2_with (first
                | (refine wpList_load_mid rfl 102 (.tmp 35) rfl lb (i * 34) rfl cs _ hr1.out Tryd.underlying102 rfl hi1.out ?_)
                | ((refine wpList_store_row rfl 102 (.tmp 8) (.tmp 36) rfl wr.heap.size cs.toArray rfl rfl _ _ (RowAt.new wr _ _) hi2.out hsz.out hon2.out ?_); rw [World.setRow_alloc_new])
                | (refine wpList_load_mid rfl 94 (.tmp 37) rfl wr.heap.size 0 rfl (cs.take 33) _ N0.out Tryd.underlying94 rfl hi3.out ?_))
              refine (ienter (cs.take 33) (K + M + i) (w.heap.size + 2) _ E1.out E2.out (by omega) E3.out _ N1.out.R).mono ?_
              rintro e w4 ⟨rfl, hR4, hg4⟩
              have ST4 : Hid (RwSt w w4 K M G (tabS K M G (K + M + (i + 1)))) := N1.out.put hg4 (hR4.congr fun p _ => tabS_lay K M G (K + M + i) _ E4.out E5.out p)
              have FB4 : Hid (FRow w4 lb 102 (G * 34) (lpF K M G mem)) := N2.out.far hg4 (fun e => hne.out (Option.some.inj e))
              clear hR4 hg4 N0 N1 N2
              go_wp2
              go_roundw
              case rel => exact ⟨i + 1, by omega, by go_num, ST4.out, FB4.out⟩
              case measure => simp [intOf]; omega
            · have hie : i = G := by omega
              have STE : Hid (RwSt w wr K M G (tabS K M G (K + M + G))) := by rw [hie] at ST; exact ST
              have hlt' : ¬ (i : Int) < (G : Int) := by omega
              clear hie ST FB
              have RS := STE.out.R.row
              have hi9 : Hid ((Tryd.prog.info? 70).map (·.size) = some ((List.range 2048).map (tabS K M G (K + M + G))).toArray.size) := by show _ = _; rw [List.size_toArray, List.length_map, List.length_range]; kernel_rfl
              have hs9 : Hid (tz.size = ((List.range 2048).map (tabS K M G (K + M + G))).toArray.size) := by show _ = _; rw [tz_size, List.size_toArray, List.length_map, List.length_range]
              have ho9 : Hid (((List.range 2048).map (tabS K M G (K + M + G))).toArray.all (·.oneCell') = true) := all_oneCell_toArray fun v hv => by
                obtain ⟨p, _, rfl⟩ := List.mem_map.1 hv; rfl
              have R09 := hid STE.out.R0
              have B9 := hid STE.out.B
              obtain ⟨A9, hA9⟩ : ∃ A9, A9 = ((List.range 2048).map (tabS K M G (K + M + G))).toArray := ⟨_, rfl⟩
              have HA9 := hid hA9
              rw [← hA9] at RS hi9 hs9 ho9
              clear hA9 STE
              go_wp2_with (first
                | (refine wpList_load_row rfl 70 (.tmp 3) rfl (w.heap.size + 2) rfl _ _ _ _ RS Tryd.underlying70 rfl hi9.out ?_)
                | (refine wpList_store_row rfl 70 (.tmp 2) (.tmp 41) rfl (w.heap.size + 1) A9 rfl rfl _ _ R09.out hi9.out hs9.out ho9.out ?_))
              refine bodyPost_ret (v := .agg A9) ?_ rfl ⟨by rw [HA9.out], below_setRow B9.out _ _ (by omega)⟩
              exact results_cell_row Tryd.results25 _ _ (w.heap.size + 1) _ _ _ _ rfl (R09.out.setRow _) Tryd.underlying70 rfl hi9.out
end Go.Proofs.YthdmaamocejodaaDoor
