import Derived.Test.YthdmaamocejodaaDoorPieces
import Derived.Test.YthdmaamocejodaaDoorIAddF
import Derived.Lib.SliceRun
namespace Go.Proofs.YthdmaamocejodaaDoor
open Go.RowKit
/-- pieces: a count and their bytes -/
def PF (c : Nat) (b : Nat → Nat → Nat) (p : Nat) : Value := if p = 0 then .int .i64 c else .int .u8 ((b ((p - 1) / 512) ((p - 1) % 512) : Nat) : Int)
theorem PF_zero (c : Nat) (b : Nat → Nat → Nat) : PF c b 0 = .int .i64 c := if_pos rfl
theorem PF_at (c : Nat) (b : Nat → Nat → Nat) (i j : Nat) (hj : j < 512) : PF c b (1 + i * 512 + j) = .int .u8 ((b i j : Nat) : Int) := by
  unfold PF; rw [if_neg (by omega), show (1 + i * 512 + j - 1) / 512 = i by omega, show (1 + i * 512 + j - 1) % 512 = j by omega]
theorem PF_congr {c : Nat} {b b' : Nat → Nat → Nat} (h : ∀ i j, i < 64 → j < 512 → b i j = b' i j) (p : Nat) (hp : p < 32769) : PF c b p = PF c b' p := by
  unfold PF
  by_cases h0 : p = 0
  · rw [if_pos h0, if_pos h0]
  · rw [if_neg h0, if_neg h0, h _ _ (by omega) (by omega)]
/-- a sum of products, k of them -/
def mixN (fac : Nat → Nat → Nat) (ld : Nat → Nat → Nat) (i j : Nat) : Nat → Nat
  | 0 => 0
  | k + 1 => mixN fac ld i j k ^^^ gm 8 29 (fac i k) (ld k j)
theorem mixN_lt {fac ld : Nat → Nat → Nat} {i j : Nat} (hf : ∀ k, fac i k < 256) : ∀ k, mixN fac ld i j k < 256
  | 0 => Nat.zero_lt_succ 255
  | k + 1 => Nat.xor_lt_two_pow (n := 8) (mixN_lt hf k) (gm_lt fld8.toFld _ (hf k))
theorem wpList_clear8 {ops : Array Oper} {rest : List Oper} {o : Oper} {a : Act} {w : World} {Q : Exit → Act → World → Prop} (hgd : o.guard = none) (x : Operand)
    (ho : o.op = .call { callee := .builtin .clear, args := #[x], argTypes := #[22] }) (g off n c : Nat) (hx : a.eval x = .slice (some ⟨g, off, none⟩) n c) (hn : 0 < n) (ht : w.there g off n)
    (h : wpList Tryd.prog ops Q rest (a.put o.dst (.tuple #[])) (w.setCells g off (List.replicate n (.int .u8 0)))) : wpList Tryd.prog ops Q (o :: rest) a w := by
  have hrun := fun ty => Lib.run_clear_slice (P := Tryd.prog) w 22 5 ty (.int .u8 0) Tryd.underlying22 (fun w => by kernel_rfl) rfl rfl g off n c hn (fun j hj => (ht j hj).1) (fun j hj => (ht j hj).2)
  refine wpList_plain hgd fun K hK => ?_
  unfold Oper.wp
  simp [execOp, ho, resolve, invoke, builtin, hx, hrun, Result.andThen]
  exact hK _ _ h
/-- a row cleared -/
theorem PF_clear (c : Nat) (b : Nat → Nat → Nat) (i n : Nat) (hn : n ≤ 512) (p : Nat) : layF (PF c b) (1 + i * 512) (List.replicate n (.int .u8 0)) p = PF c (fun i' j => if i' = i ∧ j < n then 0 else b i' j) p := by
  unfold layF PF
  rw [List.length_replicate]
  by_cases h : 1 + i * 512 ≤ p ∧ p < 1 + i * 512 + n
  · rw [if_pos h, if_neg (show ¬ p = 0 by omega), List.getD_eq_getElem?_getD, List.getElem?_replicate, if_pos (by omega)]
    show Value.int .u8 0 = .int .u8 (((if (p - 1) / 512 = i ∧ (p - 1) % 512 < n then 0 else b _ _) : Nat) : Int)
    rw [if_pos (by omega)]; rfl
  · rw [if_neg h]
    by_cases h0 : p = 0
    · rw [if_pos h0, if_pos h0]
    · rw [if_neg h0, if_neg h0]
      show _ = Value.int .u8 (((if (p - 1) / 512 = i ∧ (p - 1) % 512 < n then 0 else b _ _) : Nat) : Int)
      rw [if_neg (by omega)]
/-- a row with multiples added -/
theorem PF_add (c : Nat) (b : Nat → Nat → Nat) (i n f : Nat) (fs : Nat → Nat) (hn : n ≤ 512) (p : Nat) : addF (PF c b) (fun j => b i j) (1 + i * 512) n f fs p = PF c (fun i' j => if i' = i ∧ j < n then b i j ^^^ gm 8 29 f (fs j) else b i' j) p := by
  unfold addF PF
  by_cases h : 1 + i * 512 ≤ p ∧ p < 1 + i * 512 + n
  · rw [if_pos h, if_neg (show ¬ p = 0 by omega)]
    show _ = Value.int .u8 (((if (p - 1) / 512 = i ∧ (p - 1) % 512 < n then _ else b _ _) : Nat) : Int)
    rw [if_pos (by omega), show (p - 1) % 512 = p - (1 + i * 512) by omega]
  · rw [if_neg h]
    by_cases h0 : p = 0
    · rw [if_pos h0, if_pos h0]
    · rw [if_neg h0, if_neg h0]
      show _ = Value.int .u8 (((if (p - 1) / 512 = i ∧ (p - 1) % 512 < n then _ else b _ _) : Nat) : Int)
      rw [if_neg (by omega)]
theorem addF_congr {F : Nat → Value} {z z' : Nat → Nat} {o n f : Nat} {fs : Nat → Nat} {p : Nat} (h : ∀ j, j < n → z j = z' j) : addF F z o n f fs p = addF F z' o n f fs p := by
  unfold addF
  by_cases h1 : o ≤ p ∧ p < o + n
  · rw [if_pos h1, if_pos h1, h (p - o) (by omega)]
  · rw [if_neg h1, if_neg h1]
def fz : Array Value := ((List.range 32).map fun _ => Value.int .u8 0).toArray
theorem fz_size : fz.size = 32 := by kernel_rfl
theorem zv32 (w : World) : (zeroValue 68).run Tryd.prog w = .ok (.agg fz) w := by kernel_rfl
theorem idx32 (cs : List Value) (k : Nat) (v : Value) (h : cs[k]? = some v) (hk : k < 32) (w : World) : (Instr.index 68 (.agg cs.toArray) (.int .i64 k)).run Tryd.prog w = .ok v w := by
  obtain ⟨i0, hi, hz0, hz1, hz2⟩ := info_parts Tryd.info8'
  simp [Instr.index, asIntOf, run_underlying Tryd.underlying68, run_underlying Tryd.underlying5, part, sizeOf, typeInfo, hi, hz1, h, hk, isAgg]
set_option maxRecDepth 20000 in
set_option maxHeartbeats 4000000 in
theorem imix (mb lb rg R cp c c0 : Nat) (hR : R ≤ 64) (hc0 : 0 < c) (hc : c ≤ 512) (fac ld m0 : Nat → Nat → Nat) (hf8 : ∀ i k, fac i k < 256) (hl8 : ∀ k j, ld k j < 256) (w : World) (hT : Tab w) (hg1 : 2 < mb) (hM : FRow w mb 107 32769 (PF c0 m0)) (hL : FRow w lb 107 32769 (PF c ld))
    (hS : ∀ i k, i < R → k < 32 → w.cell? ⟨rg, i * 32 + k, none⟩ = some (.int .u8 ((fac i k : Nat) : Int))) (hml : mb ≠ lb) (hmr : mb ≠ rg) :
    Calls Tryd.prog 41 #[.pointer (some ⟨mb, 0, none⟩), .slice (some ⟨rg, 0, none⟩) R cp, .pointer (some ⟨lb, 0, none⟩)] w fun e w' => e = .returned (.tuple #[]) ∧ FRow w' mb 107 32769 (PF c (fun i j => if i < R ∧ j < c then mixN fac ld i j 32 else m0 i j)) ∧ w.grownBy w' (some mb) := by
  have l0 : w.cell? ⟨lb, 0, none⟩ = some (.int .i64 c) := by rw [hL.cell (by omega), PF_zero]
  have m1 : w.cell? ⟨mb, 0, none⟩ = some (.int .i64 c0) := by rw [hM.cell (by omega), PF_zero]
  have f1 := hM.free 0
  have HT := hid hT
  have HM := hid hM
  have HL := hid hL
  have HS := hid hS
  have HF8 := hid hf8
  have HL8 := hid hl8
  have hz := zv32
  clear hT hM hL hS hf8 hl8
  go_enter Tryd.func41, Tryd.ntmps41
  go_wp2_with fail
  obtain ⟨W0, hW0⟩ : ∃ W0, W0 = w.setCell ⟨mb, 0, none⟩ (.int .i64 c) := ⟨_, rfl⟩
  have F0 : Hid (FRow W0 mb 107 32769 (PF c (fun i j => if i < 0 ∧ j < c then mixN fac ld i j 32 else m0 i j))) := by
    rw [hW0]
    refine (HM.out.set _ _).congr fun p _ => ?_
    unfold putF PF
    by_cases h0 : p = 0
    · rw [if_pos h0, if_pos h0]
    · rw [if_neg h0, if_neg h0, if_neg h0]
      show _ = Value.int .u8 (((if (p - 1) / 512 < 0 ∧ _ then _ else m0 _ _) : Nat) : Int)
      rw [if_neg (by omega)]
  have G0 : Hid (w.grownBy W0 (some mb)) := by rw [hW0]; exact grown_set
  rw [← hW0]
  clear hW0 l0 m1 f1 HM
  go_loopw [19] (fun y wr => ∃ (i : Nat), i ≤ R ∧ y = .int .i64 i ∧ FRow wr mb 107 32769 (PF c (fun i' j => if i' < i ∧ j < c then mixN fac ld i' j 32 else m0 i' j)) ∧ w.grownBy wr (some mb)) (fun y _ => R - (intOf y).toNat)
  case atStart => exact ⟨0, Nat.zero_le _, rfl, F0.out, G0.out⟩
  case round =>
    obtain ⟨i, hi, rfl, hF, hG⟩ := hrel
    have HF := hid hF
    have HG := hid hG
    clear hF hG F0 G0
    by_cases hlt : i < R
    · have hlt' : (i : Int) < (R : Int) := by omega
      have i0 : (0 : Int) ≤ (i : Int) := by omega
      obtain ⟨cs, hcs⟩ : ∃ cs, cs = (List.range 32).map fun k => Value.int .u8 ((fac i k : Nat) : Int) := ⟨_, rfl⟩
      have hl1 : Hid (cs.length = 32) := by show _ = _; rw [hcs]; simp
      have hat : Hid (∀ k, k < 32 → cs[k]? = some (.int .u8 ((fac i k : Nat) : Int))) := fun k hk => by rw [hcs, List.getElem?_map, List.getElem?_range hk]; rfl
      have rgl : rg < w.heap.size := World.block_lt_of_cell? w _ (HS.out i 0 hlt (by omega))
      have hr1 : Hid (wr.rangeAt rg (i * 32) cs) := fun k v hv => by
        have hk : k < 32 := by have := (List.getElem?_eq_some_iff.1 hv).1; have := hl1.out; omega
        rw [World.cell?_of_block (HG.out.block rg rgl (fun e => hmr (Option.some.inj e).symm)), HS.out i k hlt hk, ← hat.out k hk]; exact hv
      have hi1 : Hid ((Tryd.prog.info? 68).map (·.size) = some cs.length) := by show _ = _; rw [hl1.out]; kernel_rfl
      have hi2 : Hid ((Tryd.prog.info? 68).map (·.size) = some cs.toArray.size) := by show _ = _; rw [List.size_toArray]; exact hi1.out
      have hon2 : Hid (cs.toArray.all (·.oneCell') = true) := all_oneCell_toArray fun v hv => by rw [hcs] at hv; obtain ⟨k, _, rfl⟩ := List.mem_map.1 hv; rfl
      clear hcs
      have hsz : Hid (fz.size = cs.toArray.size) := by show _ = _; rw [fz_size, List.size_toArray, hl1.out]
      go_wp2_with (first
        | (refine wpList_load_mid rfl 68 (.tmp 22) rfl rg (i * 32) rfl cs _ hr1.out Tryd.underlying68 rfl hi1.out ?_)
        | ((refine wpList_store_row rfl 68 (.tmp 7) (.tmp 23) rfl wr.heap.size cs.toArray rfl rfl _ _ (RowAt.new wr _ _) hi2.out hsz.out hon2.out ?_); rw [World.setRow_alloc_new]))
      obtain ⟨W1, hW1⟩ : ∃ W1, W1 = wr.alloc (.cells cs.toArray 68) := ⟨_, rfl⟩
      have F1 : Hid (FRow W1 mb 107 32769 (PF c (fun i' j => if i' < i ∧ j < c then mixN fac ld i' j 32 else m0 i' j))) := by rw [hW1]; exact HF.out.alloc _
      have G1 : Hid (w.grownBy W1 (some mb)) := by rw [hW1]; exact grown_trans HG.out (World.grownBy_alloc wr _ _)
      have R1 : Hid (RowAt W1 wr.heap.size 68 cs.toArray) := by rw [hW1]; exact RowAt.new wr _ _
      have mbl : mb < wr.heap.size := HF.out.lt
      rw [← hW1]
      clear hW1 HF HG hr1
      refine (ipiece mb c i (by omega) hc _ _ F1.out (PF_zero _ _)).mono ?_
      rintro e w3 ⟨rfl, k3, rfl⟩
      have T3 : Hid ((W1.drewN k3).there mb (1 + i * 512) c) := (F1.out.drewN k3).there _ _ (by omega)
      have F4 : Hid (FRow ((W1.drewN k3).setCells mb (1 + i * 512) (List.replicate c (.int .u8 0))) mb 107 32769 (PF c (fun i' j => if i' < i ∧ j < c then mixN fac ld i' j 32 else if i' = i ∧ j < c then mixN fac ld i' j 0 else m0 i' j))) := by
        refine (FRow.setCells _ _ (F1.out.drewN k3)).congr fun p hp => ?_
        rw [PF_clear _ _ _ _ hc]
        refine PF_congr (fun i' j _ _ => ?_) p hp
        show (if i' = i ∧ j < c then 0 else if i' < i ∧ j < c then _ else m0 i' j) = if i' < i ∧ j < c then _ else if i' = i ∧ j < c then 0 else m0 i' j
        by_cases h1 : i' = i ∧ j < c
        · rw [if_pos h1, if_neg (by omega), if_pos h1]
        · rw [if_neg h1, if_neg h1]
      have G4 : Hid (w.grownBy ((W1.drewN k3).setCells mb (1 + i * 512) (List.replicate c (.int .u8 0))) (some mb)) := grown_trans (grown_trans G1.out (grown_drewN W1 k3 _)) (setCells_grown _ _ _)
      have R4 : RowAt ((W1.drewN k3).setCells mb (1 + i * 512) (List.replicate c (.int .u8 0))) wr.heap.size 68 cs.toArray := ((setCells_grown (List.replicate c (.int .u8 0)) (1 + i * 512) (W1.drewN k3)).block wr.heap.size R1.out.lt (fun e => by have e2 : wr.heap.size = mb := Option.some.inj e; omega)).trans R1.out
      go_wp2_with (first
        | (refine wpList_clear8 rfl (.tmp 26) rfl mb (1 + i * 512) c 512 rfl hc0 T3.out ?_)
        | (refine wpList_load_row rfl 68 (.tmp 7) rfl wr.heap.size rfl _ _ _ _ R4 Tryd.underlying68 rfl hi2.out ?_))
      obtain ⟨W4, hW4⟩ : ∃ W4, W4 = (W1.drewN k3).setCells mb (1 + i * 512) (List.replicate c (.int .u8 0)) := ⟨_, rfl⟩
      rw [← hW4] at F4 G4 ⊢
      clear hW4 R4 T3 F1 G1 R1 hi1 hi2 hon2 hsz
      go_loopw [28] (fun y w2 => ∃ (k : Nat), k ≤ 32 ∧ y = .int .i64 k ∧ FRow w2 mb 107 32769 (PF c (fun i' j => if i' < i ∧ j < c then mixN fac ld i' j 32 else if i' = i ∧ j < c then mixN fac ld i' j k else m0 i' j)) ∧ w.grownBy w2 (some mb)) (fun y _ => 32 - (intOf y).toNat)
      case atStart => exact ⟨0, Nat.zero_le _, rfl, F4.out, G4.out⟩
      case round =>
        obtain ⟨k, hk, rfl, hF, hG⟩ := hrel
        have HF := hid hF
        have HG := hid hG
        clear hF hG F4 G4
        by_cases hlk : k < 32
        · have hlk' : (k : Int) < 32 := by omega
          have hix := idx32 cs k _ (hat.out k hlk) hlk
          obtain ⟨X, hX⟩ : ∃ X, X = fac i k := ⟨_, rfl⟩
          rw [← hX] at hix
          have hX8 : X < 256 := by rw [hX]; exact HF8.out i k
          have HXX := hid hX
          clear hX
          go_wp2_with fail
          refine (ipiece mb c i (by omega) hc _ _ HF.out (PF_zero _ _)).mono ?_
          rintro e w5 ⟨rfl, k5, rfl⟩
          go_wp2_with fail
          have LB5 : Hid (FRow (wr.drewN k5) lb 107 32769 (PF c ld)) := (HL.out.far HG.out (fun e => hml (Option.some.inj e).symm)).drewN k5
          refine (ipiece lb c k (by omega) hc _ _ LB5.out (PF_zero _ _)).mono ?_
          rintro e w6 ⟨rfl, k6, rfl⟩
          go_wp2_with fail
          have LB6 : Hid (FRow wr lb 107 32769 (PF c ld)) := HL.out.far HG.out (fun e => hml (Option.some.inj e).symm)
          refine (iaddF X hX8 mb (1 + i * 512) c c 512 lb (1 + k * 512) 512 (Nat.le_refl _) 107 32769 _ (fun j => mixN fac ld i j k) (fun j => ld k j) _ ?hT (HF.out.drewN _) (by omega) ?hz ?hz8 ?hfs (by omega) ?hs (fun e => hml e.symm)).mono ?_
          case hT => exact (HT.out.far HG.out hg1).drewN _
          case hz =>
            intro j hj
            rw [PF_at _ _ _ _ (by omega)]
            show Value.int .u8 (((if i < i ∧ j < c then _ else if i = i ∧ j < c then mixN fac ld i j k else m0 i j) : Nat) : Int) = _
            rw [if_neg (by omega), if_pos ⟨rfl, hj⟩]
          case hz8 => exact fun j _ => mixN_lt (HF8.out i) k
          case hfs => exact fun j _ => HL8.out k j
          case hs =>
            intro j hj
            have h := LB6.out.cell (p := 1 + k * 512 + j) (by omega)
            rw [PF_at _ _ _ _ (by omega)] at h
            exact h
          rintro e w7 ⟨rfl, hF7, hg7⟩
          have F7 : Hid (FRow w7 mb 107 32769 (PF c (fun i' j => if i' < i ∧ j < c then mixN fac ld i' j 32 else if i' = i ∧ j < c then mixN fac ld i' j (k + 1) else m0 i' j))) := by
            refine hF7.congr fun p hp => ?_
            refine Eq.trans ?_ (PF_congr (b := fun i' j => if i' = i ∧ j < c then mixN fac ld i j k ^^^ gm 8 29 X (ld k j) else (if i' < i ∧ j < c then mixN fac ld i' j 32 else if i' = i ∧ j < c then mixN fac ld i' j k else m0 i' j)) (fun i' j _ _ => ?_) p hp)
            · rw [← addF_congr (z := fun j => (if i < i ∧ j < c then mixN fac ld i j 32 else if i = i ∧ j < c then mixN fac ld i j k else m0 i j)) (fun j hj => by rw [if_neg (by omega), if_pos ⟨rfl, hj⟩])]
              rw [PF_add _ _ _ _ _ _ hc]
              refine PF_congr (fun i' j _ _ => ?_) p hp
              show (if i' = i ∧ j < c then (if i < i ∧ j < c then _ else if i = i ∧ j < c then mixN fac ld i j k else m0 i j) ^^^ gm 8 29 X (ld k j) else _) = if i' = i ∧ j < c then _ else _
              by_cases h1 : i' = i ∧ j < c
              · rw [if_pos h1, if_pos h1, if_neg (by omega), if_pos ⟨rfl, h1.2⟩]
              · simp only [if_neg h1]
            · show (if i' = i ∧ j < c then _ else _) = _
              by_cases h1 : i' = i ∧ j < c
              · rw [if_pos h1, if_neg (by omega), if_pos h1, h1.1]
                show _ = mixN fac ld i j k ^^^ gm 8 29 (fac i k) (ld k j)
                rw [HXX.out]
              · rw [if_neg h1, if_neg h1, if_neg h1]
          have G7 : Hid (w.grownBy w7 (some mb)) := grown_trans (grown_trans HG.out (grown_drewN wr _ _)) hg7
          clear hF7 hg7 HF HG LB5 LB6
          go_wp2
          go_roundw
          case rel => exact ⟨k + 1, by omega, by go_num, F7.out, G7.out⟩
          case measure => simp [intOf]; omega
        · have hke : k = 32 := by omega
          have FE : Hid (FRow wr mb 107 32769 (PF c (fun i' j => if i' < i + 1 ∧ j < c then mixN fac ld i' j 32 else m0 i' j))) := by
            refine HF.out.congr fun p hp => PF_congr (fun i' j _ _ => ?_) p hp
            show (if i' < i ∧ j < c then _ else if i' = i ∧ j < c then mixN fac ld i' j k else m0 i' j) = if i' < i + 1 ∧ j < c then _ else _
            by_cases h1 : i' < i ∧ j < c
            · rw [if_pos h1, if_pos (by omega)]
            · rw [if_neg h1]
              by_cases h2 : i' = i ∧ j < c
              · rw [if_pos h2, if_pos (by omega), hke]
              · rw [if_neg h2, if_neg (by omega)]
          have hlk' : ¬ (k : Int) < 32 := by omega
          clear hke HF
          go_wp2
          go_roundw
          case rel => exact ⟨i + 1, by omega, by go_num, FE.out, HG.out⟩
          case measure => simp [intOf]; omega
    · have hie : i = R := by omega
      have FE : Hid (FRow wr mb 107 32769 (PF c (fun i' j => if i' < R ∧ j < c then mixN fac ld i' j 32 else m0 i' j))) := by rw [hie] at HF; exact HF
      have hlt' : ¬ (i : Int) < (R : Int) := by omega
      clear hie HF
      go_wp2
      go_end0
      exact ⟨rfl, FE.out, HG.out⟩
end Go.Proofs.YthdmaamocejodaaDoor
