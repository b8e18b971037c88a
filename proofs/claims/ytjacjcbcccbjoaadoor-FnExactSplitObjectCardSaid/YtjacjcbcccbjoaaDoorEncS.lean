import Derived.Test.YtjacjcbcccbjoaaDoorEncI
import Derived.Test.YtjacjcbcccbjoaaDoorCRowS
import Derived.Deep.RegionWith
namespace Go.Proofs.YtjacjcbcccbjoaaDoor
open Go.RowKit
/-! The specification's EncodeShards. -/
theorem idxS (t : ByteArray) (p : Nat) (hp : p < t.size) (w : World) : (Instr.index 9 (.string t) (.int .i64 p)).run Tryd.prog w = .ok (.int .u8 ((sb t p : Nat) : Int)) w := by
  have h : t[p]? = some (t.data.getD p 0) := by
    rw [getElem?_pos t p hp]
    simp [Array.getD]
    rw [dif_pos hp]; rfl
  simp [Instr.index, asIntOf, run_underlying Tryd.underlying9, h, sb]
theorem mixN_tail {fac ld : Nat → Nat → Nat} {i p K : Nat} (hK : ∀ k, K ≤ k → ld k p = 0) : ∀ n, mixN fac ld i p (K + n) = mixN fac ld i p K
  | 0 => rfl
  | n + 1 => by
    show mixN fac ld i p (K + n) ^^^ gm 8 29 (fac i (K + n)) (ld (K + n) p) = _
    rw [mixN_tail hK n, hK _ (by omega), gm_zero, Nat.xor_zero]
/-- the bytes under way: j rows added, of row j the first q -/
def wayN (fac ld : Nat → Nat → Nat) (j q p : Nat) : Nat := if p < q then mixN fac ld 0 p (j + 1) else mixN fac ld 0 p j
set_option maxRecDepth 20000 in
set_option maxHeartbeats 4000000 in
theorem smix (K L n2 cp cp2 sg so : Nat) (rs : List Nat) (a : Option Addr) (ts : Nat → ByteArray) (hrl : rs.length = K) (hr8 : ∀ j, rs.getD j 0 < 256) (hK : K ≤ 32) (hKn : K ≤ n2) (hL : L ≤ 4096) (w : World) (hI : Ints .i64 w a K cp (nl rs)) (hz : ∀ j, j < K → (ts j).size = L) (hS : ∀ i, i < n2 → w.cell? ⟨sg, so + i, none⟩ = some (.string (ts i))) :
    Calls Tryd.prog 33 #[.slice a K cp, .slice (some ⟨sg, so, none⟩) n2 cp2, .int .i64 L] w fun e w' => e = .returned (.string (strOfNums (nl ((List.range L).map fun p => mixN (fun _ j => rs.getD j 0) (fun k p => sb (ts k) p) 0 p K)))) ∧ Below w.heap.size w w' := by
  have hmk := fun w => mk8 w L (by omega)
  have HI := hid hI
  have HR8 := hid hr8
  have HZ := hid hz
  have HS := hid hS
  have HRL := hid hrl
  obtain ⟨fac, hfac⟩ : ∃ fac : Nat → Nat → Nat, fac = fun _ j => rs.getD j 0 := ⟨_, rfl⟩
  obtain ⟨ld, hld⟩ : ∃ ld : Nat → Nat → Nat, ld = fun k p => sb (ts k) p := ⟨_, rfl⟩
  have HFA := hid hfac
  have HLD := hid hld
  have MB : Hid (∀ p k, mixN fac ld 0 p k < 256) := fun p k => mixN_lt (fun k => by rw [hfac]; exact HR8.out k) k
  clear hI hr8 hz hS hrl hfac hld
  go_enter Tryd.func33, Tryd.ntmps33
  go_wp2_with fail
  obtain ⟨W0, hW0⟩ : ∃ W0, W0 = w.alloc (.cells (cells8 (List.replicate L 0)) 5) := ⟨_, rfl⟩
  have B0 : Hid (Below w.heap.size w W0) := by rw [hW0]; exact (Below.refl _ _).alloc (Nat.le_refl _) _
  have F0 : Hid (FRow W0 w.heap.size 5 L (fun p => .int .u8 ((mixN fac ld 0 p 0 : Nat) : Int))) := by
    rw [hW0]
    refine FRow.of (RowAt.new w _ _) (by rw [cells8_size, List.length_replicate]) (fun p hp => ?_)
    rw [cells8_getD (by rw [List.length_replicate]; exact hp), List.getD_eq_getElem?_getD, List.getElem?_replicate, if_pos hp]; rfl
  rw [← hW0]
  clear hW0 hmk
  go_loopw [8] (fun y wr => ∃ (j : Nat), j ≤ K ∧ y = .int .i64 j ∧ FRow wr w.heap.size 5 L (fun p => .int .u8 ((mixN fac ld 0 p j : Nat) : Int)) ∧ Below w.heap.size w wr) (fun y _ => K - (intOf y).toNat)
  case atStart => exact ⟨0, Nat.zero_le _, rfl, F0.out, B0.out⟩
  case round =>
    obtain ⟨j, hj, rfl, hF, hB⟩ := hrel
    have HF := hid hF
    have HB := hid hB
    clear hF hB F0 B0
    by_cases hlt : j < K
    · have hlt' : (j : Int) < (K : Int) := by omega
      have j0 : (0 : Int) ≤ (j : Int) := by omega
      obtain ⟨rb, ro, har, hrl, hrc⟩ : ∃ b off, a = some ⟨b, off, none⟩ ∧ b < w.heap.size ∧ ∀ i, i < K → w.cell? ⟨b, off + i, none⟩ = some (.int .i64 ((nl rs).getD i 0)) := by
        rcases HI.out.2.2 with h0 | ⟨b, off, h1, h2, h3⟩
        · omega
        · exact ⟨b, off, h1, h2, h3⟩
      subst har
      obtain ⟨X, hX⟩ : ∃ X, X = rs.getD j 0 := ⟨_, rfl⟩
      have cR : wr.cell? ⟨rb, ro + j, none⟩ = some (.int .i64 (X : Int)) := by
        rw [hX, ← nl_at]; exact (HB.out.cell (p := ⟨rb, ro + j, none⟩) hrl).trans (hrc j hlt)
      have hX8 : X < 256 := by rw [hX]; exact HR8.out j
      have HXF : Hid (fac 0 j = X) := by show _ = _; rw [HFA.out, hX]
      have HRC := hid hrc
      clear hX hrc
      by_cases hx0 : X = 0
      · subst hx0
        have NF : Hid (FRow wr w.heap.size 5 L (fun p => .int .u8 ((mixN fac ld 0 p (j + 1) : Nat) : Int))) := HF.out.congr fun p _ => by
          show _ = Value.int .u8 ((mixN fac ld 0 p j ^^^ gm 8 29 (fac 0 j) (ld j p) : Nat) : Int)
          rw [HXF.out, zero_gm fld8.toFld (by rw [HLD.out]; exact sb_lt _ _), Nat.xor_zero]
        go_wp2
        go_roundw
        case rel => exact ⟨j + 1, by omega, by go_num, NF.out, HB.out⟩
        case measure => simp [intOf]; omega
      · have dx : ((X : Int) == 0) = false := by simp; omega
        go_wp2_with fail
        have F1 : Hid (FRow wr w.heap.size 5 L (fun p => .int .u8 ((wayN fac ld j 0 p : Nat) : Int))) := HF.out.congr fun p _ => by unfold wayN; rw [if_neg (by omega)]
        have sgl : sg < w.heap.size := World.block_lt_of_cell? w _ (HS.out j (by omega))
        have hjn : (j : Int) < (n2 : Int) := by omega
        go_loopw [9] (fun y wr => ∃ (q : Nat), q ≤ L ∧ y = .int .i64 q ∧ FRow wr w.heap.size 5 L (fun p => .int .u8 ((wayN fac ld j q p : Nat) : Int)) ∧ Below w.heap.size w wr) (fun y _ => L - (intOf y).toNat)
        case atStart => exact ⟨0, Nat.zero_le _, rfl, F1.out, HB.out⟩
        case round =>
          obtain ⟨q, hq, rfl, hF2, hB2⟩ := hrel
          have HF2 := hid hF2
          have HB2 := hid hB2
          clear hF2 hB2 HF HB F1 cR
          by_cases hlq : q < L
          · have hlq' : (q : Int) < (L : Int) := by omega
            have q0 : (0 : Int) ≤ (q : Int) := by omega
            have cR : wr.cell? ⟨rb, ro + j, none⟩ = some (.int .i64 (X : Int)) := by
              have h9 := (HB2.out.cell (p := ⟨rb, ro + j, none⟩) hrl).trans (HRC.out j hlt)
              rw [nl_at] at h9
              rw [h9, ← HXF.out, HFA.out]
            have cS : wr.cell? ⟨sg, so + j, none⟩ = some (.string (ts j)) := (HB2.out.cell (p := ⟨sg, so + j, none⟩) sgl).trans (HS.out j (by omega))
            have hzj := HZ.out j hlt
            obtain ⟨Y, hY⟩ : ∃ Y, Y = sb (ts j) q := ⟨_, rfl⟩
            have hix := fun w => idxS (ts j) q (by rw [hzj]; exact hlq) w
            rw [← hY] at hix
            have hY8 : Y < 256 := by rw [hY]; exact sb_lt _ _
            obtain ⟨B, hB⟩ : ∃ B, B = mixN fac ld 0 q j := ⟨_, rfl⟩
            have hB8 : B < 256 := by rw [hB]; exact MB.out q j
            have cB : wr.cell? ⟨w.heap.size, q, none⟩ = some (.int .u8 (B : Int)) := by
              rw [HF2.out.cell hlq]
              show some (Value.int .u8 ((wayN fac ld j q q : Nat) : Int)) = _
              unfold wayN; rw [if_neg (by omega), hB]
            have fB := HF2.out.free q
            obtain ⟨Z, hZ⟩ : ∃ Z, gm 8 29 X Y = Z := ⟨_, rfl⟩
            have hZ8 : Z < 256 := by rw [← hZ]; exact gm_lt fld8.toFld _ hX8
            have HZZ := hid hZ
            obtain ⟨V, hV⟩ : ∃ V, V = B ^^^ Z := ⟨_, rfl⟩
            have e4 : bits .xor .u8 (B : Int) (Z : Int) = (V : Int) := by rw [hV]; exact u8_xor_nat _ _ hB8 hZ8
            have e5 : IntKind.u8.wrap (Z : Int) = (Z : Int) := u8_of hZ8
            have e6 : IntKind.i64.wrap (Y : Int) = (Y : Int) := wrap_small _ (by omega) (by omega)
            have N1 : Hid (FRow (wr.drew.setCell ⟨w.heap.size, q, none⟩ (.int .u8 (V : Int))) w.heap.size 5 L (fun p => .int .u8 ((wayN fac ld j (q + 1) p : Nat) : Int))) := (HF2.out.drew.set _ _).congr fun p _ => by
              unfold putF wayN
              by_cases e : p = q
              · rw [if_pos e, if_pos (show p < q + 1 by omega), e]
                show _ = Value.int .u8 ((mixN fac ld 0 q j ^^^ gm 8 29 (fac 0 j) (ld j q) : Nat) : Int)
                rw [hV, hB, ← HZZ.out, HXF.out, HLD.out, hY]
              · rw [if_neg e]
                show Value.int .u8 (((if p < q then _ else _) : Nat) : Int) = Value.int .u8 (((if p < q + 1 then _ else _) : Nat) : Int)
                by_cases e2 : p < q
                · rw [if_pos e2, if_pos (show p < q + 1 by omega)]
                · rw [if_neg e2, if_neg (show ¬ p < q + 1 by omega)]
            have N2 : Hid (Below w.heap.size w (wr.drew.setCell ⟨w.heap.size, q, none⟩ (.int .u8 (V : Int)))) := HB2.out.drew.setCell (by dsimp only; omega) _
            clear hY hB hZ hV HF2 HB2
            go_wp2_with fail
            go_region_with ((go_at_call 52; refine (smul8n X Y hX8 hY8 _).mono ?_; rintro e w9 ⟨rfl, rfl⟩; rw [HZZ.out]))
            all_goals go_wp2
            -- @cut1
            all_goals
              go_roundw
              case rel => exact ⟨q + 1, by omega, by go_num, N1.out, N2.out⟩
              case measure => simp [intOf]; omega
          · have hqe : q = L := by omega
            have NF : Hid (FRow wr w.heap.size 5 L (fun p => .int .u8 ((mixN fac ld 0 p (j + 1) : Nat) : Int))) := HF2.out.congr fun p hp => by unfold wayN; rw [if_pos (by omega)]
            have hlq' : ¬ (q : Int) < (L : Int) := by omega
            clear hqe HF2
            go_wp2
            go_roundw
            case rel => exact ⟨j + 1, by omega, by go_num, NF.out, HB2.out⟩
            case measure => simp [intOf]; omega
    · have hje : j = K := by omega
      obtain ⟨xs, hxs⟩ : ∃ xs : List Int, xs = nl ((List.range L).map fun p => mixN (fun _ j => rs.getD j 0) (fun k p => sb (ts k) p) 0 p K) := ⟨_, rfl⟩
      have hxl : xs.length = L := by rw [hxs, nl_len]; simp
      have hcv := run_convert_bytes_arg (P := Tryd.prog) wr 35 5 Tryd.underlying35 Tryd.underlying5 w.heap.size 0 L L xs hxl (fun i hi => by
        rw [Nat.zero_add, HF.out.cell (by omega), hxs, nl_at, hje, HFA.out, HLD.out, List.getD_eq_getElem?_getD, List.getElem?_map, List.getElem?_range (by omega)]; rfl) 9 Tryd.underlying9
      have HXS := hid hxs
      have hlt' : ¬ (j : Int) < (K : Int) := by omega
      clear hje hxs HF
      go_wp2
      go_ret
      exact ⟨congrArg (fun z => Ending.returned (.string (strOfNums z))) HXS.out, HB.out⟩
end Go.Proofs.YtjacjcbcccbjoaaDoor
