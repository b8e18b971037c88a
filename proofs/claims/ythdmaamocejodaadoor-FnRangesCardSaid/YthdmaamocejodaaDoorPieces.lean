import Derived.Test.YthdmaamocejodaaDoorBuildB
import Derived.Lib.BufferWrite
import Derived.Deep.CutRange
namespace Go.Proofs.YthdmaamocejodaaDoor
open Go.RowKit
/-! Pieces of shards: 64 rows of 512 bytes behind a count. -/
/-- a text's bytes as numbers -/
def sb (s : ByteArray) (j : Nat) : Nat := (s.data.getD j 0).toNat
theorem sb_lt (s : ByteArray) (j : Nat) : sb s j < 256 := UInt8.toNat_lt _
/-- the bytes from a place on, n of them, as cells -/
def sbC (s : ByteArray) (o n : Nat) : List Value := (List.range n).map fun j => Value.int .u8 ((sb s (o + j) : Nat) : Int)
theorem sbC_len (s : ByteArray) (o n : Nat) : (sbC s o n).length = n := by simp [sbC]
theorem run_copy_str (w : World) (g o n cap : Nat) (s : ByteArray) (hn : n ≤ s.size) (ht : w.there g o n) :
    (Builtin.copy_ #[22, 9] 3 #[.slice (some ⟨g, o, none⟩) n cap, .string s]).run Tryd.prog w = .ok (goInt n) (w.setCells g o (sbC s 0 n)) := by
  obtain ⟨i0, hi, hz0, hz1, hz2⟩ := info_parts Tryd.info8'
  have hmin : Nat.min s.size n = n := Nat.min_eq_right hn
  have hc : List.take n (List.map (fun b : UInt8 => Value.int .u8 (b.toNat : Int)) s.data.toList) = sbC s 0 n := by
    apply List.ext_getElem?
    intro j
    unfold sbC sb
    have hsz : s.data.size = s.size := rfl
    by_cases hj : j < n
    · rw [List.getElem?_take, if_pos hj, List.getElem?_map, List.getElem?_map, List.getElem?_range hj, Array.getElem?_toList, Array.getElem?_eq_getElem (by omega)]
      simp [Array.getD]
      rw [dif_pos (by omega)]
    · rw [List.getElem?_take, if_neg hj, List.getElem?_eq_none (by simp; omega)]
  have hst := run_storeCells_cells (P := Tryd.prog) g o (sbC s 0 n) 0 w (fun j hj => by simpa using (ht j (by rw [sbC_len] at hj; exact hj)).1) (fun j hj => by simpa using (ht j (by rw [sbC_len] at hj; exact hj)).2) (fun v hv => by unfold sbC at hv; obtain ⟨k, _, rfl⟩ := List.mem_map.1 hv; rfl)
  simp only [Nat.add_zero] at hst
  simp [Builtin.copy_, run_underlying Tryd.underlying22, Builtin.lenOf, Builtin.firstCells, sizeOf, typeInfo, hi, hmin]
  rw [hc, hst]
  rfl
theorem sb_extract (s : ByteArray) (o j : Nat) (h : o + j < s.size) : sb (s.extract o s.size) j = sb s (o + j) := by
  unfold sb
  have hsz : s.data.size = s.size := rfl
  rw [ByteArray.data_extract]
  simp [Array.getD, Array.size_extract]
  rw [dif_pos (by omega), dif_pos (by omega)]
theorem size_extract' (s : ByteArray) (o : Nat) : (s.extract o s.size).size = s.size - o := by
  show (s.extract o s.size).data.size = _
  rw [ByteArray.data_extract, Array.size_extract]
  have hsz : s.data.size = s.size := rfl
  omega
theorem sbC_extract (s : ByteArray) (o n : Nat) (h : o + n ≤ s.size) : sbC (s.extract o s.size) 0 n = sbC s o n := by
  unfold sbC
  refine List.map_congr_left fun j hj => ?_
  have hj' : j < n := by simpa using hj
  rw [Nat.zero_add, sb_extract s o j (by omega)]
/-- 'copy' of a text's bytes into a block, as a step of a region that draws its order. -/
theorem step_copyS {ops : Array Oper} {o : Oper} {a : Act} {w : World} {K : Act → World → Prop} {Q : Exit → Act → World → Prop} {E : Prop} (hgd : o.guard = none) (d x : Operand)
    (ho : o.op = .call { callee := .builtin .copy, args := #[d, x], argTypes := #[22, 9] }) (hty : o.type = 3)
    (g off n cap : Nat) (s : ByteArray) (hd : a.eval d = .slice (some ⟨g, off, none⟩) n cap) (hs : a.eval x = .string s) (hn : n ≤ s.size) (ht : w.there g off n)
    (h : K (a.put o.dst (goInt n)) (w.setCells g off (sbC s 0 n))) :
    if Region.wanted o (yielded ops a.tmps) = true then Oper.wp Tryd.prog o a w K Q else E := by
  have hw : Region.wanted o (yielded ops a.tmps) = true := by simp [Region.wanted, hgd]
  rw [if_pos hw]
  have hrun := run_copy_str w g off n cap s hn ht
  unfold Oper.wp
  simp [execOp, ho, hty, resolve, invoke, builtin, hd, hs, hrun, Result.andThen]
  exact h
set_option maxRecDepth 20000 in
set_option maxHeartbeats 2000000 in
theorem ipiece (pb cnt i : Nat) (hi : i < 64) (hc : cnt ≤ 512) (f : Nat → Value) (w : World) (hF : FRow w pb 107 32769 f) (h0 : f 0 = .int .i64 cnt) :
    Calls Tryd.prog 43 #[.pointer (some ⟨pb, 0, none⟩), .int .i64 i] w fun e w' => e = .returned (.slice (some ⟨pb, 1 + i * 512, none⟩) cnt 512) ∧ ∃ k, w' = w.drewN k := by
  have c0 : w.cell? ⟨pb, 0, none⟩ = some (.int .i64 cnt) := by rw [hF.cell (by omega), h0]
  have i0 : (0 : Int) ≤ (i : Int) := by omega
  have i1 : (i : Int) < 64 := by omega
  have c1 : (0 : Int) ≤ (cnt : Int) := by omega
  have c2 : (cnt : Int) ≤ 512 := by omega
  clear hF h0
  go_enter Tryd.func43, Tryd.ntmps43
  go_wp2
  go_quiet (fail)
  go_wp2
  go_ret
  exact ⟨rfl, nq, rfl⟩
/-- the loaded pieces: n texts' bytes from a place on, c of each -/
def ldF (f : Nat → Value) (ts : Nat → ByteArray) (o c n : Nat) (p : Nat) : Value := if p = 0 then .int .i64 c else if (p - 1) / 512 < n ∧ (p - 1) % 512 < c then .int .u8 ((sb (ts ((p - 1) / 512)) (o + (p - 1) % 512) : Nat) : Int) else f p
theorem ldF_start (f : Nat → Value) (ts : Nat → ByteArray) (o c : Nat) (p : Nat) : putF f 0 (.int .i64 c) p = ldF f ts o c 0 p := by
  unfold putF ldF
  by_cases h : p = 0
  · rw [if_pos h, if_pos h]
  · rw [if_neg h, if_neg h, if_neg (by omega)]
theorem ldF_step (f : Nat → Value) (ts : Nat → ByteArray) (o c i : Nat) (hc : c ≤ 512) (p : Nat) : layF (ldF f ts o c i) (1 + i * 512) (sbC (ts i) o c) p = ldF f ts o c (i + 1) p := by
  unfold layF ldF
  rw [sbC_len]
  by_cases h : 1 + i * 512 ≤ p ∧ p < 1 + i * 512 + c
  · rw [if_pos h, if_neg (show ¬ p = 0 by omega), if_pos (show (p - 1) / 512 < i + 1 ∧ (p - 1) % 512 < c by omega), show (p - 1) / 512 = i by omega, show (p - 1) % 512 = p - (1 + i * 512) by omega]
    unfold sbC
    rw [List.getD_eq_getElem?_getD, List.getElem?_map, List.getElem?_range (by omega)]; rfl
  · rw [if_neg h]
    by_cases h0 : p = 0
    · rw [if_pos h0, if_pos h0]
    · rw [if_neg h0, if_neg h0]
      by_cases h1 : (p - 1) / 512 < i ∧ (p - 1) % 512 < c
      · rw [if_pos h1, if_pos (show (p - 1) / 512 < i + 1 ∧ (p - 1) % 512 < c by omega)]
      · rw [if_neg h1, if_neg (by omega)]
set_option maxRecDepth 20000 in
set_option maxHeartbeats 4000000 in
theorem iload (pb sg so n cp L o c : Nat) (ts : Nat → ByteArray) (hn1 : 1 ≤ n) (hn : n ≤ 64) (hL : ∀ i, i < n → (ts i).size = L) (ho : o < L) (hL4 : L ≤ 4096) (hc1 : c ≤ 512) (hc2 : c ≤ L - o) (hc3 : c = 512 ∨ c = L - o) (f : Nat → Value) (w : World)
    (hF : FRow w pb 107 32769 f) (hS : ∀ i, i < n → w.cell? ⟨sg, so + i, none⟩ = some (.string (ts i))) (hne : sg ≠ pb) :
    Calls Tryd.prog 40 #[.pointer (some ⟨pb, 0, none⟩), .slice (some ⟨sg, so, none⟩) n cp, .int .i64 o] w fun e w' => e = .returned (.tuple #[]) ∧ FRow w' pb 107 32769 (ldF f ts o c n) ∧ w.grownBy w' (some pb) := by
  have s0 := hS 0 (by omega)
  rw [Nat.add_zero] at s0
  have z0 := hL 0 (by omega)
  obtain ⟨t0, ht0⟩ : ∃ t, t = ts 0 := ⟨_, rfl⟩
  rw [← ht0] at s0 z0
  have p0 : w.cell? ⟨pb, 0, none⟩ = some (f 0) := hF.cell (by omega)
  have q0 := hF.free 0
  have i1 : (0 : Int) < (n : Int) := by omega
  have HF := hid hF
  have HS := hid hS
  have HL := hid hL
  obtain ⟨x0, hx0⟩ : ∃ x, x = f 0 := ⟨_, rfl⟩
  rw [← hx0] at p0
  have HC3 := hid hc3
  clear hF hS hL ht0 hx0 hc3
  go_enter Tryd.func40, Tryd.ntmps40
  go_upto_region 0 with fail
  go_cut [15] from 8 to 17 (fun v wx => v = .int .i64 c ∧ wx = w.setCell ⟨pb, 0, none⟩ (.int .i64 c))
  case first =>
    go_wp2_with fail
    all_goals go_meet
    · have e9 : (L : Int) - (o : Int) = (c : Int) := by have h9 := HC3.out; omega
      rw [e9]; exact ⟨rfl, rfl⟩
    · have e9 : (512 : Int) = (c : Int) := by have h9 := HC3.out; omega
      rw [e9]; exact ⟨rfl, rfl⟩
  obtain ⟨rfl, hwc⟩ := hcut
  have F1 : Hid (FRow wc pb 107 32769 (ldF f ts o c 0)) := by rw [hwc]; exact (HF.out.set _ _).congr fun p _ => ldF_start f ts o c p
  have G1 : Hid (w.grownBy wc (some pb)) := by rw [hwc]; exact grown_set
  clear hwc HF p0 q0 s0 z0
  go_wp2_with fail
  go_loopw [20] (fun y wr => ∃ (i : Nat), i ≤ n ∧ y = .int .i64 i ∧ FRow wr pb 107 32769 (ldF f ts o c i) ∧ w.grownBy wr (some pb)) (fun y _ => n - (intOf y).toNat)
  case atStart => exact ⟨0, Nat.zero_le _, rfl, F1.out, G1.out⟩
  case round =>
    obtain ⟨i, hi, rfl, hF, hG⟩ := hrel
    have HF := hid hF
    have HG := hid hG
    clear hF hG F1 G1
    by_cases hlt : i < n
    · have hlt' : (i : Int) < (n : Int) := by omega
      have i0 : (0 : Int) ≤ (i : Int) := by omega
      have sgl : Hid (sg < w.heap.size) := World.block_lt_of_cell? w _ (HS.out i hlt)
      have s1 : wr.cell? ⟨sg, so + i, none⟩ = some (.string (ts i)) := by
        have h := HS.out i hlt
        rw [World.cell?_of_block (HG.out.block sg sgl.out (fun e => hne (Option.some.inj e)))]; exact h
      have z1 := HL.out i hlt
      obtain ⟨ti, hti⟩ : ∃ t, t = ts i := ⟨_, rfl⟩
      rw [← hti] at s1 z1
      have o0 : (0 : Int) ≤ (o : Int) := by omega
      have o1 : (o : Int) ≤ (L : Int) := by omega
      have HT := hid hti
      have H0 : Hid (ldF f ts o c i 0 = .int .i64 c) := by show _ = _; unfold ldF; rw [if_pos rfl]
      clear hti
      go_wp2_with fail
      have T1 : Hid (wr.there pb (1 + i * 512) c) := HF.out.there _ _ (by omega)
      have HN : Hid (c ≤ (ti.extract o L).size) := by show _ ≤ _; rw [← z1, size_extract', z1]; exact hc2
      have HE : Hid (sbC (ti.extract o L) 0 c = sbC (ts i) o c) := by show _ = _; rw [← z1, sbC_extract _ _ _ (by omega), HT.out]
      go_region_held3 (fun _ => True) ((trivial)) ((first | (go_at_call 43; refine (ipiece pb c i (by omega) hc1 _ _ HF.out.drew H0.out).mono ?_; rintro e w3 ⟨rfl, k3, rfl⟩) | (refine step_copyS (by rfl) _ _ (by rfl) (by rfl) pb (1 + i * 512) c 512 (ti.extract o L) (by rfl) (by rfl) HN.out T1.out ?_)))
      have F4 : Hid (FRow ((wr.drewN (1 + k3)).setCells pb (1 + i * 512) (sbC (ti.extract o L) 0 c)) pb 107 32769 (ldF f ts o c (i + 1))) := by
        rw [HE.out]
        exact (FRow.setCells _ _ (HF.out.drewN (1 + k3))).congr fun p _ => ldF_step f ts o c i hc1 p
      have G4 : Hid (w.grownBy ((wr.drewN (1 + k3)).setCells pb (1 + i * 512) (sbC (ti.extract o L) 0 c)) (some pb)) := grown_trans (grown_trans HG.out (grown_drewN wr (1 + k3) _)) (setCells_grown _ _ _)
      clear HF HG T1 s1
      go_wp2
      go_roundw
      case rel => exact ⟨i + 1, by omega, by go_num, F4.out, G4.out⟩
      case measure => simp [intOf]; omega
    · have hie : i = n := by omega
      have FE : Hid (FRow wr pb 107 32769 (ldF f ts o c n)) := by rw [hie] at HF; exact HF
      have hlt' : ¬ (i : Int) < (n : Int) := by omega
      clear hie HF
      go_wp2
      go_end0
      exact ⟨rfl, FE.out, HG.out⟩
end Go.Proofs.YthdmaamocejodaaDoor
