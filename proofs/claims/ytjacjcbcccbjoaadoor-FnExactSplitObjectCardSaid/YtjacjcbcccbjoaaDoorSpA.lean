import Derived.Test.YtjacjcbcccbjoaaDoorLawStr
import Derived.Test.YtjacjcbcccbjoaaDoorEncS3
import Derived.Test.YtjacjcbcccbjoaaDoorCodeF
import Derived.Test.YtjacjcbcccbjoaaDoorTurnKit
import Derived.Deep.AppendLies
import Derived.Deep.CutRange
namespace Go.Proofs.YtjacjcbcccbjoaaDoor
open Go.RowKit
/-- how many bytes there are together -/
def sumS (ts : Nat → ByteArray) : Nat → Nat
  | 0 => 0
  | n + 1 => sumS ts n + (ts n).size
theorem sumS_mono (ts : Nat → ByteArray) : ∀ {a b : Nat}, a ≤ b → sumS ts a ≤ sumS ts b
  | a, 0, h => by rw [Nat.le_zero.1 h]; exact Nat.le_refl _
  | a, b + 1, h => by
    rcases Nat.lt_or_ge a (b + 1) with h1 | h1
    · exact Nat.le_trans (sumS_mono ts (show a ≤ b by omega)) (Nat.le_add_right _ _)
    · rw [show a = b + 1 by omega]; exact Nat.le_refl _
theorem sumS_at (ts : Nat → ByteArray) {i n : Nat} (h : i < n) : (ts i).size ≤ sumS ts n := Nat.le_trans (Nat.le_add_left _ (sumS ts i)) (sumS_mono ts (show i + 1 ≤ n by omega))
def szV (len s : Nat) : Int := if len + s ≤ 1048576 then 1048576 - ((len + s : Nat) : Int) else -1
theorem below_drewN9 {n : Nat} {w w' : World} (h : Below n w w') (m : Nat) : Below n w (w'.drewN m) := ⟨h.os, h.tape, h.output, h.size, h.block⟩
abbrev srv (k : Int) (a : Option Addr) (len cap : Nat) : Value := .agg #[.int .i64 k, .slice a len cap]
end Go.Proofs.YtjacjcbcccbjoaaDoor
namespace Go.Proofs.YtjacjcbcccbjoaaDoor
open Go.RowKit
/-! The specification's EncodeShards. -/
theorem Tryd.infoB' : (Tryd.prog.info? 4).map (fun i => (i.zero, i.size, i.bytes)) = some (some (.bool false), 1, 1) := by kernel_rfl
theorem mkB' (w : World) (n : Nat) (hn : n ≤ 1048576) : (Instr.makeSlice 48 (.int .i64 n) (.int .i64 n)).run Tryd.prog w = .ok (.slice (some ⟨w.heap.size, 0, none⟩) n n) (w.alloc (.cells (madeCells #[.bool false] n) 4)) := by
  obtain ⟨i0, hi, hz0, hz1, hz2⟩ := info_parts Tryd.infoB'
  have := run_make (P := Tryd.prog) w 48 4 i0 _ Tryd.underlying48 hi hz0 .i64 .i64 n n (by omega) (Int.le_refl _) (by rw [hz2]; omega) (by omega)
  rw [this, hz1]
  simp only [Int.toNat_natCast, Value.cells, Nat.mul_one]
set_option maxRecDepth 20000 in
set_option maxHeartbeats 2000000 in
theorem senc_form (k m g : Int) (a : Option Addr) (len cp : Nat) (hno : ¬ (cfault k m g = 0 ∧ (len : Int) = k)) (w : World) :
    Calls Tryd.prog 11 #[cdv k m g, .slice a len cp] w fun e w' => e = .returned (.agg #[.int .i64 1, .slice none 0 0]) ∧ Below w.heap.size w w' := by
  go_enter Tryd.func11, Tryd.ntmps11
  go_wp2_with fail
  refine (sCfault _ _ _ _).mono ?_
  rintro e w1 ⟨rfl, hw1⟩
  have C1 : Hid (RowAt w1 w.heap.size 28 (cda k m g)) := by rw [hw1]; exact ((RowAt.new w _ _).alloc _).alloc _
  have R1 : Hid (RowAt w1 (w.heap.size + 1) 37 #[.int .i64 0, .slice none 0 0]) := by rw [hw1]; exact (RowAt.next _ _ _ (by rw [size_al])).alloc _
  have B1 : Hid (Below w.heap.size w w1) := by rw [hw1]; exact bal (bal (bal (Below.refl _ _) _ (Nat.le_refl _)) _ (Nat.le_refl _)) _ (Nat.le_refl _)
  have c0 : w1.cell? ⟨w.heap.size, 0, none⟩ = some (.int .i64 k) := C1.out.cell 0
  clear hw1
  rcases cfault_01 k m g with hf | hf
  · have dK : ((len : Int) != k) = true := by
      have : ¬ (len : Int) = k := fun e => hno ⟨hf, e⟩
      simpa using this
    rw [hf]
    clear hf hno
    go_wp2_with (refine wpList_store_row rfl 37 (.tmp 4) (.tmp 18) rfl (w.heap.size + 1) #[.int .i64 1, .slice none 0 0] rfl rfl _ _ R1.out (by kernel_rfl) rfl (one2 _ _ _ _) ?_)
    refine bodyPost_ret (v := .agg #[.int .i64 1, .slice none 0 0]) ?_ rfl ⟨rfl, below_setRow B1.out _ _ (by omega)⟩
    exact results_cell_row Tryd.results11 _ _ (w.heap.size + 1) _ _ _ _ rfl (R1.out.setRow _) Tryd.underlying37 rfl (by kernel_rfl)
  · rw [hf]
    clear hf hno
    go_wp2_with (refine wpList_store_row rfl 37 (.tmp 4) (.tmp 18) rfl (w.heap.size + 1) #[.int .i64 1, .slice none 0 0] rfl rfl _ _ R1.out (by kernel_rfl) rfl (one2 _ _ _ _) ?_)
    refine bodyPost_ret (v := .agg #[.int .i64 1, .slice none 0 0]) ?_ rfl ⟨rfl, below_setRow B1.out _ _ (by omega)⟩
    exact results_cell_row Tryd.results11 _ _ (w.heap.size + 1) _ _ _ _ rfl (R1.out.setRow _) Tryd.underlying37 rfl (by kernel_rfl)
set_option maxRecDepth 20000 in
set_option maxHeartbeats 2000000 in
theorem senc (K M G sg so cp : Nat) (h1 : 1 ≤ K) (h2 : K ≤ 32) (h3 : M ≤ 16) (h4 : G ≤ K) (h5 : K + M + G ≤ 64) (ts : Nat → ByteArray) (hz : ∀ i, i < K → (ts i).size ≤ 1048576) (w : World) (hS : ∀ i, i < K → w.cell? ⟨sg, so + i, none⟩ = some (.string (ts i))) :
    Calls Tryd.prog 11 #[cdv K M G, .slice (some ⟨sg, so, none⟩) K cp] w fun e w' =>
      (¬ Fits ts K → e = .returned (srv 2 none 0 0)) ∧ (Fits ts K → ∃ g c, e = .returned (srv 0 (some ⟨g, 0, none⟩) (K + M + G) c) ∧ w.heap.size ≤ g ∧ Strs w' (some ⟨g, 0, none⟩) (K + M + G) c (encT K M G ts)) ∧ Below w.heap.size w w' := by
  have hf : Hid (cfault K M G = 0) := cfault_of h1 h2 h3 h4 h5
  have HS := hid hS
  have HZ := hid hz
  have hmk := fun w => mkB' w K (by omega)
  have sgl : sg < w.heap.size := World.block_lt_of_cell? w _ (hS 0 (by omega))
  clear hS hz
  go_enter Tryd.func11, Tryd.ntmps11
  go_wp2_with fail
  refine (sCfault _ _ _ _).mono ?_
  rintro e w1 ⟨rfl, hw1⟩
  rw [hf.out]
  have C1 : Hid (RowAt w1 w.heap.size 28 (cda K M G)) := by rw [hw1]; exact ((RowAt.new w _ _).alloc _).alloc _
  have R1 : Hid (RowAt w1 (w.heap.size + 1) 37 #[.int .i64 0, .slice none 0 0]) := by rw [hw1]; exact (RowAt.next _ _ _ (by rw [size_al])).alloc _
  have B1 : Hid (Below w.heap.size w w1) := by rw [hw1]; exact bal (bal (bal (Below.refl _ _) _ (Nat.le_refl _)) _ (Nat.le_refl _)) _ (Nat.le_refl _)
  have l1 : w.heap.size + 1 < w1.heap.size := R1.out.lt
  have c0 : w1.cell? ⟨w.heap.size, 0, none⟩ = some (.int .i64 K) := C1.out.cell 0
  have dK : ((K : Int) != (K : Int)) = false := by simp
  clear hw1
  go_wp2_with fail
  obtain ⟨W0, hW0⟩ : ∃ W0, W0 = w1.alloc (.cells (madeCells #[.bool false] K) 4) := ⟨_, rfl⟩
  have F0 : Hid (FRow W0 w1.heap.size 4 K (fun p => .bool (decide (p < 0)))) := by
    rw [hW0]
    have := made_row w1 4 (fun _ => .bool false) K 1 (by decide)
    rw [Nat.mul_one] at this
    exact this.congr fun p _ => by simp
  have C0 : Hid (RowAt W0 w.heap.size 28 (cda K M G)) := by rw [hW0]; exact C1.out.alloc _
  have R0 : Hid (RowAt W0 (w.heap.size + 1) 37 #[.int .i64 0, .slice none 0 0]) := by rw [hW0]; exact R1.out.alloc _
  have B0 : Hid (Below w.heap.size w W0) := by rw [hW0]; exact bal B1.out _ (Nat.le_refl _)
  rw [← hW0]
  clear hW0 C1 R1 B1 c0 hmk dK
  go_loopw [6] (fun x wr => ∃ (i : Nat), i ≤ K ∧ x = .int .i64 i ∧ FRow wr w1.heap.size 4 K (fun p => .bool (decide (p < i))) ∧ RowAt wr w.heap.size 28 (cda K M G) ∧ RowAt wr (w.heap.size + 1) 37 #[.int .i64 0, .slice none 0 0] ∧ Below w.heap.size w wr) (fun x _ => K - (intOf x).toNat)
  case atStart => exact ⟨0, Nat.zero_le _, rfl, F0.out, C0.out, R0.out, B0.out⟩
  case round =>
    obtain ⟨i, hi, rfl, hF, hC, hR, hB⟩ := hrel
    have HF := hid hF
    have HC := hid hC
    have HR := hid hR
    have HB := hid hB
    clear hF hC hR hB F0 C0 R0 B0
    by_cases hlt : i < K
    · have hlt' : (i : Int) < (K : Int) := by omega
      have i0 : (0 : Int) ≤ (i : Int) := by omega
      have k1 := HF.out.cell hlt
      have k2 := HF.out.free i
      have F2 : Hid (FRow (wr.setCell ⟨w1.heap.size, i, none⟩ (.bool true)) w1.heap.size 4 K (fun p => .bool (decide (p < i + 1)))) := (HF.out.set i (.bool true)).congr fun p _ => by
        unfold putF
        by_cases e : p = i
        · rw [if_pos e]; simp; omega
        · rw [if_neg e]; congr 1; simp; omega
      have C2 : Hid (RowAt (wr.setCell ⟨w1.heap.size, i, none⟩ (.bool true)) w.heap.size 28 (cda K M G)) := HC.out.other _ _ (by dsimp only; omega)
      have R2 : Hid (RowAt (wr.setCell ⟨w1.heap.size, i, none⟩ (.bool true)) (w.heap.size + 1) 37 #[.int .i64 0, .slice none 0 0]) := HR.out.other _ _ (by dsimp only; omega)
      have B2 : Hid (Below w.heap.size w (wr.setCell ⟨w1.heap.size, i, none⟩ (.bool true))) := HB.out.setCell (by dsimp only; omega) _
      clear HF HC HR HB
      go_wp2
      go_roundw
      case rel => exact ⟨i + 1, by omega, by go_num, F2.out, C2.out, R2.out, B2.out⟩
      case measure => simp [intOf]; omega
    · have hie : i = K := by omega
      have hlt' : ¬ (i : Int) < (K : Int) := by omega
      have A2 : Hid (∀ j, j < K → wr.cell? ⟨w1.heap.size, j, none⟩ = some (.bool true)) := fun j hj => by
        rw [HF.out.cell hj]; simp; omega
      have S2 : Hid (∀ i, i < K → wr.cell? ⟨sg, so + i, none⟩ = some (.string (ts i))) := fun i hi => (HB.out.cell (p := ⟨sg, so + i, none⟩) sgl).trans (HS.out i hi)
      go_wp2_with fail
      refine (slen sg so K cp w1.heap.size ts h1 (by omega) HZ.out _ S2.out A2.out).mono ?_
      rintro e w2 ⟨rfl, rfl⟩
      have c0 : w2.cell? ⟨w.heap.size, 0, none⟩ = some (.int .i64 K) := HC.out.cell 0
      have c1 : w2.cell? ⟨w.heap.size, 1, none⟩ = some (.int .i64 M) := HC.out.cell 1
      have c2 : w2.cell? ⟨w.heap.size, 2, none⟩ = some (.int .i64 G) := HC.out.cell 2
      by_cases hft : Fits ts K
      · rw [show lenV ts K = (((ts 0).size : Nat) : Int) from if_pos hft]
        have HFT := hid hft
        clear hft
        have n0 : ¬ (((ts 0).size : Nat) : Int) < 0 := by omega
        go_wp2_with fail
        refine (sall K M G sg so cp h1 h2 h3 h4 h5 ts HFT.out _ S2.out).mono ?_
        rintro e w3 ⟨g, c, rfl, hgb, hst, hb3⟩
        have R3 := hid (HR.out.below hb3 HR.out.lt)
        have B3 : Hid (Below w.heap.size w w3) := HB.out.trans (hb3.mono HB.out.size)
        clear hb3
        go_wp2_with (refine wpList_store_row rfl 37 (.tmp 4) (.tmp 41) rfl (w.heap.size + 1) #[.int .i64 0, .slice (some ⟨g, 0, none⟩) (K + M + G) c] rfl rfl _ _ R3.out (by kernel_rfl) rfl (one2 _ _ _ _) ?_)
        refine bodyPost_ret (v := srv 0 (some ⟨g, 0, none⟩) (K + M + G) c) ?_ rfl ⟨fun h => absurd HFT.out h, fun _ => ⟨g, c, rfl, by have := HB.out.size; omega, ?_⟩, below_setRow B3.out _ _ (by omega)⟩
        · exact results_cell_row Tryd.results11 _ _ (w.heap.size + 1) _ _ _ _ rfl (R3.out.setRow _) Tryd.underlying37 rfl (by kernel_rfl)
        · exact hst.setRow _ _ (by have := HR.out.lt; omega)
      · rw [show lenV ts K = -1 from if_neg hft]
        have HFT := hid hft
        clear hft
        go_wp2_with (refine wpList_store_row rfl 37 (.tmp 4) (.tmp 36) rfl (w.heap.size + 1) #[.int .i64 2, .slice none 0 0] rfl rfl _ _ HR.out (by kernel_rfl) rfl (one2 _ _ _ _) ?_)
        refine bodyPost_ret (v := srv 2 none 0 0) ?_ rfl ⟨fun _ => rfl, fun h => absurd h HFT.out, below_setRow HB.out _ _ (by omega)⟩
        exact results_cell_row Tryd.results11 _ _ (w.heap.size + 1) _ _ _ _ rfl (HR.out.setRow _) Tryd.underlying37 rfl (by kernel_rfl)
end Go.Proofs.YtjacjcbcccbjoaaDoor
namespace Go.Proofs.YtjacjcbcccbjoaaDoor
open Go.RowKit
/-! EncodeShards: answers of texts, and the two contracts. -/
/-- an answer's own texts: in a block of lo .. hi -/
def OwnS (w : World) (lo hi : Nat) (a : Option Addr) (n : Nat) (f : Nat → ByteArray) : Prop := n = 0 ∨ ∃ tg, a = some ⟨tg, 0, none⟩ ∧ lo ≤ tg ∧ tg < hi ∧ FRow w tg 9 n (fun i => .string (f i))
theorem OwnS.below {w w' : World} {lo hi n m : Nat} {a : Option Addr} {f : Nat → ByteArray} (h : OwnS w lo hi a n f) (hb : Below m w w') (hm : hi ≤ m) : OwnS w' lo hi a n f := by
  rcases h with h | ⟨tg, h1, h2, h3, h4⟩
  · exact Or.inl h
  · exact Or.inr ⟨tg, h1, h2, h3, h4.below hb (by omega)⟩
theorem OwnS.alloc {w : World} {lo hi n : Nat} {a : Option Addr} {f : Nat → ByteArray} (h : OwnS w lo hi a n f) (o : Obj) : OwnS (w.alloc o) lo hi a n f := by
  rcases h with h | ⟨tg, h1, h2, h3, h4⟩
  · exact Or.inl h
  · exact Or.inr ⟨tg, h1, h2, h3, h4.alloc o⟩
theorem OwnS.drew {w : World} {lo hi n : Nat} {a : Option Addr} {f : Nat → ByteArray} (h : OwnS w lo hi a n f) : OwnS w.drew lo hi a n f := h
theorem FRow.turned {w w' : World} {b lo hi n : Nat} {t : TypeId} {f : Nat → Value} (h : FRow w b t n f) (hg : Turned lo hi w w') (hn : b < lo ∨ hi ≤ b) : FRow w' b t n f := by
  obtain ⟨cs, h1, h2, h3⟩ := h; exact ⟨cs, h1.turned hg hn, h2, h3⟩
theorem OwnS.turned {w w' : World} {lo hi l2 h2 n : Nat} {a : Option Addr} {f : Nat → ByteArray} (h : OwnS w lo hi a n f) (hg : Turned l2 h2 w w') (hn : hi ≤ l2 ∨ h2 ≤ lo) : OwnS w' lo hi a n f := by
  rcases h with h | ⟨tg, h1, h3, h4, h5⟩
  · exact Or.inl h
  · exact Or.inr ⟨tg, h1, h3, h4, h5.turned hg (by omega)⟩
theorem OwnS.strs {w : World} {lo hi n : Nat} {a : Option Addr} {f : Nat → ByteArray} (h : OwnS w lo hi a n f) : Strs w a n n f := by
  rcases h with h | ⟨tg, rfl, h3, h4, h5⟩
  · exact ⟨Nat.le_refl _, Or.inl h⟩
  · exact h5.strs
theorem OwnS.setRow {w : World} {lo hi n : Nat} {a : Option Addr} {f : Nat → ByteArray} (h : OwnS w lo hi a n f) (g : Nat) (c : Array Value) (hg : g < lo ∨ hi ≤ g) : OwnS (w.setRow g c) lo hi a n f := by
  rcases h with h | ⟨tg, h1, h3, h4, cs, r1, r2, r3⟩
  · exact Or.inl h
  · exact Or.inr ⟨tg, h1, h3, h4, cs, r1.otherRow g c (by omega), r2, r3⟩
/-- texts that lie below hi -/
def StrsB (w : World) (hi : Nat) (a : Option Addr) (n c : Nat) (f : Nat → ByteArray) : Prop := n ≤ c ∧ (n = 0 ∨ ∃ b, a = some ⟨b, 0, none⟩ ∧ b < hi ∧ b < w.heap.size ∧ ∀ i, i < n → w.cell? ⟨b, 0 + i, none⟩ = some (.string (f i)))
theorem StrsB.of {w : World} {b n c : Nat} {f : Nat → ByteArray} (h : Strs w (some ⟨b, 0, none⟩) n c f) : StrsB w w.heap.size (some ⟨b, 0, none⟩) n c f := by
  refine ⟨h.1, ?_⟩
  rcases h.2 with h0 | ⟨b', off, he, h1, h2⟩
  · exact Or.inl h0
  · cases he; exact Or.inr ⟨b, rfl, h1, h1, h2⟩
theorem StrsB.none (w : World) (f : Nat → ByteArray) : StrsB w w.heap.size none 0 0 f := ⟨Nat.le_refl _, Or.inl rfl⟩
theorem StrsB.strs {w : World} {hi n c : Nat} {a : Option Addr} {f : Nat → ByteArray} (h : StrsB w hi a n c f) : Strs w a n c f := by
  refine ⟨h.1, ?_⟩
  rcases h.2 with h0 | ⟨b, he, h1, h2, h3⟩
  · exact Or.inl h0
  · exact Or.inr ⟨b, 0, he, h2, h3⟩
theorem StrsB.blocks {w w' : World} {hi n c : Nat} {a : Option Addr} {f : Nat → ByteArray} (h : StrsB w hi a n c f) (hs : w.heap.size ≤ w'.heap.size) (hb : ∀ b, b < hi → b < w.heap.size → w'.heap[b]? = w.heap[b]?) : StrsB w' hi a n c f := by
  refine ⟨h.1, ?_⟩
  rcases h.2 with h0 | ⟨b, he, h1, h2, h3⟩
  · exact Or.inl h0
  · refine Or.inr ⟨b, he, h1, by omega, fun i hi => ?_⟩
    rw [← h3 i hi]
    simp only [World.cell?, hb b h1 h2]
theorem StrsB.below {w w' : World} {hi n c m : Nat} {a : Option Addr} {f : Nat → ByteArray} (h : StrsB w hi a n c f) (hb : Below m w w') (hm : hi ≤ m) : StrsB w' hi a n c f := h.blocks hb.size fun b h1 _ => hb.block b (by omega)
theorem StrsB.alloc {w : World} {hi n c : Nat} {a : Option Addr} {f : Nat → ByteArray} (h : StrsB w hi a n c f) (o : Obj) : StrsB (w.alloc o) hi a n c f := h.blocks (by rw [size_al]; omega) fun b _ h2 => ((Below.refl w.heap.size w).alloc (Nat.le_refl _) o).block b h2
theorem StrsB.drew {w : World} {hi n c : Nat} {a : Option Addr} {f : Nat → ByteArray} (h : StrsB w hi a n c f) : StrsB w.drew hi a n c f := h
theorem StrsB.turned {w w' : World} {hi l2 h2 n c : Nat} {a : Option Addr} {f : Nat → ByteArray} (h : StrsB w hi a n c f) (hg : Turned l2 h2 w w') (hn : hi ≤ l2) : StrsB w' hi a n c f := h.blocks hg.size fun b h1 h2 => hg.block b h2 (by omega)
theorem StrsB.setRow {w : World} {hi n c : Nat} {a : Option Addr} {f : Nat → ByteArray} (h : StrsB w hi a n c f) (g : Nat) (cs : Array Value) (hg : hi ≤ g) : StrsB (w.setRow g cs) hi a n c f := h.blocks (by rw [setRow_size]; exact Nat.le_refl _) fun b h1 _ => setRow_other w g b cs (by omega)
/-- the program's answer -/
def AnsP (k : Int) (n : Nat) (f : Nat → ByteArray) (w : World) (e : Ending) (w' : World) : Prop := ∃ a, e = .returned (srv k a n n) ∧ OwnS w' w.heap.size w'.heap.size a n f ∧ Below w.heap.size w w'
/-- the specification's answer -/
def AnsQ (k : Int) (n : Nat) (f : Nat → ByteArray) (w : World) (e : Ending) (w' : World) : Prop := ∃ a c, e = .returned (srv k a n c) ∧ StrsB w' w'.heap.size a n c f ∧ Below w.heap.size w w'
/-- the code of the answer, and how many texts it has -/
theorem both (k m g : Int) (len : Nat) (ts : Nat → ByteArray) (hz : ∀ i, i < len → (ts i).size ≤ 1048576) :
    ∃ (c : Int) (n : Nat) (f : Nat → ByteArray), n ≤ 64 ∧
      (∀ b w, FRow w b 9 len (fun i => .string (ts i)) → Calls Tryd.prog 11 #[cdv k m g, .slice (some ⟨b, 0, none⟩) len len] w fun e w' => AnsQ c n f w e w') ∧
      (∀ b w, Tab w → FRow w b 9 len (fun i => .string (ts i)) → Calls Tryd.prog 14 #[cdv k m g, .slice (some ⟨b, 0, none⟩) len len] w fun e w' => AnsP c n f w e w') := by
  by_cases hf : cfault k m g = 0 ∧ (len : Int) = k
  · obtain ⟨hf, hlk⟩ := hf
    obtain ⟨K, M, G, rfl, rfl, rfl, h1, h2, h3, h4, h5⟩ := cfault_ok hf
    obtain rfl : len = K := by omega
    by_cases hft : Fits ts len
    · refine ⟨0, len + M + G, encT len M G ts, h5, fun b w hF => ?_, fun b w hT hF => ?_⟩
      · refine (senc len M G b 0 len h1 h2 h3 h4 h5 ts hz w (fun i hi => by rw [Nat.zero_add]; exact hF.cell hi)).mono ?_
        rintro e w' ⟨_, hy, hb⟩
        obtain ⟨g, c, rfl, _, hst⟩ := hy hft
        exact ⟨_, _, rfl, StrsB.of hst, hb⟩
      · refine (ienc_ok len M G b 0 len h1 h2 h3 h4 h5 ts hft w hT (fun i hi => by rw [Nat.zero_add]; exact hF.cell hi)).mono ?_
        rintro e w' ⟨tg, rfl, hl, hr, hb⟩
        exact ⟨_, rfl, Or.inr ⟨tg, rfl, hl, hr.lt, hr⟩, hb⟩
    · refine ⟨2, 0, ts, by omega, fun b w hF => ?_, fun b w _ hF => ?_⟩
      · refine (senc len M G b 0 len h1 h2 h3 h4 h5 ts hz w (fun i hi => by rw [Nat.zero_add]; exact hF.cell hi)).mono ?_
        rintro e w' ⟨hn, _, hb⟩
        exact ⟨_, _, hn hft, StrsB.none _ _, hb⟩
      · refine (ienc_size len M G b 0 len h1 h2 hf ts hz hft w (fun i hi => by rw [Nat.zero_add]; exact hF.cell hi)).mono ?_
        rintro e w' ⟨rfl, hb⟩
        exact ⟨_, rfl, Or.inl rfl, hb⟩
  · refine ⟨1, 0, ts, by omega, fun b w hF => ?_, fun b w _ hF => ?_⟩
    · refine (senc_form k m g _ len len hf w).mono ?_
      rintro e w' ⟨rfl, hb⟩
      exact ⟨_, _, rfl, StrsB.none _ _, hb⟩
    · refine (ienc_form k m g _ len len hf w).mono ?_
      rintro e w' ⟨rfl, hb⟩
      exact ⟨_, rfl, Or.inl rfl, hb⟩
end Go.Proofs.YtjacjcbcccbjoaaDoor
namespace Go.Proofs.YtjacjcbcccbjoaaDoor
open Go.RowKit
/-! How many stripes an object has. -/
def stripeN (k m g u s : Int) : Int := if cfault k m g = 0 ∧ 1 ≤ u ∧ u ≤ 4096 ∧ 0 ≤ s ∧ s ≤ 100000 ∧ (s + k * u - 1) / (k * u) ≤ 200 then (s + k * u - 1) / (k * u) else -1
/-- what there is where there is a count -/
theorem stripe_ok {k m g u s : Int} (h : stripeN k m g u s ≠ -1) : ∃ K M G U S : Nat, k = K ∧ m = M ∧ g = G ∧ u = U ∧ s = S ∧ 1 ≤ K ∧ K ≤ 32 ∧ M ≤ 16 ∧ G ≤ K ∧ K + M + G ≤ 64 ∧ 1 ≤ U ∧ U ≤ 4096 ∧ S ≤ 100000 ∧ (S + K * U - 1) / (K * U) ≤ 200 ∧ stripeN k m g u s = (((S + K * U - 1) / (K * U) : Nat) : Int) := by
  unfold stripeN at h ⊢
  by_cases q : cfault k m g = 0 ∧ 1 ≤ u ∧ u ≤ 4096 ∧ 0 ≤ s ∧ s ≤ 100000 ∧ (s + k * u - 1) / (k * u) ≤ 200
  · obtain ⟨q0, q1, q2, q3, q4, q5⟩ := q
    obtain ⟨K, M, G, rfl, rfl, rfl, h1, h2, h3, h4, h5⟩ := cfault_ok q0
    obtain ⟨U, rfl⟩ := Int.eq_ofNat_of_zero_le (show 0 ≤ u by omega)
    obtain ⟨S, rfl⟩ := Int.eq_ofNat_of_zero_le q3
    have hp : 1 ≤ K * U := Nat.mul_pos (by omega) (by omega)
    have e : ((S : Int) + K * U - 1) / (K * U) = (((S + K * U - 1) / (K * U) : Nat) : Int) := by
      rw [Int.natCast_ediv, Int.natCast_sub (by omega), Int.natCast_add, Int.natCast_mul]; rfl
    rw [if_pos ⟨q0, q1, q2, q3, q4, q5⟩]
    exact ⟨K, M, G, U, S, rfl, rfl, rfl, rfl, rfl, h1, h2, h3, h4, h5, by omega, by omega, by omega, by omega, e⟩
  · rw [if_neg q] at h; exact absurd rfl h
theorem stripe_nat {K M G U S : Nat} (h1 : 1 ≤ K) (h2 : K ≤ 32) (h3 : M ≤ 16) (h4 : G ≤ K) (h5 : K + M + G ≤ 64) (h6 : 1 ≤ U) (h7 : U ≤ 4096) (h8 : S ≤ 100000) :
    stripeN K M G U S = if (S + K * U - 1) / (K * U) ≤ 200 then (((S + K * U - 1) / (K * U) : Nat) : Int) else -1 := by
  have hp : 1 ≤ K * U := Nat.mul_pos (by omega) (by omega)
  have e : ((S : Int) + K * U - 1) / (K * U) = (((S + K * U - 1) / (K * U) : Nat) : Int) := by
    rw [Int.natCast_ediv, Int.natCast_sub (by omega), Int.natCast_add, Int.natCast_mul]; rfl
  unfold stripeN
  rw [e, cfault_of h1 h2 h3 h4 h5]
  by_cases q : (S + K * U - 1) / (K * U) ≤ 200
  · rw [if_pos q, if_pos ⟨rfl, by omega, by omega, by omega, by omega, by omega⟩]
  · rw [if_neg q, if_neg (fun h => q (by have := h.2.2.2.2.2; omega))]
theorem stripe_lo (k m g u s : Int) : stripeN k m g u s = -1 ∨ (0 ≤ stripeN k m g u s ∧ stripeN k m g u s ≤ 200) := by
  by_cases h : stripeN k m g u s = -1
  · exact Or.inl h
  · obtain ⟨K, M, G, U, S, _, _, _, _, _, _, _, _, _, _, _, _, _, hn, e⟩ := stripe_ok h
    rw [e]; exact Or.inr ⟨Int.natCast_nonneg _, (Int.ofNat_le.2 hn : _ ≤ ((200 : Nat) : Int))⟩
set_option maxRecDepth 20000 in
set_option maxHeartbeats 2000000 in
theorem sStripe (k m g u s : Int) (w : World) :
    Calls Tryd.prog 10 #[cdv k m g, .int .i64 u, .int .i64 s] w fun e w' => e = .returned (.int .i64 (stripeN k m g u s)) ∧ w' = (w.alloc (.cells (cda k m g) 28)).alloc (.cells (cda k m g) 28) := by
  go_enter Tryd.func10, Tryd.ntmps10
  go_wp2_with fail
  refine (sCfault _ _ _ _).mono ?_
  rintro e w1 ⟨rfl, hw1⟩
  rcases cfault_01 k m g with hf | hf
  · rw [hf]
    obtain ⟨K, M, G, rfl, rfl, rfl, h1, h2, h3, h4, h5⟩ := cfault_ok hf
    have HF := hid hf
    have C1 : Hid (RowAt w1 w.heap.size 28 (cda K M G)) := by rw [hw1]; exact (RowAt.new w _ _).alloc _
    have HW := hid hw1
    clear hf hw1
    by_cases u0 : u < 1
    · have E : Hid (stripeN K M G u s = -1) := if_neg (by omega)
      have d0 : decide (u < 1) = true := by simp; omega
      go_wp2
      go_ret
      exact ⟨by rw [E.out]; rfl, HW.out⟩
    have d0 : decide (u < 1) = false := by simp; omega
    by_cases u1 : 4096 < u
    · have E : Hid (stripeN K M G u s = -1) := if_neg (by omega)
      have d1 : decide (4096 < u) = true := by simp; omega
      go_wp2
      go_ret
      exact ⟨by rw [E.out]; rfl, HW.out⟩
    have d1 : decide (4096 < u) = false := by simp; omega
    by_cases u2 : s < 0
    · have E : Hid (stripeN K M G u s = -1) := if_neg (by omega)
      have d2 : decide (s < 0) = true := by simp; omega
      go_wp2
      go_ret
      exact ⟨by rw [E.out]; rfl, HW.out⟩
    have d2 : decide (s < 0) = false := by simp; omega
    by_cases u3 : 100000 < s
    · have E : Hid (stripeN K M G u s = -1) := if_neg (by omega)
      have d3 : decide (100000 < s) = true := by simp; omega
      go_wp2
      go_ret
      exact ⟨by rw [E.out]; rfl, HW.out⟩
    have d3 : decide (100000 < s) = false := by simp; omega
    obtain ⟨U, rfl⟩ := Int.eq_ofNat_of_zero_le (show 0 ≤ u by omega)
    obtain ⟨S, rfl⟩ := Int.eq_ofNat_of_zero_le (show 0 ≤ s by omega)
    have E : Hid _ := stripe_nat h1 h2 h3 h4 h5 (show 1 ≤ U by omega) (show U ≤ 4096 by omega) (show S ≤ 100000 by omega)
    have hp1 : 1 ≤ K * U := Nat.mul_pos (by omega) (by omega)
    have hp2 : K * U ≤ 32 * 4096 := Nat.mul_le_mul h2 (by omega)
    have eP : ((K : Int) * (U : Int)) = ((K * U : Nat) : Int) := by rw [Int.natCast_mul]
    obtain ⟨Z, hZ⟩ : ∃ Z, Z = K * U := ⟨_, rfl⟩
    rw [← hZ] at E hp1 hp2 eP
    obtain ⟨N, hN⟩ : ∃ N, N = (S + Z - 1) / Z := ⟨_, rfl⟩
    rw [← hN] at E
    have eD : ((S : Int) + (Z : Int) - 1).tdiv (Z : Int) = (N : Int) := by
      rw [Int.tdiv_eq_ediv_of_nonneg (by omega), hN, Int.natCast_ediv, Int.natCast_sub (by omega), Int.natCast_add]; rfl
    have eD' : ((S : Int) + (Z : Int) - 1) / (Z : Int) = (N : Int) := by
      rw [hN, Int.natCast_ediv, Int.natCast_sub (by omega), Int.natCast_add]; rfl
    have hNS : N ≤ 100000 := by
      rw [hN]
      have h9 : (S + Z - 1) / Z < S + 1 := by
        rw [Nat.div_lt_iff_lt_mul (by omega)]
        have := Nat.mul_le_mul_left S hp1
        rw [Nat.add_mul]; omega
      omega
    have hS1 : S ≤ 100000 := by omega
    have hZ1 : Z ≤ 131072 := by omega
    have HZ := hid hZ
    have HN := hid hN
    have c0 : w1.cell? ⟨w.heap.size, 0, none⟩ = some (.int .i64 K) := C1.out.cell 0
    clear hZ hN u0 u1 u2 u3 C1
    by_cases hn : 200 < N
    · have d5 : (200 : Int) < (N : Int) := by omega
      have E2 : Hid (stripeN K M G U S = -1) := by rw [E.out]; exact if_neg (by omega)
      clear E
      go_wp2
      go_ret
      exact ⟨by rw [E2.out]; rfl, HW.out⟩
    · have d5 : ¬ (200 : Int) < (N : Int) := by omega
      have E2 : Hid (stripeN K M G U S = (N : Int)) := by rw [E.out]; exact if_pos (by omega)
      clear E
      go_wp2
      go_ret
      exact ⟨by rw [E2.out]; rfl, HW.out⟩
  · rw [hf]
    have E : Hid (stripeN k m g u s = -1) := if_neg (fun h => by rw [hf] at h; exact absurd h.1 (by decide))
    have HW := hid hw1
    clear hf hw1
    go_wp2
    go_ret
    exact ⟨by rw [E.out]; rfl, HW.out⟩
end Go.Proofs.YtjacjcbcccbjoaaDoor
namespace Go.Proofs.YtjacjcbcccbjoaaDoor
open Go.RowKit
/-! Stripes: an object's pieces, and slices of stripes. -/
/-- the q-th piece of u bytes, filled up with zeros -/
def pcT (d : ByteArray) (u q : Nat) : ByteArray := strOfNums (nl ((List.range u).map fun j => sb d (q * u + j)))
theorem pcT_size (d : ByteArray) (u q : Nat) : (pcT d u q).size = u := by
  unfold pcT; rw [strOfNums_size, nl_len]; simp
/-- a stripe's shards -/
def spT (d : ByteArray) (K M G u i : Nat) : Nat → ByteArray := encT K M G (fun k => pcT d u (i * K + k))
theorem pc_fits (d : ByteArray) (K u i : Nat) (h1 : 1 ≤ u) (h2 : u ≤ 4096) : Fits (fun k => pcT d u (i * K + k)) K := fun k _ => by
  simp only [pcT_size]; exact ⟨h1, h2, trivial⟩
/-- stripes that are read: they lie in blocks below hi -/
def StpB (w : World) (hi : Nat) (a : Option Addr) (n c S : Nat) (T : Nat → Nat → ByteArray) : Prop :=
  n ≤ c ∧ (n = 0 ∨ ∃ b, a = some ⟨b, 0, none⟩ ∧ b < hi ∧ b < w.heap.size ∧ ∃ gs cs : Nat → Nat, ∀ i, i < n → w.cell? ⟨b, i, none⟩ = some (.slice (some ⟨gs i, 0, none⟩) S (cs i)) ∧ gs i < hi ∧ Strs w (some ⟨gs i, 0, none⟩) S (cs i) (T i))
theorem Strs.blk {w w' : World} {g S c : Nat} {f : Nat → ByteArray} (h : Strs w (some ⟨g, 0, none⟩) S c f) (hs : w.heap.size ≤ w'.heap.size) (hb : g < w.heap.size → w'.heap[g]? = w.heap[g]?) : Strs w' (some ⟨g, 0, none⟩) S c f := by
  refine ⟨h.1, ?_⟩
  rcases h.2 with h0 | ⟨b, off, he, h1, h2⟩
  · exact Or.inl h0
  · cases he
    refine Or.inr ⟨g, 0, rfl, by omega, fun i hi => ?_⟩
    rw [← h2 i hi]
    simp only [World.cell?, hb h1]
theorem StpB.blocks {w w' : World} {hi n c S : Nat} {a : Option Addr} {T : Nat → Nat → ByteArray} (h : StpB w hi a n c S T) (hs : w.heap.size ≤ w'.heap.size) (hb : ∀ b, b < hi → b < w.heap.size → w'.heap[b]? = w.heap[b]?) : StpB w' hi a n c S T := by
  refine ⟨h.1, ?_⟩
  rcases h.2 with h0 | ⟨b, he, h1, h2, gs, cs, h3⟩
  · exact Or.inl h0
  · refine Or.inr ⟨b, he, h1, by omega, gs, cs, fun i hi => ⟨?_, (h3 i hi).2.1, (h3 i hi).2.2.blk hs (hb _ (h3 i hi).2.1)⟩⟩
    rw [← (h3 i hi).1]
    simp only [World.cell?, hb b h1 h2]
theorem StpB.below {w w' : World} {hi n c S m : Nat} {a : Option Addr} {T : Nat → Nat → ByteArray} (h : StpB w hi a n c S T) (hb : Below m w w') (hm : hi ≤ m) : StpB w' hi a n c S T := h.blocks hb.size fun b h1 _ => hb.block b (by omega)
theorem StpB.alloc {w : World} {hi n c S : Nat} {a : Option Addr} {T : Nat → Nat → ByteArray} (h : StpB w hi a n c S T) (o : Obj) : StpB (w.alloc o) hi a n c S T := h.blocks (by rw [size_al]; omega) fun b _ h2 => ((Below.refl w.heap.size w).alloc (Nat.le_refl _) o).block b h2
theorem StpB.drew {w : World} {hi n c S : Nat} {a : Option Addr} {T : Nat → Nat → ByteArray} (h : StpB w hi a n c S T) : StpB w.drew hi a n c S T := h
theorem StpB.turned {w w' : World} {hi l2 h2 n c S : Nat} {a : Option Addr} {T : Nat → Nat → ByteArray} (h : StpB w hi a n c S T) (hg : Turned l2 h2 w w') (hn : hi ≤ l2) : StpB w' hi a n c S T := h.blocks hg.size fun b h1 h2 => hg.block b h2 (by omega)
/-- stripes that are an answer's own: blocks from lo up to hi, each stripe's texts in one of its own -/
def OwnP (w : World) (lo hi : Nat) (a : Option Addr) (n c S : Nat) (T : Nat → Nat → ByteArray) : Prop :=
  n ≤ c ∧ (n = 0 ∨ ∃ b, a = some ⟨b, 0, none⟩ ∧ lo ≤ b ∧ b < hi ∧ b < w.heap.size ∧ ∃ gs : Nat → Nat, (∀ i, i < n → w.cell? ⟨b, i, none⟩ = some (.slice (some ⟨gs i, 0, none⟩) S S) ∧ lo ≤ gs i ∧ gs i < hi ∧ gs i ≠ b ∧ FRow w (gs i) 9 S (fun s => .string (T i s))) ∧ (∀ i j, i < n → j < n → gs i = gs j → i = j))
theorem FRow.blk {w w' : World} {b n : Nat} {t : TypeId} {f : Nat → Value} (h : FRow w b t n f) (hb : b < w.heap.size → w'.heap[b]? = w.heap[b]?) : FRow w' b t n f := by
  obtain ⟨cs, h1, h2, h3⟩ := h
  exact ⟨cs, (hb h1.lt).trans h1, h2, h3⟩
theorem OwnP.blocks {w w' : World} {lo hi n c S : Nat} {a : Option Addr} {T : Nat → Nat → ByteArray} (h : OwnP w lo hi a n c S T) (hs : w.heap.size ≤ w'.heap.size) (hb : ∀ b, lo ≤ b → b < hi → b < w.heap.size → w'.heap[b]? = w.heap[b]?) : OwnP w' lo hi a n c S T := by
  refine ⟨h.1, ?_⟩
  rcases h.2 with h0 | ⟨b, he, h1, h2, h3, gs, h4, h5⟩
  · exact Or.inl h0
  · refine Or.inr ⟨b, he, h1, h2, by omega, gs, fun i hi => ?_, h5⟩
    obtain ⟨q1, q2, q3, q4, q5⟩ := h4 i hi
    refine ⟨?_, q2, q3, q4, q5.blk (hb _ q2 q3)⟩
    rw [← q1]
    simp only [World.cell?, hb b h1 h2 h3]
theorem OwnP.below {w w' : World} {lo hi n c S m : Nat} {a : Option Addr} {T : Nat → Nat → ByteArray} (h : OwnP w lo hi a n c S T) (hb : Below m w w') (hm : hi ≤ m) : OwnP w' lo hi a n c S T := h.blocks hb.size fun b _ h1 _ => hb.block b (by omega)
theorem OwnP.alloc {w : World} {lo hi n c S : Nat} {a : Option Addr} {T : Nat → Nat → ByteArray} (h : OwnP w lo hi a n c S T) (o : Obj) : OwnP (w.alloc o) lo hi a n c S T := h.blocks (by rw [size_al]; omega) fun b _ _ h2 => ((Below.refl w.heap.size w).alloc (Nat.le_refl _) o).block b h2
theorem OwnP.drew {w : World} {lo hi n c S : Nat} {a : Option Addr} {T : Nat → Nat → ByteArray} (h : OwnP w lo hi a n c S T) : OwnP w.drew lo hi a n c S T := h
theorem OwnP.turned {w w' : World} {lo hi l2 h2 n c S : Nat} {a : Option Addr} {T : Nat → Nat → ByteArray} (h : OwnP w lo hi a n c S T) (hg : Turned l2 h2 w w') (hn : hi ≤ l2 ∨ h2 ≤ lo) : OwnP w' lo hi a n c S T := h.blocks hg.size fun b h1 h2 h3 => hg.block b h3 (by omega)
theorem OwnP.stp {w : World} {lo hi n c S : Nat} {a : Option Addr} {T : Nat → Nat → ByteArray} (h : OwnP w lo hi a n c S T) : StpB w hi a n c S T := by
  refine ⟨h.1, ?_⟩
  rcases h.2 with h0 | ⟨b, he, h1, h2, h3, gs, h4, h5⟩
  · exact Or.inl h0
  · exact Or.inr ⟨b, he, h2, h3, gs, fun _ => S, fun i hi => ⟨(h4 i hi).1, (h4 i hi).2.2.1, (h4 i hi).2.2.2.2.strs⟩⟩
theorem Turned.trans {lo hi : Nat} {w w1 w2 : World} (h : Turned lo hi w w1) (h' : Turned lo hi w1 w2) : Turned lo hi w w2 :=
  ⟨h'.os.trans h.os, h'.tape.trans h.tape, h'.output.trans h.output, Nat.le_trans h.size h'.size, fun k hk hn => (h'.block k (Nat.lt_of_lt_of_le hk h.size) hn).trans (h.block k hk hn)⟩
theorem Turned.alloc {lo hi : Nat} {w w' : World} (h : Turned lo hi w w') (o : Obj) : Turned lo hi w (w'.alloc o) := h.trans (Turned.of_below ((Below.refl _ _).alloc (Nat.le_refl _) o))
end Go.Proofs.YtjacjcbcccbjoaaDoor
namespace Go.Proofs.YtjacjcbcccbjoaaDoor
open Go.RowKit
/-! Slices of stripes: what the laws do with them. -/
abbrev spv (a : Option Addr) (n c : Nat) : Value := .agg #[.slice a n c]
set_option maxRecDepth 20000 in
set_option maxHeartbeats 2000000 in
theorem eqSp (a : Option Addr) (n c : Nat) (a' : Option Addr) (c' : Nat) (f : Nat → ByteArray) (hl : n ≤ 1048576) (w : World) (h : Strs w a n c f) (h' : Strs w a' n c' f) :
    Calls Tryd.prog 29 #[spv a n c, spv a' n c'] w fun e w' => e = .returned (.bool true) ∧ Below w.heap.size w w' := by
  have B2 : Hid (Below w.heap.size w ((w.alloc (.cells #[.slice a n c] 40)).alloc (.cells #[.slice a' n c'] 40))) := bal9 (bal9 (Below.refl _ _) _) _
  go_enter Tryd.func29, Tryd.ntmps29
  go_wp2_with fail
  refine (eqStr a n c a' c' f f hl (fun _ _ => rfl) _ (h.below B2.out) (h'.below B2.out)).mono ?_
  rintro e w1 ⟨rfl, q, rfl⟩
  have B3 : Hid (Below w.heap.size w (((w.alloc (.cells #[.slice a n c] 40)).alloc (.cells #[.slice a' n c'] 40)).drewN q)) := below_drewN9 B2.out q
  clear h h'
  go_wp2
  go_ret
  exact ⟨rfl, B3.out⟩
set_option maxRecDepth 20000 in
set_option maxHeartbeats 2000000 in
theorem eqStp (a : Option Addr) (n c : Nat) (a' : Option Addr) (c' S hi hi' : Nat) (T : Nat → Nat → ByteArray) (hl : n ≤ 1048576) (hS : S ≤ 1048576) (w : World) (h : StpB w hi a n c S T) (h' : StpB w hi' a' n c' S T) :
    Calls Tryd.prog 15 #[.slice a n c, .slice a' n c'] w fun e w' => e = .returned (.bool true) ∧ Below w.heap.size w w' := by
  have HH := hid h
  have HH' := hid h'
  have dn : ((n : Int) != (n : Int)) = false := by simp
  clear h h'
  go_enter Tryd.func15, Tryd.ntmps15
  go_wp2_with fail
  go_loopw [5] (fun y wr => ∃ (k : Nat), k ≤ n ∧ y = .int .i64 k ∧ Below w.heap.size w wr) (fun y _ => n - (intOf y).toNat)
  case atStart => exact ⟨0, Nat.zero_le _, rfl, Below.refl _ _⟩
  case round =>
    obtain ⟨k, hk, rfl, hB⟩ := hrel
    have HB := hid hB
    clear hB
    by_cases hlt : k < n
    · have hlt' : (k : Int) < (n : Int) := by omega
      have k0 : (0 : Int) ≤ (k : Int) := by omega
      rcases HH.out.2 with h00 | ⟨b, rfl, _, hbl, gs, cs, hc⟩
      · omega
      rcases HH'.out.2 with h00 | ⟨b', rfl, _, hbl', gs', cs', hc'⟩
      · omega
      obtain ⟨q1, _, q2⟩ := hc k hlt
      obtain ⟨q1', _, q2'⟩ := hc' k hlt
      have c0 : wr.cell? ⟨b, k, none⟩ = some (.slice (some ⟨gs k, 0, none⟩) S (cs k)) := (HB.out.cell (p := ⟨b, k, none⟩) hbl).trans q1
      have e0 : wr.cell? ⟨b', k, none⟩ = some (.slice (some ⟨gs' k, 0, none⟩) S (cs' k)) := (HB.out.cell (p := ⟨b', k, none⟩) hbl').trans q1'
      have S1 := hid (q2.below HB.out)
      have S2 := hid (q2'.below HB.out)
      have bl2 := Nat.lt_of_lt_of_le hbl HB.out.size
      have bl2' := Nat.lt_of_lt_of_le hbl' HB.out.size
      generalize gs k = g1 at *
      generalize cs k = x1 at *
      generalize gs' k = g2 at *
      generalize cs' k = x2 at *
      clear q1 q2 q1' q2' hc hc'
      have D1 : Hid (Strs wr.drew (some ⟨g1, 0, none⟩) S x1 (T k)) := S1.out
      have D2 : Hid (Strs wr.drew (some ⟨g2, 0, none⟩) S x2 (T k)) := S2.out
      have d0 : wr.drew.cell? ⟨b, k, none⟩ = some (.slice (some ⟨g1, 0, none⟩) S x1) := c0
      have f0 : wr.drew.cell? ⟨b', k, none⟩ = some (.slice (some ⟨g2, 0, none⟩) S x2) := e0
      go_wp2_with fail
      go_region_held3 (fun wx => wx.cell? ⟨b, k, none⟩ = some (.slice (some ⟨g1, 0, none⟩) S x1) ∧ wx.cell? ⟨b', k, none⟩ = some (.slice (some ⟨g2, 0, none⟩) S x2)) (first | exact ⟨y0, z0⟩ | exact ⟨c0, e0⟩ | (go_keep; done)) ((go_at_call 29; refine (eqSp (some ⟨g1, 0, none⟩) S x1 (some ⟨g2, 0, none⟩) x2 (T k) hS wr.drew D1.out D2.out).mono ?_; rintro e w2 ⟨rfl, hb2⟩; have y0 := (hb2.cell (p := ⟨b, k, none⟩) bl2).trans d0; have z0 := (hb2.cell (p := ⟨b', k, none⟩) bl2').trans f0))
      have N2 : Hid (Below w.heap.size w w2) := HB.out.drew.trans (hb2.mono HB.out.size)
      clear hb2 y0 z0 c0 e0 d0 f0 HB S1 S2 D1 D2
      go_wp2
      go_roundw
      case rel => exact ⟨k + 1, by omega, by go_num, N2.out⟩
      case measure => simp [intOf]; omega
    · have hlt' : ¬ (k : Int) < (n : Int) := by omega
      go_wp2
      go_ret
      exact ⟨rfl, HB.out⟩
end Go.Proofs.YtjacjcbcccbjoaaDoor
namespace Go.Proofs.YtjacjcbcccbjoaaDoor
open Go.RowKit
/-! Stripes: marked, held, and the results. -/
/-- the texts, of some stripes marked -/
def mkT (k0 k S : Nat) (T : Nat → Nat → ByteArray) (i s : Nat) : ByteArray := if i < k then markB (k0 + i * S + s) else T i s
set_option maxRecDepth 20000 in
set_option maxHeartbeats 4000000 in
theorem markStp (lo hi b n c S k0 : Nat) (gs : Nat → Nat) (T : Nat → Nat → ByteArray) (hl : n ≤ 200) (hS : S ≤ 64) (h1 : 1 ≤ k0) (hk : k0 ≤ 1000) (w : World) (hbw : b < w.heap.size)
    (hr : ∀ i, i < n → w.cell? ⟨b, i, none⟩ = some (.slice (some ⟨gs i, 0, none⟩) S S) ∧ lo ≤ gs i ∧ gs i < hi ∧ gs i ≠ b ∧ FRow w (gs i) 9 S (fun s => .string (T i s))) (ha : ∀ i j, i < n → j < n → gs i = gs j → i = j) :
    Calls Tryd.prog 16 #[.slice (some ⟨b, 0, none⟩) n c, .int .i64 k0] w fun e w' => e = .returned (.int .i64 ((k0 + n * S : Nat) : Int)) ∧ (∀ i, i < n → w'.cell? ⟨b, i, none⟩ = some (.slice (some ⟨gs i, 0, none⟩) S S) ∧ FRow w' (gs i) 9 S (fun s => .string (markB (k0 + i * S + s)))) ∧ Turned lo hi w w' := by
  have HR := hid hr
  have HA := hid ha
  clear hr ha
  go_enter Tryd.func16, Tryd.ntmps16
  go_wp2_with fail
  go_loopw [5, 1] (fun x y wr => ∃ (k : Nat), k ≤ n ∧ x = .int .i64 k ∧ y = .int .i64 ((k0 + k * S : Nat) : Int) ∧ (∀ i, i < n → wr.cell? ⟨b, i, none⟩ = some (.slice (some ⟨gs i, 0, none⟩) S S) ∧ FRow wr (gs i) 9 S (fun s => .string (mkT k0 k S T i s))) ∧ Turned lo hi w wr) (fun x _ _ => n - (intOf x).toNat)
  case atStart => exact ⟨0, Nat.zero_le _, rfl, by rw [Nat.zero_mul]; rfl, fun i hi => ⟨(HR.out i hi).1, (HR.out i hi).2.2.2.2.congr fun s _ => by unfold mkT; rw [if_neg (by omega)]⟩, Turned.of_below (Below.refl _ _)⟩
  case round =>
    obtain ⟨k, hkl, rfl, rfl, hF, hG⟩ := hrel
    have HF := hid hF
    have HG := hid hG
    clear hF hG
    by_cases hlt : k < n
    · have hlt' : (k : Int) < (n : Int) := by omega
      have i0 : (0 : Int) ≤ (k : Int) := by omega
      have c0 := (HF.out k hlt).1
      obtain ⟨q, hq⟩ : ∃ q, q = k0 + k * S := ⟨_, rfl⟩
      have hq1 : q ≤ 1000 + 200 * 64 := by rw [hq]; have := Nat.mul_le_mul (show k ≤ 200 by omega) hS; omega
      have hq0 : 1 ≤ q := by omega
      have hq2 : q ≤ 13800 := by omega
      rw [← hq]
      have HQ := hid hq
      clear hq hq1
      go_wp2_with fail
      refine (markStr (gs k) S q 9 _ hq0 (by omega) (by omega) wr (HF.out k hlt).2).mono ?_
      rintro e w2 ⟨rfl, hF2, hg2⟩
      have N1 : Hid (∀ i, i < n → w2.cell? ⟨b, i, none⟩ = some (.slice (some ⟨gs i, 0, none⟩) S S) ∧ FRow w2 (gs i) 9 S (fun s => .string (mkT k0 (k + 1) S T i s))) := fun i hi => by
        have hb9 : w2.heap[b]? = wr.heap[b]? := hg2.block b (Nat.lt_of_lt_of_le hbw HG.out.size) (by intro e; injection e with e; exact (HR.out k hlt).2.2.2.1 e.symm)
        refine ⟨?_, ?_⟩
        · rw [← (HF.out i hi).1]; simp only [World.cell?, hb9]
        · by_cases e : i = k
          · subst e
            refine hF2.congr fun s _ => ?_
            unfold mkT; rw [if_pos (by omega), HQ.out]
          · refine ((HF.out i hi).2.blk (fun hl => hg2.block (gs i) hl (by intro e2; injection e2 with e2; exact e (HA.out i k hi hlt e2)))).congr fun s _ => ?_
            unfold mkT
            by_cases e3 : i < k
            · rw [if_pos e3, if_pos (by omega)]
            · rw [if_neg e3, if_neg (by omega)]
      have N2 : Hid (Turned lo hi w w2) := HG.out.trans (Turned.of_grown hg2 (HR.out k hlt).2.1 (HR.out k hlt).2.2.1)
      have N3 : Hid (k0 + (k + 1) * S = q + S) := by show _ = _; rw [HQ.out, Nat.add_mul, Nat.one_mul]; omega
      clear hF2 hg2 HF HG c0
      go_wp2
      go_roundw
      case rel => exact ⟨k + 1, by omega, by go_num, by rw [N3.out]; go_num, N1.out, N2.out⟩
      case measure => simp [intOf]; omega
    · have hke : k = n := by omega
      subst hke
      have hlt' : ¬ (k : Int) < (k : Int) := by omega
      have N1 : Hid (∀ i, i < k → wr.cell? ⟨b, i, none⟩ = some (.slice (some ⟨gs i, 0, none⟩) S S) ∧ FRow wr (gs i) 9 S (fun s => .string (markB (k0 + i * S + s)))) := fun i hi => ⟨(HF.out i hi).1, (HF.out i hi).2.congr fun s _ => by unfold mkT; rw [if_pos hi]⟩
      obtain ⟨q, hq⟩ : ∃ q, q = k0 + k * S := ⟨_, rfl⟩
      rw [← hq]
      have HQ := hid hq
      clear hq HF
      go_wp2
      go_ret
      exact ⟨by rw [HQ.out]; rfl, N1.out, HG.out⟩
set_option maxRecDepth 20000 in
set_option maxHeartbeats 2000000 in
theorem markStp0 (a : Option Addr) (cap k0 : Nat) (w : World) : Calls Tryd.prog 16 #[.slice a 0 cap, .int .i64 k0] w fun e w' => e = .returned (.int .i64 k0) ∧ w' = w := by
  go_enter Tryd.func16, Tryd.ntmps16
  go_wp2
  go_loopw [5, 1] (fun x y wr => x = .int .i64 0 ∧ y = .int .i64 k0 ∧ wr = w) (fun _ _ _ => 0)
  case atStart => exact ⟨rfl, rfl, rfl⟩
  case round =>
    obtain ⟨rfl, rfl, rfl⟩ := hrel
    go_wp2
    go_ret
    exact ⟨rfl, rfl⟩
set_option maxRecDepth 20000 in
set_option maxHeartbeats 2000000 in
theorem heldStp (hi : Nat) (a : Option Addr) (n c S k0 : Nat) (hl : n ≤ 200) (hS : S ≤ 64) (h1 : 1 ≤ k0) (hk : k0 ≤ 1000) (w : World) (h : StpB w hi a n c S (fun i s => markB (k0 + i * S + s))) :
    Calls Tryd.prog 17 #[.slice a n c, .int .i64 k0] w fun e w' => e = .returned (.int .i64 ((k0 + n * S : Nat) : Int)) ∧ Below w.heap.size w w' := by
  have HH := hid h
  clear h
  go_enter Tryd.func17, Tryd.ntmps17
  go_wp2_with fail
  go_loopw [5, 1] (fun x y wr => ∃ (k : Nat), k ≤ n ∧ x = .int .i64 k ∧ y = .int .i64 ((k0 + k * S : Nat) : Int) ∧ Below w.heap.size w wr) (fun x _ _ => n - (intOf x).toNat)
  case atStart => exact ⟨0, Nat.zero_le _, rfl, by rw [Nat.zero_mul]; rfl, Below.refl _ _⟩
  case round =>
    obtain ⟨k, hkl, rfl, rfl, hB⟩ := hrel
    have HB := hid hB
    clear hB
    obtain ⟨q, hq⟩ : ∃ q, q = k0 + k * S := ⟨_, rfl⟩
    have hq1 : q ≤ 1000 + 200 * 64 := by rw [hq]; have := Nat.mul_le_mul (show k ≤ 200 by omega) hS; omega
    have hq0 : 1 ≤ q := by omega
    have hq2 : q ≤ 13800 := by omega
    rw [← hq]
    have HQ := hid hq
    clear hq hq1
    by_cases hlt : k < n
    · have hlt' : (k : Int) < (n : Int) := by omega
      have i0 : (0 : Int) ≤ (k : Int) := by omega
      rcases HH.out.2 with h00 | ⟨b, rfl, _, hbl, gs, cs, hc⟩
      · omega
      obtain ⟨q1, _, q2⟩ := hc k hlt
      have c0 : wr.cell? ⟨b, k, none⟩ = some (.slice (some ⟨gs k, 0, none⟩) S (cs k)) := (HB.out.cell (p := ⟨b, k, none⟩) hbl).trans q1
      have S1 : Hid (Strs wr (some ⟨gs k, 0, none⟩) S (cs k) (fun s => markB (q + s))) := by
        have h9 := q2.below HB.out
        rw [HQ.out]; exact h9
      generalize gs k = g1 at *
      generalize cs k = x1 at *
      clear q1 q2 hc
      go_wp2_with fail
      refine (heldStr (some ⟨g1, 0, none⟩) S x1 q hq0 (by omega) (by omega) wr S1.out).mono ?_
      rintro e w2 ⟨rfl, hb2⟩
      have N2 : Hid (Below w.heap.size w w2) := HB.out.trans (hb2.mono HB.out.size)
      have N3 : Hid (k0 + (k + 1) * S = q + S) := by show _ = _; rw [HQ.out, Nat.add_mul, Nat.one_mul]; omega
      have d9 : decide (((q + S : Nat) : Int) < 0) = false := by simp; omega
      clear hb2 HB S1 c0
      go_wp2
      go_roundw
      case rel => exact ⟨k + 1, by omega, by go_num, by rw [N3.out]; go_num, N2.out⟩
      case measure => simp [intOf]; omega
    · have hke : k = n := by omega
      subst hke
      have hlt' : ¬ (k : Int) < (k : Int) := by omega
      go_wp2
      go_ret
      exact ⟨by rw [HQ.out]; rfl, HB.out⟩
set_option maxRecDepth 20000 in
set_option maxHeartbeats 2000000 in
theorem eqPR (k : Int) (a : Option Addr) (n c : Nat) (a' : Option Addr) (c' S hi hi' : Nat) (T : Nat → Nat → ByteArray) (hl : n ≤ 1048576) (hS : S ≤ 1048576) (w : World) (h : StpB w hi a n c S T) (h' : StpB w hi' a' n c' S T) (hh : hi ≤ w.heap.size) (hh' : hi' ≤ w.heap.size) :
    Calls Tryd.prog 7 #[srv k a n c, srv k a' n c'] w fun e w' => e = .returned (.bool true) ∧ Below w.heap.size w w' := by
  have B2 : Hid (Below w.heap.size w ((w.alloc (.cells #[.int .i64 k, .slice a n c] 26)).alloc (.cells #[.int .i64 k, .slice a' n c'] 26))) := bal9 (bal9 (Below.refl _ _) _) _
  have dk : (k != k) = false := by simp
  go_enter Tryd.func7, Tryd.ntmps7
  go_wp2_with fail
  refine (eqStp a n c a' c' S hi hi' T hl hS _ (h.below B2.out hh) (h'.below B2.out hh')).mono ?_
  rintro e w1 ⟨rfl, hb⟩
  have B3 : Hid (Below w.heap.size w w1) := B2.out.trans (hb.mono B2.out.size)
  clear h h' hb
  go_wp2
  go_ret
  exact ⟨rfl, B3.out⟩
set_option maxRecDepth 20000 in
set_option maxHeartbeats 2000000 in
theorem heldPR (k : Int) (hi : Nat) (a : Option Addr) (n c S : Nat) (M : Nat) (hM : M = 1 + n * S) (hl : n ≤ 200) (hS : S ≤ 64) (w : World) (h : StpB w hi a n c S (fun i s => markB (1 + i * S + s))) (hh : hi ≤ w.heap.size) :
    Calls Tryd.prog 9 #[srv k a n c, .int .i64 1] w fun e w' => e = .returned (.int .i64 (M : Nat)) ∧ Below w.heap.size w w' := by
  have B1 : Hid (Below w.heap.size w (w.alloc (.cells #[.int .i64 k, .slice a n c] 26))) := bal9 (Below.refl _ _) _
  go_enter Tryd.func9, Tryd.ntmps9
  go_wp2_with fail
  refine (heldStp hi a n c S 1 hl hS (by decide) (by decide) _ (h.below B1.out hh)).mono ?_
  rintro e w1 ⟨rfl, hb⟩
  have B2 : Hid (Below w.heap.size w w1) := B1.out.trans (hb.mono B1.out.size)
  rw [← hM]
  have dM : decide ((M : Int) < 0) = false := by simp
  clear h hM hb
  go_wp2
  go_ret
  exact ⟨rfl, B2.out⟩
set_option maxRecDepth 20000 in
set_option maxHeartbeats 2000000 in
theorem markPR0 (k : Int) (a : Option Addr) (cap : Nat) (w : World) :
    Calls Tryd.prog 8 #[srv k a 0 cap, .int .i64 1] w fun e w' => e = .returned (.int .i64 1) ∧ Below w.heap.size w w' := by
  go_enter Tryd.func8, Tryd.ntmps8
  go_wp2_with fail
  refine (markStp0 a cap 1 _).mono ?_
  rintro e w1 ⟨rfl, rfl⟩
  go_wp2
  go_ret
  exact ⟨rfl, bal9 (Below.refl _ _) _⟩
set_option maxRecDepth 20000 in
set_option maxHeartbeats 2000000 in
theorem markPR (k : Int) (lo hi : Nat) (a : Option Addr) (n c S : Nat) (T : Nat → Nat → ByteArray) (M : Nat) (hM : M = 1 + n * S) (hl : n ≤ 200) (hS : S ≤ 64) (w : World) (h : OwnP w lo hi a n c S T) :
    Calls Tryd.prog 8 #[srv k a n c, .int .i64 1] w fun e w' => e = .returned (.int .i64 (M : Nat)) ∧ OwnP w' lo hi a n c S (fun i s => markB (1 + i * S + s)) ∧ Turned lo hi w w' := by
  rcases h.2 with h0 | ⟨b, rfl, q1, q2, q3, gs, q4, q5⟩
  · subst h0
    refine (markPR0 k a c w).mono ?_
    rintro e w' ⟨rfl, hb⟩
    exact ⟨by rw [hM, Nat.zero_mul]; rfl, ⟨h.1, Or.inl rfl⟩, Turned.of_below hb⟩
  · have hB1 : Hid (Below w.heap.size w (w.alloc (.cells #[.int .i64 k, .slice (some ⟨b, 0, none⟩) n c] 26))) := bal9 (Below.refl _ _) _
    have HQ : Hid (∀ i, i < n → (w.alloc (.cells #[.int .i64 k, .slice (some ⟨b, 0, none⟩) n c] 26)).cell? ⟨b, i, none⟩ = some (.slice (some ⟨gs i, 0, none⟩) S S) ∧ lo ≤ gs i ∧ gs i < hi ∧ gs i ≠ b ∧ FRow (w.alloc (.cells #[.int .i64 k, .slice (some ⟨b, 0, none⟩) n c] 26)) (gs i) 9 S (fun s => .string (T i s))) := fun i hi => by
      obtain ⟨x1, x2, x3, x4, x5⟩ := q4 i hi
      exact ⟨(hB1.out.cell (p := ⟨b, i, none⟩) q3).trans x1, x2, x3, x4, x5.alloc _⟩
    have HG : Hid (∀ i, i < n → lo ≤ gs i ∧ gs i < hi ∧ gs i ≠ b) := fun i hi => ⟨(q4 i hi).2.1, (q4 i hi).2.2.1, (q4 i hi).2.2.2.1⟩
    have HA := hid q5
    have HL := hid h.1
    clear h q4 q5
    go_enter Tryd.func8, Tryd.ntmps8
    go_wp2_with fail
    refine (markStp lo hi b n c S 1 gs T hl hS (by decide) (by decide) _ (by rw [size_al]; omega) HQ.out HA.out).mono ?_
    rintro e w1 ⟨rfl, hF, hg⟩
    have O2 : Hid (OwnP w1 lo hi (some ⟨b, 0, none⟩) n c S (fun i s => markB (1 + i * S + s))) := ⟨HL.out, Or.inr ⟨b, rfl, q1, q2, by have := hg.size; rw [size_al] at this; omega, gs, fun i hi => ⟨(hF i hi).1, (HG.out i hi).1, (HG.out i hi).2.1, (HG.out i hi).2.2, (hF i hi).2⟩, HA.out⟩⟩
    have G2 : Hid (Turned lo hi w w1) := (Turned.of_below hB1.out).trans hg
    rw [← hM]
    clear hF hg HQ HG HA HL hM
    go_wp2
    go_ret
    exact ⟨rfl, O2.out, G2.out⟩
/-- the program's answer, and the specification's -/
def AnsPI (k : Int) (n S : Nat) (T : Nat → Nat → ByteArray) (w : World) (e : Ending) (w' : World) : Prop := ∃ a c, e = .returned (srv k a n c) ∧ OwnP w' w.heap.size w'.heap.size a n c S T ∧ Below w.heap.size w w'
def AnsPS (k : Int) (n S : Nat) (T : Nat → Nat → ByteArray) (w : World) (e : Ending) (w' : World) : Prop := ∃ a c, e = .returned (srv k a n c) ∧ StpB w' w'.heap.size a n c S T ∧ Below w.heap.size w w'
end Go.Proofs.YtjacjcbcccbjoaaDoor
namespace Go.Proofs.YtjacjcbcccbjoaaDoor
open Go.RowKit
set_option maxRecDepth 20000 in
set_option maxHeartbeats 8000000 in
theorem fnExactSplitObject_core (cd : Int) (n S : Nat) (T : Nat → Nat → ByteArray) (hn : n ≤ 200) (hS : S ≤ 64) (k m g u : Int) (d : ByteArray) (hd : d.size ≤ 1048576) (w : World) (hT : Tab w)
    (HS : ∀ w, Calls Tryd.prog 4 #[cdv k m g, .int .i64 u, .string d] w fun e w' => AnsPS cd n S T w e w')
    (HI : ∀ w, Tab w → Calls Tryd.prog 6 #[cdv k m g, .int .i64 u, .string d] w fun e w' => AnsPI cd n S T w e w') :
    Calls Tryd.prog 3 #[.agg #[.int .i64 k, .int .i64 m, .int .i64 g], .int .i64 u, .string d] w fun e w' => e = .returned (.bool true) ∧ Below w.heap.size w w' := by
  have HS' := hid HS
  have HI' := hid HI
  have HT := hid hT
  have dd : decide ((1048576 : Int) < ((d.size : Nat) : Int)) = false := by simp; omega
  have dd' : ¬ (1048576 : Int) < ((d.size : Nat) : Int) := by omega
  have hn9 : n ≤ 1048576 := by omega
  have hS9 : S ≤ 1048576 := by omega
  obtain ⟨M, hM⟩ : ∃ M : Nat, Hid (M = 1 + n * S) := ⟨_, rfl⟩
  have dM : decide ((M : Int) < 0) = false := by simp
  have dE : ((M : Int) != (M : Int)) = false := by simp
  clear HS HI hT hd
  go_enter Tryd.func3, Tryd.ntmps3
  have L_w : Hid (Below w.heap.size w w) := Below.refl _ _
  obtain ⟨v1, hv1⟩ : ∃ v, v = w.alloc (.cells #[.int .i64 k, .int .i64 m, .int .i64 g] 23) := ⟨_, rfl⟩
  have sz_v1 : v1.heap.size = w.heap.size + 1 := by rw [hv1, size_al]
  have L_v1 : Hid (Below w.heap.size w v1) := by rw [hv1]; exact L_w.out.alloc L_w.out.size _
  have P_v1 : Hid (RowAt v1 w.heap.size 23 #[.int .i64 k, .int .i64 m, .int .i64 g]) := by rw [hv1]; exact RowAt.next w _ _ (by omega)
  have ld0 := P_v1.out
  go_wp2_with (first
    | (rw [← hv1])
    | refine wpList_load_row rfl 23 (.tmp 3) rfl w.heap.size rfl _ _ _ _ ld0 Tryd.underlying23 rfl (by kernel_rfl) ?_)
  try rw [← hv1]
  clear ld0
  clear hv1 L_w
  refine (toCd k m g _).mono ?_
  rintro e v2 ⟨rfl, hb⟩
  have sz_v2 : v1.heap.size ≤ v2.heap.size := hb.size
  have P_v2 : Hid (RowAt v2 w.heap.size 23 #[.int .i64 k, .int .i64 m, .int .i64 g]) := P_v1.out.below hb P_v1.out.lt
  have L_v2 : Hid (Below w.heap.size w v2) := L_v1.out.trans (hb.mono L_v1.out.size)
  clear hb P_v1 L_v1
  go_wp2_with (fail)
  refine (HS'.out _).mono ?_
  rintro e v3 ⟨a0, x0, rfl, hq, hb⟩
  have sz_v3 : v2.heap.size ≤ v3.heap.size := hb.size
  have P_v3 : Hid (RowAt v3 w.heap.size 23 #[.int .i64 k, .int .i64 m, .int .i64 g]) := P_v2.out.below hb P_v2.out.lt
  have L_v3 : Hid (Below w.heap.size w v3) := L_v2.out.trans (hb.mono L_v2.out.size)
  have Q0_v3 := hid hq
  clear hb hq P_v2 L_v2
  obtain ⟨v4, hv4⟩ : ∃ v, v = v3.alloc (.cells #[.int .i64 cd, .slice a0 n x0] 26) := ⟨_, rfl⟩
  have sz_v4 : v4.heap.size = v3.heap.size + 1 := by rw [hv4, size_al]
  have P_v4 : Hid (RowAt v4 w.heap.size 23 #[.int .i64 k, .int .i64 m, .int .i64 g]) := by rw [hv4]; exact P_v3.out.alloc _
  have Q0_v4 : Hid (StpB v4 v3.heap.size a0 n x0 S T) := by rw [hv4]; exact Q0_v3.out.alloc _
  have L_v4 : Hid (Below w.heap.size w v4) := by rw [hv4]; exact L_v3.out.alloc L_v3.out.size _
  have G0_v4 : Hid (RowAt v4 v3.heap.size 26 #[.int .i64 cd, .slice a0 n x0]) := by rw [hv4]; exact RowAt.next v3 _ _ (by omega)
  have ld0 := P_v4.out
  go_wp2_with (first
    | (rw [← hv4])
    | refine wpList_load_row rfl 23 (.tmp 3) rfl w.heap.size rfl _ _ _ _ ld0 Tryd.underlying23 rfl (by kernel_rfl) ?_)
  try rw [← hv4]
  clear ld0
  clear hv4 P_v3 Q0_v3 L_v3
  refine (toCd k m g _).mono ?_
  rintro e v5 ⟨rfl, hb⟩
  have sz_v5 : v4.heap.size ≤ v5.heap.size := hb.size
  have P_v5 : Hid (RowAt v5 w.heap.size 23 #[.int .i64 k, .int .i64 m, .int .i64 g]) := P_v4.out.below hb P_v4.out.lt
  have G0_v5 : Hid (RowAt v5 v3.heap.size 26 #[.int .i64 cd, .slice a0 n x0]) := G0_v4.out.below hb G0_v4.out.lt
  have Q0_v5 : Hid (StpB v5 v3.heap.size a0 n x0 S T) := Q0_v4.out.below hb (by omega)
  have L_v5 : Hid (Below w.heap.size w v5) := L_v4.out.trans (hb.mono L_v4.out.size)
  clear hb P_v4 G0_v4 Q0_v4 L_v4
  go_wp2_with (fail)
  refine (HI'.out _ (HT.out.belowS L_v5.out)).mono ?_
  rintro e v6 ⟨a1, x1, rfl, hq, hb⟩
  have sz_v6 : v5.heap.size ≤ v6.heap.size := hb.size
  have P_v6 : Hid (RowAt v6 w.heap.size 23 #[.int .i64 k, .int .i64 m, .int .i64 g]) := P_v5.out.below hb P_v5.out.lt
  have G0_v6 : Hid (RowAt v6 v3.heap.size 26 #[.int .i64 cd, .slice a0 n x0]) := G0_v5.out.below hb G0_v5.out.lt
  have Q0_v6 : Hid (StpB v6 v3.heap.size a0 n x0 S T) := Q0_v5.out.below hb (by omega)
  have L_v6 : Hid (Below w.heap.size w v6) := L_v5.out.trans (hb.mono L_v5.out.size)
  have O1_v6 := hid hq
  clear hb hq P_v5 G0_v5 Q0_v5 L_v5
  obtain ⟨v7, hv7⟩ : ∃ v, v = v6.alloc (.cells #[.int .i64 cd, .slice a1 n x1] 26) := ⟨_, rfl⟩
  have sz_v7 : v7.heap.size = v6.heap.size + 1 := by rw [hv7, size_al]
  have P_v7 : Hid (RowAt v7 w.heap.size 23 #[.int .i64 k, .int .i64 m, .int .i64 g]) := by rw [hv7]; exact P_v6.out.alloc _
  have G0_v7 : Hid (RowAt v7 v3.heap.size 26 #[.int .i64 cd, .slice a0 n x0]) := by rw [hv7]; exact G0_v6.out.alloc _
  have Q0_v7 : Hid (StpB v7 v3.heap.size a0 n x0 S T) := by rw [hv7]; exact Q0_v6.out.alloc _
  have O1_v7 : Hid (OwnP v7 v5.heap.size v6.heap.size a1 n x1 S T) := by rw [hv7]; exact O1_v6.out.alloc _
  have L_v7 : Hid (Below w.heap.size w v7) := by rw [hv7]; exact L_v6.out.alloc L_v6.out.size _
  have G1_v7 : Hid (RowAt v7 v6.heap.size 26 #[.int .i64 cd, .slice a1 n x1]) := by rw [hv7]; exact RowAt.next v6 _ _ (by omega)
  have ld0 := G1_v7.out
  have ld1 := G0_v7.out
  go_wp2_with (first
    | (rw [← hv7])
    | refine wpList_load_row rfl 26 (.tmp 8) rfl v6.heap.size rfl _ _ _ _ ld0 Tryd.underlying26 rfl (by kernel_rfl) ?_
    | refine wpList_load_row rfl 26 (.tmp 7) rfl v3.heap.size rfl _ _ _ _ ld1 Tryd.underlying26 rfl (by kernel_rfl) ?_)
  try rw [← hv7]
  clear ld0 ld1
  clear hv7 P_v6 G0_v6 Q0_v6 O1_v6 L_v6
  refine (eqPR cd a1 n x1 a0 x0 S v6.heap.size v3.heap.size T hn9 hS9 _ O1_v7.out.stp Q0_v7.out (by omega) (by omega)).mono ?_
  rintro e v8 ⟨rfl, hb⟩
  have sz_v8 : v7.heap.size ≤ v8.heap.size := hb.size
  have P_v8 : Hid (RowAt v8 w.heap.size 23 #[.int .i64 k, .int .i64 m, .int .i64 g]) := P_v7.out.below hb P_v7.out.lt
  have G0_v8 : Hid (RowAt v8 v3.heap.size 26 #[.int .i64 cd, .slice a0 n x0]) := G0_v7.out.below hb G0_v7.out.lt
  have G1_v8 : Hid (RowAt v8 v6.heap.size 26 #[.int .i64 cd, .slice a1 n x1]) := G1_v7.out.below hb G1_v7.out.lt
  have Q0_v8 : Hid (StpB v8 v3.heap.size a0 n x0 S T) := Q0_v7.out.below hb (by omega)
  have O1_v8 : Hid (OwnP v8 v5.heap.size v6.heap.size a1 n x1 S T) := O1_v7.out.below hb (by omega)
  have L_v8 : Hid (Below w.heap.size w v8) := L_v7.out.trans (hb.mono L_v7.out.size)
  clear hb P_v7 G0_v7 G1_v7 Q0_v7 O1_v7 L_v7
  have ld0 := G1_v8.out
  go_wp2_with (refine wpList_load_row rfl 26 (.tmp 8) rfl v6.heap.size rfl _ _ _ _ ld0 Tryd.underlying26 rfl (by kernel_rfl) ?_)
  clear ld0
  refine (markPR cd v5.heap.size v6.heap.size a1 n x1 S T M hM.out hn hS _ O1_v8.out).mono ?_
  rintro e v9 ⟨rfl, hq, hb⟩
  have sz_v9 : v8.heap.size ≤ v9.heap.size := hb.size
  have P_v9 : Hid (RowAt v9 w.heap.size 23 #[.int .i64 k, .int .i64 m, .int .i64 g]) := P_v8.out.turned hb (by omega)
  have G0_v9 : Hid (RowAt v9 v3.heap.size 26 #[.int .i64 cd, .slice a0 n x0]) := G0_v8.out.turned hb (by omega)
  have G1_v9 : Hid (RowAt v9 v6.heap.size 26 #[.int .i64 cd, .slice a1 n x1]) := G1_v8.out.turned hb (by omega)
  have Q0_v9 : Hid (StpB v9 v3.heap.size a0 n x0 S T) := Q0_v8.out.turned hb (by omega)
  have L_v9 : Hid (Below w.heap.size w v9) := hb.below L_v8.out (by omega) (by omega)
  have O1_v9 := hid hq
  clear hb hq O1_v8 P_v8 G0_v8 G1_v8 Q0_v8 L_v8
  have ld0 := G1_v9.out
  go_wp2_with (refine wpList_load_row rfl 26 (.tmp 8) rfl v6.heap.size rfl _ _ _ _ ld0 Tryd.underlying26 rfl (by kernel_rfl) ?_)
  clear ld0
  refine (heldPR cd v6.heap.size a1 n x1 S M hM.out hn hS _ O1_v9.out.stp (by omega)).mono ?_
  rintro e v10 ⟨rfl, hb⟩
  have sz_v10 : v9.heap.size ≤ v10.heap.size := hb.size
  have P_v10 : Hid (RowAt v10 w.heap.size 23 #[.int .i64 k, .int .i64 m, .int .i64 g]) := P_v9.out.below hb P_v9.out.lt
  have G0_v10 : Hid (RowAt v10 v3.heap.size 26 #[.int .i64 cd, .slice a0 n x0]) := G0_v9.out.below hb G0_v9.out.lt
  have G1_v10 : Hid (RowAt v10 v6.heap.size 26 #[.int .i64 cd, .slice a1 n x1]) := G1_v9.out.below hb G1_v9.out.lt
  have Q0_v10 : Hid (StpB v10 v3.heap.size a0 n x0 S T) := Q0_v9.out.below hb (by omega)
  have O1_v10 : Hid (OwnP v10 v5.heap.size v6.heap.size a1 n x1 S (fun i s => markB (1 + i * S + s))) := O1_v9.out.below hb (by omega)
  have L_v10 : Hid (Below w.heap.size w v10) := L_v9.out.trans (hb.mono L_v9.out.size)
  clear hb P_v9 G0_v9 G1_v9 Q0_v9 O1_v9 L_v9
  have ld0 := P_v10.out
  go_wp2_with (refine wpList_load_row rfl 23 (.tmp 3) rfl w.heap.size rfl _ _ _ _ ld0 Tryd.underlying23 rfl (by kernel_rfl) ?_)
  clear ld0
  refine (toCd k m g _).mono ?_
  rintro e v11 ⟨rfl, hb⟩
  have sz_v11 : v10.heap.size ≤ v11.heap.size := hb.size
  have P_v11 : Hid (RowAt v11 w.heap.size 23 #[.int .i64 k, .int .i64 m, .int .i64 g]) := P_v10.out.below hb P_v10.out.lt
  have G0_v11 : Hid (RowAt v11 v3.heap.size 26 #[.int .i64 cd, .slice a0 n x0]) := G0_v10.out.below hb G0_v10.out.lt
  have G1_v11 : Hid (RowAt v11 v6.heap.size 26 #[.int .i64 cd, .slice a1 n x1]) := G1_v10.out.below hb G1_v10.out.lt
  have Q0_v11 : Hid (StpB v11 v3.heap.size a0 n x0 S T) := Q0_v10.out.below hb (by omega)
  have O1_v11 : Hid (OwnP v11 v5.heap.size v6.heap.size a1 n x1 S (fun i s => markB (1 + i * S + s))) := O1_v10.out.below hb (by omega)
  have L_v11 : Hid (Below w.heap.size w v11) := L_v10.out.trans (hb.mono L_v10.out.size)
  clear hb P_v10 G0_v10 G1_v10 Q0_v10 O1_v10 L_v10
  go_wp2_with (fail)
  refine (HI'.out _ (HT.out.belowS L_v11.out)).mono ?_
  rintro e v12 ⟨a2, x2, rfl, hq, hb⟩
  have sz_v12 : v11.heap.size ≤ v12.heap.size := hb.size
  have P_v12 : Hid (RowAt v12 w.heap.size 23 #[.int .i64 k, .int .i64 m, .int .i64 g]) := P_v11.out.below hb P_v11.out.lt
  have G0_v12 : Hid (RowAt v12 v3.heap.size 26 #[.int .i64 cd, .slice a0 n x0]) := G0_v11.out.below hb G0_v11.out.lt
  have G1_v12 : Hid (RowAt v12 v6.heap.size 26 #[.int .i64 cd, .slice a1 n x1]) := G1_v11.out.below hb G1_v11.out.lt
  have Q0_v12 : Hid (StpB v12 v3.heap.size a0 n x0 S T) := Q0_v11.out.below hb (by omega)
  have O1_v12 : Hid (OwnP v12 v5.heap.size v6.heap.size a1 n x1 S (fun i s => markB (1 + i * S + s))) := O1_v11.out.below hb (by omega)
  have L_v12 : Hid (Below w.heap.size w v12) := L_v11.out.trans (hb.mono L_v11.out.size)
  have O2_v12 := hid hq
  clear hb hq P_v11 G0_v11 G1_v11 Q0_v11 O1_v11 L_v11
  obtain ⟨v13, hv13⟩ : ∃ v, v = v12.alloc (.cells #[.int .i64 cd, .slice a2 n x2] 26) := ⟨_, rfl⟩
  have sz_v13 : v13.heap.size = v12.heap.size + 1 := by rw [hv13, size_al]
  have P_v13 : Hid (RowAt v13 w.heap.size 23 #[.int .i64 k, .int .i64 m, .int .i64 g]) := by rw [hv13]; exact P_v12.out.alloc _
  have G0_v13 : Hid (RowAt v13 v3.heap.size 26 #[.int .i64 cd, .slice a0 n x0]) := by rw [hv13]; exact G0_v12.out.alloc _
  have G1_v13 : Hid (RowAt v13 v6.heap.size 26 #[.int .i64 cd, .slice a1 n x1]) := by rw [hv13]; exact G1_v12.out.alloc _
  have Q0_v13 : Hid (StpB v13 v3.heap.size a0 n x0 S T) := by rw [hv13]; exact Q0_v12.out.alloc _
  have O1_v13 : Hid (OwnP v13 v5.heap.size v6.heap.size a1 n x1 S (fun i s => markB (1 + i * S + s))) := by rw [hv13]; exact O1_v12.out.alloc _
  have O2_v13 : Hid (OwnP v13 v11.heap.size v12.heap.size a2 n x2 S T) := by rw [hv13]; exact O2_v12.out.alloc _
  have L_v13 : Hid (Below w.heap.size w v13) := by rw [hv13]; exact L_v12.out.alloc L_v12.out.size _
  have G2_v13 : Hid (RowAt v13 v12.heap.size 26 #[.int .i64 cd, .slice a2 n x2]) := by rw [hv13]; exact RowAt.next v12 _ _ (by omega)
  have ld0 := G2_v13.out
  have ld1 := G0_v13.out
  go_wp2_with (first
    | (rw [← hv13])
    | refine wpList_load_row rfl 26 (.tmp 11) rfl v12.heap.size rfl _ _ _ _ ld0 Tryd.underlying26 rfl (by kernel_rfl) ?_
    | refine wpList_load_row rfl 26 (.tmp 7) rfl v3.heap.size rfl _ _ _ _ ld1 Tryd.underlying26 rfl (by kernel_rfl) ?_)
  try rw [← hv13]
  clear ld0 ld1
  clear hv13 P_v12 G0_v12 G1_v12 Q0_v12 O1_v12 O2_v12 L_v12
  refine (eqPR cd a2 n x2 a0 x0 S v12.heap.size v3.heap.size T hn9 hS9 _ O2_v13.out.stp Q0_v13.out (by omega) (by omega)).mono ?_
  rintro e v14 ⟨rfl, hb⟩
  have sz_v14 : v13.heap.size ≤ v14.heap.size := hb.size
  have P_v14 : Hid (RowAt v14 w.heap.size 23 #[.int .i64 k, .int .i64 m, .int .i64 g]) := P_v13.out.below hb P_v13.out.lt
  have G0_v14 : Hid (RowAt v14 v3.heap.size 26 #[.int .i64 cd, .slice a0 n x0]) := G0_v13.out.below hb G0_v13.out.lt
  have G1_v14 : Hid (RowAt v14 v6.heap.size 26 #[.int .i64 cd, .slice a1 n x1]) := G1_v13.out.below hb G1_v13.out.lt
  have G2_v14 : Hid (RowAt v14 v12.heap.size 26 #[.int .i64 cd, .slice a2 n x2]) := G2_v13.out.below hb G2_v13.out.lt
  have Q0_v14 : Hid (StpB v14 v3.heap.size a0 n x0 S T) := Q0_v13.out.below hb (by omega)
  have O1_v14 : Hid (OwnP v14 v5.heap.size v6.heap.size a1 n x1 S (fun i s => markB (1 + i * S + s))) := O1_v13.out.below hb (by omega)
  have O2_v14 : Hid (OwnP v14 v11.heap.size v12.heap.size a2 n x2 S T) := O2_v13.out.below hb (by omega)
  have L_v14 : Hid (Below w.heap.size w v14) := L_v13.out.trans (hb.mono L_v13.out.size)
  clear hb P_v13 G0_v13 G1_v13 G2_v13 Q0_v13 O1_v13 O2_v13 L_v13
  have ld0 := G1_v14.out
  go_wp2_with (refine wpList_load_row rfl 26 (.tmp 8) rfl v6.heap.size rfl _ _ _ _ ld0 Tryd.underlying26 rfl (by kernel_rfl) ?_)
  clear ld0
  refine (heldPR cd v6.heap.size a1 n x1 S M hM.out hn hS _ O1_v14.out.stp (by omega)).mono ?_
  rintro e v15 ⟨rfl, hb⟩
  have sz_v15 : v14.heap.size ≤ v15.heap.size := hb.size
  have P_v15 : Hid (RowAt v15 w.heap.size 23 #[.int .i64 k, .int .i64 m, .int .i64 g]) := P_v14.out.below hb P_v14.out.lt
  have G0_v15 : Hid (RowAt v15 v3.heap.size 26 #[.int .i64 cd, .slice a0 n x0]) := G0_v14.out.below hb G0_v14.out.lt
  have G1_v15 : Hid (RowAt v15 v6.heap.size 26 #[.int .i64 cd, .slice a1 n x1]) := G1_v14.out.below hb G1_v14.out.lt
  have G2_v15 : Hid (RowAt v15 v12.heap.size 26 #[.int .i64 cd, .slice a2 n x2]) := G2_v14.out.below hb G2_v14.out.lt
  have Q0_v15 : Hid (StpB v15 v3.heap.size a0 n x0 S T) := Q0_v14.out.below hb (by omega)
  have O1_v15 : Hid (OwnP v15 v5.heap.size v6.heap.size a1 n x1 S (fun i s => markB (1 + i * S + s))) := O1_v14.out.below hb (by omega)
  have O2_v15 : Hid (OwnP v15 v11.heap.size v12.heap.size a2 n x2 S T) := O2_v14.out.below hb (by omega)
  have L_v15 : Hid (Below w.heap.size w v15) := L_v14.out.trans (hb.mono L_v14.out.size)
  clear hb P_v14 G0_v14 G1_v14 G2_v14 Q0_v14 O1_v14 O2_v14 L_v14
  go_wp2
  go_ret
  exact ⟨rfl, L_v15.out⟩
end Go.Proofs.YtjacjcbcccbjoaaDoor
namespace Go.Proofs.YtjacjcbcccbjoaaDoor
open Go.RowKit
/-! The specification's SplitObject. -/
theorem sb_out {s : ByteArray} {j : Nat} (h : s.size ≤ j) : sb s j = 0 := by
  unfold sb
  rw [Array.getD, dif_neg (by show ¬ j < s.data.size; have : s.data.size = s.size := rfl; omega)]; rfl
theorem Tryd.infoSp : (Tryd.prog.info? 40).map (fun i => (i.zero, i.size, i.bytes)) = some (some (.agg #[.slice none 0 0]), 1, 24) := by kernel_rfl
/-- a row of stripes under way -/
def OwnSp (w : World) (base : Nat) (v : Value) (n S : Nat) (gs cs : Nat → Nat) : Prop := w.ownsRow base 40 1 v n ((List.range n).map fun i => .slice (some ⟨gs i, 0, none⟩) S (cs i))
theorem OwnSp.below {w w' : World} {base n S : Nat} {v : Value} {gs cs : Nat → Nat} (h : OwnSp w base v n S gs cs) (hb : Below w.heap.size w w') : OwnSp w' base v n S gs cs := by
  refine ⟨h.1, ?_⟩
  rcases h.2 with h0 | ⟨g, cap, cur, he, hbg, hr, r⟩
  · exact Or.inl h0
  · exact Or.inr ⟨g, cap, cur, he, hbg, (hb.block g (show RowAt w g 40 cur from hr).lt).trans hr, r⟩
theorem OwnSp.congr {w : World} {base n S : Nat} {v : Value} {gs cs gs' cs' : Nat → Nat} (h : OwnSp w base v n S gs cs) (e : ∀ i, i < n → gs i = gs' i ∧ cs i = cs' i) : OwnSp w base v n S gs' cs' := by
  have e2 : ((List.range n).map fun i => Value.slice (some ⟨gs i, 0, none⟩) S (cs i)) = (List.range n).map fun i => Value.slice (some ⟨gs' i, 0, none⟩) S (cs' i) := by
    apply List.map_congr_left
    intro i hi
    have hi' : i < n := by simpa using hi
    rw [(e i hi').1, (e i hi').2]
  unfold OwnSp; rw [← e2]; exact h
theorem append_sp {P : Program} (base : Nat) (wr : World) {ops : Array Oper} {rest : List Oper} {o : Oper} {a : Act} {Q : Exit → Act → World → Prop} (hgd : o.guard = none) (s x : Operand) (t : TypeId)
    (ho : o.op = .call { callee := .builtin .append, args := #[s, x], argTypes := #[t, t] })
    (ht : P.underlying t = some (.slice 40)) (hinfo : (P.info? 40).map (fun i => (i.zero, i.size, i.bytes)) = some (some (.agg #[.slice none 0 0]), 1, 24))
    (v : Value) (n S : Nat) (gs cs : Nat → Nat) (g c : Nat) (hs : a.eval s = v) (hown : OwnSp wr base v n S gs cs) (hsz : base ≤ wr.heap.size)
    (hx : a.eval x = .slice (some ⟨wr.heap.size, 0, none⟩) 1 1) (hlen : n ≤ 1048576)
    (h : ∀ v' w', OwnSp w' base v' (n + 1) S (fun i => if i = n then g else gs i) (fun i => if i = n then c else cs i) → wr.grownBy w' v.ownBlock → wpList P ops Q rest (a.put o.dst v') w') :
    wpList P ops Q (o :: rest) a (wr.alloc (.cells #[.slice (some ⟨g, 0, none⟩) S c] 40)) := by
  obtain ⟨i0, hi, hz0, hz1, hz2⟩ := info_parts hinfo
  refine wpList_append_own _ hgd s x t ho base 40 i0 (.agg #[.slice none 0 0]) 1 24 ht hi hz0 hz1 hz2 rfl (by decide) v n _ hs (World.ownsRow.alloc hown _) ⟨wr.heap.size, 0, none⟩ 1 1 [.slice (some ⟨g, 0, none⟩) S c] hx rfl ?_ ?_ ?_ ?_ ?_ ?_
  · intro j u hj
    match j, hj with
    | 0, hj => simp at hj; subst hj; simp [Addr.add]
  · intro u hu; simp at hu; subst hu; rfl
  · unfold maxLen; omega
  · omega
  · simp; omega
  · intro v' w' h1 h2 h3
    refine h v' w' ?_ (grown_trans (World.grownBy_alloc wr _ _) h2)
    have e : ((List.range (n + 1)).map fun i => Value.slice (some ⟨if i = n then g else gs i, 0, none⟩) S (if i = n then c else cs i)) = ((List.range n).map fun i => Value.slice (some ⟨gs i, 0, none⟩) S (cs i)) ++ [.slice (some ⟨g, 0, none⟩) S c] := by
      rw [List.range_succ, List.map_append]
      congr 1
      · apply List.map_congr_left
        intro i hi
        have hi' : i < n := by simpa using hi
        rw [if_neg (by omega), if_neg (by omega)]
      · simp
    unfold OwnSp; rw [e]; exact h1
theorem OwnSp.stp {w : World} {base n S : Nat} {v : Value} {gs cs : Nat → Nat} {T : Nat → Nat → ByteArray} (h : OwnSp w base v n S gs cs) (hl : ∀ i, i < n → gs i < w.heap.size ∧ Strs w (some ⟨gs i, 0, none⟩) S (cs i) (T i)) : ∃ a c, v = .slice a n c ∧ StpB w w.heap.size a n c S T := by
  rcases h.2 with ⟨h0, h1⟩ | ⟨g, cap, cur, he, hb, hr, hnc, hm, hsz, htk⟩
  · exact ⟨none, 0, by rw [h0, h1], by omega, Or.inl h1⟩
  · have R : RowAt w g 40 cur := hr
    refine ⟨_, cap, he, hnc, Or.inr ⟨g, rfl, R.lt, R.lt, gs, cs, fun i hi => ⟨?_, (hl i hi).1, (hl i hi).2⟩⟩⟩
    have := congrArg (·[i]?) htk
    simp only [List.getElem?_take] at this
    rw [if_pos (by omega), List.getElem?_map, List.getElem?_range hi] at this
    rw [R.cell i]
    simpa using this
theorem OwnSp.apart {w : World} {base n S : Nat} {v : Value} {gs cs : Nat → Nat} (h : OwnSp w base v n S gs cs) (hn : 1 ≤ n) {g c : Nat} {f : Nat → ByteArray} (hs : Strs w (some ⟨g, 0, none⟩) S c f) (hS : 1 ≤ S) : some g ≠ v.ownBlock := by
  intro e
  rcases h.2 with ⟨h0, _⟩ | ⟨g0, cap, cur, he, hb, hr, hnc, hm, hsz, htk⟩
  · rw [h0] at e; cases e
  · rw [he] at e
    have e2 : g = g0 := by simpa [Value.ownBlock] using e
    subst e2
    have R : RowAt w g 40 cur := hr
    rcases hs.2 with h1 | ⟨b, off, h2, _, h3⟩
    · omega
    · cases h2
      have h4 := h3 0 (by omega)
      have h5 := congrArg (·[0]?) htk
      simp only [List.getElem?_take] at h5
      rw [if_pos (by omega), List.getElem?_map, List.getElem?_range (by omega)] at h5
      rw [R.cell (0 + 0)] at h4
      have h6 : cur[0]? = some (.slice (some ⟨gs 0, 0, none⟩) S (cs 0)) := by simpa using h5
      rw [h6] at h4
      cases h4
theorem OwnSp.setRow {w : World} {base n S : Nat} {v : Value} {gs cs : Nat → Nat} (h : OwnSp w base v n S gs cs) (g : Nat) (c : Array Value) (hg : g < base) : OwnSp (w.setRow g c) base v n S gs cs := by
  refine ⟨h.1, ?_⟩
  rcases h.2 with h0 | ⟨g0, cap, cur, he, hb, hr, r⟩
  · exact Or.inl h0
  · exact Or.inr ⟨g0, cap, cur, he, hb, (setRow_other w g g0 c (by omega)).trans hr, r⟩
set_option maxRecDepth 20000 in
set_option maxHeartbeats 2000000 in
theorem sspl_no (k m g u : Int) (d : ByteArray) (hno : stripeN k m g u ((d.size : Nat) : Int) = -1) (w : World) :
    Calls Tryd.prog 4 #[cdv k m g, .int .i64 u, .string d] w fun e w' => e = .returned (srv 1 none 0 0) ∧ Below w.heap.size w w' := by
  have HN := hid hno
  clear hno
  go_enter Tryd.func4, Tryd.ntmps4
  go_wp2_with fail
  refine (sStripe _ _ _ _ _ _).mono ?_
  rintro e w1 ⟨rfl, hw1⟩
  rw [HN.out]
  have R1 : Hid (RowAt w1 (w.heap.size + 1) 26 #[.int .i64 0, .slice none 0 0]) := by rw [hw1]; exact ((RowAt.next _ _ _ (by rw [size_al])).alloc _).alloc _
  have B1 : Hid (Below w.heap.size w w1) := by rw [hw1]; exact bal9 (bal9 (bal9 (bal9 (Below.refl _ _) _) _) _) _
  clear hw1
  go_wp2_with (refine wpList_store_row rfl 26 (.tmp 6) (.tmp 22) rfl (w.heap.size + 1) #[.int .i64 1, .slice none 0 0] rfl rfl _ _ R1.out (by kernel_rfl) rfl (one2 _ _ _ _) ?_)
  refine bodyPost_ret (v := srv 1 none 0 0) ?_ rfl ⟨rfl, below_setRow B1.out _ _ (by omega)⟩
  exact results_cell_row Tryd.results4 _ _ (w.heap.size + 1) _ _ _ _ rfl (R1.out.setRow _) Tryd.underlying26 rfl (by kernel_rfl)
end Go.Proofs.YtjacjcbcccbjoaaDoor
namespace Go.Proofs.YtjacjcbcccbjoaaDoor
open Go.RowKit
theorem fldSR (x0 x1 : Value) (w : World) : (Instr.field 37 (.agg #[x0, x1]) 1).run Tryd.prog w = .ok x1 w := by kernel_rfl
set_option maxRecDepth 20000 in
set_option maxHeartbeats 8000000 in
theorem sspl_ok (K M G U n : Nat) (d : ByteArray) (h1 : 1 ≤ K) (h2 : K ≤ 32) (h3 : M ≤ 16) (h4 : G ≤ K) (h5 : K + M + G ≤ 64) (h6 : 1 ≤ U) (h7 : U ≤ 4096) (hn : n ≤ 200) (hN : stripeN K M G U ((d.size : Nat) : Int) = (n : Int)) (w : World) :
    Calls Tryd.prog 4 #[cdv K M G, .int .i64 U, .string d] w fun e w' => ∃ a c, e = .returned (srv 0 a n c) ∧ StpB w' w'.heap.size a n c (K + M + G) (spT d K M G U) ∧ Below w.heap.size w w' := by
  have HN := hid hN
  have hmk := fun w => mk8 w U (by omega)
  have hfd := fldSR
  obtain ⟨S, hS⟩ : ∃ S, S = K + M + G := ⟨_, rfl⟩
  have HSS := hid hS
  have hS1 : 1 ≤ S := by omega
  clear hN hS
  go_enter Tryd.func4, Tryd.ntmps4
  go_wp2_with fail
  refine (sStripe _ _ _ _ _ _).mono ?_
  rintro e w1 ⟨rfl, hw1⟩
  rw [HN.out]
  have dN : decide ((n : Int) < 0) = false := by simp
  obtain ⟨W0, hW0⟩ : ∃ W0, W0 = w1.alloc (.cells #[] 40) := ⟨_, rfl⟩
  have C0 : Hid (RowAt W0 w.heap.size 28 (cda K M G)) := by rw [hW0, hw1]; exact ((((RowAt.new w _ _).alloc _).alloc _).alloc _).alloc _
  have R0 : Hid (RowAt W0 (w.heap.size + 1) 26 #[.int .i64 0, .slice none 0 0]) := by rw [hW0, hw1]; exact (((RowAt.next _ _ _ (by rw [size_al])).alloc _).alloc _).alloc _
  have B0 : Hid (Below w.heap.size w W0) := by rw [hW0, hw1]; exact bal9 (bal9 (bal9 (bal9 (bal9 (Below.refl _ _) _) _) _) _) _
  have Z1 : Hid (w1.heap.size = w.heap.size + 4) := by rw [hw1]; show _ = _; simp only [size_al]
  have Z0 : Hid (w.heap.size + 4 ≤ W0.heap.size) := by rw [hW0]; show _ ≤ _; rw [size_al, Z1.out]; omega
  have O0 : Hid (OwnSp W0 (w.heap.size + 4) (.slice (some ⟨w1.heap.size, 0, none⟩) 0 0) 0 S (fun _ => 0) (fun _ => 0)) := by
    rw [hW0]
    exact World.ownsRow_made w1 (e := 40) (size := 1) #[] 0 (base := w.heap.size + 4) (by rw [Z1.out]; exact Nat.le_refl _) (by decide) rfl
  clear hw1
  go_wp2_with (rw [← hW0])
  try rw [← hW0]
  clear hW0
  go_loopw [9, 8] (fun x y wr => ∃ (i : Nat) (gs cs : Nat → Nat), i ≤ n ∧ x = .int .i64 i ∧ OwnSp wr (w.heap.size + 4) y i S gs cs ∧ (∀ j, j < i → gs j < wr.heap.size ∧ w.heap.size + 4 ≤ gs j ∧ Strs wr (some ⟨gs j, 0, none⟩) S (cs j) (spT d K M G U j)) ∧ RowAt wr w.heap.size 28 (cda K M G) ∧ RowAt wr (w.heap.size + 1) 26 #[.int .i64 0, .slice none 0 0] ∧ w.heap.size + 4 ≤ wr.heap.size ∧ Below w.heap.size w wr) (fun x _ _ => n - (intOf x).toNat)
  case atStart => exact ⟨0, fun _ => 0, fun _ => 0, Nat.zero_le _, rfl, O0.out, fun j hj => absurd hj (by omega), C0.out, R0.out, Z0.out, B0.out⟩
  case round =>
    obtain ⟨i, gs, cs, hi, rfl, hO, hT, hC, hR, hz, hB⟩ := hrel
    obtain ⟨wo, rfl⟩ : ∃ wo, wo = wr := ⟨_, rfl⟩
    have HO := hid hO
    have HT := hid hT
    have HC := hid hC
    have HR := hid hR
    have HB := hid hB
    have HZ := hid hz
    clear hO hT hC hR hB hz O0 C0 R0 B0 Z0
    by_cases hlt : i < n
    · have hlt' : (i : Int) < (n : Int) := by omega
      obtain ⟨W2, hW2⟩ : ∃ W2, W2 = wo.alloc (.cells #[] 9) := ⟨_, rfl⟩
      have OP : Hid (OwnStrs W2 wo.heap.size (.slice (some ⟨wo.heap.size, 0, none⟩) 0 0) []) := by
        rw [hW2]
        exact World.ownsRow_made wo (e := 9) (size := 1) #[] 0 (base := wo.heap.size) (Nat.le_refl _) (by decide) rfl
      have BP : Hid (Below wo.heap.size wo W2) := by rw [hW2]; exact bal9 (Below.refl _ _) _
      go_wp2_with (rw [← hW2])
      try rw [← hW2]
      clear hW2
      go_loopw [11, 10] (fun x y wk => ∃ (k : Nat), k ≤ K ∧ x = .int .i64 k ∧ OwnStrs wk wo.heap.size y ((List.range k).map fun q => pcT d U (i * K + q)) ∧ Below wo.heap.size wo wk) (fun x _ _ => K - (intOf x).toNat)
      case atStart => exact ⟨0, Nat.zero_le _, rfl, OP.out, BP.out⟩
      case round =>
        obtain ⟨k, hk, rfl, hOk, hBk⟩ := hrel
        obtain ⟨wk, rfl⟩ : ∃ wk, wk = wr := ⟨_, rfl⟩
        have HOk := hid hOk
        have HBk := hid hBk
        clear hOk hBk OP BP
        have c0 : wk.cell? ⟨w.heap.size, 0, none⟩ = some (.int .i64 K) := (HC.out.below HBk.out HC.out.lt).cell 0
        by_cases hlk : k < K
        · have hlk' : (k : Int) < (K : Int) := by omega
          obtain ⟨P, hP⟩ : ∃ P, P = i * K := ⟨_, rfl⟩
          have hP1 : P ≤ 200 * 32 := by rw [hP]; exact Nat.mul_le_mul (by omega) h2
          obtain ⟨F, hF⟩ : ∃ F, F = (P + k) * U := ⟨_, rfl⟩
          have hF1 : F ≤ 6432 * 4096 := by rw [hF]; exact Nat.mul_le_mul (by omega) h7
          have eP : (i : Int) * (K : Int) = (P : Int) := by rw [hP, Int.natCast_mul]
          have eF : ((P : Int) + (k : Int)) * (U : Int) = (F : Int) := by rw [hF, Int.natCast_mul, Int.natCast_add]
          have HFq : Hid (F = (i * K + k) * U) := by rw [hF, hP]; rfl
          have mP : P ≤ 6400 := by omega
          have mF : F ≤ 26345472 := by omega
          clear hP hF hP1 hF1
          obtain ⟨W3, hW3⟩ : ∃ W3, W3 = wk.alloc (.cells (cells8 (List.replicate U 0)) 5) := ⟨_, rfl⟩
          have F0 : Hid (FRow W3 wk.heap.size 5 U (fun p => .int .u8 ((if p < 0 then sb d (F + p) else 0 : Nat) : Int))) := by
            rw [hW3]
            refine FRow.of (RowAt.new wk _ _) (by rw [cells8_size, List.length_replicate]) (fun p hp => ?_)
            rw [cells8_getD (by rw [List.length_replicate]; exact hp), List.getD_eq_getElem?_getD, List.getElem?_replicate, if_pos hp, if_neg (by omega)]; rfl
          have B3 : Hid (Below wk.heap.size wk W3) := by rw [hW3]; exact bal9 (Below.refl _ _) _
          have c1 : W3.cell? ⟨w.heap.size, 0, none⟩ = some (.int .i64 K) := (HC.out.below (HBk.out.trans (B3.out.mono HBk.out.size)) HC.out.lt).cell 0
          go_upto_region 13 with (rw [← hW3])
          try rw [← hW3]
          clear hW3
          go_wp2_with fail
          go_loopw [14] (fun y wj => ∃ (j : Nat), j ≤ U ∧ y = .int .i64 j ∧ FRow wj wk.heap.size 5 U (fun p => .int .u8 ((if p < j then sb d (F + p) else 0 : Nat) : Int)) ∧ Below wk.heap.size wk wj) (fun y _ => U - (intOf y).toNat)
          case atStart => exact ⟨0, Nat.zero_le _, rfl, F0.out, B3.out⟩
          case round =>
            obtain ⟨j, hj, rfl, hFj, hBj⟩ := hrel
            obtain ⟨wj, rfl⟩ : ∃ wj, wj = wr := ⟨_, rfl⟩
            have HFj := hid hFj
            have HBj := hid hBj
            clear hFj hBj F0 B3 c0 c1
            by_cases hlj : j < U
            · have hlj' : (j : Int) < (U : Int) := by omega
              have j0 : (0 : Int) ≤ (j : Int) := by omega
              obtain ⟨X, hX⟩ : ∃ X, X = F + j := ⟨_, rfl⟩
              have eX : (F : Int) + (j : Int) = (X : Int) := by omega
              have mX : X ≤ 26400000 := by omega
              by_cases hlx : X < d.size
              · have hlx' : (X : Int) < ((d.size : Nat) : Int) := by omega
                have x0 : (0 : Int) ≤ (X : Int) := by omega
                obtain ⟨Y, hY⟩ : ∃ Y, Y = sb d X := ⟨_, rfl⟩
                have hix := fun w => idxS d X hlx w
                rw [← hY] at hix
                have hY8 : Y < 256 := by rw [hY]; exact sb_lt _ _
                obtain ⟨v1, k1⟩ : ∃ v1, wj.cell? ⟨wk.heap.size, j, none⟩ = some v1 := ⟨_, HFj.out.cell hlj⟩
                have l1 := HFj.out.free j
                have N1 : Hid (FRow (wj.setCell ⟨wk.heap.size, j, none⟩ (.int .u8 (Y : Int))) wk.heap.size 5 U (fun p => .int .u8 ((if p < j + 1 then sb d (F + p) else 0 : Nat) : Int))) := (HFj.out.set j _).congr fun p _ => by
                  unfold putF
                  by_cases e : p = j
                  · rw [if_pos e, if_pos (show p < j + 1 by omega), hY, hX, e]
                  · rw [if_neg e]
                    dsimp only
                    by_cases e2 : p < j
                    · rw [if_pos e2, if_pos (show p < j + 1 by omega)]
                    · rw [if_neg e2, if_neg (show ¬ p < j + 1 by omega)]
                have N2 : Hid (Below wk.heap.size wk (wj.setCell ⟨wk.heap.size, j, none⟩ (.int .u8 (Y : Int)))) := HBj.out.setCell (Nat.le_refl _) _
                clear hX hY HFj HBj
                go_wp2
                go_roundw
                case rel => exact ⟨j + 1, by omega, by go_num, N1.out, N2.out⟩
                case measure => simp [intOf]; omega
              · have hlx' : ¬ (X : Int) < ((d.size : Nat) : Int) := by omega
                have FE : Hid (FRow wj wk.heap.size 5 U (fun p => .int .u8 ((sb d (F + p) : Nat) : Int))) := HFj.out.congr fun p _ => by
                  by_cases e : p < j
                  · rw [if_pos e]
                  · rw [if_neg e, sb_out (show d.size ≤ F + p by omega)]
                clear hX HFj
                obtain ⟨xs, hxs⟩ : ∃ xs : List Int, xs = nl ((List.range U).map fun p => sb d (F + p)) := ⟨_, rfl⟩
                have hxl : xs.length = U := by rw [hxs, nl_len]; simp
                have hcv := run_convert_bytes_arg (P := Tryd.prog) wj 35 5 Tryd.underlying35 Tryd.underlying5 wk.heap.size 0 U U xs hxl (fun i hi => by
                  rw [Nat.zero_add, FE.out.cell (by omega), hxs, nl_at, List.getD_eq_getElem?_getD, List.getElem?_map, List.getElem?_range (by omega)]; rfl) 9 Tryd.underlying9
                have HXS : Hid (strOfNums xs = pcT d U (i * K + k)) := by show _ = _; rw [hxs]; unfold pcT; rw [← HFq.out]
                obtain ⟨X, hX⟩ : ∃ X, X = strOfNums xs := ⟨_, rfl⟩
                rw [← hX] at hcv HXS
                clear hxs hX FE
                have B4 : Hid (Below wo.heap.size wo wj) := HBk.out.trans (HBj.out.mono HBk.out.size)
                have O4 : Hid (OwnStrs wj wo.heap.size u10 ((List.range k).map fun q => pcT d U (i * K + q))) := HOk.out.below HBj.out
                have Z4 : Hid (wo.heap.size ≤ wj.heap.size) := B4.out.size
                have Y4 : Hid (((List.range k).map fun q => pcT d U (i * K + q)).length ≤ 1048576) := by show _ ≤ _; simp; omega
                go_wp2_with (refine append_str2 wo.heap.size wj (by rfl) (.tmp 67) (.tmp 70) 34 (by rfl) Tryd.underlying34 Tryd.infoS' _ _ X (by rfl) O4.out Z4.out (by rfl) Y4.out ?_; intro v5 w5 hO5 hg5)
                have O5 : Hid (OwnStrs w5 wo.heap.size v5 ((List.range (k + 1)).map fun q => pcT d U (i * K + q))) := by
                  rw [List.range_succ, List.map_append, List.map_cons, List.map_nil, ← HXS.out]; exact hO5
                have B5 : Hid (Below wo.heap.size wo w5) := B4.out.grown hg5 B4.out.size (fun b hb => (World.ownsRow.lt O4.out b hb).1)
                clear hO5 hg5 O4 B4 hcv
                go_wp2
                go_roundw
                case rel => exact ⟨k + 1, by omega, by go_num, O5.out, B5.out⟩
                case measure => simp [intOf]; omega
            · have hlj' : ¬ (j : Int) < (U : Int) := by omega
              have FE : Hid (FRow wj wk.heap.size 5 U (fun p => .int .u8 ((sb d (F + p) : Nat) : Int))) := HFj.out.congr fun p hp => by rw [if_pos (show p < j by omega)]
              clear HFj
              obtain ⟨xs, hxs⟩ : ∃ xs : List Int, xs = nl ((List.range U).map fun p => sb d (F + p)) := ⟨_, rfl⟩
              have hxl : xs.length = U := by rw [hxs, nl_len]; simp
              have hcv := run_convert_bytes_arg (P := Tryd.prog) wj 35 5 Tryd.underlying35 Tryd.underlying5 wk.heap.size 0 U U xs hxl (fun i hi => by
                rw [Nat.zero_add, FE.out.cell (by omega), hxs, nl_at, List.getD_eq_getElem?_getD, List.getElem?_map, List.getElem?_range (by omega)]; rfl) 9 Tryd.underlying9
              have HXS : Hid (strOfNums xs = pcT d U (i * K + k)) := by show _ = _; rw [hxs]; unfold pcT; rw [← HFq.out]
              obtain ⟨X, hX⟩ : ∃ X, X = strOfNums xs := ⟨_, rfl⟩
              rw [← hX] at hcv HXS
              clear hxs hX FE
              have B4 : Hid (Below wo.heap.size wo wj) := HBk.out.trans (HBj.out.mono HBk.out.size)
              have O4 : Hid (OwnStrs wj wo.heap.size u10 ((List.range k).map fun q => pcT d U (i * K + q))) := HOk.out.below HBj.out
              have Z4 : Hid (wo.heap.size ≤ wj.heap.size) := B4.out.size
              have Y4 : Hid (((List.range k).map fun q => pcT d U (i * K + q)).length ≤ 1048576) := by show _ ≤ _; simp; omega
              go_wp2_with (refine append_str2 wo.heap.size wj (by rfl) (.tmp 67) (.tmp 70) 34 (by rfl) Tryd.underlying34 Tryd.infoS' _ _ X (by rfl) O4.out Z4.out (by rfl) Y4.out ?_; intro v5 w5 hO5 hg5)
              have O5 : Hid (OwnStrs w5 wo.heap.size v5 ((List.range (k + 1)).map fun q => pcT d U (i * K + q))) := by
                rw [List.range_succ, List.map_append, List.map_cons, List.map_nil, ← HXS.out]; exact hO5
              have B5 : Hid (Below wo.heap.size wo w5) := B4.out.grown hg5 B4.out.size (fun b hb => (World.ownsRow.lt O4.out b hb).1)
              clear hO5 hg5 O4 B4 hcv
              go_wp2
              go_roundw
              case rel => exact ⟨k + 1, by omega, by go_num, O5.out, B5.out⟩
              case measure => simp [intOf]; omega
        · have hlk' : ¬ (k : Int) < (K : Int) := by omega
          have hke : k = K := by omega
          rw [hke] at HOk
          obtain ⟨a, cp, rfl⟩ := HOk.out.slice
          obtain ⟨g, rfl, hbg, _, hst⟩ := HOk.out.strs (ts := fun q => pcT d U (i * K + q)) (by simp; omega) (fun j hj => by
            have hj' : j < K := by simpa using hj
            rw [List.getElem?_map, List.getElem?_range hj']; rfl)
          rw [List.length_map, List.length_range] at hst ⊢
          have HST := hid hst
          have c1 : wk.cell? ⟨w.heap.size, 1, none⟩ = some (.int .i64 M) := (HC.out.below HBk.out HC.out.lt).cell 1
          have c2 : wk.cell? ⟨w.heap.size, 2, none⟩ = some (.int .i64 G) := (HC.out.below HBk.out HC.out.lt).cell 2
          have HCells : Hid (∀ q, q < K → wk.cell? ⟨g, 0 + q, none⟩ = some (.string (pcT d U (i * K + q)))) := fun q hq => by
            rcases hst.2 with h0 | ⟨b, off, he, _, h9⟩
            · omega
            · cases he; exact h9 q hq
          clear hst HST hke
          go_wp2_with fail
          refine (senc K M G g 0 cp h1 h2 h3 h4 h5 (fun q => pcT d U (i * K + q)) (fun q _ => by rw [pcT_size]; omega) wk HCells.out).mono ?_
          rintro e w3 ⟨_, hy, hb3⟩
          obtain ⟨g2, c5, rfl, hge, hst2⟩ := hy (pc_fits d K U i h6 h7)
          rw [← HSS.out] at hst2 ⊢
          have BW : Hid (Below wo.heap.size wo w3) := HBk.out.trans (hb3.mono HBk.out.size)
          have O3 := hid (HO.out.below BW.out)
          have T3 : Hid (∀ j, j < i → gs j < w3.heap.size ∧ w.heap.size + 4 ≤ gs j ∧ Strs w3 (some ⟨gs j, 0, none⟩) S (cs j) (spT d K M G U j)) := fun j hj => by
            obtain ⟨q1, q2, q3⟩ := HT.out j hj
            exact ⟨Nat.lt_of_lt_of_le q1 BW.out.size, q2, q3.below BW.out⟩
          have C3 := hid (HC.out.below BW.out HC.out.lt)
          have R3 := hid (HR.out.below BW.out HR.out.lt)
          have B3 : Hid (Below w.heap.size w w3) := HB.out.trans (BW.out.mono HB.out.size)
          have Z3 : Hid (w.heap.size + 4 ≤ w3.heap.size) := Nat.le_trans HZ.out BW.out.size
          have X3 : Hid (i ≤ 1048576) := by show _ ≤ _; omega
          have GE : Hid (wo.heap.size ≤ g2) := Nat.le_trans HBk.out.size hge
          have G2 : Hid (g2 < w3.heap.size) := by
            rcases hst2.2 with h0 | ⟨b, off, he, h9, _⟩
            · omega
            · cases he; exact h9
          have ST2 := hid hst2
          have OL : Hid (∀ b, u8.ownBlock = some b → w.heap.size + 4 ≤ b ∧ b < wo.heap.size) := fun b hb => World.ownsRow.lt HO.out b hb
          clear hst2 hge hb3 hy HOk HBk c0 c1 c2 HCells BW HO HT HC HR HB
          go_wp2_with (refine append_sp (w.heap.size + 4) w3 (by rfl) (.tmp 72) (.tmp 78) 24 (by rfl) Tryd.underlying24 Tryd.infoSp _ i S gs cs g2 c5 (by rfl) O3.out Z3.out (by rfl) X3.out ?_; intro v5 w5 hO5 hg5)
          have O5 := hid hO5
          have C5 := hid (rowFar C3.out hg5 (fun e => by have := (OL.out _ e.symm).1; omega))
          have R5 := hid (rowFar R3.out hg5 (fun e => by have := (OL.out _ e.symm).1; omega))
          have B5 : Hid (Below w.heap.size w w5) := B3.out.grown hg5 B3.out.size (fun b hb => by have := (OL.out b hb).1; omega)
          have Z5 : Hid (w.heap.size + 4 ≤ w5.heap.size) := Nat.le_trans Z3.out hg5.size
          have T5 : Hid (∀ j, j < i + 1 → (if j = i then g2 else gs j) < w5.heap.size ∧ w.heap.size + 4 ≤ (if j = i then g2 else gs j) ∧ Strs w5 (some ⟨(if j = i then g2 else gs j), 0, none⟩) S (if j = i then c5 else cs j) (spT d K M G U j)) := fun j hj => by
            by_cases e : j = i
            · subst e
              rw [if_pos rfl, if_pos rfl]
              refine ⟨Nat.lt_of_lt_of_le G2.out hg5.size, Nat.le_trans HZ.out GE.out, ST2.out.blk hg5.size (fun hl => hg5.block g2 hl (fun e => ?_))⟩
              have := (OL.out g2 e.symm).2
              have := GE.out
              omega
            · rw [if_neg e, if_neg e]
              obtain ⟨q1, q2, q3⟩ := T3.out j (by omega)
              exact ⟨Nat.lt_of_lt_of_le q1 hg5.size, q2, q3.blk hg5.size (fun hl => hg5.block (gs j) hl (O3.out.apart (by omega) q3 hS1))⟩
          clear hO5 hg5 O3 C3 R3 B3 Z3 T3 ST2 OL GE G2
          go_wp2
          go_roundw
          case rel => exact ⟨i + 1, _, _, by omega, by go_num, O5.out, T5.out, C5.out, R5.out, Z5.out, B5.out⟩
          case measure => simp [intOf]; omega
    · have hlt' : ¬ (i : Int) < (n : Int) := by omega
      obtain rfl : i = n := by omega
      have OS := HO.out.setRow (w.heap.size + 1) #[.int .i64 0, u8] (by omega)
      obtain ⟨a5, c5, hu, hSt⟩ := OS.stp (T := spT d K M G U) (fun j hj => ⟨by rw [setRow_size]; exact (HT.out j hj).1, (HT.out j hj).2.2.setRow _ _ (by have := (HT.out j hj).2.1; omega)⟩)
      subst hu
      have HSt := hid hSt
      clear hSt OS
      go_wp2_with (refine wpList_store_row rfl 26 (.tmp 6) (.tmp 81) rfl (w.heap.size + 1) #[.int .i64 0, .slice a5 i c5] rfl rfl _ _ HR.out (by kernel_rfl) rfl (one2 _ _ _ _) ?_)
      refine bodyPost_ret (v := srv 0 a5 i c5) ?_ rfl ⟨a5, c5, rfl, by rw [← HSS.out]; exact HSt.out, below_setRow HB.out _ _ (by omega)⟩
      exact results_cell_row Tryd.results4 _ _ (w.heap.size + 1) _ _ _ _ rfl (HR.out.setRow _) Tryd.underlying26 rfl (by kernel_rfl)
end Go.Proofs.YtjacjcbcccbjoaaDoor
namespace Go.Proofs.YtjacjcbcccbjoaaDoor
open Go.RowKit
/-! FnExactSplitObject out of the program's own contract. -/
set_option maxRecDepth 20000 in
set_option maxHeartbeats 2000000 in
theorem fnExactSplitObject_long (k m g u : Int) (d : ByteArray) (hd : 1048576 < d.size) (w : World) :
    Calls Tryd.prog 3 #[.agg #[.int .i64 k, .int .i64 m, .int .i64 g], .int .i64 u, .string d] w fun e w' => e = .returned (.bool true) ∧ Below w.heap.size w w' := by
  have dd : (1048576 : Int) < ((d.size : Nat) : Int) := by omega
  go_enter Tryd.func3, Tryd.ntmps3
  go_wp2
  go_ret
  exact ⟨rfl, bal9 (Below.refl _ _) _⟩
theorem fnExactSplitObject_of
    (HN : ∀ (k m g u : Int) (d : ByteArray) (w : World), Tab w → d.size ≤ 1048576 → stripeN k m g u ((d.size : Nat) : Int) = -1 → Calls Tryd.prog 6 #[cdv k m g, .int .i64 u, .string d] w fun e w' => AnsPI 1 0 0 (fun _ _ => ⟨#[]⟩) w e w')
    (HY : ∀ (K M G U n : Nat) (d : ByteArray) (w : World), Tab w → 1 ≤ K → K ≤ 32 → M ≤ 16 → G ≤ K → K + M + G ≤ 64 → 1 ≤ U → U ≤ 4096 → d.size ≤ 100000 → n ≤ 200 → n = (d.size + K * U - 1) / (K * U) → stripeN K M G U ((d.size : Nat) : Int) = (n : Int) →
      Calls Tryd.prog 6 #[cdv K M G, .int .i64 U, .string d] w fun e w' => AnsPI 0 n (K + M + G) (spT d K M G U) w e w')
    (k m g u : Int) (d : ByteArray) (w : World) (hT : Tab w) :
    Calls Tryd.prog 3 #[.agg #[.int .i64 k, .int .i64 m, .int .i64 g], .int .i64 u, .string d] w fun e w' => e = .returned (.bool true) ∧ Below w.heap.size w w' := by
  by_cases hd : 1048576 < d.size
  · exact fnExactSplitObject_long k m g u d hd w
  have hd : d.size ≤ 1048576 := by omega
  by_cases hno : stripeN k m g u ((d.size : Nat) : Int) = -1
  · refine fnExactSplitObject_core 1 0 0 (fun _ _ => ⟨#[]⟩) (by decide) (by decide) k m g u d hd w hT (fun w => ?_) (fun w hT => HN k m g u d w hT hd hno)
    refine (sspl_no k m g u d hno w).mono ?_
    rintro e w' ⟨rfl, hb⟩
    exact ⟨none, 0, rfl, ⟨Nat.le_refl _, Or.inl rfl⟩, hb⟩
  · obtain ⟨K, M, G, U, S, rfl, rfl, rfl, rfl, hS, h1, h2, h3, h4, h5, h6, h7, h8, h9, hn⟩ := stripe_ok hno
    have hS' : d.size = S := by omega
    subst hS'
    refine fnExactSplitObject_core 0 _ (K + M + G) (spT d K M G U) h9 h5 K M G U d hd w hT (fun w => ?_) (fun w hT => HY K M G U _ d w hT h1 h2 h3 h4 h5 h6 h7 h8 h9 rfl hn)
    refine (sspl_ok K M G U _ d h1 h2 h3 h4 h5 h6 h7 h9 hn w).mono ?_
    rintro e w' ⟨a, c, rfl, hR, hb⟩
    exact ⟨a, c, rfl, hR, hb⟩
end Go.Proofs.YtjacjcbcccbjoaaDoor
