import Derived.Test.YtgoplcjjoiiagaaGreatDoorRfLaw
import Derived.Test.YtgoplcjjoiiagaaGreatDoorRdShl
import Derived.Shelf.Abstract
import Derived.Shelf.RegionOpen
import Derived.OwnWalkIn
import Derived.TacticsInMore
import Derived.LoopNIn
import Derived.LoopIn
namespace Go.Proofs.YtgoplcjjoiiagaaGreatDoor
open Go.RowKit Go.Shelf
attribute [local go_sem] Oper.semAt_some
/-! strings.SplitSeq at one byte: what it hands over. -/
theorem spl_cut (c : UInt8) : ∀ (l cur : List UInt8), splA c cur l = match cutP [c] l with | none => [cur ++ l] | some (a, b) => (cur ++ a) :: splA c [] b
  | [], cur => by
    have e : cutP [c] [] = none := cutP_none fun j hj => by simp
    rw [e]; simp [splA]
  | x :: r, cur => by
    by_cases h : x = c
    · subst h
      have e : cutP [x] (x :: r) = some ([], r) := cutP_hit (p := [x]) (l := x :: r) ⟨r, rfl⟩
      rw [e]; simp [splA]
    · have hm : ¬ [c] <+: x :: r := fun ⟨t, ht⟩ => h (by simp at ht; exact ht.1.symm)
      have ih := spl_cut c r (cur ++ [x])
      rw [cutP_miss hm]
      have e : splA c cur (x :: r) = splA c (cur ++ [x]) r := by rw [splA, if_neg h]
      rw [e, ih]
      cases cutP [c] r with
      | none => simp
      | some q => simp
theorem spl_none {c : UInt8} {l : List UInt8} (h : cutP [c] l = none) : splA c [] l = [l] := by rw [spl_cut, h]; simp
theorem spl_some {c : UInt8} {l a b : List UInt8} (h : cutP [c] l = some (a, b)) : splA c [] l = a :: splA c [] b := by rw [spl_cut, h]; simp
/-- a piece as a text -/
def pcB (E : List (List UInt8)) (k : Nat) : ByteArray := ofL (E.getD k [])
structure SpAt (W : World) (bs bp bv : Nat) (s : ByteArray) (c : UInt8) : Prop where
  S : RowAt W bs 9 #[.string s]
  P : RowAt W bp 9 #[.string ⟨#[c]⟩]
  V : RowAt W bv 3 #[.int .i64 0]
/-- what a round keeps -/
def KpS (B0 bs bp bv : Nat) (A B : World) : Prop := A.heap.size ≤ B.heap.size ∧ ∀ k, k < B0 ∨ k = bs ∨ k = bp ∨ k = bv → B.heap[k]? = A.heap[k]?
theorem KpS.trans {B0 bs bp bv : Nat} {A B C : World} (h : KpS B0 bs bp bv A B) (k : KpS B0 bs bp bv B C) : KpS B0 bs bp bv A C := ⟨Nat.le_trans h.1 k.1, fun j hj => (k.2 j hj).trans (h.2 j hj)⟩
theorem SpAt.keeps {A B : World} {B0 bs bp bv : Nat} {s : ByteArray} {c : UInt8} (h : SpAt A bs bp bv s c) (k : KpS B0 bs bp bv A B) : SpAt B bs bp bv s c :=
  ⟨(k.2 bs (.inr (.inl rfl))).trans h.S, (k.2 bp (.inr (.inr (.inl rfl)))).trans h.P, (k.2 bv (.inr (.inr (.inr rfl)))).trans h.V⟩
theorem SpAt.below {A B : World} {bs bp bv : Nat} {s : ByteArray} {c : UInt8} (h : SpAt A bs bp bv s c) (hb : Below A.heap.size A B) : SpAt B bs bp bv s c := ⟨h.S.below hb h.S.lt, h.P.below hb h.P.lt, h.V.below hb h.V.lt⟩
theorem SpAt.put {A : World} {bs bp bv : Nat} {s : ByteArray} {c : UInt8} (h : SpAt A bs bp bv s c) (h1 : bp ≠ bs) (h2 : bv ≠ bs) (t : ByteArray) : SpAt (A.setCell ⟨bs, 0, none⟩ (.string t)) bs bp bv t c :=
  ⟨h.S.set 0 _, h.P.other _ _ h1, h.V.other _ _ h2⟩
/-- the library's variables lie below B -/
def GlB (B : Nat) : Prop := 1 < B ∧ 6 < B ∧ 7 < B ∧ 0 < B
theorem RdV.gl {w : World} (h : RdV w) : GlB w.heap.size := by
  obtain ⟨⟨m, h1⟩, ⟨e1, h2, k2⟩, ⟨e2, h3, k3⟩, h4⟩ := h
  refine ⟨cell_lt h1, cell_lt h2, cell_lt h3, ?_⟩
  unfold Lib.TabIs World.var? at h4
  have hg : Tryz.prog.globalNamed "internal/strconv.uint64pow10" = some 0 := by kernel_rfl
  rw [hg] at h4
  simp only [Option.bind_some] at h4
  rcases Nat.lt_or_ge 0 w.heap.size with h' | h'
  · exact h'
  · rw [Array.getElem?_eq_none h'] at h4; cases h4
theorem cell_same {A B : World} {b : Nat} (h : B.heap[b]? = A.heap[b]?) : B.cell? ⟨b, 0, none⟩ = A.cell? ⟨b, 0, none⟩ := by simp only [World.cell?, h]
theorem RdV.low {A B : World} {B0 : Nat} (h : RdV A) (hG : GlB B0) (hk : ∀ k, k < B0 → B.heap[k]? = A.heap[k]?) : RdV B := by
  obtain ⟨⟨m, h1⟩, ⟨e1, h2, k2⟩, ⟨e2, h3, k3⟩, h4⟩ := h
  refine ⟨⟨m, (cell_same (hk _ hG.1)).trans h1⟩, ⟨e1, (cell_same (hk _ hG.2.1)).trans h2, k2⟩, ⟨e2, (cell_same (hk _ hG.2.2.1)).trans h3, k3⟩, ?_⟩
  unfold Lib.TabIs World.var? at h4 ⊢
  have hg : Tryz.prog.globalNamed "internal/strconv.uint64pow10" = some 0 := by kernel_rfl
  rw [hg] at h4 ⊢
  simp only [Option.bind_some] at h4 ⊢
  rw [hk _ hG.2.2.2]
  exact h4
def strSz (b : Nat) (W : World) : Nat := match W.cell? ⟨b, 0, none⟩ with | some (.string s) => s.size | _ => 0
set_option maxRecDepth 100000 in
set_option maxHeartbeats 2000000 in
theorem iSeq (c : UInt8) (s0 : ByteArray) (hs : s0.size ≤ 1048576) (n bs bp bv B0 : Nat) (w : World) (hA : SpAt w bs bp bv s0 c) (hV : RdV w) (hG : GlB B0) (hB : B0 ≤ bs) (h1 : bp ≠ bs) (h2 : bv ≠ bs) :
    SeqR Fence.wide n Tryz.prog 146 #[.pointer (some ⟨bp, 0, none⟩), .pointer (some ⟨bs, 0, none⟩), .pointer (some ⟨bv, 0, none⟩)] (splA c [] s0.data.toList).length (fun k => #[.string (pcB (splA c [] s0.data.toList) k)]) (fun A B => A.grownBy B (some bs)) (KpS B0 bs bp bv) w := by
  intro l J Jx W hW hJ hJx hY h0
  obtain ⟨E, hE⟩ : ∃ E, E = splA c [] s0.data.toList := ⟨_, rfl⟩
  rw [← hE] at hY ⊢
  have A0 := hid (hA.below hW)
  have V0 := hid (hV.below hW)
  have HJ := hid hJ
  have HY := hid hY
  have HJ0 := hid h0
  have HG := hid hG
  have HE := hid hE
  have cp := A0.out.P.cell 0
  clear hJ hJx hY h0 hA hV hG hE
  refine callsIn_of_wp Tryz.func146 rfl trivial ?_ rfl
  simp only [Tryz.ntmps146, List.size_toArray, List.length_cons, List.length_nil, Nat.reduceAdd, Nat.reduceSub, Array.replicate_succ, Array.replicate_zero, List.push_toArray, List.append_toArray, List.nil_append, List.cons_append]
  gi_wp2
  clear cp
  gi_loopw [] (fun wr => ∃ (k : Nat) (S : ByteArray), k < E.length ∧ J k wr ∧ SpAt wr bs bp bv S c ∧ RdV wr ∧ E.drop k = splA c [] S.data.toList ∧ S.size ≤ 1048576) (fun wr => strSz bs wr)
  case atStart => exact ⟨0, s0, by rw [HE.out]; exact (splA_len c _ _).1, HJ0.out, A0.out, V0.out, by rw [HE.out]; rfl, hs⟩
  case round =>
    obtain ⟨k, S, hk, hj, hA, hV, hD, hS⟩ := hrel
    have HJk := hid hj
    have HA := hid hA
    have HV := hid hV
    have HD := hid hD
    have cs : wr.cell? ⟨bs, 0, none⟩ = some (.string S) := hA.S.cell 0
    have cp : wr.cell? ⟨bp, 0, none⟩ = some (.string ⟨#[c]⟩) := hA.P.cell 0
    have cv : wr.cell? ⟨bv, 0, none⟩ = some (.int .i64 0) := hA.V.cell 0
    have MS : Hid (strSz bs wr = S.size) := by show _ = _; unfold strSz; rw [cs]
    clear hj hA hV hD HJ0 A0 V0
    have KI := hid (iIndexS S ⟨#[c]⟩ hS wr HV.out)
    rcases index_cutP [c] S.data.toList with ⟨hz, hc⟩ | ⟨i, hz, hi, hc⟩
    · have hl : E.drop k = [S.data.toList] := by rw [HD.out]; exact spl_none hc
      have hN : E.length = k + 1 := by have := congrArg List.length hl; simp at this; omega
      have hg : E.getD k [] = S.data.toList := by
        have e1 : (E.drop k)[0]? = some S.data.toList := by rw [hl]; rfl
        rw [List.getElem?_drop] at e1
        simp only [Nat.add_zero] at e1
        simp [List.getD, e1]
      have hY2 := HY.out k wr hk HJk.out
      rw [show pcB E k = S by unfold pcB; rw [hg]; exact (ofL_of rfl).symm] at hY2
      have hz' : Lib.index S.data.toList (⟨#[c]⟩ : ByteArray).data.toList = -1 := hz
      rw [hz'] at KI
      have HN := hid hN
      obtain ⟨fn, tmps, assign, body, hy, hR⟩ := hY2
      clear hl hN hg hc hz hz'
      gi_wp2_with fail
      refine ⟨trivial, fun h => (by cases h), (callsIn_wide.2 KI.out).mono ?_⟩
      rintro e w2 ⟨rfl, hw⟩
      obtain rfl := hw.symm
      gi_wp2
      refine ⟨fun h => (by cases h), hR.mono ?_⟩
      rintro e W3 (⟨rfl, hJ3, hk3⟩ | ⟨rfl, hJx3⟩)
      · gi_wp2
        go_end0
        exact ⟨⟨_, rfl⟩, .inl (by rw [HN.out]; exact hJ3)⟩
      · gi_wp2
        go_end0
        exact ⟨⟨_, rfl⟩, .inr ⟨k + 1, by rw [HN.out]; exact Nat.le_refl _, hJx3⟩⟩
    · have hi2 : i + 1 ≤ S.size := by have := hi; simp at this; omega
      have hl : E.drop k = S.data.toList.take i :: splA c [] (S.data.toList.drop (i + 1)) := by rw [HD.out]; exact spl_some hc
      have hN : k + 1 < E.length := by have := congrArg List.length hl; have := (splA_len c (S.data.toList.drop (i + 1)) []).1; simp at *; omega
      have hg : E.getD k [] = S.data.toList.take i := by
        have e1 : (E.drop k)[0]? = some (S.data.toList.take i) := by rw [hl]; rfl
        rw [List.getElem?_drop] at e1
        simp only [Nat.add_zero] at e1
        simp [List.getD, e1]
      have hD2 : E.drop (k + 1) = splA c [] (S.data.toList.drop (i + 1)) := by
        have := congrArg (List.drop 1) hl
        rw [List.drop_drop] at this
        exact this
      have e1 : S.extract 0 i = ofL (S.data.toList.take i) := ofL_of (by rw [ByteArray.data_extract]; simp)
      have e2 : (S.extract (i + 1) S.size).data.toList = S.data.toList.drop (i + 1) := by
        rw [ByteArray.data_extract]
        simp
        rw [List.take_of_length_le (by simp)]
      have hY2 := HY.out k wr hk HJk.out
      rw [show pcB E k = S.extract 0 i by unfold pcB; rw [hg, e1]] at hY2
      rw [← e2] at hD2
      have HD2 := hid hD2
      have HN := hid hN
      have z2 : (S.extract (i + 1) S.size).size = S.size - (i + 1) := by rw [ByteArray.size_extract]; omega
      obtain ⟨S2, hS2⟩ : ∃ S2, S2 = S.extract (i + 1) S.size := ⟨_, rfl⟩
      rw [← hS2] at HD2 z2
      obtain ⟨F, hF⟩ : ∃ F, F = S.extract 0 i := ⟨_, rfl⟩
      rw [← hF] at hY2
      have hz' : Lib.index S.data.toList (⟨#[c]⟩ : ByteArray).data.toList = (i : Int) := hz
      rw [hz'] at KI
      have sl1 : ∀ wx, (Instr.slice 9 (.string S) none (some (.int .i64 (i : Int))) none).run Tryz.prog wx = .ok (.string F) wx := fun wx => by
        rw [run_slice_string_to_if _ _ _ _ _ Tryz.underlying9, if_pos (by omega), show ((i : Int)).toNat = i by omega, hF]
      have sl2 : ∀ wx, (Instr.slice 9 (.string S) (some (.int .i64 ((i : Int) + 1))) none none).run Tryz.prog wx = .ok (.string S2) wx := fun wx => by
        rw [run_slice_string_from_if _ _ _ _ _ Tryz.underlying9, if_pos (by omega), show (((i : Int) + 1)).toNat = i + 1 by omega, hS2]
      have i0 : ¬ (i : Int) < 0 := by omega
      have HZ2 := hid z2
      have HI2 := hid hi2
      obtain ⟨fn, tmps, assign, body, hy, hR⟩ := hY2
      clear hl hN hg hc hz hz' hD2 e1 e2 hS2 hF z2
      gi_wp2_with fail
      refine ⟨trivial, fun h => (by cases h), (callsIn_wide.2 KI.out).mono ?_⟩
      rintro e w2 ⟨rfl, hw⟩
      obtain rfl := hw.symm
      gi_wp2
      refine ⟨fun h => (by cases h), hR.mono ?_⟩
      rintro e W3 (⟨rfl, hJ3, hk3⟩ | ⟨rfl, hJx3⟩)
      · have A3 := hid (HA.out.keeps hk3)
        have V3 := hid (HV.out.low HG.out fun j hj => hk3.2 j (.inl hj))
        have c2s : W3.cell? ⟨bs, 0, none⟩ = some (.string S) := A3.out.S.cell 0
        have c2p : W3.cell? ⟨bp, 0, none⟩ = some (.string ⟨#[c]⟩) := A3.out.P.cell 0
        have f2 := A3.out.S.free 0
        have J4 := hid (HJ.out (k + 1) W3 (W3.setCell ⟨bs, 0, none⟩ (.string S2)) hJ3 grown_set)
        have A4 := hid (A3.out.put h1 h2 S2)
        have V4 : Hid (RdV (W3.setCell ⟨bs, 0, none⟩ (.string S2))) := V3.out.low HG.out fun j hj => Below.heap_setCell W3 _ _ j (by show j ≠ bs; omega)
        clear hk3 hJ3
        gi_wp2
        go_roundw
        case rel => exact ⟨k + 1, S2, HN.out, J4.out, A4.out, V4.out, HD2.out, by have := HZ2.out; omega⟩
        case measure =>
          rw [MS.out]
          have e9 : strSz bs (W3.setCell ⟨bs, 0, none⟩ (.string S2)) = S2.size := by unfold strSz; rw [A4.out.S.cell 0]; rfl
          rw [e9]
          have := HZ2.out
          have := HI2.out
          omega
      · gi_wp2
        refine bodyPost_ret (results_none rfl _ _ _) rfl ?_
        exact ⟨⟨_, rfl⟩, .inr ⟨k + 1, Nat.le_of_lt HN.out, hJx3⟩⟩
end Go.Proofs.YtgoplcjjoiiagaaGreatDoor
