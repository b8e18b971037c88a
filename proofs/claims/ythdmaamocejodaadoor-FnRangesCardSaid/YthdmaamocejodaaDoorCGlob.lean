import Derived.Test.YthdmaamocejodaaDoorCEnter
import Derived.Laws.CopyOwn
import Derived.DeepKeys
namespace Go.Proofs.YthdmaamocejodaaDoor
open Go.RowKit
theorem made_row (w : World) (t : TypeId) (zf : Nat → Value) (n k : Nat) (hk : 0 < k) : FRow (w.alloc (.cells (madeCells ((List.range k).map zf).toArray (n * k)) t)) w.heap.size t (n * k) (fun p => zf (p % k)) :=
  ⟨_, RowAt.new w _ _, by simp [madeCells], fun p hp => by
    have h2 : p % k < k := Nat.mod_lt _ hk
    simp [madeCells, hp, h2]⟩
/-- 'copy' of bytes into a block of cells, as a step of a region that draws its order. -/
theorem step_copyF {ops : Array Oper} {o : Oper} {a : Act} {w : World} {K : Act → World → Prop} {Q : Exit → Act → World → Prop} {E : Prop} (hgd : o.guard = none) (d s : Operand)
    (ho : o.op = .call { callee := .builtin .copy, args := #[d, s], argTypes := #[22, 22] })
    (g off dLen dCap g2 off2 sLen sCap : Nat) (hd : a.eval d = .slice (some ⟨g, off, none⟩) dLen dCap) (hs : a.eval s = .slice (some ⟨g2, off2, none⟩) sLen sCap)
    (t : TypeId) (N : Nat) (f : Nat → Value) (hz : FRow w g t N f) (n : Nat) (hn : n = Nat.min sLen dLen) (fs : Nat → Nat) (hsrc : ∀ k, k < n → w.cell? ⟨g2, off2 + k, none⟩ = some (.int .u8 ((fs k : Nat) : Int))) (hfit : off + n ≤ N)
    (h : ∀ w', FRow w' g t N (layF f off ((List.range n).map fun k => Value.int .u8 ((fs k : Nat) : Int))) → w.grownBy w' (some g) → K (a.put o.dst (goInt n)) w') :
    if Region.wanted o (yielded ops a.tmps) = true then Oper.wp Tryd.prog o a w K Q else E := by
  have hw : Region.wanted o (yielded ops a.tmps) = true := by simp [Region.wanted, hgd]
  rw [if_pos hw]
  obtain ⟨cs, hcs⟩ : ∃ cs : List Value, cs = (List.range n).map fun k => Value.int .u8 ((fs k : Nat) : Int) := ⟨_, rfl⟩
  have hcl : cs.length = n := by rw [hcs]; simp
  obtain ⟨cur, hz1, hz2, hz3⟩ := hz
  have hadd : ∀ j, (⟨g2, off2, none⟩ : Addr).add j = ⟨g2, off2 + j, none⟩ := by intro j; unfold Addr.add; split <;> simp_all
  have hrun := run_copy_row (P := Tryd.prog) w 22 22 o.type 5 g off dLen dCap ⟨g2, off2, none⟩ sLen sCap cur t cs Tryd.underlying22 (by kernel_rfl) hz1 (by rw [hcl]; exact hn)
    (fun j v hv => by
      have hj : j < n := by have := (List.getElem?_eq_some_iff.1 hv).1; omega
      rw [hadd, hsrc j hj]
      rw [hcs] at hv; simp [hj] at hv; rw [← hv]) (by rw [hcl, hz2]; exact hfit) (fun v hv => by rw [hcs] at hv; obtain ⟨k, _, rfl⟩ := List.mem_map.1 hv; rfl)
  rw [hcl] at hrun
  obtain ⟨Z, hZ⟩ : ∃ Z, Z = (cur.toList.take off ++ cs ++ cur.toList.drop (off + n)).toArray := ⟨_, rfl⟩
  rw [← hZ] at hrun
  have hF : FRow (w.setRow g Z) g t N (layF f off cs) := by
    rw [hZ]
    refine ⟨_, hz1.setRow _, ?_, fun p hp => ?_⟩
    · have : cur.toList.length = N := by simpa using hz2
      simp; omega
    · have hL : cur.toList.length = N := by simpa using hz2
      have hp3 := hz3 p hp
      rw [← Array.getElem?_toList] at hp3
      rw [List.getElem?_toArray]
      unfold layF
      rw [List.append_assoc]
      by_cases h1 : p < off
      · rw [if_neg (by omega), List.getElem?_append_left (by simp; omega), List.getElem?_take, if_pos h1]; exact hp3
      · by_cases h2 : p < off + n
        · rw [if_pos (by omega), List.getElem?_append_right (by simp; omega), List.length_take, Nat.min_eq_left (by omega), List.getElem?_append_left (by omega), List.getD_eq_getElem?_getD, List.getElem?_eq_getElem (by omega)]; rfl
        · rw [if_neg (by omega), List.getElem?_append_right (by simp; omega), List.length_take, Nat.min_eq_left (by omega), List.getElem?_append_right (by omega), List.getElem?_drop, show off + n + (p - off - cs.length) = p by omega]; exact hp3
  have hF' : FRow (w.setRow g Z) g t N (layF f off ((List.range n).map fun k => Value.int .u8 ((fs k : Nat) : Int))) := by rw [← hcs]; exact hF
  have hfin := h _ hF' (by
    exact ⟨rfl, rfl, rfl, by simp [World.setRow], fun j _ hne => by
      have : j ≠ g := fun e => hne (by rw [e])
      exact setRow_other w g j _ this⟩)
  clear h hF hF' hcl hsrc hcs hZ
  unfold Oper.wp
  simp [execOp, ho, resolve, invoke, builtin, hd, hs, hrun, Result.andThen]
  exact hfin
def gzF (q : Nat) : Value := if q = 0 then .int .i64 0 else .int .u8 0
def gz : Array Value := ((List.range 33).map gzF).toArray
theorem Tryd.infoG : (Tryd.prog.info? 96).map (fun i => (i.zero, i.size, i.bytes)) = some (some (.agg gz), 33, 40) := by kernel_rfl
theorem mkG (w : World) (n : Nat) (hn : n ≤ 64) : (Instr.makeSlice 91 (.int .i64 n) (.int .i64 n)).run Tryd.prog w = .ok (.slice (some ⟨w.heap.size, 0, none⟩) n n) (w.alloc (.cells (madeCells gz (n * 33)) 96)) := by
  obtain ⟨i0, hi, hz0, hz1, hz2⟩ := info_parts Tryd.infoG
  have := run_make (P := Tryd.prog) w 91 96 i0 _ Tryd.underlying91 hi hz0 .i64 .i64 n n (by omega) (Int.le_refl _) (by rw [hz2]; omega) (by omega)
  rw [this, hz1]
  simp only [Int.toNat_natCast, Value.cells]
/-- the cells of the global parities -/
def gpF (K M : Nat) (p : Nat) : Value := if p % 33 = 0 then .int .i64 ((K + p / 33 : Nat) : Int) else .int .u8 ((if p % 33 - 1 < K then (cauL M K).getD (p / 33 * K + (p % 33 - 1)) 0 else 0 : Nat) : Int)
def gpI (K M i : Nat) (p : Nat) : Value := if p / 33 < i then gpF K M p else gzF (p % 33)
theorem gpI_zero (K M : Nat) (p : Nat) : gpI K M 0 p = gzF (p % 33) := if_neg (by omega)
/-- one parity more -/
theorem gpI_succ (K M i : Nat) (hK : K ≤ 32) (fs : Nat → Nat) (hfs : ∀ k, k < K → fs k = (cauL M K).getD (i * K + k) 0) (p : Nat) :
    layF (putF (gpI K M i) (i * 33) (.int .i64 ((K + i : Nat) : Int))) (i * 33 + 1) ((List.range K).map fun k => Value.int .u8 ((fs k : Nat) : Int)) p = gpI K M (i + 1) p := by
  unfold layF putF gpI gpF gzF
  rw [List.length_map, List.length_range]
  by_cases h1 : i * 33 + 1 ≤ p ∧ p < i * 33 + 1 + K
  · have e1 : p / 33 = i := by omega
    have e2 : p % 33 = p - i * 33 := by omega
    rw [if_pos h1, if_pos (show p / 33 < i + 1 by omega), if_neg (show ¬ p % 33 = 0 by omega), if_pos (show p % 33 - 1 < K by omega), e1, e2, List.getD_eq_getElem?_getD, List.getElem?_map, List.getElem?_range (by omega)]
    show Value.int .u8 _ = _
    rw [hfs _ (by omega), show p - (i * 33 + 1) = p - i * 33 - 1 by omega]
  · rw [if_neg h1]
    by_cases h2 : p = i * 33
    · rw [if_pos h2, if_pos (show p / 33 < i + 1 by omega), if_pos (show p % 33 = 0 by omega), show p / 33 = i by omega]
    · rw [if_neg h2]
      by_cases h3 : p / 33 < i
      · rw [if_pos h3, if_pos (show p / 33 < i + 1 by omega)]
      · rw [if_neg h3]
        by_cases h4 : p / 33 < i + 1
        · rw [if_pos h4, if_neg (show ¬ p % 33 = 0 by omega), if_neg (show ¬ p % 33 = 0 by omega), if_neg (show ¬ p % 33 - 1 < K by omega)]; rfl
        · rw [if_neg h4]
theorem gpI_end (K M p : Nat) (h : p < M * 33) : gpI K M M p = gpF K M p := if_pos (by omega)
set_option maxRecDepth 20000 in
set_option maxHeartbeats 4000000 in
theorem iglob (K M G : Nat) (hK1 : 1 ≤ K) (hK : K ≤ 32) (hM : M ≤ 16) (w : World) :
    Calls Tryd.prog 37 #[cdv K M G] w fun e w' => ∃ gb, e = .returned (.slice (some ⟨gb, 0, none⟩) M M) ∧ w.heap.size ≤ gb ∧ FRow w' gb 96 (M * 33) (gpF K M) ∧ Below w.heap.size w w' := by
  have hmk := fun w => mkG w M (by omega)
  go_enter Tryd.func37, Tryd.ntmps37
  go_wp2_with fail
  have F0 : Hid (FRow ((w.alloc (.cells (cda K M G) 24)).alloc (.cells (madeCells gz (M * 33)) 96)) (w.heap.size + 1) 96 (M * 33) (gpI K M 0)) := by
    have h := made_row (w.alloc (.cells (cda K M G) 24)) 96 gzF M 33 (by decide)
    rw [size_al] at h
    exact h.congr fun p _ => (gpI_zero K M p).symm
  have C0 : Hid (RowAt ((w.alloc (.cells (cda K M G) 24)).alloc (.cells (madeCells gz (M * 33)) 96)) w.heap.size 24 (cda K M G)) := (RowAt.new w _ _).alloc _
  have B0 : Hid (Below w.heap.size w ((w.alloc (.cells (cda K M G) 24)).alloc (.cells (madeCells gz (M * 33)) 96))) := bal (bal (Below.refl _ _) _ (Nat.le_refl _)) _ (Nat.le_refl _)
  obtain ⟨W0, hW0⟩ : ∃ W0, W0 = (w.alloc (.cells (cda K M G) 24)).alloc (.cells (madeCells gz (M * 33)) 96) := ⟨_, rfl⟩
  have s0 : Hid (W0.heap.size = w.heap.size + 2) := by show _ = _; rw [hW0, size_al, size_al]
  rw [← hW0] at F0 C0 B0 ⊢
  obtain ⟨q, hq⟩ : ∃ q, q = M * K := ⟨_, rfl⟩
  have hq5 : q ≤ 512 := by rw [hq]; exact Nat.mul_le_mul hM hK
  have HQ := hid hq
  clear hW0 hmk hq
  refine (icauGrid0 M K q (by omega) hK1 (by omega) HQ.out _).mono ?_
  rintro e w1 ⟨g, rfl, hg, hG, hb1⟩
  have S1 : Hid (w.heap.size + 2 ≤ w1.heap.size) := by have h1 := s0.out; have h2 := hb1.size; show _ ≤ _; omega
  have SG : Hid (w.heap.size + 2 ≤ g) := by have h1 := s0.out; show _ ≤ _; omega
  have SG2 : Hid (g < w1.heap.size) := hG.lt
  clear s0 hg
  have F1 := hid (F0.out.below hb1 F0.out.lt)
  have C1 := hid (C0.out.below hb1 C0.out.lt)
  have B1 := hid (B0.out.trans (hb1.mono B0.out.size))
  have HG := hid hG
  clear hb1 hG F0 C0 B0
  have c0 : w1.cell? ⟨w.heap.size, 0, none⟩ = some (.int .i64 K) := C1.out.cell 0
  have c1 : w1.cell? ⟨w.heap.size, 1, none⟩ = some (.int .i64 M) := C1.out.cell 1
  have hl1 : w.heap.size < w1.heap.size := C1.out.lt
  go_wp2_with fail
  obtain ⟨W2, hW2⟩ : ∃ W2, W2 = w1.alloc (.cells #[.int .i64 M, .int .i64 K, .slice (some ⟨g, 0, none⟩) q q] 121) := ⟨_, rfl⟩
  have F2 : Hid (FRow W2 (w.heap.size + 1) 96 (M * 33) (gpI K M 0)) := by rw [hW2]; exact F1.out.alloc _
  have C2 : Hid (RowAt W2 w.heap.size 24 (cda K M G)) := by rw [hW2]; exact C1.out.alloc _
  have B2 : Hid (Below w.heap.size w W2) := by rw [hW2]; exact bal B1.out _ (Nat.le_refl _)
  have G2 : Hid (Gr W2 g (cauL M K)) := by rw [hW2]; exact HG.out.alloc _
  have V2 : Hid (RowAt W2 w1.heap.size 121 #[.int .i64 M, .int .i64 K, .slice (some ⟨g, 0, none⟩) q q]) := by rw [hW2]; exact RowAt.new w1 _ _
  rw [← hW2]
  clear hW2 F1 C1 B1 HG c0 c1
  go_loopw [16] (fun y wr => ∃ (i : Nat), i ≤ M ∧ y = .int .i64 i ∧ FRow wr (w.heap.size + 1) 96 (M * 33) (gpI K M i) ∧ RowAt wr w.heap.size 24 (cda K M G) ∧ Gr wr g (cauL M K) ∧ RowAt wr w1.heap.size 121 #[.int .i64 M, .int .i64 K, .slice (some ⟨g, 0, none⟩) q q] ∧ Below w.heap.size w wr) (fun y _ => M - (intOf y).toNat)
  case atStart => exact ⟨0, Nat.zero_le _, rfl, F2.out, C2.out, G2.out, V2.out, B2.out⟩
  case round =>
    obtain ⟨i, hi, rfl, hF, hC, hG, hV, hB⟩ := hrel
    have HF := hid hF
    have HC := hid hC
    have HG := hid hG
    have HV := hid hV
    have HB := hid hB
    clear hF hC hG hV hB F2 C2 G2 V2 B2
    by_cases hlt : i < M
    · have hlt' : (i : Int) < (M : Int) := by omega
      have i0 : (0 : Int) ≤ (i : Int) := by omega
      have c0 : wr.cell? ⟨w.heap.size, 0, none⟩ = some (.int .i64 K) := HC.out.cell 0
      have k1 : wr.cell? ⟨w.heap.size + 1, i * 33, none⟩ = some (gpI K M i (i * 33)) := HF.out.cell (by omega)
      have f1 := HF.out.free (i * 33)
      obtain ⟨x1, hx1⟩ : ∃ x, x = gpI K M i (i * 33) := ⟨_, rfl⟩
      rw [← hx1] at k1
      clear hx1
      go_wp2_with fail
      obtain ⟨W3, hW3⟩ : ∃ W3, W3 = wr.setCell ⟨w.heap.size + 1, i * 33, none⟩ (.int .i64 ((K : Int) + (i : Int))) := ⟨_, rfl⟩
      have z1 := S1.out
      have z2 := SG.out
      have z3 := SG2.out
      have F3 : Hid (FRow W3 (w.heap.size + 1) 96 (M * 33) (putF (gpI K M i) (i * 33) (.int .i64 ((K : Int) + (i : Int))))) := by rw [hW3]; exact HF.out.set _ _
      have C3 : Hid (RowAt W3 w.heap.size 24 (cda K M G)) := by rw [hW3]; exact HC.out.other _ _ (by dsimp only; omega)
      have G3 : Hid (Gr W3 g (cauL M K)) := by rw [hW3]; exact HG.out.other _ _ (by dsimp only; omega)
      have V3 : Hid (RowAt W3 w1.heap.size 121 #[.int .i64 M, .int .i64 K, .slice (some ⟨g, 0, none⟩) q q]) := by rw [hW3]; exact HV.out.other _ _ (by dsimp only; omega)
      have B3 : Hid (Below w.heap.size w W3) := by rw [hW3]; exact HB.out.setCell (by dsimp only; omega) _
      rw [← hW3]
      clear hW3 k1 f1 c0 HF HC HG HV HB
      have v0 := V3.out.cell 0
      have v1 := V3.out.cell 1
      have v2 := V3.out.cell 2
      have h1 : Hid ((i : Int) * (K : Int) = ((i * K : Nat) : Int)) := by show _ = _; simp
      have h2 : Hid (((i : Int) + 1) * (K : Int) = ((i * K : Nat) : Int) + (K : Int)) := by show _ = _; rw [Int.add_mul]; simp
      have hoq : Hid (i * K + K ≤ q) := by show _ ≤ _; rw [HQ.out]; have : (i + 1) * K ≤ M * K := Nat.mul_le_mul_right K hlt; rw [Nat.succ_mul] at this; exact this
      have NX : Hid (∀ p, layF (putF (gpI K M i) (i * 33) (.int .i64 ((K : Int) + (i : Int)))) (i * 33 + 1) ((List.range K).map fun k => Value.int .u8 (((fun k => (cauL M K).getD (i * K + k) 0) k : Nat) : Int)) p = gpI K M (i + 1) p) := fun p => gpI_succ K M i hK (fun k => (cauL M K).getD (i * K + k) 0) (fun _ _ => rfl) p
      have hcl : Hid ((cauL M K).length = q) := by show _ = _; rw [cauL_len]; exact HQ.out.symm
      obtain ⟨W4, hW4⟩ : ∃ W4, W4 = (W3.alloc (.cells #[.int .i64 M, .int .i64 K, .slice (some ⟨g, 0, none⟩) q q] 121)).drew := ⟨_, rfl⟩
      have HF4 : Hid (FRow (W3.alloc (.cells #[.int .i64 M, .int .i64 K, .slice (some ⟨g, 0, none⟩) q q] 121)).drew (w.heap.size + 1) 96 (M * 33) (putF (gpI K M i) (i * 33) (.int .i64 ((K : Int) + (i : Int))))) := (F3.out.alloc _).drew
      have HV4 : Hid (RowAt (W3.alloc (.cells #[.int .i64 M, .int .i64 K, .slice (some ⟨g, 0, none⟩) q q] 121)).drew w1.heap.size 121 #[.int .i64 M, .int .i64 K, .slice (some ⟨g, 0, none⟩) q q]) := (V3.out.alloc _).drew
      have HS4 : Hid (∀ k, k < K → (W3.alloc (.cells #[.int .i64 M, .int .i64 K, .slice (some ⟨g, 0, none⟩) q q] 121)).drew.cell? ⟨g, i * K + k, none⟩ = some (.int .u8 (((fun k => (cauL M K).getD (i * K + k) 0) k : Nat) : Int))) := fun k hk => ((G3.out.alloc _).drew).cell (by have h8 := hcl.out; have h9 := hoq.out; omega)
      have hne5 : Hid (some w1.heap.size ≠ some (w.heap.size + 1)) := fun e => by
        have e2 : w1.heap.size = w.heap.size + 1 := Option.some.inj e
        omega
      clear hW4 W4
      have hmin : Hid (K = Nat.min K 32) := (Nat.min_eq_left hK).symm
      have hfit : Hid (i * 33 + 1 + K ≤ M * 33) := by show _ ≤ _; omega
      go_region_held3 (fun wx => wx.cell? ⟨w1.heap.size, 0, none⟩ = some (.int .i64 M) ∧ wx.cell? ⟨w1.heap.size, 1, none⟩ = some (.int .i64 K) ∧ wx.cell? ⟨w1.heap.size, 2, none⟩ = some (.slice (some ⟨g, 0, none⟩) q q)) ((first | (go_keep; done) | exact ⟨V5.cell 0, V5.cell 1, V5.cell 2⟩)) ((first | (go_at_call 50; refine (irow M K g q i (i * K) (by omega) _ h1 h2 hoq.out (by omega) (by omega)).mono ?_; rintro e w4 ⟨rfl, rfl⟩) | (refine step_copyF (by rfl) _ _ (by rfl) (w.heap.size + 1) (i * 33 + 1) 32 32 g (i * K) K (q - i * K) (by rfl) (by rfl) 96 (M * 33) _ HF4.out K hmin.out (fun k => (cauL M K).getD (i * K + k) 0) HS4.out hfit.out ?_; intro w5 hF5 hg5; have V5 := rowFar HV4.out hg5 hne5.out)))
      have F5 := hid hF5
      have C5 := hid (rowFar ((C3.out.alloc (.cells #[.int .i64 M, .int .i64 K, .slice (some ⟨g, 0, none⟩) q q] 121)).drew) hg5 (by intro e; have e2 : w.heap.size = w.heap.size + 1 := Option.some.inj e; omega))
      have G5 := hid (((G3.out.alloc (.cells #[.int .i64 M, .int .i64 K, .slice (some ⟨g, 0, none⟩) q q] 121)).drew).far hg5 (by intro e; have e2 : g = w.heap.size + 1 := Option.some.inj e; omega))
      have V5' := hid V5
      have B5 : Hid (Below w.heap.size w w5) := ((bal B3.out (.cells #[.int .i64 M, .int .i64 K, .slice (some ⟨g, 0, none⟩) q q] 121) (Nat.le_refl _)).drew).grown hg5 (by show _ ≤ (World.alloc _ _).heap.size; rw [size_al]; have := B3.out.size; omega) (fun b hb => by have e2 : w.heap.size + 1 = b := Option.some.inj hb; omega)
      clear HF4 HV4 HS4 hne5 hF5 hg5 V5 F3 C3 G3 V3 B3 v0 v1 v2
      go_wp2
      go_roundw
      case rel => exact ⟨i + 1, by omega, by go_num, F5.out.congr fun p _ => NX.out p, C5.out, G5.out, V5'.out, B5.out⟩
      case measure => simp [intOf]; omega
    · have hie : i = M := by omega
      have FE : Hid (FRow wr (w.heap.size + 1) 96 (M * 33) (gpF K M)) := HF.out.congr fun p hp => by rw [hie]; exact gpI_end K M p hp
      have hlt' : ¬ (i : Int) < (M : Int) := by omega
      clear hie
      go_wp2
      go_ret
      exact ⟨w.heap.size + 1, rfl, by omega, FE.out, HB.out⟩
end Go.Proofs.YthdmaamocejodaaDoor
