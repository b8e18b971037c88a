import Derived.Test.YtjacjcbcccbjoaaDoorFRow
import Derived.Test.YtjacjcbcccbjoaaDoorInts
import Derived.Test.YtjacjcbcccbjoaaDoorCGlob
import Derived.Deep.RegionHeld3
namespace Go.Proofs.YtjacjcbcccbjoaaDoor
open Go.RowKit
/-! Slices of texts: what the laws do with them. -/
def Strs (w : World) (a : Option Addr) (len cap : Nat) (ts : Nat → ByteArray) : Prop :=
  len ≤ cap ∧ (len = 0 ∨ ∃ b off, a = some ⟨b, off, none⟩ ∧ b < w.heap.size ∧ ∀ i, i < len → w.cell? ⟨b, off + i, none⟩ = some (.string (ts i)))
theorem Strs.below {w w' : World} {a : Option Addr} {len cap : Nat} {ts : Nat → ByteArray} (h : Strs w a len cap ts) (hb : Below w.heap.size w w') : Strs w' a len cap ts := by
  refine ⟨h.1, ?_⟩
  rcases h.2 with h0 | ⟨b, off, rfl, h1, h2⟩
  · exact Or.inl h0
  · exact Or.inr ⟨b, off, rfl, Nat.lt_of_lt_of_le h1 hb.size, fun i hi => (hb.cell (p := ⟨b, off + i, none⟩) h1).trans (h2 i hi)⟩
theorem FRow.strs {w : World} {b n : Nat} {t : TypeId} {ts : Nat → ByteArray} (h : FRow w b t n (fun i => .string (ts i))) : Strs w (some ⟨b, 0, none⟩) n n ts :=
  ⟨Nat.le_refl _, Or.inr ⟨b, 0, rfl, h.lt, fun i hi => by rw [Nat.zero_add]; exact h.cell hi⟩⟩
theorem Tryd.infoS' : (Tryd.prog.info? 9).map (fun i => (i.zero, i.size, i.bytes)) = some (some (.string ⟨#[]⟩), 1, 16) := by kernel_rfl
theorem mkS' (w : World) (n : Nat) (hn : n ≤ 1048576) : (Instr.makeSlice 34 (.int .i64 n) (.int .i64 n)).run Tryd.prog w = .ok (.slice (some ⟨w.heap.size, 0, none⟩) n n) (w.alloc (.cells (madeCells #[.string ⟨#[]⟩] n) 9)) := by
  obtain ⟨i0, hi, hz0, hz1, hz2⟩ := info_parts Tryd.infoS'
  have := run_make (P := Tryd.prog) w 34 9 i0 _ Tryd.underlying34 hi hz0 .i64 .i64 n n (by omega) (Int.le_refl _) (by rw [hz2]; omega) (by omega)
  rw [this, hz1]
  simp only [Int.toNat_natCast, Value.cells, Nat.mul_one]
set_option maxRecDepth 20000 in
set_option maxHeartbeats 2000000 in
theorem eqStr (a : Option Addr) (len cap : Nat) (a' : Option Addr) (cap' : Nat) (ts ts' : Nat → ByteArray) (hl : len ≤ 1048576) (he : ∀ i, i < len → ts i = ts' i) (w : World) (h : Strs w a len cap ts) (h' : Strs w a' len cap' ts') :
    Calls Tryd.prog 50 #[.slice a len cap, .slice a' len cap'] w fun e w' => e = .returned (.bool true) ∧ ∃ k, w' = w.drewN k := by
  have HH := hid h
  have HH' := hid h'
  have HE := hid he
  have dn : ((len : Int) != (len : Int)) = false := by simp
  clear h h' he
  go_enter Tryd.func50, Tryd.ntmps50
  go_wp2_with fail
  go_loopw [5] (fun y wr => ∃ (k q : Nat), k ≤ len ∧ y = .int .i64 k ∧ wr = w.drewN q) (fun y _ => len - (intOf y).toNat)
  case atStart => exact ⟨0, 0, Nat.zero_le _, rfl, rfl⟩
  case round =>
    obtain ⟨k, q, hk, rfl, rfl⟩ := hrel
    by_cases hlt : k < len
    · have hlt' : (k : Int) < (len : Int) := by omega
      have k0 : (0 : Int) ≤ (k : Int) := by omega
      rcases HH.out.2 with h00 | ⟨b, off, rfl, hbl, hc⟩
      · omega
      rcases HH'.out.2 with h00 | ⟨b', off', rfl, hbl', hc'⟩
      · omega
      have c1 : w.cell? ⟨b, off + k, none⟩ = some (.string (ts k)) := hc k hlt
      have c2 : w.cell? ⟨b', off' + k, none⟩ = some (.string (ts k)) := by rw [HE.out k hlt]; exact hc' k hlt
      obtain ⟨t, ht⟩ : ∃ t, t = ts k := ⟨_, rfl⟩
      rw [← ht] at c1 c2
      clear hc hc' ht
      go_wp2_with fail
      go_quiet (fail)
      go_wp2
      -- @cut1
      go_roundw
      case rel => exact ⟨k + 1, _, by omega, by go_num, rfl⟩
      case measure => simp [intOf]; omega
    · have hlt' : ¬ (k : Int) < (len : Int) := by omega
      go_wp2
      go_ret
      exact ⟨rfl, q, rfl⟩
theorem bal9 {w w' : World} (h : Below w.heap.size w w') (o : Obj) : Below w.heap.size w (w'.alloc o) := h.alloc h.size o
/-- the digits of a number ahead of a text -/
def digs : Nat → Nat → ByteArray → ByteArray
  | 0, _, s => s
  | f + 1, k, s => if k = 0 then s else digs f (k / 10) (strOfNums [((48 + k % 10 : Nat) : Int)] ++ s)
theorem digs_zero (f : Nat) (s : ByteArray) : digs f 0 s = s := by cases f <;> simp [digs]
/-- a mark -/
def markB (k : Nat) : ByteArray := ⟨#[109]⟩ ++ digs 20 k ⟨#[]⟩
theorem conv1 (W : World) (d : Int) : (convert 35 9 (.slice (some ⟨W.heap.size, 0, none⟩) 1 1)).run Tryd.prog (W.alloc (.cells #[.int .u8 d] 5)) = .ok (.string (strOfNums [d])) (W.alloc (.cells #[.int .u8 d] 5)) :=
  run_convert_bytes_arg (P := Tryd.prog) _ 35 5 Tryd.underlying35 Tryd.underlying5 W.heap.size 0 1 1 [d] rfl (fun i hi => by
    have e : i = 0 := by omega
    subst e
    exact (RowAt.new W 5 #[.int .u8 d]).cell 0) 9 Tryd.underlying9
set_option maxRecDepth 20000 in
set_option maxHeartbeats 2000000 in
theorem markT (k0 : Nat) (h1 : 1 ≤ k0) (hk : k0 ≤ 1073741824) (w : World) :
    Calls Tryd.prog 51 #[.int .i64 k0] w fun e w' => e = .returned (.string (markB k0)) ∧ Below w.heap.size w w' := by
  have d0 : ¬ (k0 : Int) ≤ 0 := by omega
  go_enter Tryd.func51, Tryd.ntmps51
  go_wp2_with fail
  go_loopw [0, 3] (fun x y wr => ∃ (f k : Nat) (s : ByteArray), k < 10 ^ f ∧ s.size + f ≤ 20 ∧ k ≤ 1073741824 ∧ x = .int .i64 k ∧ y = .string s ∧ digs f k s = digs 20 k0 ⟨#[]⟩ ∧ Below w.heap.size w wr) (fun x _ _ => (intOf x).toNat)
  case atStart => exact ⟨20, k0, ⟨#[]⟩, by omega, Nat.le_refl _, hk, rfl, rfl, rfl, Below.refl _ _⟩
  case round =>
    obtain ⟨f, k, s, hf, hsf, hkb, rfl, rfl, hd, hb⟩ := hrel
    have HD := hid hd
    have HB := hid hb
    clear hd hb
    by_cases hlt : 0 < k
    · have hlt' : (0 : Int) < (k : Int) := by omega
      obtain ⟨f', rfl⟩ : ∃ f', f = f' + 1 := ⟨f - 1, by cases f with | zero => simp at hf; omega | succ n => rfl⟩
      obtain ⟨d, hdd⟩ : ∃ d, d = 48 + k % 10 := ⟨_, rfl⟩
      have e1 : (k : Int) % 10 = ((k % 10 : Nat) : Int) := by simp
      have e2 : IntKind.u8.wrap (48 + (k : Int) % 10) = (d : Int) := by rw [IntKind.wrap_u8']; omega
      have e2' : IntKind.u8.wrap (48 + (k : Int).tmod 10) = (d : Int) := by rw [Int.tmod_eq_emod_of_nonneg (by omega)]; exact e2
      have hcv := fun W => conv1 W (d : Int)
      have ND : Hid (digs f' (k / 10) (strOfNums [((d : Nat) : Int)] ++ s) = digs 20 k0 ⟨#[]⟩) := by
        have h9 := HD.out
        unfold digs at h9
        rw [if_neg (by omega), ← hdd] at h9
        exact h9
      have hf' : k / 10 < 10 ^ f' := by rw [Nat.pow_succ] at hf; omega
      have hz1 : (strOfNums [(d : Int)]).size = 1 := strOfNums_size _
      have hz2 : (strOfNums [(d : Int)] ++ s).size + f' ≤ 20 := by rw [ByteArray.size_append, hz1]; omega
      have hz3 : Hid ((strOfNums [(d : Int)] ++ s).size + f' ≤ 20) := hz2
      clear hdd e1 hz2
      go_wp2
      go_roundw
      case rel => exact ⟨f', k / 10, strOfNums [((d : Nat) : Int)] ++ s, hf', hz3.out, by omega, by go_num, rfl, ND.out, bal9 HB.out _⟩
      case measure => simp [intOf]; omega
    · have hke : k = 0 := by omega
      have ND : Hid (s = digs 20 k0 ⟨#[]⟩) := by have h9 := HD.out; rw [hke, digs_zero] at h9; exact h9
      have hlt' : ¬ (0 : Int) < (k : Int) := by omega
      clear hke
      go_wp2
      go_ret
      exact ⟨by rw [markB, ← ND.out]; rfl, HB.out⟩
set_option maxRecDepth 20000 in
set_option maxHeartbeats 2000000 in
theorem markStr0 (a : Option Addr) (cap k0 : Nat) (w : World) : Calls Tryd.prog 30 #[.slice a 0 cap, .int .i64 k0] w fun e w' => e = .returned (.int .i64 k0) ∧ w' = w := by
  go_enter Tryd.func30, Tryd.ntmps30
  go_wp2
  go_loopw [5, 1] (fun x y wr => x = .int .i64 0 ∧ y = .int .i64 k0 ∧ wr = w) (fun _ _ _ => 0)
  case atStart => exact ⟨rfl, rfl, rfl⟩
  case round =>
    obtain ⟨rfl, rfl, rfl⟩ := hrel
    go_wp2
    go_ret
    exact ⟨rfl, rfl⟩
set_option maxRecDepth 20000 in
set_option maxHeartbeats 2000000 in
theorem markStr (b len k0 : Nat) (t : TypeId) (f : Nat → Value) (h1 : 1 ≤ k0) (hl : len ≤ 1048576) (hk : k0 ≤ 1048576) (w : World) (h : FRow w b t len f) :
    Calls Tryd.prog 30 #[.slice (some ⟨b, 0, none⟩) len len, .int .i64 k0] w fun e w' => e = .returned (.int .i64 ((k0 + len : Nat) : Int)) ∧ FRow w' b t len (fun i => .string (markB (k0 + i))) ∧ w.grownBy w' (some b) := by
  have HH := hid h
  clear h
  go_enter Tryd.func30, Tryd.ntmps30
  go_wp2_with fail
  go_loopw [5, 1] (fun x y wr => ∃ (k : Nat), k ≤ len ∧ x = .int .i64 k ∧ y = .int .i64 ((k0 + k : Nat) : Int) ∧ FRow wr b t len (fun i => if i < k then .string (markB (k0 + i)) else f i) ∧ w.grownBy wr (some b)) (fun x _ _ => len - (intOf x).toNat)
  case atStart => exact ⟨0, Nat.zero_le _, rfl, rfl, HH.out.congr fun p _ => by rw [if_neg (by omega)], below_grown (Below.refl _ _) _⟩
  case round =>
    obtain ⟨k, hkl, rfl, rfl, hF, hG⟩ := hrel
    have HF := hid hF
    have HG := hid hG
    clear hF hG HH
    by_cases hlt : k < len
    · have hlt' : (k : Int) < (len : Int) := by omega
      have i0 : (0 : Int) ≤ (k : Int) := by omega
      go_wp2_with fail
      refine (markT (k0 + k) (by omega) (by omega) _).mono ?_
      rintro e w2 ⟨rfl, hb2⟩
      have F2 := hid (HF.out.below hb2 HF.out.lt)
      have G2 := hid (grown_trans HG.out (below_grown hb2 (some b)))
      have k1 := F2.out.cell hlt
      have f1 := F2.out.free k
      obtain ⟨x1, hx1⟩ : ∃ x : Value, x = (if k < k then .string (markB (k0 + k)) else f k) := ⟨_, rfl⟩
      rw [← hx1] at k1
      obtain ⟨m, hm⟩ : ∃ m, m = markB (k0 + k) := ⟨_, rfl⟩
      have N1 : Hid (FRow (w2.setCell ⟨b, k, none⟩ (.string m)) b t len (fun i => if i < k + 1 then .string (markB (k0 + i)) else f i)) := (F2.out.set _ _).congr fun p _ => by
        unfold putF
        by_cases e : p = k
        · rw [if_pos e, if_pos (show p < k + 1 by omega), e, hm]
        · rw [if_neg e]
          show (if p < k then _ else _) = if p < k + 1 then _ else _
          by_cases e2 : p < k
          · rw [if_pos e2, if_pos (show p < k + 1 by omega)]
          · rw [if_neg e2, if_neg (show ¬ p < k + 1 by omega)]
      have N2 : Hid (w.grownBy (w2.setCell ⟨b, k, none⟩ (.string m)) (some b)) := grown_trans G2.out grown_set
      rw [← hm]
      clear hx1 hm HF HG hb2 F2 G2
      go_wp2
      go_roundw
      case rel => exact ⟨k + 1, by omega, by go_num, by go_num, N1.out, N2.out⟩
      case measure => simp [intOf]; omega
    · have hke : k = len := by omega
      have FE : Hid (FRow wr b t len (fun i => .string (markB (k0 + i)))) := HF.out.congr fun p hp => by rw [if_pos (by omega)]
      have hlt' : ¬ (k : Int) < (len : Int) := by omega
      subst hke
      clear HF
      go_wp2
      go_ret
      exact ⟨rfl, FE.out, HG.out⟩
set_option maxRecDepth 20000 in
set_option maxHeartbeats 2000000 in
theorem heldStr (a : Option Addr) (len cap k0 : Nat) (h1 : 1 ≤ k0) (hl : len ≤ 1048576) (hk : k0 ≤ 1048576) (w : World) (h : Strs w a len cap (fun i => markB (k0 + i))) :
    Calls Tryd.prog 31 #[.slice a len cap, .int .i64 k0] w fun e w' => e = .returned (.int .i64 ((k0 + len : Nat) : Int)) ∧ Below w.heap.size w w' := by
  have HH := hid h
  clear h
  go_enter Tryd.func31, Tryd.ntmps31
  go_wp2_with fail
  go_loopw [5, 1] (fun x y wr => ∃ (k : Nat), k ≤ len ∧ x = .int .i64 k ∧ y = .int .i64 ((k0 + k : Nat) : Int) ∧ Below w.heap.size w wr) (fun x _ _ => len - (intOf x).toNat)
  case atStart => exact ⟨0, Nat.zero_le _, rfl, rfl, Below.refl _ _⟩
  case round =>
    obtain ⟨k, hkl, rfl, rfl, hB⟩ := hrel
    have HB := hid hB
    clear hB
    by_cases hlt : k < len
    · have hlt' : (k : Int) < (len : Int) := by omega
      have i0 : (0 : Int) ≤ (k : Int) := by omega
      rcases (HH.out.below HB.out).2 with h00 | ⟨b, off, rfl, hbl, hc⟩
      · omega
      have c1 := hc k hlt
      obtain ⟨m, hm⟩ : ∃ m, m = markB (k0 + k) := ⟨_, rfl⟩
      have HM := hid hm
      have c1 : wr.cell? ⟨b, off + k, none⟩ = some (.string m) := by rw [hm]; exact hc k hlt
      clear hc hm
      go_wp2_with fail
      go_region_held3 (fun wx => wx.cell? ⟨b, off + k, none⟩ = some (.string m)) ((first | exact y1 | exact c1 | (go_keep; done))) ((go_at_call 51; refine (markT (k0 + k) (by omega) (by omega) _).mono ?_; rintro e w2 ⟨rfl, hb2⟩; rw [← HM.out]; have y1 := (hb2.cell (p := ⟨b, off + k, none⟩) hbl).trans (show wr.drew.cell? _ = _ from c1)))
      have N2 : Hid (Below w.heap.size w w2) := HB.out.drew.trans (hb2.mono HB.out.size)
      clear hb2 y1 c1 HB
      go_wp2
      go_roundw
      case rel => exact ⟨k + 1, by omega, by go_num, by go_num, N2.out⟩
      case measure => simp [intOf]; omega
    · have hke : k = len := by omega
      have hlt' : ¬ (k : Int) < (len : Int) := by omega
      subst hke
      go_wp2
      go_ret
      exact ⟨rfl, HB.out⟩
end Go.Proofs.YtjacjcbcccbjoaaDoor
