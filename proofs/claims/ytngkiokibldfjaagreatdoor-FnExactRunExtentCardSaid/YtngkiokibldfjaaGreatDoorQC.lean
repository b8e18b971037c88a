import Derived.Test.YtngkiokibldfjaaGreatDoorQB
import Derived.Test.YtngkiokibldfjaaGreatDoorPJ
import Derived.Test.YtngkiokibldfjaaGreatDoorPB
namespace Go.Proofs.YtngkiokibldfjaaGreatDoor
open Go.RowKit
/-! What comes of operations: whether two rows of it are alike. -/
structure Out where
  cd : Int
  dt : ByteArray
  n : Nat
  ts : Nat → ByteArray
  hd : Int
theorem drewN_below (W : World) (j : Nat) : Below W.heap.size W (W.drewN j) := have h := Below.refl W.heap.size W; ⟨h.os, h.tape, h.output, h.size, h.block⟩
set_option maxRecDepth 20000 in
set_option maxHeartbeats 1000000 in
theorem eqOut (c : Int) (d : ByteArray) (a a' : Option Addr) (n cap cap' : Nat) (ts : Nat → ByteArray) (h : Int) (hl : n ≤ 1048576) (w : World) (h1 : Strs w a n cap ts) (h2 : Strs w a' n cap' ts) :
    Calls Tryz.prog 61 #[.agg #[.int .i64 c, .string d, .slice a n cap, .int .i64 h], .agg #[.int .i64 c, .string d, .slice a' n cap', .int .i64 h]] w fun e w' => e = .returned (.bool true) ∧ Below w.heap.size w w' := by
  have d0 : (c != c) = false := by simp
  have d1 : (h != h) = false := by simp
  obtain ⟨W, hW⟩ : ∃ W, W = (w.alloc (.cells #[.int .i64 c, .string d, .slice a n cap, .int .i64 h] 36)).alloc (.cells #[.int .i64 c, .string d, .slice a' n cap', .int .i64 h] 36) := ⟨_, rfl⟩
  have A : RowAt W w.heap.size 36 #[.int .i64 c, .string d, .slice a n cap, .int .i64 h] := by rw [hW]; exact (RowAt.new _ _ _).alloc _
  have A' : RowAt W (w.heap.size + 1) 36 #[.int .i64 c, .string d, .slice a' n cap', .int .i64 h] := by rw [hW]; exact RowAt.next _ _ _ (by rw [size_al])
  have B : Hid (Below w.heap.size w W) := by rw [hW]; exact balE (balE (Below.refl _ _) _) _
  have S1 := hid (h1.below B.out)
  have S2 := hid (h2.below B.out)
  have a0 := A.cell 0
  have a1 := A.cell 1
  have a2 := A.cell 2
  have a3 := A.cell 3
  have b0 := A'.cell 0
  have b1 := A'.cell 1
  have b2 := A'.cell 2
  have b3 := A'.cell 3
  have HA := hid A
  have HA' := hid A'
  have HW := hid hW
  clear hW h1 h2 A A'
  go_enter Tryz.func61, Tryz.ntmps61
  go_upto_region 1 with fail
  rw [← HW.out]
  go_wp2_with fail
  refine (eqStr a n cap a' cap' ts ts hl (fun _ _ => rfl) W S1.out S2.out).mono ?_
  rintro e w2 ⟨rfl, j, hj⟩
  have hb2 : Below W.heap.size W w2 := by rw [hj]; exact drewN_below W j
  clear hj
  have N2 : Hid (Below w.heap.size w w2) := B.out.trans (hb2.mono B.out.size)
  have y3 := (hb2.cell (p := ⟨w.heap.size, 3, none⟩) HA.out.lt).trans a3
  have z3 := (hb2.cell (p := ⟨w.heap.size + 1, 3, none⟩) HA'.out.lt).trans b3
  clear hb2 a0 a1 a2 a3 b0 b1 b2 b3
  go_wp2
  go_ret
  exact ⟨rfl, N2.out⟩
/-- a row of outs that is read -/
def Outs (w : World) (a : Option Addr) (n cap : Nat) (o : Nat → Out) : Prop :=
  n ≤ cap ∧ (n = 0 ∨ ∃ b off, a = some ⟨b, off, none⟩ ∧ b < w.heap.size ∧ ∀ k, k < n → ∃ ak ck, w.cell? ⟨b, off + k * 4, none⟩ = some (.int .i64 (o k).cd) ∧ w.cell? ⟨b, off + k * 4 + 1, none⟩ = some (.string (o k).dt) ∧ w.cell? ⟨b, off + k * 4 + 2, none⟩ = some (.slice ak (o k).n ck) ∧ w.cell? ⟨b, off + k * 4 + 3, none⟩ = some (.int .i64 (o k).hd) ∧ Strs w ak (o k).n ck (o k).ts)
theorem Outs.below {w w' : World} {a : Option Addr} {n cap : Nat} {o : Nat → Out} (h : Outs w a n cap o) (hb : Below w.heap.size w w') : Outs w' a n cap o := by
  refine ⟨h.1, ?_⟩
  rcases h.2 with h0 | ⟨b, off, rfl, h1, h2⟩
  · exact Or.inl h0
  · refine Or.inr ⟨b, off, rfl, Nat.lt_of_lt_of_le h1 hb.size, fun k hk => ?_⟩
    obtain ⟨ak, ck, c0, c1, c2, c3, c4⟩ := h2 k hk
    exact ⟨ak, ck, (hb.cell (p := ⟨b, _, none⟩) h1).trans c0, (hb.cell (p := ⟨b, _, none⟩) h1).trans c1, (hb.cell (p := ⟨b, _, none⟩) h1).trans c2, (hb.cell (p := ⟨b, _, none⟩) h1).trans c3, c4.below hb⟩
set_option maxRecDepth 20000 in
set_option maxHeartbeats 4000000 in
theorem eqOuts (a : Option Addr) (n cap : Nat) (a' : Option Addr) (cap' : Nat) (o : Nat → Out) (hl : n ≤ 1048576) (hk : ∀ k, k < n → (o k).n ≤ 1048576) (w : World) (h : Outs w a n cap o) (h' : Outs w a' n cap' o) :
    Calls Tryz.prog 40 #[.slice a n cap, .slice a' n cap'] w fun e w' => e = .returned (.bool true) ∧ Below w.heap.size w w' := by
  have HH := hid h
  have HH' := hid h'
  have HK := hid hk
  have dn : ((n : Int) != (n : Int)) = false := by simp
  clear h h' hk
  go_enter Tryz.func40, Tryz.ntmps40
  go_wp2_with fail
  go_loopw [5] (fun q wr => ∃ (k : Nat), k ≤ n ∧ q = .int .i64 k ∧ Below w.heap.size w wr) (fun q _ => n - (intOf q).toNat)
  case atStart => exact ⟨0, Nat.zero_le _, rfl, Below.refl _ _⟩
  case round =>
    obtain ⟨k, hk, rfl, hB⟩ := hrel
    have HB := hid hB
    clear hB
    by_cases hlt : k < n
    · have hlt' : (k : Int) < (n : Int) := by omega
      have k0 : (0 : Int) ≤ (k : Int) := by omega
      have nk := HK.out k hlt
      rcases (HH.out.below HB.out).2 with h00 | ⟨b, off, rfl, hbl, hc⟩
      · omega
      rcases (HH'.out.below HB.out).2 with h00 | ⟨b', off', rfl, hbl', hc'⟩
      · omega
      obtain ⟨x, cx, c0, c1, c2, c3, c4⟩ := hc k hlt
      obtain ⟨x', cx', e0, e1, e2, e3, e4⟩ := hc' k hlt
      obtain ⟨C, hC⟩ : ∃ v, v = (o k).cd := ⟨_, rfl⟩
      obtain ⟨D, hD⟩ : ∃ v, v = (o k).dt := ⟨_, rfl⟩
      obtain ⟨M, hM⟩ : ∃ v, v = (o k).n := ⟨_, rfl⟩
      obtain ⟨T, hT⟩ : ∃ v, v = (o k).ts := ⟨_, rfl⟩
      obtain ⟨H, hH⟩ : ∃ v, v = (o k).hd := ⟨_, rfl⟩
      rw [← hC] at c0 e0
      rw [← hD] at c1 e1
      rw [← hM] at c2 e2 c4 e4 nk
      rw [← hT] at c4 e4
      rw [← hH] at c3 e3
      have S := hid c4
      have S' := hid e4
      clear hc hc' hC hD hM hT hH c4 e4
      go_wp2_with fail
      go_region_held3 (fun wx => (wx.cell? ⟨b, off + k * 4, none⟩ = some (.int .i64 C) ∧ wx.cell? ⟨b, off + k * 4 + 1, none⟩ = some (.string D) ∧ wx.cell? ⟨b, off + k * 4 + 2, none⟩ = some (.slice x M cx) ∧ wx.cell? ⟨b, off + k * 4 + 3, none⟩ = some (.int .i64 H)) ∧ wx.cell? ⟨b', off' + k * 4, none⟩ = some (.int .i64 C) ∧ wx.cell? ⟨b', off' + k * 4 + 1, none⟩ = some (.string D) ∧ wx.cell? ⟨b', off' + k * 4 + 2, none⟩ = some (.slice x' M cx') ∧ wx.cell? ⟨b', off' + k * 4 + 3, none⟩ = some (.int .i64 H))
        (first | exact ⟨⟨c0, c1, c2, c3⟩, e0, e1, e2, e3⟩ | exact ⟨⟨(hb2.cell hbl).trans c0, (hb2.cell hbl).trans c1, (hb2.cell hbl).trans c2, (hb2.cell hbl).trans c3⟩, (hb2.cell hbl').trans e0, (hb2.cell hbl').trans e1, (hb2.cell hbl').trans e2, (hb2.cell hbl').trans e3⟩)
        ((go_at_call 61; refine (eqOut C D x x' M cx cx' T H nk _ (S.out.below (Below.refl _ _).drew) (S'.out.below (Below.refl _ _).drew)).mono ?_; rintro e w2 ⟨rfl, hb2⟩))
      have N2 : Hid (Below w.heap.size w w2) := HB.out.drew.trans (hb2.mono HB.out.size)
      clear hb2 c0 c1 c2 c3 e0 e1 e2 e3 HB
      go_wp2
      go_roundw
      case rel => exact ⟨k + 1, by omega, by go_num, N2.out⟩
      case measure => simp [intOf]; omega
    · have hlt' : ¬ (k : Int) < (n : Int) := by omega
      go_wp2
      go_ret
      exact ⟨rfl, HB.out⟩
end Go.Proofs.YtngkiokibldfjaaGreatDoor
namespace Go.Proofs.YtngkiokibldfjaaGreatDoor
open Go.RowKit
/-! An extent behind operations: whether two are alike. -/
set_option maxRecDepth 20000 in
set_option maxHeartbeats 1000000 in
theorem eqRun (d : ByteArray) (s : Int) (a a' : Option Addr) (n cap cap' : Nat) (o : Nat → Out) (hl : n ≤ 1048576) (hk : ∀ k, k < n → (o k).n ≤ 1048576) (w : World) (h1 : Outs w a n cap o) (h2 : Outs w a' n cap' o) :
    Calls Tryz.prog 17 #[.agg #[.string d, .int .i64 s, .slice a n cap], .agg #[.string d, .int .i64 s, .slice a' n cap']] w fun e w' => e = .returned (.bool true) ∧ Below w.heap.size w w' := by
  obtain ⟨W, hW⟩ : ∃ W, W = (w.alloc (.cells #[.string d, .int .i64 s, .slice a n cap] 33)).alloc (.cells #[.string d, .int .i64 s, .slice a' n cap'] 33) := ⟨_, rfl⟩
  have A : RowAt W w.heap.size 33 #[.string d, .int .i64 s, .slice a n cap] := by rw [hW]; exact (RowAt.new _ _ _).alloc _
  have A' : RowAt W (w.heap.size + 1) 33 #[.string d, .int .i64 s, .slice a' n cap'] := by rw [hW]; exact RowAt.next _ _ _ (by rw [size_al])
  have B : Hid (Below w.heap.size w W) := by rw [hW]; exact balE (balE (Below.refl _ _) _) _
  have S1 := hid (h1.below B.out)
  have S2 := hid (h2.below B.out)
  have HK := hid hk
  have a0 := A.cell 0
  have a1 := A.cell 1
  have a2 := A.cell 2
  have b0 := A'.cell 0
  have b1 := A'.cell 1
  have b2 := A'.cell 2
  have HA := hid A
  have HA' := hid A'
  have HW := hid hW
  clear hW h1 h2 A A' hk
  go_enter Tryz.func17, Tryz.ntmps17
  go_upto_region 1 with fail
  rw [← HW.out]
  go_wp2_with fail
  refine (eqExt d s W).mono ?_
  rintro e w2 ⟨rfl, hb2⟩
  have N2 : Hid (Below w.heap.size w w2) := B.out.trans (hb2.mono B.out.size)
  have y2 := (hb2.cell (p := ⟨w.heap.size, 2, none⟩) HA.out.lt).trans a2
  have z2 := (hb2.cell (p := ⟨w.heap.size + 1, 2, none⟩) HA'.out.lt).trans b2
  have T1 := hid (S1.out.below hb2)
  have T2 := hid (S2.out.below hb2)
  clear hb2 a0 a1 a2 b0 b1 b2 S1 S2
  go_wp2_with fail
  refine (eqOuts a n cap a' cap' o hl HK.out w2 T1.out T2.out).mono ?_
  rintro e w3 ⟨rfl, hb3⟩
  have N3 : Hid (Below w.heap.size w w3) := N2.out.trans (hb3.mono N2.out.size)
  clear hb3 y2 z2 T1 T2 N2
  go_wp2
  go_ret
  exact ⟨rfl, N3.out⟩
end Go.Proofs.YtngkiokibldfjaaGreatDoor
namespace Go.Proofs.YtngkiokibldfjaaGreatDoor
open Go.RowKit
/-! Slices of texts: their marks (out of LawStr, for rows longer than what is shown). -/
set_option maxRecDepth 20000 in
set_option maxHeartbeats 2000000 in
theorem markStr0 (a : Option Addr) (cap k0 : Nat) (w : World) : Calls Tryz.prog 62 #[.slice a 0 cap, .int .i64 k0] w fun e w' => e = .returned (.int .i64 k0) ∧ w' = w := by
  go_enter Tryz.func62, Tryz.ntmps62
  go_wp2
  go_loopw [5, 1] (fun x y wr => x = .int .i64 0 ∧ y = .int .i64 k0 ∧ wr = w) (fun _ _ _ => 0)
  case atStart => exact ⟨rfl, rfl, rfl⟩
  case round =>
    obtain ⟨rfl, rfl, rfl⟩ := hrel
    go_wp2
    go_ret
    exact ⟨rfl, rfl⟩
set_option maxRecDepth 20000 in
set_option maxHeartbeats 2000000 in
theorem markStr (b len cap N k0 : Nat) (t : TypeId) (hN : len ≤ N) (f : Nat → Value) (h1 : 1 ≤ k0) (hl : len ≤ 1048576) (hk : k0 ≤ 536870912) (w : World) (h : FRow w b t N f) :
    Calls Tryz.prog 62 #[.slice (some ⟨b, 0, none⟩) len cap, .int .i64 k0] w fun e w' => e = .returned (.int .i64 ((k0 + len : Nat) : Int)) ∧ FRow w' b t N (fun i => if i < len then .string (markB (k0 + i)) else f i) ∧ w.grownBy w' (some b) := by
  have HH := hid h
  clear h
  go_enter Tryz.func62, Tryz.ntmps62
  go_wp2_with fail
  go_loopw [5, 1] (fun x y wr => ∃ (k : Nat), k ≤ len ∧ x = .int .i64 k ∧ y = .int .i64 ((k0 + k : Nat) : Int) ∧ FRow wr b t N (fun i => if i < k then .string (markB (k0 + i)) else f i) ∧ w.grownBy wr (some b)) (fun x _ _ => len - (intOf x).toNat)
  case atStart => exact ⟨0, Nat.zero_le _, rfl, rfl, HH.out.congr fun p _ => by rw [if_neg (by omega)], below_grown (Below.refl _ _) _⟩
  case round =>
    obtain ⟨k, hkl, rfl, rfl, hF, hG⟩ := hrel
    have HF := hid hF
    have HG := hid hG
    clear hF hG HH
    by_cases hlt : k < len
    · have hlt' : (k : Int) < (len : Int) := by omega
      have i0 : (0 : Int) ≤ (k : Int) := by omega
      go_wp2_with fail
      refine (markT (k0 + k) (by omega) (by omega) _).mono ?_
      rintro e w2 ⟨rfl, hb2⟩
      have F2 := hid (HF.out.below hb2 HF.out.lt)
      have G2 := hid (grown_trans HG.out (below_grown hb2 (some b)))
      have k1 := F2.out.cell (show k < N by omega)
      have f1 := F2.out.free k
      obtain ⟨x1, hx1⟩ : ∃ x : Value, x = (if k < k then .string (markB (k0 + k)) else f k) := ⟨_, rfl⟩
      rw [← hx1] at k1
      obtain ⟨m, hm⟩ : ∃ m, m = markB (k0 + k) := ⟨_, rfl⟩
      have N1 : Hid (FRow (w2.setCell ⟨b, k, none⟩ (.string m)) b t N (fun i => if i < k + 1 then .string (markB (k0 + i)) else f i)) := (F2.out.set _ _).congr fun p _ => by
        unfold putF
        by_cases e : p = k
        · rw [if_pos e, if_pos (show p < k + 1 by omega), e, hm]
        · rw [if_neg e]
          show (if p < k then _ else _) = if p < k + 1 then _ else _
          by_cases e2 : p < k
          · rw [if_pos e2, if_pos (show p < k + 1 by omega)]
          · rw [if_neg e2, if_neg (show ¬ p < k + 1 by omega)]
      have N2 : Hid (w.grownBy (w2.setCell ⟨b, k, none⟩ (.string m)) (some b)) := grown_trans G2.out grown_set
      rw [← hm]
      clear hx1 hm HF HG hb2 F2 G2
      go_wp2
      go_roundw
      case rel => exact ⟨k + 1, by omega, by go_num, by go_num, N1.out, N2.out⟩
      case measure => simp [intOf]; omega
    · have hke : k = len := by omega
      have FE : Hid (FRow wr b t N (fun i => if i < len then .string (markB (k0 + i)) else f i)) := HF.out.congr fun p hp => by rw [hke]
      have hlt' : ¬ (k : Int) < (len : Int) := by omega
      subst hke
      clear HF
      go_wp2
      go_ret
      exact ⟨rfl, FE.out, HG.out⟩
set_option maxRecDepth 20000 in
set_option maxHeartbeats 2000000 in
theorem heldStr (a : Option Addr) (len cap k0 : Nat) (h1 : 1 ≤ k0) (hl : len ≤ 1048576) (hk : k0 ≤ 536870912) (w : World) (h : Strs w a len cap (fun i => markB (k0 + i))) :
    Calls Tryz.prog 63 #[.slice a len cap, .int .i64 k0] w fun e w' => e = .returned (.int .i64 ((k0 + len : Nat) : Int)) ∧ Below w.heap.size w w' := by
  have HH := hid h
  clear h
  go_enter Tryz.func63, Tryz.ntmps63
  go_wp2_with fail
  go_loopw [5, 1] (fun x y wr => ∃ (k : Nat), k ≤ len ∧ x = .int .i64 k ∧ y = .int .i64 ((k0 + k : Nat) : Int) ∧ Below w.heap.size w wr) (fun x _ _ => len - (intOf x).toNat)
  case atStart => exact ⟨0, Nat.zero_le _, rfl, rfl, Below.refl _ _⟩
  case round =>
    obtain ⟨k, hkl, rfl, rfl, hB⟩ := hrel
    have HB := hid hB
    clear hB
    by_cases hlt : k < len
    · have hlt' : (k : Int) < (len : Int) := by omega
      have i0 : (0 : Int) ≤ (k : Int) := by omega
      rcases (HH.out.below HB.out).2 with h00 | ⟨b, off, rfl, hbl, hc⟩
      · omega
      have c1 := hc k hlt
      obtain ⟨m, hm⟩ : ∃ m, m = markB (k0 + k) := ⟨_, rfl⟩
      have HM := hid hm
      have c1 : wr.cell? ⟨b, off + k, none⟩ = some (.string m) := by rw [hm]; exact hc k hlt
      clear hc hm
      go_wp2_with fail
      go_region_held3 (fun wx => wx.cell? ⟨b, off + k, none⟩ = some (.string m)) ((first | exact y1 | exact c1 | (go_keep; done))) ((go_at_call 42; refine (markT (k0 + k) (by omega) (by omega) _).mono ?_; rintro e w2 ⟨rfl, hb2⟩; rw [← HM.out]; have y1 := (hb2.cell (p := ⟨b, off + k, none⟩) hbl).trans (show wr.drew.cell? _ = _ from c1)))
      have N2 : Hid (Below w.heap.size w w2) := HB.out.drew.trans (hb2.mono HB.out.size)
      clear hb2 y1 c1 HB
      go_wp2
      go_roundw
      case rel => exact ⟨k + 1, by omega, by go_num, by go_num, N2.out⟩
      case measure => simp [intOf]; omega
    · have hke : k = len := by omega
      have hlt' : ¬ (k : Int) < (len : Int) := by omega
      subst hke
      go_wp2
      go_ret
      exact ⟨rfl, HB.out⟩
end Go.Proofs.YtngkiokibldfjaaGreatDoor
namespace Go.Proofs.YtngkiokibldfjaaGreatDoor
open Go.RowKit
/-! The marks on what comes of operations: whether they are held. -/
/-- where the marks of the k-th begin -/
def mkO (n : Nat → Nat) (k0 : Nat) : Nat → Nat
  | 0 => k0
  | k + 1 => mkO n k0 k + n k + 3
theorem mkO_ge (n : Nat → Nat) (k0 k : Nat) : k0 ≤ mkO n k0 k := by
  induction k with
  | zero => exact Nat.le_refl _
  | succ k ih => show _ ≤ mkO n k0 k + n k + 3; omega
theorem mkO_mono (n : Nat → Nat) (k0 : Nat) {j k : Nat} (h : j ≤ k) : mkO n k0 j ≤ mkO n k0 k := by
  induction k with
  | zero => rw [Nat.le_zero.mp h]; exact Nat.le_refl _
  | succ k ih => rcases Nat.lt_or_ge j (k + 1) with h1 | h1
                 · have := ih (by omega); show _ ≤ mkO n k0 k + n k + 3; omega
                 · rw [show j = k + 1 by omega]; exact Nat.le_refl _
/-- what is marked -/
def mOut (n : Nat → Nat) (k0 k : Nat) : Out := ⟨(mkO n k0 k : Nat), markB (mkO n k0 k + 1), n k, fun i => markB (mkO n k0 k + 2 + i), ((mkO n k0 k + 2 + n k : Nat) : Int)⟩
set_option maxRecDepth 20000 in
set_option maxHeartbeats 4000000 in
theorem heldOuts (a : Option Addr) (N cap k0 : Nat) (n : Nat → Nat) (h1 : 1 ≤ k0) (hl : N ≤ 1048576) (hn : ∀ k, k < N → n k ≤ 1048576) (hm : mkO n k0 N ≤ 536870912) (w : World) (h : Outs w a N cap (mOut n k0)) :
    Calls Tryz.prog 44 #[.slice a N cap, .int .i64 k0] w fun e w' => e = .returned (.int .i64 ((mkO n k0 N : Nat) : Int)) ∧ Below w.heap.size w w' := by
  have HH := hid h
  have HN := hid hn
  have HM := hid hm
  clear h hn hm
  go_enter Tryz.func44, Tryz.ntmps44
  go_wp2_with fail
  go_loopw [5, 1] (fun x y wr => ∃ (k : Nat), k ≤ N ∧ x = .int .i64 k ∧ y = .int .i64 ((mkO n k0 k : Nat) : Int) ∧ Below w.heap.size w wr) (fun x _ _ => N - (intOf x).toNat)
  case atStart => exact ⟨0, Nat.zero_le _, rfl, rfl, Below.refl _ _⟩
  case round =>
    obtain ⟨k, hkl, rfl, rfl, hB⟩ := hrel
    have HB := hid hB
    clear hB
    by_cases hlt : k < N
    · have hlt' : (k : Int) < (N : Int) := by omega
      have i0 : (0 : Int) ≤ (k : Int) := by omega
      have hnk := HN.out k hlt
      have hge := mkO_ge n k0 k
      have hmo : mkO n k0 k + n k + 3 ≤ 536870912 := Nat.le_trans (mkO_mono n k0 (show k + 1 ≤ N by omega)) HM.out
      have hs1 : Hid (mkO n k0 (k + 1) = mkO n k0 k + n k + 3) := rfl
      rcases (HH.out.below HB.out).2 with h00 | ⟨b, off, rfl, hbl, hc⟩
      · omega
      obtain ⟨x, cx, c0, c1, c2, c3, c4⟩ := hc k hlt
      simp only [mOut] at c0 c1 c2 c3 c4
      generalize mkO n k0 k = q at c0 c1 c2 c3 c4 hge hmo hs1
      generalize n k = M at c2 c3 c4 hnk hmo hs1
      have M1 := fun w => hid (markT (q + 1) (by omega) (by omega) w)
      generalize markB (q + 1) = m1 at M1 c1
      have S := hid c4
      have K2 := fun w h => hid (heldStr x M cx (q + 2) (by omega) (by omega) (by omega) w h)
      rw [show ((q + 1 : Nat) : Int) = (q : Int) + 1 by omega] at M1
      rw [show ((q + 2 : Nat) : Int) = (q : Int) + 1 + 1 by omega] at K2
      have d0 : ((q : Int) != (q : Int)) = false := by simp
      have d3 : (((q + 2 + M : Nat) : Int) != ((q + 2 + M : Nat) : Int)) = false := by simp
      have d4 : ¬ ((q + 2 + M : Nat) : Int) < 0 := by omega
      obtain ⟨z, hz⟩ : ∃ z : Nat, z = q + 2 + M := ⟨_, rfl⟩
      rw [← hz] at c3 K2 d3 d4
      have hz1 : z ≤ 536870912 := by omega
      have HZ := hid hz
      clear hc c4 hz
      go_upto_region 7 with fail
      go_region_held3 (fun wx => wx.cell? ⟨b, off + k * 4 + 1, none⟩ = some (.string m1)) (first | exact c1 | exact (hb2.cell hbl).trans c1) ((go_at_call 42; refine (M1 _).out.mono ?_; rintro e w2 ⟨rfl, hb2⟩))
      have N2 : Hid (Below w.heap.size w w2) := HB.out.drew.trans (hb2.mono HB.out.size)
      have bl2 : b < w2.heap.size := Nat.lt_of_lt_of_le hbl hb2.size
      have e2 := (hb2.cell (p := ⟨b, off + k * 4 + 2, none⟩) hbl).trans c2
      have e3 := (hb2.cell (p := ⟨b, off + k * 4 + 3, none⟩) hbl).trans c3
      have S2 : Hid (Strs w2 x M cx fun i => markB (q + 2 + i)) := (S.out.below (Below.refl wr.heap.size wr).drew).below hb2
      clear hb2 c0 c1 c2 c3 S HB
      go_wp2_with fail
      refine (K2 _ S2.out).out.mono ?_
      rintro e w3 ⟨rfl, hb3⟩
      have N3 : Hid (Below w.heap.size w w3) := N2.out.trans (hb3.mono N2.out.size)
      have f3 := (hb3.cell (p := ⟨b, off + k * 4 + 3, none⟩) bl2).trans e3
      clear hb3 e2 e3 S2 N2
      go_wp2
      go_roundw
      case rel => exact ⟨k + 1, by omega, by go_num, by rw [hs1.out, show q + M + 3 = z + 1 by have := HZ.out; omega]; go_num, N3.out⟩
      case measure => simp [intOf]; omega
    · have hke : k = N := by omega
      subst hke
      have hlt' : ¬ (k : Int) < (k : Int) := by omega
      go_wp2
      go_ret
      exact ⟨rfl, HB.out⟩
end Go.Proofs.YtngkiokibldfjaaGreatDoor
