import Derived.Test.YtmfhkhhdcmnpdaaLawMb2
namespace Go.Proofs.Ytmfhkhhdcmnpdaa
open Go.RowKit
set_option linter.unusedVariables false
/-! Members marked, and their marks held (by genlawmb3.py). -/
def kM (k0 N : Nat) (s : Gst) : Nat → Nat
  | 0 => k0
  | i + 1 => kM k0 N s i + 4 + (s i).lg.length * 2 + N
theorem kM_ge (k0 N : Nat) (s : Gst) : ∀ i, k0 ≤ kM k0 N s i
  | 0 => Nat.le_refl _
  | i + 1 => by have := kM_ge k0 N s i; rw [kM]; omega
theorem kM_le {k0 N : Nat} {s : Gst} (hN : N ≤ 9) (hs : ∀ j, (s j).lg.length ≤ 500) : ∀ i, kM k0 N s i ≤ k0 + i * 1100
  | 0 => by rw [kM]; omega
  | i + 1 => by have := kM_le (k0 := k0) hN hs i; have := hs i; rw [kM]; omega
/-- a member's cells, marked -/
def mkM (k0 : Nat) (la : Nat → Option Addr) (lc mb : Nat → Nat) (N : Nat) (s : Gst) (p : Nat) : Value :=
  if p % 6 = 0 then .int .i64 ((kM k0 N s (p / 6) : Nat) : Int) else if p % 6 = 1 then .int .i64 ((kM k0 N s (p / 6) : Nat) + 1 : Int) else if p % 6 = 2 then .bool (((kM k0 N s (p / 6) : Nat) + 1 + 1 : Int) % 3 == 0) else if p % 6 = 3 then .int .i64 ((kM k0 N s (p / 6) : Nat) + 1 + 1 + 1 : Int) else mbF la lc mb N s p
theorem mkM0 (k0 : Nat) (la : Nat → Option Addr) (lc mb : Nat → Nat) (N : Nat) (s : Gst) (i K : Nat) (hK : K = kM k0 N s i) : mkM k0 la lc mb N s (i * 6) = .int .i64 (K : Int) := by unfold mkM; rw [if_pos (by omega), show (i * 6) / 6 = i by omega, hK]
theorem mkM1 (k0 : Nat) (la : Nat → Option Addr) (lc mb : Nat → Nat) (N : Nat) (s : Gst) (i K : Nat) (hK : K = kM k0 N s i) : mkM k0 la lc mb N s (i * 6 + 1) = .int .i64 ((K : Int) + 1) := by unfold mkM; rw [if_neg (by omega), if_pos (by omega), show (i * 6 + 1) / 6 = i by omega, hK]
theorem mkM2 (k0 : Nat) (la : Nat → Option Addr) (lc mb : Nat → Nat) (N : Nat) (s : Gst) (i K : Nat) (hK : K = kM k0 N s i) : mkM k0 la lc mb N s (i * 6 + 2) = .bool (((K : Int) + 1 + 1) % 3 == 0) := by unfold mkM; rw [if_neg (by omega), if_neg (by omega), if_pos (by omega), show (i * 6 + 2) / 6 = i by omega, hK]
theorem mkM3 (k0 : Nat) (la : Nat → Option Addr) (lc mb : Nat → Nat) (N : Nat) (s : Gst) (i K : Nat) (hK : K = kM k0 N s i) : mkM k0 la lc mb N s (i * 6 + 3) = .int .i64 ((K : Int) + 1 + 1 + 1) := by unfold mkM; rw [if_neg (by omega), if_neg (by omega), if_neg (by omega), if_pos (by omega), show (i * 6 + 3) / 6 = i by omega, hK]
theorem mkM4 (k0 : Nat) (la : Nat → Option Addr) (lc mb : Nat → Nat) (N : Nat) (s : Gst) (i : Nat) : mkM k0 la lc mb N s (i * 6 + 4) = .slice (la i) (s i).lg.length (lc i) := by unfold mkM; rw [if_neg (by omega), if_neg (by omega), if_neg (by omega), if_neg (by omega), mbF4]
theorem mkM5 (k0 : Nat) (la : Nat → Option Addr) (lc mb : Nat → Nat) (N : Nat) (s : Gst) (i : Nat) : mkM k0 la lc mb N s (i * 6 + 5) = .slice (some ⟨mb i, 0, none⟩) N N := by unfold mkM; rw [if_neg (by omega), if_neg (by omega), if_neg (by omega), if_neg (by omega), mbF5]
def upK (k0 : Nat) (la : Nat → Option Addr) (lc mb : Nat → Nat) (N : Nat) (s : Gst) (f : Nat → Value) (i p : Nat) : Value := if p < i * 6 then mkM k0 la lc mb N s p else f p
theorem upK_put (k0 : Nat) (la : Nat → Option Addr) (lc mb : Nat → Nat) (N : Nat) (s : Gst) (f : Nat → Value) (i K p : Nat) (hK : K = kM k0 N s i) (h4 : f (i * 6 + 4) = .slice (la i) (s i).lg.length (lc i)) (h5 : f (i * 6 + 5) = .slice (some ⟨mb i, 0, none⟩) N N) :
    putF (putF (putF (putF (upK k0 la lc mb N s f i) (i * 6) (.int .i64 (K : Int))) (i * 6 + 1) (.int .i64 ((K : Int) + 1))) (i * 6 + 2) (.bool (((K : Int) + 1 + 1) % 3 == 0))) (i * 6 + 3) (.int .i64 ((K : Int) + 1 + 1 + 1)) p = upK k0 la lc mb N s f (i + 1) p := by
  unfold putF
  by_cases e : p / 6 = i
  · have q : upK k0 la lc mb N s f (i + 1) p = mkM k0 la lc mb N s p := if_pos (by omega)
    have q2 : upK k0 la lc mb N s f i p = f p := if_neg (by omega)
    rw [q, q2]
    obtain ⟨r, hr, rfl⟩ : ∃ r, r < 6 ∧ p = i * 6 + r := ⟨p % 6, by omega, by omega⟩
    rcases (by omega : r = 0 ∨ r = 1 ∨ r = 2 ∨ r = 3 ∨ r = 4 ∨ r = 5) with rfl | rfl | rfl | rfl | rfl | rfl
    · rw [Nat.add_zero, mkM0 k0 la lc mb N s i K hK, if_neg (by omega), if_neg (by omega), if_neg (by omega), if_pos rfl]
    · rw [mkM1 k0 la lc mb N s i K hK, if_neg (by omega), if_neg (by omega), if_pos rfl]
    · rw [mkM2 k0 la lc mb N s i K hK, if_neg (by omega), if_pos rfl]
    · rw [mkM3 k0 la lc mb N s i K hK, if_pos rfl]
    · rw [mkM4, if_neg (by omega), if_neg (by omega), if_neg (by omega), if_neg (by omega), h4]
    · rw [mkM5, if_neg (by omega), if_neg (by omega), if_neg (by omega), if_neg (by omega), h5]
  · rw [if_neg (by omega), if_neg (by omega), if_neg (by omega), if_neg (by omega)]
    unfold upK
    by_cases h : p < i * 6
    · rw [if_pos h, if_pos (by omega)]
    · rw [if_neg h, if_neg (by omega)]
/-- a marked log -/
def LgM (w : World) (a : Option Addr) (n c k : Nat) : Prop := n = 0 ∨ ∃ g f0, a = some ⟨g, 0, none⟩ ∧ n ≤ c ∧ FRow w g 46 (c * 2) (upM mkE k (n * 2) f0)
/-- members, the first i of them marked -/
structure MdI (w : World) (B g c i : Nat) (k0 : Nat) (la : Nat → Option Addr) (lc mb : Nat → Nat) (N : Nat) (s : Gst) (f : Nat → Value) : Prop where
  row : FRow w g 36 (c * 6) (upK k0 la lc mb N s f i)
  lgd : ∀ j, j < i → LgM w (la j) (s j).lg.length (lc j) (kM k0 N s j + 4)
  mtd : ∀ j, j < i → Wr .i64 w (mb j) 0 (marks (kM k0 N s j + 4 + (s j).lg.length * 2) N)
  log : ∀ j, i ≤ j → j < N → OwnGe w B (.slice (la j) (s j).lg.length (lc j)) (s j).lg
  mat : ∀ j, i ≤ j → j < N → Wr .i64 w (mb j) 0 (s j).mt
/-- what does not hang on the world -/
structure MdA (B g c : Nat) (la : Nat → Option Addr) (lc mb : Nat → Nat) (N : Nat) (s : Gst) (f : Nat → Value) : Prop where
  lo : B ≤ g
  cap : N ≤ c
  fs : ∀ p, p < N * 6 → f p = mbF la lc mb N s p
  ml : ∀ j, j < N → (s j).mt.length = N ∧ B ≤ mb j ∧ mb j ≠ g
  gl : ∀ j x, j < N → (Value.slice (la j) (s j).lg.length (lc j)).ownBlock = some x → B ≤ x ∧ x ≠ g ∧ ∀ k, k < N → x ≠ mb k
  nem : ∀ i j, i < N → j < N → i ≠ j → mb i ≠ mb j
  nel : ∀ i j, i < N → j < N → i ≠ j → (Value.slice (la i) (s i).lg.length (lc i)).ownBlock = none ∨ (Value.slice (la i) (s i).lg.length (lc i)).ownBlock ≠ (Value.slice (la j) (s j).lg.length (lc j)).ownBlock
theorem MmL.md {w : World} {B g c N : Nat} {s : Gst} {la : Nat → Option Addr} {lc mb : Nat → Nat} (h : MmL w B g c N s la lc mb) (k0 : Nat) : ∃ f, MdI w B g c 0 k0 la lc mb N s f ∧ MdA B g c la lc mb N s f := by
  obtain ⟨f, hf, he⟩ := h.row
  have hf' := hf
  obtain ⟨cs, hr, _⟩ := hf'
  refine ⟨f, ⟨hf.congr fun p _ => by unfold upK; rw [if_neg (by omega)], fun j hj => absurd hj (by omega), fun j hj => absurd hj (by omega), fun j _ hj => h.log j hj, fun j _ hj => Wr.of (h.mat j hj).1⟩, ⟨h.lo, h.cap, he, fun j hj => ⟨(h.mat j hj).2.2, (h.mat j hj).2.1, row_apart (h.mat j hj).1 hr (by decide)⟩, fun j x hj hx => ?_, h.nem, h.nel⟩⟩
  obtain ⟨ds, hd⟩ := (h.log j hj).row hx
  exact ⟨(World.ownsRow.lt (h.log j hj) x hx).1, row_apart hd hr (by decide), fun k hk => row_apart hd (h.mat k hk).1 (by decide)⟩
theorem LgM.far {w w' : World} {a : Option Addr} {n c k x : Nat} (h : LgM w a n c k) (hg : w.grownBy w' (some x)) (hx : n ≠ 0 → ∀ y, a = some ⟨y, 0, none⟩ → y ≠ x) : LgM w' a n c k := by
  rcases h with h0 | ⟨g, f0, ha, hn, hf⟩
  · exact .inl h0
  · by_cases e : n = 0
    · exact .inl e
    · exact .inr ⟨g, f0, ha, hn, hf.far hg (fun e2 => hx e g ha (Option.some.inj e2))⟩
theorem OwnGe.farX {w w' : World} {B : Nat} {v : Value} {L : List Ge} {x : Nat} (h : OwnGe w B v L) (hg : w.grownBy w' (some x)) (hx : v.ownBlock ≠ some x) : OwnGe w' B v L :=
  h.keep fun g cs hb hr => (hg.block g hr.lt fun e => hx (hb.trans e)).trans hr
theorem OwnGe.frow {w : World} {B : Nat} {a : Option Addr} {c : Nat} {L : List Ge} (h : OwnGe w B (.slice a L.length c) L) (hL : L.length ≠ 0) : ∃ g f0, a = some ⟨g, 0, none⟩ ∧ L.length ≤ c ∧ FRow w g 46 (c * 2) f0 ∧ ∀ i, i < L.length → (∃ x : Int, f0 (i * 2) = .int .i64 x) ∧ ∃ t : ByteArray, f0 (i * 2 + 1) = .string t := by
  rcases h.2 with ⟨_, h1⟩ | ⟨g, cap, cur, he, hb, hr, hnc, hm, hsz, htk⟩
  · exact absurd h1 hL
  · injection he with e1 e2 e3
    subst e3
    have e0 : ∀ p, p < L.length * 2 → cur[p]? = (geL L)[p]? := fun p hp => by
      have q := congrArg (·[p]?) htk
      simp only [List.getElem?_take] at q
      rw [if_pos hp, Array.getElem?_toList] at q
      exact q
    have hd : ∀ p v, cur[p]? = some v → cur.getD p (.int .i64 0) = v := fun p v hp => by simp [Array.getD_eq_getD_getElem?, hp]
    refine ⟨g, fun p => cur.getD p (.int .i64 0), e1, hnc, FRow.of (show RowAt w g 46 cur from hr) hsz fun p hp => ?_, fun i hi => ?_⟩
    · rw [Array.getElem?_eq_getElem (by omega)]
      simp [Array.getD, show p < cur.size by omega]
    · have q := geL_at L i hi
      exact ⟨⟨_, hd _ _ ((e0 _ (by omega)).trans q.1)⟩, ⟨_, hd _ _ ((e0 _ (by omega)).trans q.2)⟩⟩
def MarkM (P0 : Nat → Prop) (B g c k0 : Nat) (la : Nat → Option Addr) (lc mb : Nat → Nat) (N : Nat) (s : Gst) (f : Nat → Value) (w : World) (e : Ending) (w' : World) : Prop := e = .returned (.int .i64 ((kM k0 N s N : Nat) : Int)) ∧ MdI w' B g c N k0 la lc mb N s f ∧ Below B w w' ∧ ∀ x0, P0 x0 → ∀ t cs, RowAt w x0 t cs → RowAt w' x0 t cs
set_option maxRecDepth 20000 in
set_option maxHeartbeats 8000000 in
theorem markMbs (P0 : Nat → Prop) (B g c k0 : Nat) (la : Nat → Option Addr) (lc mb : Nat → Nat) (N : Nat) (s : Gst) (f : Nat → Value) (hx0 : ∀ x0, P0 x0 → x0 ≠ g ∧ ∀ j, j < N → x0 ≠ mb j ∧ ∀ y, (Value.slice (la j) (s j).lg.length (lc j)).ownBlock = some y → x0 ≠ y) (hN : N ≤ 9) (hs : ∀ j, (s j).lg.length ≤ 500) (hk1 : 1 ≤ k0) (hk : k0 ≤ 1000000) (hA : MdA B g c la lc mb N s f) (w : World) (hBw : B ≤ w.heap.size) (h : MdI w B g c 0 k0 la lc mb N s f) :
    Calls Try.prog 44 #[.slice (some ⟨g, 0, none⟩) N c, .int .i64 (k0 : Int)] w fun e w' => MarkM P0 B g c k0 la lc mb N s f w e w' := by
  have H0 := hid h
  have HX0 := hid hx0
  clear hx0
  have HA := hid hA
  have HS := hid hs
  have HBw := hid hBw
  have hcap := hA.cap
  clear h hA hs hBw
  go_enter Try.func44, Try.ntmps44
  go_wp2_with fail
  go_loopw [1, 5] (fun y1 y5 wr => ∃ i : Nat, i ≤ N ∧ y5 = .int .i64 (i : Int) ∧ y1 = .int .i64 ((kM k0 N s i : Nat) : Int) ∧ MdI wr B g c i k0 la lc mb N s f ∧ Below B w wr ∧ ∀ x0, P0 x0 → ∀ t cs, RowAt w x0 t cs → RowAt wr x0 t cs) (fun _ y5 _ => N - (intOf y5).toNat)
  case atStart => exact ⟨0, Nat.zero_le _, rfl, rfl, H0.out, Below.refl _ _, fun _ _ _ _ q => q⟩
  case round =>
    obtain ⟨i, hi, rfl, rfl, hI, hB, hX⟩ := hrel
    have II := hid hI
    have BB := hid hB
    have XX := hid hX
    clear hI hB hX H0
    by_cases hlt : i < N
    · have hlt' : (i : Int) < (N : Int) := by omega
      have i0 : (0 : Int) ≤ (i : Int) := by omega
      obtain ⟨K, hK⟩ : ∃ K, K = kM k0 N s i := ⟨_, rfl⟩
      rw [← hK]
      have kle := kM_le (k0 := k0) hN HS.out i
      have kge := kM_ge k0 N s i
      rw [← hK] at kle kge
      have hKb : K ≤ 1100000 := by omega
      have hK1 : 1 ≤ K := by omega
      have HK := hid hK
      obtain ⟨SI, hSI⟩ : ∃ x, x = s i := ⟨_, rfl⟩
      have up : ∀ r, r < 6 → upK k0 la lc mb N s f i (i * 6 + r) = mbF la lc mb N s (i * 6 + r) := fun r hr => by unfold upK; rw [if_neg (by omega), HA.out.fs _ (by omega)]
      have R := II.out.row
      have c0 : wr.cell? ⟨g, i * 6, none⟩ = some (.int .i64 SI.tm) := (R.cell (by omega)).trans (by rw [show i * 6 = i * 6 + 0 from rfl, up 0 (by omega), Nat.add_zero, mbF0, hSI])
      have f0 := R.free (i * 6)
      have s1 := R.set (i * 6) (.int .i64 (K : Int))
      have c1 : (wr.setCell ⟨g, i * 6, none⟩ (.int .i64 (K : Int))).cell? ⟨g, i * 6 + 1, none⟩ = some (.int .i64 SI.vt) := (s1.cell (by omega)).trans (by unfold putF; rw [if_neg (by omega), up 1 (by omega), mbF1, hSI])
      have f1 := s1.free (i * 6 + 1)
      have s2 := s1.set (i * 6 + 1) (.int .i64 ((K : Int) + 1))
      obtain ⟨V2, hV2⟩ : ∃ W, W = (wr.setCell ⟨g, i * 6, none⟩ (.int .i64 (K : Int))).setCell ⟨g, i * 6 + 1, none⟩ (.int .i64 ((K : Int) + 1)) := ⟨_, rfl⟩
      rw [← hV2] at s2
      have c2 : V2.cell? ⟨g, i * 6 + 2, none⟩ = some (.bool SI.ld) := (s2.cell (by omega)).trans (by unfold putF; rw [if_neg (by omega), if_neg (by omega), up 2 (by omega), mbF2, hSI])
      have f2 := s2.free (i * 6 + 2)
      have s3 := s2.set (i * 6 + 2) (.bool (((K : Int) + 1 + 1) % 3 == 0))
      have c3 : (V2.setCell ⟨g, i * 6 + 2, none⟩ (.bool (((K : Int) + 1 + 1) % 3 == 0))).cell? ⟨g, i * 6 + 3, none⟩ = some (.int .i64 (SI.cm : Int)) := (s3.cell (by omega)).trans (by unfold putF; rw [if_neg (by omega), if_neg (by omega), if_neg (by omega), up 3 (by omega), mbF3, hSI])
      have f3 := s3.free (i * 6 + 3)
      have s4 := s3.set (i * 6 + 3) (.int .i64 ((K : Int) + 1 + 1 + 1))
      obtain ⟨V4, hV4⟩ : ∃ W, W = (V2.setCell ⟨g, i * 6 + 2, none⟩ (.bool (((K : Int) + 1 + 1) % 3 == 0))).setCell ⟨g, i * 6 + 3, none⟩ (.int .i64 ((K : Int) + 1 + 1 + 1)) := ⟨_, rfl⟩
      rw [← hV4] at s4
      have h4 := up 4 (by omega)
      have h5 := up 5 (by omega)
      have F4 : Hid (FRow V4 g 36 (c * 6) (upK k0 la lc mb N s f (i + 1))) := s4.congr fun p _ => upK_put k0 la lc mb N s f i K p hK (by rw [HA.out.fs _ (by omega), mbF4]) (by rw [HA.out.fs _ (by omega), mbF5])
      have g4 : wr.grownBy V4 (some g) := by rw [hV4, hV2]; exact grown_trans (grown_trans (grown_trans grown_set grown_set) grown_set) grown_set
      have OI : Hid (OwnGe V4 B (.slice (la i) (s i).lg.length (lc i)) (s i).lg) := (II.out.log i (Nat.le_refl _) hlt).farX g4 (fun e => (HA.out.gl i g hlt e).2.1 rfl)
      have LD : Hid (∀ j, j < i → LgM V4 (la j) (s j).lg.length (lc j) (kM k0 N s j + 4)) := fun j hj => (II.out.lgd j hj).far g4 fun hn y hy => (HA.out.gl j y (by omega) (by rw [hy]; rfl)).2.1
      have MD : Hid (∀ j, j < i → Wr .i64 V4 (mb j) 0 (marks (kM k0 N s j + 4 + (s j).lg.length * 2) N)) := fun j hj => (II.out.mtd j hj).far g4 (fun e => (HA.out.ml j (by omega)).2.2 (Option.some.inj e))
      have LO : Hid (∀ j, i + 1 ≤ j → j < N → OwnGe V4 B (.slice (la j) (s j).lg.length (lc j)) (s j).lg) := fun j hj hjN => (II.out.log j (by omega) hjN).farX g4 (fun e => (HA.out.gl j g hjN e).2.1 rfl)
      have MO : Hid (∀ j, i ≤ j → j < N → Wr .i64 V4 (mb j) 0 (s j).mt) := fun j hj hjN => (II.out.mat j hj hjN).far g4 (fun e => (HA.out.ml j hjN).2.2 (Option.some.inj e))
      have B4 : Hid (Below B w V4) := BB.out.grown g4 (Nat.le_trans HBw.out BB.out.size) (fun x hx => by cases hx; exact HA.out.lo)
      have X4' : Hid (∀ x0, P0 x0 → ∀ t cs, RowAt w x0 t cs → RowAt V4 x0 t cs) := fun x0 p0 t cs q => (g4.block x0 (XX.out x0 p0 t cs q).lt (fun e => (HX0.out x0 p0).1 (Option.some.inj e))).trans (XX.out x0 p0 t cs q)
      have HV2 := hid hV2
      have HV4 := hid hV4
      clear hV2 hV4 s1 s2 s3 s4 R up h4 h5 g4 hSI II BB kle kge hK
      go_upto_region 8 with fail
      rw [← HV2.out]
      clear HV2 c0 f0 c1 f1
      go_upto_region 12 with fail
      rw [← HV4.out]
      clear HV4 c2 f2 c3 f3
      have e4 : V4.cell? ⟨g, i * 6 + 4, none⟩ = some (.slice (la i) (s i).lg.length (lc i)) := (F4.out.cell (by omega)).trans (by unfold upK; rw [if_pos (by omega), mkM4])
      obtain ⟨LN, hLN⟩ : ∃ n, n = (s i).lg.length := ⟨_, rfl⟩
      have hLb : LN ≤ 500 := by rw [hLN]; exact HS.out i
      have HLN := hid hLN
      obtain ⟨LA, hLA⟩ : ∃ x, x = la i := ⟨_, rfl⟩
      obtain ⟨LC, hLC⟩ : ∃ x, x = lc i := ⟨_, rfl⟩
      have HLA := hid hLA
      have HLC := hid hLC
      have KL : Hid (Calls Try.prog 68 #[.slice LA LN LC, .int .i64 ((K : Int) + 1 + 1 + 1 + 1)] V4 fun e w' => e = .returned (.int .i64 ((K + 4 + LN * 2 : Nat) : Int)) ∧ LgM w' LA LN LC (K + 4) ∧ ∃ x, (LN = 0 ∧ w' = V4 ∨ (Value.slice (la i) (s i).lg.length (lc i)).ownBlock = some x ∧ V4.grownBy w' (some x))) := by
        rw [show (K : Int) + 1 + 1 + 1 + 1 = ((K + 4 : Nat) : Int) by omega]
        by_cases e0 : LN = 0
        · rw [e0]
          exact (markGe0 LA LC (K + 4) V4).mono fun e w' ⟨q1, q2⟩ => ⟨by rw [q1], .inl rfl, 0, .inl ⟨rfl, q2⟩⟩
        · obtain ⟨gl, fl, q1, q2, q3, q4⟩ := OI.out.frow (by rw [← hLN]; exact e0)
          rw [← hLA] at q1
          rw [← hLN, ← hLC] at q2
          rw [← hLC] at q3
          rw [q1]
          refine (markGe gl LN LC (K + 4) fl (by omega) (by omega) q2 (fun j hj => q4 j (by rw [← hLN]; exact hj)) V4 q3).mono fun e w' ⟨z1, z2, z3⟩ => ⟨z1, .inr ⟨gl, fl, rfl, q2, z2⟩, gl, .inr ⟨?_, z3⟩⟩
          rw [← hLA, q1]
          rfl
      rw [← hLA, ← hLN, ← hLC] at e4
      clear hLN hLA hLC OI
      go_wp2_with fail
      refine KL.out.mono ?_
      rintro e w5 ⟨rfl, hl5, x5, hx5⟩
      have KP : Hid (∀ j, j < N → x5 ≠ mb j ∨ w5 = V4) := fun j hj => by
        rcases hx5 with ⟨_, q⟩ | ⟨q, _⟩
        · exact .inr q
        · exact .inl ((HA.out.gl i x5 hlt q).2.2 j hj)
      have F5 : Hid (FRow w5 g 36 (c * 6) (upK k0 la lc mb N s f (i + 1))) := by
        rcases hx5 with ⟨_, q⟩ | ⟨q, q2⟩
        · rw [q]; exact F4.out
        · exact F4.out.far q2 (fun e => (HA.out.gl i x5 hlt q).2.1 (Option.some.inj e).symm)
      have LD5 : Hid (∀ j, j < i → LgM w5 (la j) (s j).lg.length (lc j) (kM k0 N s j + 4)) := fun j hj => by
        rcases hx5 with ⟨_, q⟩ | ⟨q, q2⟩
        · rw [q]; exact LD.out j hj
        · refine (LD.out j hj).far q2 fun hn y hy e => ?_
          have ej : (Value.slice (la j) (s j).lg.length (lc j)).ownBlock = some y := by rw [hy]; rfl
          rcases HA.out.nel j i (by omega) hlt (by omega) with z | z
          · rw [z] at ej; cases ej
          · exact z (ej.trans (by rw [e]; exact q.symm))
      have MD5 : Hid (∀ j, j < i → Wr .i64 w5 (mb j) 0 (marks (kM k0 N s j + 4 + (s j).lg.length * 2) N)) := fun j hj => by
        rcases hx5 with ⟨_, q⟩ | ⟨q, q2⟩
        · rw [q]; exact MD.out j hj
        · exact (MD.out j hj).far q2 (fun e => (HA.out.gl i x5 hlt q).2.2 j (by omega) (Option.some.inj e).symm)
      have LO5 : Hid (∀ j, i + 1 ≤ j → j < N → OwnGe w5 B (.slice (la j) (s j).lg.length (lc j)) (s j).lg) := fun j hj hjN => by
        rcases hx5 with ⟨_, q⟩ | ⟨q, q2⟩
        · rw [q]; exact LO.out j hj hjN
        · refine (LO.out j hj hjN).farX q2 fun e => ?_
          rcases HA.out.nel j i hjN hlt (by omega) with z | z
          · rw [z] at e; cases e
          · exact z (e.trans q.symm)
      have MO5 : Hid (∀ j, i ≤ j → j < N → Wr .i64 w5 (mb j) 0 (s j).mt) := fun j hj hjN => by
        rcases hx5 with ⟨_, q⟩ | ⟨q, q2⟩
        · rw [q]; exact MO.out j hj hjN
        · exact (MO.out j hj hjN).far q2 (fun e => (HA.out.gl i x5 hlt q).2.2 j hjN (Option.some.inj e).symm)
      have B5 : Hid (Below B w w5) := by
        rcases hx5 with ⟨_, q⟩ | ⟨q, q2⟩
        · rw [q]; exact B4.out
        · exact B4.out.grown q2 (Nat.le_trans HBw.out B4.out.size) (fun x hx => by cases hx; exact (HA.out.gl i x5 hlt q).1)
      have X5' : Hid (∀ x0, P0 x0 → ∀ t cs, RowAt w x0 t cs → RowAt w5 x0 t cs) := fun x0 p0 t cs q => by
        rcases hx5 with ⟨_, z⟩ | ⟨z, z2⟩
        · rw [z]; exact X4'.out x0 p0 t cs q
        · exact (z2.block x0 (X4'.out x0 p0 t cs q).lt (fun e => ((HX0.out x0 p0).2 i hlt).2 x5 z (Option.some.inj e))).trans (X4'.out x0 p0 t cs q)
      have L5 := hid hl5
      clear hl5 hx5 KL KP F4 LD MD LO MO B4 e4
      have e5 : w5.cell? ⟨g, i * 6 + 5, none⟩ = some (.slice (some ⟨mb i, 0, none⟩) N N) := (F5.out.cell (by omega)).trans (by unfold upK; rw [if_pos (by omega), mkM5])
      obtain ⟨MA, hMA⟩ : ∃ x, x = mb i := ⟨_, rfl⟩
      have HMA := hid hMA
      have KI := hid (mark64 (mb i) 0 N (s i).mt (K + 4 + LN * 2) w5 (MO5.out i (Nat.le_refl _) hlt) (by rw [(HA.out.ml i hlt).1]; omega) (by omega))
      rw [(HA.out.ml i hlt).1, ← hMA] at KI
      rw [← hMA] at e5
      clear hMA
      go_wp2_with fail
      refine KI.out.mono ?_
      rintro e w6 ⟨rfl, hw6, hg6⟩
      have F6 : Hid (FRow w6 g 36 (c * 6) (upK k0 la lc mb N s f (i + 1))) := F5.out.far hg6 (fun e => (HA.out.ml i hlt).2.2 (by rw [← HMA.out]; exact (Option.some.inj e).symm))
      have LD6 : Hid (∀ j, j < i + 1 → LgM w6 (la j) (s j).lg.length (lc j) (kM k0 N s j + 4)) := fun j hj => by
        have far : LgM w5 (la j) (s j).lg.length (lc j) (kM k0 N s j + 4) := by
          by_cases e : j = i
          · rw [e, ← HLA.out, ← HLN.out, ← HLC.out, ← HK.out]; exact L5.out
          · exact LD5.out j (by omega)
        exact far.far hg6 fun hn y hy => by rw [HMA.out]; exact (HA.out.gl j y (by omega) (by rw [hy]; rfl)).2.2 i hlt
      have MD6 : Hid (∀ j, j < i + 1 → Wr .i64 w6 (mb j) 0 (marks (kM k0 N s j + 4 + (s j).lg.length * 2) N)) := fun j hj => by
        by_cases e : j = i
        · rw [e, ← HMA.out, ← HLN.out, ← HK.out]; exact hw6
        · exact (MD5.out j (by omega)).far hg6 (fun e2 => HA.out.nem j i (by omega) hlt e (by rw [← HMA.out]; exact Option.some.inj e2))
      have LO6 : Hid (∀ j, i + 1 ≤ j → j < N → OwnGe w6 B (.slice (la j) (s j).lg.length (lc j)) (s j).lg) := fun j hj hjN => (LO5.out j hj hjN).farX hg6 (fun e => (HA.out.gl j MA hjN e).2.2 i hlt HMA.out)
      have MO6 : Hid (∀ j, i + 1 ≤ j → j < N → Wr .i64 w6 (mb j) 0 (s j).mt) := fun j hj hjN => (MO5.out j (by omega) hjN).far hg6 (fun e2 => HA.out.nem j i hjN hlt (by omega) (by rw [← HMA.out]; exact Option.some.inj e2))
      have B6 : Hid (Below B w w6) := B5.out.grown hg6 (Nat.le_trans HBw.out B5.out.size) (fun x hx => by cases hx; rw [HMA.out]; exact (HA.out.ml i hlt).2.1)
      have X6' : Hid (∀ x0, P0 x0 → ∀ t cs, RowAt w x0 t cs → RowAt w6 x0 t cs) := fun x0 p0 t cs q => (hg6.block x0 (X5'.out x0 p0 t cs q).lt (fun e => ((HX0.out x0 p0).2 i hlt).1 (by rw [← HMA.out]; exact Option.some.inj e))).trans (X5'.out x0 p0 t cs q)
      have KE : Hid (K + 4 + LN * 2 + N = kM k0 N s (i + 1)) := hid (by rw [kM, ← HK.out, ← HLN.out])
      clear hw6 hg6 KI e5 F5 LD5 MD5 LO5 MO5 B5 L5
      go_wp2
      go_roundw
      case rel => exact ⟨i + 1, by omega, by go_num, by rw [← KE.out]; go_num, ⟨F6.out, LD6.out, MD6.out, LO6.out, MO6.out⟩, B6.out, X6'.out⟩
      case measure => simp [intOf]; omega
    · have hlt' : ¬ (i : Int) < (N : Int) := by omega
      have ei : i = N := by omega
      have HE := hid ei
      clear ei
      go_wp2
      go_ret
      exact ⟨by rw [HE.out]; rfl, by have z := II.out; rw [HE.out] at z; exact z, BB.out, XX.out⟩
end Go.Proofs.Ytmfhkhhdcmnpdaa
