import Derived.Test.YtngkiokibldfjaaGreatDoorQC
import Derived.Test.YtngkiokibldfjaaGreatDoorQA
import Derived.Test.YtngkiokibldfjaaGreatDoorQB
namespace Go.Proofs.YtngkiokibldfjaaGreatDoor
open Go.RowKit
set_option linter.unusedVariables false
/-! The marks on what comes of operations: laid. -/
/-- the rows of keys: those of the first k are marked -/
def KS (W : World) (N : Nat) (n : Nat → Nat) (k0 : Nat) (kb Nk : Nat → Nat) (ts : TypeId) (k : Nat) : Prop :=
  ∀ j, j < N → 0 < n j → ∃ f, FRow W (kb j) ts (Nk j) f ∧ (j < k → ∀ i, i < n j → f i = .string (markB (mkO n k0 j + 2 + i)))
theorem KS.map {W W' : World} {N : Nat} {n : Nat → Nat} {k0 : Nat} {kb Nk : Nat → Nat} {ts : TypeId} {k : Nat} (h : KS W N n k0 kb Nk ts k) (e : ∀ j, j < N → 0 < n j → ∀ f, FRow W (kb j) ts (Nk j) f → FRow W' (kb j) ts (Nk j) f) : KS W' N n k0 kb Nk ts k := by
  intro j hj hn
  obtain ⟨f, hf, hm⟩ := h j hj hn
  exact ⟨f, e j hj hn f hf, hm⟩
theorem KS.below {W W' : World} {N : Nat} {n : Nat → Nat} {k0 : Nat} {kb Nk : Nat → Nat} {ts : TypeId} {k : Nat} (h : KS W N n k0 kb Nk ts k) (hb : Below W.heap.size W W') : KS W' N n k0 kb Nk ts k :=
  h.map fun _ _ _ _ hf => hf.below hb hf.lt
/-- where the keys lie -/
structure KP (base b N : Nat) (n : Nat → Nat) (ak : Nat → Option Addr) (kb Nk : Nat → Nat) : Prop where
  at_ : ∀ j, j < N → 0 < n j → kb j ≠ b ∧ base ≤ kb j ∧ ak j = some ⟨kb j, 0, none⟩ ∧ n j ≤ Nk j
  ne : ∀ i j, i < N → j < N → i ≠ j → 0 < n i → 0 < n j → kb i ≠ kb j
/-- from base on rows of two kinds alone have turned -/
def BK (base : Nat) (t ts : TypeId) (A B : World) : Prop := Below base A B ∧ ∀ k ty cs, RowAt A k ty cs → ty ≠ t → ty ≠ ts → RowAt B k ty cs
theorem BK.refl (base : Nat) (t ts : TypeId) (A : World) : BK base t ts A A := ⟨Below.refl _ _, fun _ _ _ r _ _ => r⟩
theorem BK.trans {base : Nat} {t ts : TypeId} {A B C : World} (h : BK base t ts A B) (k : BK base t ts B C) : BK base t ts A C := ⟨h.1.trans k.1, fun j ty cs r h1 h2 => k.2 j ty cs (h.2 j ty cs r h1 h2) h1 h2⟩
theorem BK.of_below {base : Nat} {t ts : TypeId} {A B : World} (h : Below A.heap.size A B) (hb : base ≤ A.heap.size) : BK base t ts A B := ⟨h.mono hb, fun j ty cs r _ _ => r.below h r.lt⟩
theorem BK.grown {base g n : Nat} {t ts ty0 : TypeId} {A B : World} {f : Nat → Value} (hg : A.grownBy B (some g)) (hr : FRow A g ty0 n f) (ht : ty0 = t ∨ ty0 = ts) (hb : base ≤ g) : BK base t ts A B :=
  ⟨⟨hg.os, hg.tape, hg.output, hg.size, fun x hx => hg.block x (Nat.lt_of_lt_of_le hx (Nat.le_trans hb (Nat.le_of_lt hr.lt))) (fun e => by have := Option.some.inj e; omega)⟩, fun k ty cs r h1 h2 => (hg.block k r.lt (fun e => by
    obtain rfl := Option.some.inj e
    have := r.symm.trans hr.choose_spec.1
    injection this with this
    injection this with _ this
    rcases ht with q | q
    · exact h1 (this.trans q)
    · exact h2 (this.trans q))).trans r⟩
theorem markKeys (base b N : Nat) (n : Nat → Nat) (k0 : Nat) (ak : Nat → Option Addr) (ck kb Nk : Nat → Nat) (t ts : TypeId) (NN : Nat) (G : Nat → Value) (k : Nat) (hk : k < N) (hn : n k ≤ 1048576) (hq : mkO n k0 k ≤ 268435456) (hP : KP base b N n ak kb Nk) (W : World) (hS : KS W N n k0 kb Nk ts k) (hF : FRow W b t NN G) :
    Calls Tryz.prog 62 #[.slice (ak k) (n k) (ck k), .int .i64 ((mkO n k0 k + 2 : Nat) : Int)] W fun e w' => e = .returned (.int .i64 ((mkO n k0 k + 2 + n k : Nat) : Int)) ∧ KS w' N n k0 kb Nk ts (k + 1) ∧ FRow w' b t NN G ∧ BK base t ts W w' := by
  by_cases h0 : n k = 0
  · rw [h0]
    refine (markStr0 (ak k) (ck k) (mkO n k0 k + 2) W).mono ?_
    rintro e w' ⟨rfl, rfl⟩
    refine ⟨rfl, ?_, hF, BK.refl _ _ _ _⟩
    intro j hj hnj
    obtain ⟨f, hf, hm⟩ := hS j hj hnj
    refine ⟨f, hf, fun hjk => hm ?_⟩
    rcases Nat.lt_or_ge j k with h | h
    · exact h
    · have : j = k := by omega
      subst this; omega
  · obtain ⟨p1, p2, p3, p4⟩ := hP.at_ k hk (by omega)
    obtain ⟨f, hf, _⟩ := hS k hk (by omega)
    rw [p3]
    refine (markStr (kb k) (n k) (ck k) (Nk k) (mkO n k0 k + 2) ts p4 f (by omega) hn (by omega) W hf).mono ?_
    rintro e w' ⟨rfl, hf', hg⟩
    refine ⟨rfl, ?_, hF.far hg (by simp; omega), BK.grown hg hf (.inr rfl) p2⟩
    intro j hj hnj
    by_cases hjk : j = k
    · subst hjk
      exact ⟨_, hf', fun _ i hi => by rw [if_pos hi]⟩
    · obtain ⟨f2, hf2, hm2⟩ := hS j hj hnj
      refine ⟨f2, hf2.far hg ?_, fun h => hm2 (by omega)⟩
      have := hP.ne j k hj hk hjk hnj (by omega)
      simp; omega
/-- the cells of a marked row -/
def moF (n : Nat → Nat) (k0 : Nat) (g : Nat → Value) (k p : Nat) : Value :=
  if p < k * 4 then (if p % 4 = 0 then .int .i64 ((mkO n k0 (p / 4) : Nat) : Int) else if p % 4 = 1 then .string (markB (mkO n k0 (p / 4) + 1)) else if p % 4 = 2 then g p else .int .i64 ((mkO n k0 (p / 4) + 2 + n (p / 4) : Nat) : Int)) else g p
theorem moF_put (n : Nat → Nat) (k0 : Nat) (g : Nat → Value) (k p : Nat) : putF (putF (putF (moF n k0 g k) (k * 4) (.int .i64 ((mkO n k0 k : Nat) : Int))) (k * 4 + 1) (.string (markB (mkO n k0 k + 1)))) (k * 4 + 3) (.int .i64 ((mkO n k0 k + 2 + n k : Nat) : Int)) p = moF n k0 g (k + 1) p := by
  unfold putF
  by_cases e3 : p = k * 4 + 3
  · subst e3; rw [if_pos rfl]; unfold moF; rw [if_pos (by omega), if_neg (by omega), if_neg (by omega), if_neg (by omega), show (k * 4 + 3) / 4 = k by omega]
  · rw [if_neg e3]
    by_cases e1 : p = k * 4 + 1
    · subst e1; rw [if_pos rfl]; unfold moF; rw [if_pos (by omega), if_neg (by omega), if_pos (by omega), show (k * 4 + 1) / 4 = k by omega]
    · rw [if_neg e1]
      by_cases e0 : p = k * 4
      · subst e0; rw [if_pos rfl]; unfold moF; rw [if_pos (by omega), if_pos (by omega), show (k * 4) / 4 = k by omega]
      · rw [if_neg e0]
        unfold moF
        by_cases e2 : p = k * 4 + 2
        · subst e2; rw [if_neg (by omega), if_pos (by omega), if_neg (by omega), if_neg (by omega), if_pos (by omega)]
        · by_cases h : p < k * 4
          · rw [if_pos h, if_pos (show p < (k + 1) * 4 by omega)]
          · rw [if_neg h, if_neg (show ¬ p < (k + 1) * 4 by omega)]
set_option maxRecDepth 20000 in
set_option maxHeartbeats 4000000 in
theorem markOuts (base b N cap : Nat) (n : Nat → Nat) (k0 : Nat) (ak : Nat → Option Addr) (ck kb Nk : Nat → Nat) (t ts : TypeId) (NN : Nat) (g : Nat → Value) (hN : N * 4 ≤ NN) (hbb : base ≤ b) (hl : N ≤ 1048576) (hn : ∀ k, k < N → n k ≤ 1048576) (hm : mkO n k0 N ≤ 268435456) (hP : KP base b N n ak kb Nk) (hg : ∀ k, k < N → g (k * 4 + 2) = .slice (ak k) (n k) (ck k)) (w : World) (hS : KS w N n k0 kb Nk ts 0) (hF : FRow w b t NN g) :
    Calls Tryz.prog 43 #[.slice (some ⟨b, 0, none⟩) N cap, .int .i64 k0] w fun e w' => e = .returned (.int .i64 ((mkO n k0 N : Nat) : Int)) ∧ KS w' N n k0 kb Nk ts N ∧ FRow w' b t NN (moF n k0 g N) ∧ BK base t ts w w' := by
  have HS := hid hS
  have HF0 := hid hF
  have HN := hid hn
  have HM := hid hm
  have HP := hid hP
  have HG := hid hg
  clear hS hF hn hm hP hg
  go_enter Tryz.func43, Tryz.ntmps43
  go_wp2_with fail
  go_loopw [5, 1] (fun x y wr => ∃ (k : Nat), k ≤ N ∧ x = .int .i64 k ∧ y = .int .i64 ((mkO n k0 k : Nat) : Int) ∧ KS wr N n k0 kb Nk ts k ∧ FRow wr b t NN (moF n k0 g k) ∧ BK base t ts w wr) (fun x _ _ => N - (intOf x).toNat)
  case atStart => exact ⟨0, Nat.zero_le _, rfl, rfl, HS.out, HF0.out.congr fun p _ => by unfold moF; rw [if_neg (by omega)], BK.refl _ _ _ _⟩
  case round =>
    obtain ⟨k, hkl, rfl, rfl, hS, hF, hB⟩ := hrel
    have HS1 := hid hS
    have HF := hid hF
    have HB := hid hB
    clear hS hF hB HS HF0
    by_cases hlt : k < N
    · have hlt' : (k : Int) < (N : Int) := by omega
      have i0 : (0 : Int) ≤ (k : Int) := by omega
      have hnk := HN.out k hlt
      have hge := mkO_ge n k0 k
      have hmo : mkO n k0 k + n k + 3 ≤ 268435456 := Nat.le_trans (mkO_mono n k0 (show k + 1 ≤ N by omega)) HM.out
      have hs1 : Hid (mkO n k0 (k + 1) = mkO n k0 k + n k + 3) := rfl
      have MK := fun W hS hF => hid (markKeys base b N n k0 ak ck kb Nk t ts NN (putF (putF (moF n k0 g k) (k * 4) (.int .i64 ((mkO n k0 k : Nat) : Int))) (k * 4 + 1) (.string (markB (mkO n k0 k + 1)))) k hlt hnk (by omega) HP.out W hS hF)
      have PUT := hid (moF_put n k0 g k)
      have g2 : putF (putF (moF n k0 g k) (k * 4) (.int .i64 ((mkO n k0 k : Nat) : Int))) (k * 4 + 1) (.string (markB (mkO n k0 k + 1))) (k * 4 + 2) = .slice (ak k) (n k) (ck k) := by
        unfold putF; rw [if_neg (by omega), if_neg (by omega)]; unfold moF; rw [if_neg (by omega)]; exact HG.out k hlt
      have M1 := fun w => hid (markT (mkO n k0 k + 1) (by omega) (by omega) w)
      have KNE : Hid (∀ j, j < N → 0 < n j → kb j ≠ b) := fun j hj hnj => (HP.out.at_ j hj hnj).1
      obtain ⟨q, hq⟩ : ∃ q, q = mkO n k0 k := ⟨_, rfl⟩
      rw [← hq] at hge hmo hs1 MK PUT g2 M1
      rw [← hq]
      generalize ak k = x at MK g2
      generalize ck k = cx at MK g2
      obtain ⟨M, hM⟩ : ∃ M, M = n k := ⟨_, rfl⟩
      rw [← hM] at hnk hmo hs1 MK PUT g2
      generalize markB (q + 1) = m1 at M1 MK PUT g2
      rw [show ((q + 1 : Nat) : Int) = (q : Int) + 1 by omega] at M1
      rw [show ((q + 2 : Nat) : Int) = (q : Int) + 1 + 1 by omega] at MK
      obtain ⟨z, hz⟩ : ∃ z : Nat, z = q + 2 + M := ⟨_, rfl⟩
      rw [← hz] at MK PUT
      have hz1 : z ≤ 268435456 := by omega
      have HZ := hid hz
      clear hz hM hq
      obtain ⟨W1, hW1⟩ : ∃ W1, W1 = wr.setCell ⟨b, k * 4, none⟩ (.int .i64 (q : Int)) := ⟨_, rfl⟩
      have F1 : Hid (FRow W1 b t NN (putF (moF n k0 g k) (k * 4) (.int .i64 (q : Int)))) := by rw [hW1]; exact HF.out.set (k * 4) _
      have B1 : Hid (BK base t ts w W1) := by rw [hW1]; exact HB.out.trans (BK.grown grown_set HF.out (.inl rfl) hbb)
      have S1 : Hid (KS W1 N n k0 kb Nk ts k) := by rw [hW1]; exact HS1.out.map fun j hj hnj f hf => hf.other _ _ (KNE.out j hj hnj)
      have y0 := HF.out.cell (p := k * 4) (by omega)
      have f0 := HF.out.free (k * 4)
      generalize moF n k0 g k (k * 4) = v0 at y0
      have HW1 := hid hW1
      clear hW1 HF HB HS1
      go_upto_region 5 with fail
      rw [← HW1.out]
      clear y0 f0 HW1
      go_wp2_with fail
      refine (M1 _).out.mono ?_
      rintro e u1 ⟨rfl, hb1⟩
      have F2 : Hid (FRow u1 b t NN (putF (moF n k0 g k) (k * 4) (.int .i64 (q : Int)))) := F1.out.below hb1 F1.out.lt
      have B2 : Hid (BK base t ts w u1) := B1.out.trans (BK.of_below hb1 (Nat.le_trans hbb (Nat.le_of_lt F1.out.lt)))
      have S2 : Hid (KS u1 N n k0 kb Nk ts k) := S1.out.below hb1
      clear hb1 F1 B1 S1
      obtain ⟨W2, hW2⟩ : ∃ W1, W1 = u1.setCell ⟨b, k * 4 + 1, none⟩ (.string m1) := ⟨_, rfl⟩
      have F3 : Hid (FRow W2 b t NN (putF (putF (moF n k0 g k) (k * 4) (.int .i64 (q : Int))) (k * 4 + 1) (.string m1))) := by rw [hW2]; exact F2.out.set (k * 4 + 1) _
      have B3 : Hid (BK base t ts w W2) := by rw [hW2]; exact B2.out.trans (BK.grown grown_set F2.out (.inl rfl) hbb)
      have S3 : Hid (KS W2 N n k0 kb Nk ts k) := by rw [hW2]; exact S2.out.map fun j hj hnj f hf => hf.other _ _ (KNE.out j hj hnj)
      have y1 := F2.out.cell (p := k * 4 + 1) (by omega)
      have f1 := F2.out.free (k * 4 + 1)
      generalize putF (moF n k0 g k) (k * 4) (.int .i64 (q : Int)) (k * 4 + 1) = v1 at y1
      have HW2 := hid hW2
      clear hW2 F2 B2 S2
      go_upto_region 7 with fail
      rw [← HW2.out]
      clear y1 f1 HW2
      have y2 := F3.out.cell (p := k * 4 + 2) (by omega)
      rw [g2] at y2
      have HG2 := hid g2
      clear g2
      go_wp2_with fail
      refine (MK _ S3.out F3.out).out.mono ?_
      rintro e u2 ⟨rfl, hS4, hF4, hB4⟩
      have S4 := hid hS4
      have F4 := hid hF4
      have B4 : Hid (BK base t ts w u2) := B3.out.trans hB4
      clear hS4 hF4 hB4 F3 B3 S3 y2
      have F5 : Hid (FRow (u2.setCell ⟨b, k * 4 + 3, none⟩ (.int .i64 (z : Int))) b t NN (moF n k0 g (k + 1))) := (F4.out.set (k * 4 + 3) _).congr fun p _ => PUT.out p
      have B5 : Hid (BK base t ts w (u2.setCell ⟨b, k * 4 + 3, none⟩ (.int .i64 (z : Int)))) := B4.out.trans (BK.grown grown_set F4.out (.inl rfl) hbb)
      have S5 : Hid (KS (u2.setCell ⟨b, k * 4 + 3, none⟩ (.int .i64 (z : Int))) N n k0 kb Nk ts (k + 1)) := S4.out.map fun j hj hnj f hf => hf.other _ _ (KNE.out j hj hnj)
      have y3 := F4.out.cell (p := k * 4 + 3) (by omega)
      have f3 := F4.out.free (k * 4 + 3)
      generalize putF (putF (moF n k0 g k) (k * 4) (.int .i64 (q : Int))) (k * 4 + 1) (.string m1) (k * 4 + 3) = v3 at y3
      clear F4 B4 S4 PUT MK M1
      go_wp2
      go_roundw
      case rel => exact ⟨k + 1, by omega, by go_num, by rw [hs1.out, show q + M + 3 = z + 1 by have := HZ.out; omega]; go_num, S5.out, F5.out, B5.out⟩
      case measure => simp [intOf]; omega
    · have hke : k = N := by omega
      subst hke
      have hlt' : ¬ (k : Int) < (k : Int) := by omega
      go_wp2
      go_ret
      exact ⟨rfl, HS1.out, HF.out, HB.out⟩
end Go.Proofs.YtngkiokibldfjaaGreatDoor
namespace Go.Proofs.YtngkiokibldfjaaGreatDoor
open Go.RowKit
set_option linter.unusedVariables false
/-! An extent behind operations: its marks laid and held. -/
theorem Outs.of_marks {w : World} {base b N cap : Nat} {n : Nat → Nat} {k0 : Nat} {ak : Nat → Option Addr} {ck kb Nk : Nat → Nat} {t ts : TypeId} {NN : Nat} {g : Nat → Value} (hN : N * 4 ≤ NN) (hcap : N ≤ cap) (hP : KP base b N n ak kb Nk) (hck : ∀ k, k < N → n k ≤ ck k) (hg : ∀ k, k < N → g (k * 4 + 2) = .slice (ak k) (n k) (ck k)) (hS : KS w N n k0 kb Nk ts N) (hF : FRow w b t NN (moF n k0 g N)) : Outs w (some ⟨b, 0, none⟩) N cap (mOut n k0) := by
  refine ⟨hcap, Or.inr ⟨b, 0, rfl, hF.lt, fun k hk => ⟨ak k, ck k, ?_, ?_, ?_, ?_, ?_⟩⟩⟩
  · have h := hF.cell (show k * 4 < NN by omega)
    rw [show moF n k0 g N (k * 4) = .int .i64 ((mkO n k0 k : Nat) : Int) by unfold moF; rw [if_pos (by omega), if_pos (by omega), show k * 4 / 4 = k by omega]] at h
    rw [Nat.zero_add]; exact h
  · have h := hF.cell (show k * 4 + 1 < NN by omega)
    rw [show moF n k0 g N (k * 4 + 1) = .string (markB (mkO n k0 k + 1)) by unfold moF; rw [if_pos (by omega), if_neg (by omega), if_pos (by omega), show (k * 4 + 1) / 4 = k by omega]] at h
    rw [Nat.zero_add]; exact h
  · have h := hF.cell (show k * 4 + 2 < NN by omega)
    rw [show moF n k0 g N (k * 4 + 2) = .slice (ak k) (n k) (ck k) by unfold moF; rw [if_pos (by omega), if_neg (by omega), if_neg (by omega), if_pos (by omega)]; exact hg k hk] at h
    rw [Nat.zero_add]; exact h
  · have h := hF.cell (show k * 4 + 3 < NN by omega)
    rw [show moF n k0 g N (k * 4 + 3) = .int .i64 ((mkO n k0 k + 2 + n k : Nat) : Int) by unfold moF; rw [if_pos (by omega), if_neg (by omega), if_neg (by omega), if_neg (by omega), show (k * 4 + 3) / 4 = k by omega]] at h
    rw [Nat.zero_add]; exact h
  · refine ⟨hck k hk, ?_⟩
    by_cases h0 : n k = 0
    · exact Or.inl h0
    · obtain ⟨_, _, p3, p4⟩ := hP.at_ k hk (by omega)
      obtain ⟨f, hf, hm⟩ := hS k hk (by omega)
      refine Or.inr ⟨kb k, 0, p3, hf.lt, fun i (hi : i < n k) => ?_⟩
      have h := hf.cell (show i < Nk k by omega)
      rw [hm hk i hi] at h
      rw [Nat.zero_add]; exact h
set_option maxRecDepth 20000 in
set_option maxHeartbeats 1000000 in
theorem markRun (d : ByteArray) (s : Int) (a : Option Addr) (N cap : Nat) (k0 m base : Nat) (t ts : TypeId) (Q : World → Prop) (w : World) (hb : base ≤ w.heap.size)
    (h : ∀ W, Below w.heap.size w W → Calls Tryz.prog 43 #[.slice a N cap, .int .i64 k0] W fun e w' => e = .returned (.int .i64 (m : Int)) ∧ Q w' ∧ BK base t ts W w') :
    Calls Tryz.prog 20 #[.agg #[.string d, .int .i64 s, .slice a N cap], .int .i64 k0] w fun e w' => e = .returned (.int .i64 (m : Int)) ∧ Q w' ∧ BK base t ts w w' := by
  have B : Hid (Below w.heap.size w (w.alloc (.cells #[.string d, .int .i64 s, .slice a N cap] 33))) := balE (Below.refl _ _) _
  have H := hid h
  clear h
  go_enter Tryz.func20, Tryz.ntmps20
  go_wp2_with fail
  refine (H.out _ B.out).mono ?_
  rintro e w2 ⟨rfl, hq, hb2⟩
  have HQ := hid hq
  have B2 : Hid (BK base t ts w w2) := (BK.of_below B.out hb).trans hb2
  clear hq hb2
  go_wp2
  go_ret
  exact ⟨rfl, HQ.out, B2.out⟩
set_option maxRecDepth 20000 in
set_option maxHeartbeats 1000000 in
theorem heldRun (d : ByteArray) (s : Int) (a : Option Addr) (N cap k0 : Nat) (n : Nat → Nat) (h1 : 1 ≤ k0) (hl : N ≤ 1048576) (hn : ∀ k, k < N → n k ≤ 1048576) (hm : mkO n k0 N ≤ 536870912) (w : World) (h : Outs w a N cap (mOut n k0)) :
    Calls Tryz.prog 21 #[.agg #[.string d, .int .i64 s, .slice a N cap], .int .i64 k0] w fun e w' => e = .returned (.int .i64 ((mkO n k0 N : Nat) : Int)) ∧ Below w.heap.size w w' := by
  have B : Hid (Below w.heap.size w (w.alloc (.cells #[.string d, .int .i64 s, .slice a N cap] 33))) := balE (Below.refl _ _) _
  have H := hid (heldOuts a N cap k0 n h1 hl hn hm _ (h.below B.out))
  generalize mkO n k0 N = m at H hm
  have hm0 : ¬ (m : Int) < 0 := by omega
  clear h hn
  go_enter Tryz.func21, Tryz.ntmps21
  go_wp2_with fail
  refine H.out.mono ?_
  rintro e w2 ⟨rfl, hb2⟩
  have B2 : Hid (Below w.heap.size w w2) := B.out.trans (hb2.mono B.out.size)
  clear hb2
  go_wp2
  go_ret
  exact ⟨rfl, B2.out⟩
end Go.Proofs.YtngkiokibldfjaaGreatDoor
namespace Go.Proofs.YtngkiokibldfjaaGreatDoor
open Go.RowKit
set_option linter.unusedVariables false
/-! What RunExtent answers, as the law reads and marks it. -/
def xoC (p : XOt × Value) : List Value := [.int .i64 p.1.cd, .string p.1.dt, p.2, .int .i64 p.1.hl]
theorem xoL_cons (p : XOt × Value) (P : List (XOt × Value)) : xoL (p :: P) = xoC p ++ xoL P := rfl
theorem xoL_len : ∀ P : List (XOt × Value), (xoL P).length = P.length * 4
  | [] => rfl
  | p :: P => by rw [xoL_cons, List.length_append, xoL_len P, List.length_cons]; show 4 + _ = _; omega
theorem xoL_at : ∀ (P : List (XOt × Value)) (k c : Nat) (p : XOt × Value), P[k]? = some p → c < 4 → (xoL P)[k * 4 + c]? = (xoC p)[c]?
  | [], k, c, p, h, _ => by simp at h
  | q :: P, 0, c, p, h, hc => by
    have e : q = p := by simpa using h
    subst e
    rw [xoL_cons, List.getElem?_append_left (by show _ < 4; omega), Nat.zero_mul, Nat.zero_add]
  | q :: P, k + 1, c, p, h, hc => by
    have h' : P[k]? = some p := by simpa using h
    rw [xoL_cons, List.getElem?_append_right (by show 4 ≤ _; omega), ← xoL_at P k c p h' hc]
    congr 1
    show (k + 1) * 4 + c - 4 = _
    omega
def xo0 : XOt := ⟨0, ⟨#[]⟩, [], 0⟩
/-- as the law's row -/
def xoO (L : List XOt) (k : Nat) : Out := ⟨(L.getD k xo0).cd, (L.getD k xo0).dt, (L.getD k xo0).ks.length, fun i => (L.getD k xo0).ks.getD i ⟨#[]⟩, (L.getD k xo0).hl⟩
theorem strs_own {w : World} {base : Nat} {v : Value} {xs : List ByteArray} (h : OwnStrs w base v xs) : ∃ a c, v = .slice a xs.length c ∧ Strs w a xs.length c fun i => xs.getD i ⟨#[]⟩ := by
  obtain ⟨a, c, rfl⟩ := h.slice
  by_cases h0 : 0 < xs.length
  · obtain ⟨g, rfl, _, _, hs⟩ := h.strs (ts := fun i => xs.getD i ⟨#[]⟩) h0 (fun i hi => by rw [List.getD_eq_getElem?_getD, List.getElem?_eq_getElem hi]; rfl)
    exact ⟨_, _, rfl, hs⟩
  · exact ⟨a, c, rfl, by omega, .inl (by omega)⟩
theorem outs_own {w : World} {base : Nat} {v : Value} {O : List (XOt × Value)} {L : List XOt} (h : w.ownsRow base 36 4 v O.length (xoL O)) (hk : ∀ p ∈ O, OwnStrs w base p.2 p.1.ks) (hL : O.map Prod.fst = L) : ∃ a c, v = .slice a L.length c ∧ Outs w a L.length c (xoO L) := by
  have hl : O.length = L.length := by rw [← hL, List.length_map]
  rcases h.2 with ⟨rfl, h0⟩ | ⟨g, cap, cur, rfl, hb, hr, hnc, _⟩
  · exact ⟨none, 0, by rw [← hl, h0], by omega, .inl (by omega)⟩
  · refine ⟨some ⟨g, 0, none⟩, cap, by rw [hl], by omega, .inr ⟨g, 0, rfl, (Array.getElem?_eq_some_iff.1 hr).1, fun k hkn => ?_⟩⟩
    obtain ⟨p, hp⟩ : ∃ p, O[k]? = some p := ⟨_, List.getElem?_eq_getElem (by omega)⟩
    have hp1 : L.getD k xo0 = p.1 := by rw [List.getD_eq_getElem?_getD, ← hL, List.getElem?_map, hp]; rfl
    have c : ∀ j (hj : j < 4) u, (xoC p)[j]? = some u → w.cell? ⟨g, 0 + k * 4 + j, none⟩ = some u := fun j hj u hu => by
      have := World.ownsRow.cells h (g := g) rfl (k * 4 + j) u ((xoL_at O k j p hp hj).trans hu)
      rw [Addr.add_lit, Nat.zero_add] at this
      rw [Nat.zero_add]; exact this
    obtain ⟨ak, ck, e, hs⟩ := strs_own (hk p (List.mem_of_getElem? hp))
    refine ⟨ak, ck, ?_, ?_, ?_, ?_, ?_⟩
    · show _ = some (Value.int .i64 (L.getD k xo0).cd); rw [hp1]; exact c 0 (by decide) _ rfl
    · show _ = some (Value.string (L.getD k xo0).dt); rw [hp1]; exact c 1 (by decide) _ rfl
    · show _ = some (Value.slice ak (L.getD k xo0).ks.length ck); rw [hp1, ← e]; exact c 2 (by decide) _ rfl
    · show _ = some (Value.int .i64 (L.getD k xo0).hl); rw [hp1]; exact c 3 (by decide) _ rfl
    · show Strs w ak (L.getD k xo0).ks.length ck (fun i => (L.getD k xo0).ks.getD i ⟨#[]⟩); rw [hp1]; exact hs
/-- at most 100 keys -/
theorem xDo_ks (d : ByteArray) (sy : Nat) (o : Op) : (xDo d sy o).2.ks.length ≤ 100 := by
  unfold xDo
  dsimp only
  repeat' split
  all_goals first | (simp; done) | (unfold scrN; rw [List.length_map, List.length_take]; omega)
theorem xRun_ks (d : ByteArray) (sy : Nat) (o : Nat → Op) : ∀ i, ∀ x ∈ (xRun d sy o i).2, x.ks.length ≤ 100
  | 0, x, hx => by cases hx
  | i + 1, x, hx => by
    rcases List.mem_append.1 (show x ∈ (xRun d sy o i).2 ++ [_] from hx) with h | h
    · exact xRun_ks d sy o i x h
    · rw [List.mem_singleton] at h; subst h; exact xDo_ks _ _ _
theorem xoO_n {L : List XOt} (h : ∀ x ∈ L, x.ks.length ≤ 100) (k : Nat) : (xoO L k).n ≤ 100 := by
  show (L.getD k xo0).ks.length ≤ 100
  rw [List.getD_eq_getElem?_getD]
  cases e : L[k]? with
  | none => show (0 : Nat) ≤ 100; omega
  | some x => exact h x (List.mem_of_getElem? e)
theorem mkO_le {n : Nat → Nat} (h : ∀ k, n k ≤ 100) : ∀ N, mkO n 1 N ≤ 1 + N * 103
  | 0 => Nat.le_refl _
  | N + 1 => by have := mkO_le h N; have := h N; show mkO n 1 N + n N + 3 ≤ _; omega
set_option maxRecDepth 20000 in
set_option maxHeartbeats 2000000 in
theorem markOuts0 (a : Option Addr) (cap k0 : Nat) (w : World) : Calls Tryz.prog 43 #[.slice a 0 cap, .int .i64 k0] w fun e w' => e = .returned (.int .i64 k0) ∧ w' = w := by
  go_enter Tryz.func43, Tryz.ntmps43
  go_wp2
  go_loopw [5, 1] (fun x y wr => x = .int .i64 0 ∧ y = .int .i64 k0 ∧ wr = w) (fun _ _ _ => 0)
  case atStart => exact ⟨rfl, rfl, rfl⟩
  case round =>
    obtain ⟨rfl, rfl, rfl⟩ := hrel
    go_wp2
    go_ret
    exact ⟨rfl, rfl⟩
/-- the answer is marked: its rows are the call's own, and apart -/
theorem markX (d : ByteArray) (s : Int) {w : World} {base : Nat} {v : Value} {O : List (XOt × Value)} {L : List XOt} (hl : L.length ≤ 2000) (h100 : ∀ x ∈ L, x.ks.length ≤ 100) (h : w.ownsRow base 36 4 v O.length (xoL O)) (hk : ∀ p ∈ O, OwnStrs w base p.2 p.1.ks) (hL : O.map Prod.fst = L) (hsp : O.Pairwise fun p q => ∀ g, p.2.ownBlock = some g → q.2.ownBlock ≠ some g) (hb : base ≤ w.heap.size) (a : Option Addr) (c : Nat) (hv : v = .slice a L.length c) :
    Calls Tryz.prog 20 #[.agg #[.string d, .int .i64 s, .slice a L.length c], .int .i64 (1 : Nat)] w fun e w' => e = .returned (.int .i64 (mkO (fun k => (xoO L k).n) 1 L.length : Nat)) ∧ Outs w' a L.length c (mOut (fun k => (xoO L k).n) 1) ∧ BK base 36 9 w w' := by
  have hlen : O.length = L.length := by rw [← hL, List.length_map]
  have hn100 : ∀ k, (xoO L k).n ≤ 100 := xoO_n h100
  obtain ⟨n, hn⟩ : ∃ n, n = fun k => (xoO L k).n := ⟨_, rfl⟩
  rw [← hn]
  have hnk : ∀ k, n k ≤ 100 := fun k => by rw [hn]; exact hn100 k
  refine markRun d s a L.length c 1 (mkO n 1 L.length) base 36 9 (fun w' => Outs w' a L.length c (mOut n 1)) w hb fun W hW => ?_
  have h' := orKeep h fun g cs _ r => r.below hW r.lt
  have hk' : ∀ p ∈ O, OwnStrs W base p.2 p.1.ks := fun p hp => (hk p hp).below hW
  by_cases h0 : L.length = 0
  · rw [h0]
    refine (markOuts0 a c 1 W).mono ?_
    rintro e w' ⟨rfl, rfl⟩
    exact ⟨rfl, ⟨Nat.zero_le _, .inl rfl⟩, BK.refl _ _ _ _⟩
  rcases h'.2 with ⟨_, q⟩ | ⟨g, cap, cur, he, hbg, hr, hnc, hcm, hsz, _⟩
  · omega
  rw [hv] at he
  injection he with e1 e2 e3
  subst e1 e3
  have RW : RowAt W g 36 cur := hr
  have at_ : ∀ k, k < L.length → ∃ p, O[k]? = some p ∧ L.getD k xo0 = p.1 := fun k hk => by
    obtain ⟨p, hp⟩ : ∃ p, O[k]? = some p := ⟨_, List.getElem?_eq_getElem (by omega)⟩
    exact ⟨p, hp, by rw [List.getD_eq_getElem?_getD, ← hL, List.getElem?_map, hp]; rfl⟩
  have nk : ∀ k p, O[k]? = some p → n k = p.1.ks.length := fun k p hp => by
    have hlt := (List.getElem?_eq_some_iff.1 hp).1
    obtain ⟨q, hq, e⟩ := at_ k (by omega)
    rw [hp] at hq
    obtain rfl := Option.some.inj hq
    rw [hn]
    show (L.getD k xo0).ks.length = _
    rw [e]
  obtain ⟨kv, hkv⟩ : ∃ kv : Nat → Value, kv = fun k => (O.getD k (xo0, .slice none 0 0)).2 := ⟨_, rfl⟩
  have kvp : ∀ k p, O[k]? = some p → kv k = p.2 := fun k p hp => by rw [hkv]; show (O.getD k _).2 = _; rw [List.getD_eq_getElem?_getD, hp]; rfl
  -- where the keys lie
  obtain ⟨ak, hak⟩ : ∃ ak : Nat → Option Addr, ak = fun k => match kv k with | .slice a _ _ => a | _ => none := ⟨_, rfl⟩
  obtain ⟨ck, hck⟩ : ∃ ck : Nat → Nat, ck = fun k => match kv k with | .slice _ _ c => c | _ => 0 := ⟨_, rfl⟩
  obtain ⟨kb, hkb⟩ : ∃ kb : Nat → Nat, kb = fun k => match kv k with | .slice (some a) _ _ => a.block | _ => 0 := ⟨_, rfl⟩
  have sl : ∀ k p, O[k]? = some p → p.2 = .slice (ak k) (n k) (ck k) ∧ n k ≤ ck k := fun k p hp => by
    obtain ⟨a', c', e, hs⟩ := strs_own (hk' p (List.mem_of_getElem? hp))
    have e' := kvp k p hp
    rw [e] at e'
    rw [hak, hck]
    dsimp only
    rw [e', nk k p hp]
    exact ⟨e, hs.1⟩
  have row : ∀ k p, O[k]? = some p → 0 < n k → ak k = some ⟨kb k, 0, none⟩ ∧ base ≤ kb k ∧ p.2.ownBlock = some (kb k) ∧ ∃ cs : Array Value, RowAt W (kb k) 9 cs ∧ cs.size = ck k := fun k p hp h0 => by
    rcases (hk' p (List.mem_of_getElem? hp)).2 with ⟨_, q⟩ | ⟨g2, cap2, cur2, he2, hb2, hr2, _, _, hs2, _⟩
    · rw [nk k p hp] at h0; omega
    · have e' := kvp k p hp
      rw [he2] at e'
      rw [hak, hkb, hck]
      dsimp only
      rw [e']
      exact ⟨rfl, hb2, by rw [he2]; rfl, cur2, hr2, by simpa using hs2⟩
  have P : KP base g L.length n ak kb ck := by
    refine ⟨fun j hj h0 => ?_, fun i j hi hj hij h1 h2 => ?_⟩
    · obtain ⟨p, hp, _⟩ := at_ j hj
      obtain ⟨r1, r2, r3, cs, r4, r5⟩ := row j p hp h0
      exact ⟨row_neX r4 RW (by decide), r2, r1, (sl j p hp).2⟩
    · obtain ⟨p, hp, _⟩ := at_ i hi
      obtain ⟨q, hq, _⟩ := at_ j hj
      have r3 := (row i p hp h1).2.2.1
      have r4 := (row j q hq h2).2.2.1
      intro e
      have PW := List.pairwise_iff_getElem.1 hsp
      obtain ⟨li, rfl⟩ := List.getElem?_eq_some_iff.1 hp
      obtain ⟨lj, rfl⟩ := List.getElem?_eq_some_iff.1 hq
      rcases Nat.lt_or_ge i j with c | c
      · exact PW i j li lj c _ r3 (by rw [e]; exact r4)
      · exact PW j i lj li (by omega) _ r4 (by rw [← e]; exact r3)
  have S0 : KS W L.length n 1 kb ck 9 0 := fun j hj h0 => by
    obtain ⟨p, hp, _⟩ := at_ j hj
    obtain ⟨_, _, _, cs, r4, r5⟩ := row j p hp h0
    refine ⟨fun i => cs.getD i undef, FRow.of r4 r5 fun q hq => ?_, fun h => by omega⟩
    rw [Array.getD_eq_getD_getElem?, Array.getElem?_eq_getElem (by omega)]
    rfl
  have F0 : FRow W g 36 (c * 4) (fun i => cur.getD i undef) := FRow.of RW hsz fun q hq => by
    rw [Array.getD_eq_getD_getElem?, Array.getElem?_eq_getElem (by omega)]
    rfl
  have G2 : ∀ k, k < L.length → (fun i => cur.getD i undef) (k * 4 + 2) = .slice (ak k) (n k) (ck k) := fun k hk => by
    obtain ⟨p, hp, _⟩ := at_ k hk
    have e := World.ownsRow.cells (hv ▸ h') (g := g) rfl (k * 4 + 2) p.2 ((xoL_at O k 2 p hp (by decide)).trans rfl)
    rw [Addr.add_lit, Nat.zero_add, RW.cell] at e
    show cur.getD (k * 4 + 2) undef = _
    rw [Array.getD_eq_getD_getElem?, e, ← (sl k p hp).1]
    rfl
  have M := mkO_le hnk L.length
  refine (markOuts base g L.length c n 1 ak ck kb ck 36 9 (c * 4) _ (by omega) hbg (by omega) (fun k _ => by have := hnk k; omega) (by omega) P G2 W S0 F0).mono ?_
  rintro e w' ⟨rfl, hS, hF, hB⟩
  exact ⟨rfl, Outs.of_marks (by omega) (by omega) P (fun k hk => by obtain ⟨p, hp, _⟩ := at_ k hk; exact (sl k p hp).2) G2 hS hF, hB⟩
end Go.Proofs.YtngkiokibldfjaaGreatDoor
