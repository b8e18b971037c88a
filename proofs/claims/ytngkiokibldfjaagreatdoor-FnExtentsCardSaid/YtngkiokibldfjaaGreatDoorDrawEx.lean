import Derived.Test.YtngkiokibldfjaaGreatDoorDraw
namespace Go.Proofs.YtngkiokibldfjaaGreatDoor
open Go.RowKit
/-! A draw, told to the number. -/
def nV (cd : Nat → Nat) (len p most : Nat) : Nat := if len = 0 then p * 7 % most else (cd (p % len) + p / len * 37) % most
theorem nV_lt (cd : Nat → Nat) (len p most : Nat) (h : 1 ≤ most) : nV cd len p most < most := by
  unfold nV; split <;> exact Nat.mod_lt _ (by omega)
def CdOf (W0 : World) (a : Option Addr) (len : Nat) (cd : Nat → Nat) : Prop :=
  len = 0 ∨ ∃ b off, a = some ⟨b, off, none⟩ ∧ b < W0.heap.size ∧ ∀ i, i < len → cd i < 256 ∧ W0.cell? ⟨b, off + i, none⟩ = some (.int .u8 (cd i : Nat))
theorem cd_of {W0 : World} {a : Option Addr} {len : Nat} (h : CodeOk W0 a len) : ∃ cd, CdOf W0 a len cd := by
  rcases h.2 with h0 | ⟨b, off, ha, hb, hc⟩
  · exact ⟨fun _ => 0, Or.inl h0⟩
  · refine ⟨fun i => if h : i < len then (hc i h).choose else 0, Or.inr ⟨b, off, ha, hb, fun i hi => ?_⟩⟩
    simp only [hi, dif_pos]
    exact (hc i hi).choose_spec
set_option maxRecDepth 20000 in
set_option maxHeartbeats 2000000 in
theorem nEx (W0 w : World) (c : Nat) (a : Option Addr) (len cap p most : Nat) (cd : Nat → Nat) (h : Src W0 w c a len cap p) (hcd : CdOf W0 a len cd) (hp : p ≤ 1000000000) (hm : 1 ≤ most) (hm2 : most ≤ 200) :
    Calls Tryz.prog 31 #[.pointer (some ⟨c, 0, none⟩), .int .i64 (most : Int)] w fun e w' => e = .returned (.int .i64 (nV cd len p most : Nat)) ∧ Src W0 w' c a len cap (p + 1) ∧ w.grownBy w' (some c) := by
  obtain ⟨⟨z, hS, hz⟩, ⟨hlen, hcode⟩, hlc, hb, h0⟩ := h
  have fin : ∀ w', SrcAt w' c a len cap ((p + 1 : Nat) : Int) z → w.grownBy w' (some c) → Src W0 w' c a len cap (p + 1) := fun w' h1 h2 =>
    ⟨⟨z, h1, hz⟩, ⟨hlen, hcode⟩, hlc, hb.grown h2 hb.size (by intro g hg; cases hg; exact h0), h0⟩
  have c0 := hS.cell 0 _ rfl
  have c1 := hS.cell 1 _ rfl
  have f1 := hS.free 1
  have d0 : decide ((most : Int) < 1) = false := by simp; omega
  by_cases hl : len = 0
  · subst hl
    have E : Hid ((p : Int) * 7 % (most : Int) = (nV cd 0 p most : Nat)) := by show _ = _; unfold nV; simp
    have F := hid fin
    clear fin
    go_enter Tryz.func31, Tryz.ntmps31
    go_wp2
    go_ret
    refine ⟨by rw [← E.out]; rfl, F.out _ (by simpa using hS.step (p + 1)) grown_set, grown_set⟩
  · rcases hcd with h1 | ⟨b, off, rfl, hbl, hcells⟩
    · exact absurd h1 hl
    have hl0 : 0 < len := by omega
    have d1 : ((len : Int) == 0) = false := by simp; omega
    have hne : b ≠ c := by omega
    obtain ⟨hz1, e1⟩ := hcells (p % len) (Nat.mod_lt _ hl0)
    generalize hzz : cd (p % len) = z1 at hz1 e1
    have g1 : w.cell? ⟨b, off + p % len, none⟩ = some (.int .u8 z1) := (hb.cell (p := ⟨b, off + p % len, none⟩) hbl).trans e1
    have m1 : p % len < len := Nat.mod_lt _ hl0
    have i1 : ((p : Int) % (len : Int)) < (len : Int) := by omega
    have q1 : (0 : Int) ≤ (p : Int) / (len : Int) := Int.ediv_nonneg (by omega) (by omega)
    have q2 : (p : Int) / (len : Int) ≤ 1000000000 := by
      have : p / len ≤ p := Nat.div_le_self _ _
      have e : ((p / len : Nat) : Int) = (p : Int) / (len : Int) := by simp
      omega
    have i4 : (0 : Int) ≤ (p : Int) % (len : Int) := Int.emod_nonneg _ (by omega)
    have hwr : IntKind.i64.wrap ((p : Int) + 1) = (p : Int) + 1 := by simp [IntKind.wrap, IntKind.bits, IntKind.signed]; omega
    have E : Hid (((z1 : Int) + (p : Int) / (len : Int) * 37) % (most : Int) = (nV cd len p most : Nat)) := by
      show _ = _
      unfold nV
      rw [if_neg hl, hzz]; simp
    have d2 : decide ((200 : Int) < (most : Int)) = false := by simp; omega
    have F := hid fin
    clear e1 hcells hcode fin hzz
    go_enter Tryz.func31, Tryz.ntmps31
    go_wp2
    go_quiet (fail)
    go_wp2
    go_ret
    have gr : w.grownBy ((w.setCell ⟨c, 1, none⟩ (.int .i64 ((p : Int) + 1))).drewN nq) (some c) := grown_trans grown_set (grown_drewN _ _ _)
    exact ⟨by rw [← E.out]; rfl, F.out _ (by simpa using hS.step (p + 1) : SrcAt (w.setCell ⟨c, 1, none⟩ (.int .i64 ((p : Int) + 1))) c (some ⟨b, off, none⟩) len cap ((p + 1 : Nat) : Int) z) gr, gr⟩
/-- where a source stands -/
def atOf (w : World) (c : Nat) : Nat := match w.cell? ⟨c, 1, none⟩ with
  | some (.int _ z) => z.toNat
  | _ => 0
theorem Src.atOf {W0 w : World} {c : Nat} {a : Option Addr} {len cap p : Nat} (h : Src W0 w c a len cap p) : atOf w c = p := by
  obtain ⟨⟨z, hS, _⟩, _⟩ := h
  have := hS.cell 1 _ rfl
  unfold Go.Proofs.YtngkiokibldfjaaGreatDoor.atOf
  rw [this]; rfl
/-- a round of the draw that does not go on -/
def Stk (cd : Nat → Nat) (len at_ : Nat) : Prop := nV cd len at_ 5 = 0 ∧ nV cd len (at_ + 1) 4 = 0
theorem stk_no (cd : Nat → Nat) (len at_ : Nat) (h1 : Stk cd len at_) (h2 : Stk cd len (at_ + 2 * (if len = 0 then 1 else len))) : False := by
  have a1 := h1.1
  have a2 := h2.1
  unfold nV at a1 a2
  by_cases hl : len = 0
  · rw [if_pos hl] at a1 a2; rw [if_pos hl] at a2; omega
  · rw [if_neg hl] at a1 a2
    rw [if_neg hl] at a2
    have e1 : (at_ + 2 * len) % len = at_ % len := by rw [Nat.add_comm, Nat.mul_comm, Nat.mul_add_mod]
    have e2 : (at_ + 2 * len) / len = at_ / len + 2 := by rw [Nat.mul_comm, Nat.add_mul_div_left _ _ (by omega)]
    rw [e1, e2] at a2
    omega
theorem stk_bound (cd : Nat → Nat) (len a0 m : Nat) (h : ∀ j, j < m → Stk cd len (a0 + 2 * j)) : m ≤ len + 1 := by
  rcases Nat.lt_or_ge (len + 1) m with hm | hm
  · exfalso
    refine stk_no cd len a0 (by simpa using h 0 (by omega)) (h (if len = 0 then 1 else len) ?_)
    split <;> omega
  · exact hm
end Go.Proofs.YtngkiokibldfjaaGreatDoor
