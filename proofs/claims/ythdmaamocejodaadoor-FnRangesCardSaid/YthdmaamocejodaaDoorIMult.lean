import Derived.Test.YthdmaamocejodaaDoorIGrid3
import Derived.Shelf.Spec.TrailingZeros
namespace Go.Proofs.YthdmaamocejodaaDoor
open Go.RowKit
/-! The library's table, and the multiples of an element. -/
def Tab (w : World) : Prop := TabAt 2 Lib.deBruijn64tab w
theorem Tab.lt {w : World} (h : Tab w) : 2 < w.heap.size := World.block_lt_of_cell? w _ (h 0 (by decide))
theorem Tab.below {w w' : World} {n : Nat} (h : Tab w) (hb : Below n w w') (hn : 2 < n) : Tab w' := fun j hj => (hb.cell (p := ⟨2, j, none⟩) hn).trans (h j hj)
theorem Tab.belowS {w w' : World} (h : Tab w) (hb : Below w.heap.size w w') : Tab w' := h.below hb h.lt
theorem Tab.alloc {w : World} (h : Tab w) (o : Obj) : Tab (w.alloc o) := h.belowS ((Below.refl _ _).alloc (Nat.le_refl _) o)
theorem Tab.drew {w : World} (h : Tab w) : Tab w.drew := h
theorem Tab.drewN {w : World} (h : Tab w) (n : Nat) : Tab (w.drewN n) := h
theorem Tab.far {w w' : World} {g : Nat} (h : Tab w) (hg : w.grownBy w' (some g)) (hn : 2 < g) : Tab w' := fun j hj => by
  have hb : w'.heap[2]? = w.heap[2]? := hg.block 2 h.lt (by intro e; injection e with e; omega)
  have := h j hj
  unfold World.cell? at this ⊢
  rw [show w'.heap[(⟨2, j, none⟩ : Addr).block]? = w.heap[(⟨2, j, none⟩ : Addr).block]? from hb]; exact this
/-- the place of the lowest bit of a byte -/
def tz8 (i : Nat) : Nat := Lib.ctz 64 i
theorem low8 : ∀ i, i < 256 → i ≠ 0 → tz8 i < 8 ∧ i &&& (i - 1) < i ∧ (i &&& (i - 1)) ^^^ 2 ^ tz8 i = i ∧ i &&& (18446744073709551616 - i) = 2 ^ tz8 i := by decide +kernel
theorem gm_low {f i : Nat} (hi : i < 256) (h0 : i ≠ 0) : gm 8 29 f i = gm 8 29 f (i &&& (i - 1)) ^^^ itx 8 29 (tz8 i) f := by
  obtain ⟨h1, _, h3, _⟩ := low8 i hi h0
  rw [← gm_pow f h1, ← gm_xr, h3]
set_option maxRecDepth 20000 in
set_option maxHeartbeats 1000000 in
theorem itz64 (x k idx : Nat) (w : World) (hx0 : ((x : Int) == 0) = false)
    (key : IntKind.u64.wrap (bits BinOp.and IntKind.u64 (x : Int) (IntKind.u64.wrap (-(x : Int))) * 285870213051353865) / 288230376151711744 = (idx : Int))
    (hi : idx < 64) (hk : k < 64) (hcell : w.cell? ⟨2, idx, none⟩ = some (.int .u8 k)) :
    Calls Tryd.prog 65 #[.int .u64 x] w fun e w' => e = .returned (.int .i64 k) ∧ w' = w := by
  go_enter Tryd.func65, Tryd.ntmps65
  go_wp2_with (simp only [key])
  go_ret
  exact ⟨rfl, rfl⟩
set_option maxRecDepth 20000 in
set_option maxHeartbeats 1000000 in
theorem itz (i : Nat) (hi : i < 256) (h0 : i ≠ 0) (w : World) (hT : Tab w) :
    Calls Tryd.prog 60 #[.int .u64 i] w fun e w' => e = .returned (.int .i64 (tz8 i : Nat)) ∧ w' = w := by
  obtain ⟨h1, _, _, hlow⟩ := low8 i hi h0
  obtain ⟨hd, htab⟩ := Lib.deBruijn64_at _ (show tz8 i < 64 by omega)
  have hcell := hT _ (show _ < Lib.deBruijn64tab.length from hd)
  rw [htab] at hcell
  have key := tz64_key i _ (by omega) h0 hlow
  obtain ⟨idx, hidx⟩ : ∃ idx, idx = 2 ^ tz8 i * 285870213051353865 % 18446744073709551616 / 288230376151711744 := ⟨_, rfl⟩
  rw [← hidx] at hcell key hd
  obtain ⟨k, hk⟩ : ∃ k, k = tz8 i := ⟨_, rfl⟩
  rw [← hk] at hcell h1 ⊢
  have HC := hid hcell
  have HK := hid key
  clear hcell key hidx hlow htab hT hk
  have hw : IntKind.u64.wrap (i : Int) = (i : Int) := by rw [IntKind.wrap_u64]; omega
  go_enter Tryd.func60, Tryd.ntmps60
  go_wp2_with fail
  refine (itz64 i k idx _ (by simp; omega) HK.out hd (by omega) HC.out).mono ?_
  rintro e w1 ⟨rfl, rfl⟩
  go_wp2
  go_ret
  exact ⟨rfl, rfl⟩
end Go.Proofs.YthdmaamocejodaaDoor
