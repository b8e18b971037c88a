import Derived.Test.YtjeahllaajpddaaDraw2
import Derived.Deep.RegionWith
import Derived.Deep.DrawnRows
namespace Go.Proofs.Ytjeahllaajpddaa
open Go.RowKit
attribute [local go_sem ↓] Go.wp_at_zero Go.wp_at_succ
theorem grown_drew' (w : World) (r : Option Nat) : w.grownBy w.drew r := ⟨rfl, rfl, rfl, Nat.le_refl _, fun _ _ _ => rfl⟩
theorem Src.drew {W0 w : World} {c : Nat} {a : Option Addr} {len cap p : Nat} (h : Src W0 w c a len cap p) : Src W0 w.drew c a len cap p :=
  h.far (grown_drew' w none) (by simp) (by intro g hg; cases hg)
theorem Src.alloc {W0 w : World} {c : Nat} {a : Option Addr} {len cap p : Nat} (h : Src W0 w c a len cap p) (o : Obj) : Src W0 (w.alloc o) c a len cap p :=
  h.far (World.grownBy_alloc w o none) (by simp) (by intro g hg; cases hg)

/-- The seed that is drawn. -/
def sel (k : Nat) (r : Int) : Int := if k = 0 then 0 else if k = 1 then 1 else if k = 2 then r else if k = 3 then 2147483647 else if k = 4 then 9223372036854775807 else -1
theorem sel_at (k : Nat) (r : Int) (h : k < 6) : (#[.int .i64 0, .int .i64 1, .int .i64 r, .int .i64 2147483647, .int .i64 9223372036854775807, .int .i64 (-1)] : Array Value)[k]? = some (.int .i64 (sel k r)) := by
  rcases (by omega : k = 0 ∨ k = 1 ∨ k = 2 ∨ k = 3 ∨ k = 4 ∨ k = 5) with rfl | rfl | rfl | rfl | rfl | rfl <;> rfl
theorem sel_bd (k : Nat) (r : Int) (h0 : 0 ≤ r) (h1 : r < 100000) : -1 ≤ sel k r ∧ sel k r ≤ 9223372036854775807 := by
  unfold sel; split; omega; split; omega; split; omega; split; omega; split; omega; omega
theorem sel_before (w3 w4 : World) (c k : Nat) (r : Int) (hk : k < 6) (hg : (w3.alloc (.cells #[.int .i64 0, .int .i64 1, .int .i64 r, .int .i64 2147483647, .int .i64 9223372036854775807, .int .i64 (-1)] 2)).grownBy w4 (some c)) (hc : c < w3.heap.size) :
    w4.cell? ⟨w3.heap.size, k, none⟩ = some (.int .i64 (sel k r)) :=
  ((Blk.made w3 _ _).far hg (by simp) (by simp; omega)).cell k _ (sel_at k r hk)

set_option maxRecDepth 20000 in
set_option maxHeartbeats 4000000 in
theorem drawSumOf_all (w : World) (a : Option Addr) (len cap : Nat) (hc : CodeOk w a len) (hlc : len ≤ cap) :
    Calls Try.prog 9 #[.slice a len cap] w fun e w' => (∃ (t : ByteArray) (n : Int), e = .returned (.tuple #[.string t, .int .i64 n]) ∧ t.size ≤ 300 ∧ -1 ≤ n ∧ n ≤ 9223372036854775807) ∧ Below w.heap.size w w' := by
  go_enter Try.func9, Try.ntmps9
  go_wp2_with fail
  refine (source_all w a len cap hc hlc).mono ?_
  rintro e w1 ⟨rfl, hs, hb⟩
  go_wp2_with fail
  go_region_with ((first
    | (go_at_call 29; refine (long_all w _ w.heap.size a len cap 0 (by exact hs.drew) (by omega)).mono ?_; rintro e w2 ⟨⟨t, rfl, ht⟩, ⟨p', hs2, hp2⟩, hg2⟩)
    | (go_at_call_of 30 (Value.int IntKind.i64 100000); refine (n_all w _ w.heap.size a len cap p' 100000 (by exact hs2) (by omega) (by omega) (by omega)).mono ?_; rintro e w3 ⟨⟨r, rfl, hr0, hr1⟩, hs3, hg3⟩)
    | (go_at_call_of 30 (Value.int IntKind.i64 6); refine (n_all w (w3.alloc (.cells #[.int .i64 0, .int .i64 1, .int .i64 r, .int .i64 2147483647, .int .i64 9223372036854775807, .int .i64 (-1)] 2)) w.heap.size a len cap (p' + 1) 6 (hs3.alloc _) (by omega) (by omega) (by omega)).mono ?_; rintro e w4 ⟨⟨r6, rfl, hr2, hr3⟩, hs4, hg4⟩; obtain ⟨k6, rfl⟩ := Int.eq_ofNat_of_zero_le hr2; have hld := sel_before w3 w4 w.heap.size k6 r (by omega) hg4 hs3.lt)
    | (go_at_call_of 30 (Value.int IntKind.i64 6); refine (n_all w w3 w.heap.size a len cap (p' + 1) 6 hs3 (by omega) (by omega) (by omega)).mono ?_; rintro e w4 ⟨⟨r6, rfl, hr2, hr3⟩, hs4, hg4⟩; obtain ⟨k6, rfl⟩ := Int.eq_ofNat_of_zero_le hr2; have hld := sel_at k6 r (by omega))))
  all_goals go_wp2
  all_goals go_ret2
  · have h3 := below_src (below_src hb.drew hg2) hg3
    exact ⟨⟨t, sel k6 r, rfl, ht, (sel_bd k6 r hr0 hr1).1, (sel_bd k6 r hr0 hr1).2⟩, below_src (h3.alloc h3.size _) hg4⟩
  · have h3 := below_src (below_src (below_src hb.drew hg2) hg3) hg4
    exact ⟨⟨t, sel k6 r, rfl, ht, (sel_bd k6 r hr0 hr1).1, (sel_bd k6 r hr0 hr1).2⟩, h3.alloc h3.size _⟩
end Go.Proofs.Ytjeahllaajpddaa
