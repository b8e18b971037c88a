import Derived.Test.YtlobnmcjnaibaajDoorMatInvCore
import Derived.Test.YtlobnmcjnaibaajDoorIMat2
import Derived.Test.YtlobnmcjnaibaajDoorITimes
import Derived.Test.YtlobnmcjnaibaajDoorSInv2
namespace Go.Proofs.YtlobnmcjnaibaajDoor
open Go.RowKit
/-- the inverse's cells -/
def IsI (n : Nat) (xs X : List Nat) : Prop := X.length = n * n ∧ Sm n n (mo n X) ∧ IsInv n (fm (mo n xs)) (fm (mo n X)) ∧ IsInv n (fm (mo n X)) (fm (mo n xs))
theorem isI_unique {n : Nat} {xs X Y : List Nat} (hn : 1 ≤ n) (h1 : IsI n xs X) (h2 : IsI n xs Y) : X = Y :=
  list_ext_mo hn rfl h1.1 h2.1 fun i j hi hj => by
    have e := congrArg F.v (inv_unique h1.2.2.2 h2.2.2.1 i j hi hj)
    rwa [fm_v (h1.2.1 i j hi hj), fm_v (h2.2.1 i j hi hj)] at e
open Classical in
noncomputable def invL (n : Nat) (xs : List Nat) : List Nat := if h : ∃ X, IsI n xs X then Classical.choose h else []
theorem invL_of {n : Nat} {xs X : List Nat} (hn : 1 ≤ n) (h : IsI n xs X) : invL n xs = X := by
  have hx : ∃ X, IsI n xs X := ⟨X, h⟩
  unfold invL; rw [dif_pos hx]; exact isI_unique hn (Classical.choose_spec hx) h
theorem invL_len {n : Nat} (hn : n ≤ 64) (xs : List Nat) : (invL n xs).length ≤ 1048576 := by
  have hq : n * n ≤ 64 * 64 := Nat.mul_le_mul hn hn
  unfold invL; split
  · rename_i h; rw [(Classical.choose_spec h).1]; omega
  · exact Nat.zero_le _
theorem fnExactMatInv_small (r c : Int) (a : Option Addr) (len cap : Nat) (xs : List Int) (w : World) (hT : Tab w) (h : Ints .i64 w a len cap xs) (hle : len ≤ 1048576) :
    Calls Tryd.prog 4 #[.agg #[.int .i64 r, .int .i64 c, .slice a len cap]] w fun e w' => e = .returned (.bool true) ∧ Below w.heap.size w w' := by
  have hxl := h.1
  by_cases hok : mfault r c xs = 0 ∧ r = c
  · obtain ⟨f1, hrc⟩ := hok
    obtain ⟨n, n', rfl, rfl, h1, h2, h3, h4, ys, rfl, h5, h6⟩ := mfault_ok f1
    obtain rfl : n = n' := by omega
    rw [nl_len] at hxl
    have hs : Small ys := small_of h6
    have hln : len = n * n := by omega
    by_cases hrk : rank n n (fm (mo n ys)) = n
    · refine fnExactMatInv_core 0 n n (nl (invL n ys)) (by rw [nl_len]; exact invL_len h2 ys) n n a len cap (nl ys) w hT h hle (fun b w hw => ?_) (fun b w hT hw => ?_)
      · refine (sinv_ok n h1 h2 ys (fun _ _ _ _ => hs _) (some ⟨b, 0, none⟩) len len w (hw.ints2 (by rw [nl_len]; exact hxl)) hln f1 hrk).mono ?_
        rintro e w' ⟨g, X, rfl, hg, hW, hXl, hXs, i1, i2, hb⟩
        rw [invL_of h1 (X := X) ⟨hXl.trans hln, hXs, i1, i2⟩]
        exact Ans.yes rfl hg hW (by rw [nl_len]; exact hXl) hb
      · refine (imatinv n len h1 h2 hln ys hs (some ⟨b, 0, none⟩) len w hT (hw.ints2 (by rw [nl_len]; exact hxl)) f1).mono ?_
        rintro e w' ⟨hb, ⟨_, g, X, rfl, hg, hW, hXl, hXs, i1, i2⟩ | ⟨hlt, _⟩⟩
        · rw [invL_of h1 (X := X) ⟨hXl.trans hln, fun _ _ _ _ => hXs _, i1, i2⟩]
          exact Ans.yes rfl hg hW (by rw [nl_len]; exact hXl) hb
        · omega
    · have hlt : rank n n (fm (mo n ys)) < n := by have := cntP_le (fun c => ¬ Dep n n (fm (mo n ys)) c) n; unfold rank at hrk ⊢; omega
      refine fnExactMatInv_core 5 0 0 [] (by decide) n n a len cap (nl ys) w hT h hle (fun b w hw => ?_) (fun b w hT hw => ?_)
      · refine (sinv_none n h1 h2 ys (fun _ _ _ _ => hs _) (some ⟨b, 0, none⟩) len len w (hw.ints2 (by rw [nl_len]; exact hxl)) hln f1 hlt).mono ?_
        rintro e w' ⟨he, hb⟩
        exact Ans.no he hb
      · refine (imatinv n len h1 h2 hln ys hs (some ⟨b, 0, none⟩) len w hT (hw.ints2 (by rw [nl_len]; exact hxl)) f1).mono ?_
        rintro e w' ⟨hb, ⟨he, _⟩ | ⟨_, he⟩⟩
        · omega
        · exact Ans.no he hb
  · refine fnExactMatInv_core 1 0 0 [] (by decide) r c a len cap xs w hT h hle (fun b w hw => ?_) (fun b w hT hw => ?_)
    · refine (sinv_no r c xs (some ⟨b, 0, none⟩) len len w (hw.ints2 hxl) hle hok).mono ?_
      rintro e w' ⟨he, hb⟩
      exact Ans.no he hb
    · refine (imatinv_no r c xs (some ⟨b, 0, none⟩) len len w (hw.ints2 hxl) hle hok).mono ?_
      rintro e w' ⟨he, hb⟩
      exact Ans.no he hb
set_option maxRecDepth 20000 in
set_option maxHeartbeats 1000000 in
theorem fnExactMatInv_walk {w : World} (hT : Tab w) (r : Int) (_wr : (Lit.int .i64 r).wf = true) (c : Int) (_wc : (Lit.int .i64 c).wf = true) (a : Option Addr) (len cap : Nat) (zs : List Int) (h : IsRow .i64 w a len cap zs) :
    Calls Tryd.prog 4 #[.agg #[.int .i64 r, .int .i64 c, .slice a len cap]] w fun e w' => e = .returned (.bool true) ∧ Below w.heap.size w w' := by
  have hm := h.le
  unfold maxLen at hm
  by_cases hle : len ≤ 1048576
  · exact fnExactMatInv_small r c a len cap _ w hT (Ints.of_isRow h) hle
  · have hle' : ¬ (len : Int) ≤ 1048576 := by omega
    clear h
    go_enter Tryd.func4, Tryd.ntmps4
    go_wp2_with fail
    refine (szMx r c a len cap 1048576 (by decide) (by decide) (by omega) _).mono ?_
    rintro e w1 ⟨rfl, hb1⟩
    rw [if_neg (show ¬ (len : Int) ≤ 1048576 by omega)]
    go_wp2
    go_ret
    exact ⟨rfl, ((Below.refl _ _).alloc (Nat.le_refl _) _).trans (hb1.mono (by rw [size_al]; omega))⟩
end Go.Proofs.YtlobnmcjnaibaajDoor
