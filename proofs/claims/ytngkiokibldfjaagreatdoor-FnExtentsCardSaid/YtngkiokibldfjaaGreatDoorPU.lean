import Derived.Test.YtngkiokibldfjaaGreatDoorPL
import Derived.Deep.RegionLaw
import Derived.Deep.CutBlock
namespace Go.Proofs.YtngkiokibldfjaaGreatDoor
open Go.RowKit
set_option linter.unusedVariables false
/-! slices.Insert at filed frames. -/
abbrev FsT : TypeId := 68
/-- what comes of a row: the row itself, or a new one -/
def FreshV (w : World) (v v' : Value) : Prop := v'.ownBlock = v.ownBlock ∨ ∀ q, v'.ownBlock = some q → w.heap.size ≤ q
set_option maxRecDepth 20000 in
set_option maxHeartbeats 4000000 in
theorem iIns0 (base n i c : Nat) (a : Option Addr) (v : Value) (xs : List Value) (hi : i ≤ n) (hn : n ≤ 1048576) (w : World) (hown : w.ownsRow base 112 8 v n xs) :
    Calls Tryz.prog 83 #[v, .int .i64 (i : Int), .slice a 0 c] w fun e w' => e = .returned v ∧ w' = w := by
  have q0 : (0 : Int) ≤ (i : Int) := by omega
  have q1 : (i : Int) ≤ (n : Int) := by omega
  rcases hown.2 with ⟨rfl, rfl⟩ | ⟨g, cap, cur, rfl, hb, hg, hnc, hcm, hcs, htake⟩
  · obtain rfl : i = 0 := by omega
    clear hown
    go_enter Tryz.func83, Tryz.ntmps83
    go_wp2
    go_ret
    exact ⟨rfl, rfl⟩
  · have q2 : (i : Int) ≤ (cap : Int) := by omega
    have q3 : (n : Int) ≤ (cap : Int) := by omega
    clear hown hg hcs htake hb
    go_enter Tryz.func83, Tryz.ntmps83
    go_wp2
    all_goals go_ret
    all_goals exact ⟨rfl, rfl⟩
set_option maxRecDepth 20000 in
set_option maxHeartbeats 4000000 in
theorem iInsEnd (base bv n m vb cv : Nat) (v : Value) (xs vs : List Value) (hn : n ≤ 1048576) (hm0 : 0 < m) (hm : m ≤ 1048576) (w : World) (hbase : base ≤ w.heap.size)
    (hown : w.ownsRow base 112 8 v n xs) (hv : w.ownsRow bv 112 8 (.slice (some ⟨vb, 0, none⟩) m cv) m vs) (h1v : ∀ v ∈ vs, v.oneCell' = true) :
    Calls Tryz.prog 83 #[v, .int .i64 (n : Int), .slice (some ⟨vb, 0, none⟩) m cv] w fun e w' =>
      ∃ v', e = .returned v' ∧ w'.ownsRow base 112 8 v' (n + m) (xs ++ vs) ∧ w.grownBy w' v.ownBlock ∧ FreshV w v v' := by
  obtain ⟨i0, hi, hz0, hz1, hz2⟩ := info_parts Tryz.infoF8
  obtain ⟨v', w', hrun, r1, r2, r3⟩ := run_append_fresh (P := Tryz.prog) w base 68 68 112 i0 z8 8 64 Tryz.underlying68 hi hz0 hz1 hz2 rfl (by decide) v n xs hown ⟨vb, 0, none⟩ m cv vs hv.1
    (fun j u hj => by rw [Addr.add_lit, Nat.zero_add]; exact own_cl hv j u hj) h1v (by unfold maxLen; omega) (by omega) hbase
  have FIN := hid (And.intro r1 (And.intro r2 r3))
  have HR := hid hrun
  have q0 : (0 : Int) ≤ (n : Int) := by omega
  have q9 : ¬ ((m : Int) = 0) := by omega
  rcases hown.2 with ⟨rfl, rfl⟩ | ⟨g, cap, cur, rfl, hb, hg, hnc, hcm, hcs, htake⟩
  · clear r1 r2 r3 hrun hown hv h1v hi hz0 hz1 hz2
    go_enter Tryz.func83, Tryz.ntmps83
    go_wp2_with (at_builtin; refine list_appZ _ rfl _ _ 68 68 rfl _ _ rfl rfl HR.out ?_)
    go_ret
    exact ⟨v', rfl, FIN.out⟩
  · have q1 : (n : Int) ≤ (cap : Int) := by omega
    clear r1 r2 r3 hrun hown hv h1v hi hz0 hz1 hz2 hg hcs htake
    go_enter Tryz.func83, Tryz.ntmps83
    go_wp2_with (at_builtin; refine list_appZ _ rfl _ _ 68 68 rfl _ _ rfl rfl HR.out ?_)
    all_goals go_ret
    all_goals exact ⟨v', rfl, FIN.out⟩
set_option maxRecDepth 20000 in
set_option maxHeartbeats 4000000 in
theorem iInsGrow (base bv g n cap i m vb cv : Nat) (xs vs : List Value) (hi : i < n) (hm0 : 0 < m) (hn : n ≤ 1048576) (hm : m ≤ 1048576) (hgrow : cap < n + m) (w : World) (hbase : base ≤ w.heap.size)
    (hown : w.ownsRow base 112 8 (.slice (some ⟨g, 0, none⟩) n cap) n xs) (hv : w.ownsRow bv 112 8 (.slice (some ⟨vb, 0, none⟩) m cv) m vs) (h1x : ∀ v ∈ xs, v.oneCell' = true) (h1v : ∀ v ∈ vs, v.oneCell' = true) :
    Calls Tryz.prog 83 #[.slice (some ⟨g, 0, none⟩) n cap, .int .i64 (i : Int), .slice (some ⟨vb, 0, none⟩) m cv] w fun e w' =>
      ∃ G, e = .returned (.slice (some ⟨w.heap.size, 0, none⟩) (n + m) G) ∧ w'.ownsRow base 112 8 (.slice (some ⟨w.heap.size, 0, none⟩) (n + m) G) (n + m) (xs.take (i * 8) ++ vs ++ xs.drop (i * 8)) ∧ w.grownBy w' none := by
  obtain ⟨_, _, _, hnc, hcm, _⟩ := own_parts hown
  obtain ⟨_, _, _, _, hcmv, _⟩ := own_parts hv
  obtain ⟨G, W1, W2, W3, hG1, hG2, hrz, hc1, hc2, hO, hg⟩ := rp_growF base bv g n cap i i m vb cv (n + m) xs vs (Nat.le_refl _) hi (by omega) hm0 hn hm hgrow w hbase hown hv h1x h1v
  have FIN := hid (And.intro hO hg)
  have e1 : ((n + m - i : Nat) : Int) = (n : Int) + (m : Int) - (i : Int) := by omega
  have e2 : n + m - (i + m) = n - i := by omega
  rw [e1] at hrz
  rw [e2] at hc2
  have HRZ := hid hrz
  have q1 : ¬ ((i : Int) = (n : Int)) := by omega
  have q3 : (i : Int) ≤ (n : Int) := by omega
  have q4 : (0 : Int) ≤ (i : Int) := by omega
  have q5 : (cap : Int) < (n : Int) + (m : Int) := by omega
  have q6 : (i : Int) ≤ (cap : Int) := by omega
  have q7 : (i : Int) + (m : Int) ≤ (n : Int) + (m : Int) := by omega
  have q8 : (i : Int) ≤ (n : Int) + (m : Int) := by omega
  have q9 : ¬ ((m : Int) = 0) := by omega
  have r0 : IntKind.i64.wrap ((n : Int) + (m : Int)) = (n : Int) + (m : Int) := by rw [IntKind.wrap_i64]; omega
  have r1 : IntKind.i64.wrap ((i : Int) + (m : Int)) = (i : Int) + (m : Int) := by rw [IntKind.wrap_i64]; omega
  have r2 : ((i : Int) + (m : Int)).toNat = i + m := by omega
  have r3 : (0 : Int) ≤ (i : Int) + (m : Int) := by omega
  have r4 : ¬ (G = i + m) := by omega
  have r5 : ¬ (G = i) := by omega
  have r6 : ¬ (cap = i) := by omega
  have r7 : n + m ≤ G := hG1
  clear hrz hO hg hown hv h1x h1v
  go_enter Tryz.func83, Tryz.ntmps83
  go_wp2_with (first
    | (at_builtin; refine list_appZ _ rfl _ _ 68 3 rfl _ _ rfl rfl HRZ.out ?_)
    | (at_builtin; refine list_copyK _ rfl _ _ 68 rfl _ _ rfl rfl (hc1 _ _) ?_))
  go_region_law (refine step_copyK rfl _ _ 68 rfl _ _ (by simp [Act.eval, Act.put]) (by simp [Act.eval, Act.put]) (hc2 _ _ _) ?_)
  go_wp2
  go_ret
  exact ⟨G, rfl, FIN.out⟩
set_option maxRecDepth 20000 in
set_option maxHeartbeats 4000000 in
theorem iInsRoom (base bv g n cap i m vb cv : Nat) (xs vs : List Value) (hi : i < n) (hm0 : 0 < m) (hn : n ≤ 1048576) (hm : m ≤ 1048576) (hroom : n + m ≤ cap) (w : World) (hne : vb ≠ g)
    (hown : w.ownsRow base 112 8 (.slice (some ⟨g, 0, none⟩) n cap) n xs) (hv : w.ownsRow bv 112 8 (.slice (some ⟨vb, 0, none⟩) m cv) m vs) (h1x : ∀ v ∈ xs, v.oneCell' = true) (h1v : ∀ v ∈ vs, v.oneCell' = true) :
    Calls Tryz.prog 83 #[.slice (some ⟨g, 0, none⟩) n cap, .int .i64 (i : Int), .slice (some ⟨vb, 0, none⟩) m cv] w fun e w' =>
      e = .returned (.slice (some ⟨g, 0, none⟩) (n + m) cap) ∧ w'.ownsRow base 112 8 (.slice (some ⟨g, 0, none⟩) (n + m) cap) (n + m) (xs.take (i * 8) ++ vs ++ xs.drop (i * 8)) ∧ w.grownBy w' (some g) := by
  obtain ⟨_, _, _, hnc, hcm, _⟩ := own_parts hown
  obtain ⟨_, _, _, _, hcmv, _⟩ := own_parts hv
  obtain ⟨W1, W2, hov, _, hc1, hc2, hO, hg⟩ := rp_roomF base bv g n cap i i m vb cv (n + m) xs vs (Nat.le_refl _) hi (by omega) hm0 hroom w hne hown hv h1x h1v
  have FIN := hid (And.intro hO hg)
  have hc1' := fun ty dc sc => hc1 ty dc (n + m - i) sc (by omega)
  have hc2' := fun ty dc => hc2 ty (n + m - i) dc (by omega)
  have cm : cap ≤ 9223372036854775807 := by unfold maxLen at hcm; omega
  have q1 : ¬ ((i : Int) = (n : Int)) := by omega
  have q3 : (i : Int) ≤ (n : Int) := by omega
  have q4 : (0 : Int) ≤ (i : Int) := by omega
  have q5 : ¬ (cap : Int) < (n : Int) + (m : Int) := by omega
  have q6 : (n : Int) + (m : Int) ≤ (cap : Int) := by omega
  have q7 : (i : Int) + (m : Int) ≤ (n : Int) + (m : Int) := by omega
  have q8 : (i : Int) ≤ (n : Int) + (m : Int) := by omega
  have q9 : ¬ ((m : Int) = 0) := by omega
  have q0 : (0 : Int) ≤ (n : Int) + (m : Int) := by omega
  have r0 : IntKind.i64.wrap ((n : Int) + (m : Int)) = (n : Int) + (m : Int) := by rw [IntKind.wrap_i64]; omega
  have s0 : ((n : Int) + (m : Int)).toNat = n + m := by omega
  have r1 : IntKind.i64.wrap ((i : Int) + (m : Int)) = (i : Int) + (m : Int) := by rw [IntKind.wrap_i64]; omega
  have r2 : ((i : Int) + (m : Int)).toNat = i + m := by omega
  have r3 : (0 : Int) ≤ (i : Int) + (m : Int) := by omega
  have r4 : ¬ (cap = i + m) := by omega
  have r5 : ¬ (cap = i) := by omega
  have e2 : n + m - (i + m) = n - i := by omega
  clear hO hg hown hv h1x h1v hc1 hc2
  go_enter Tryz.func83, Tryz.ntmps83
  go_wp2_with (simp only [hov])
  try rw [e2]
  go_region_law (refine step_copyK rfl _ _ 68 rfl _ _ (by simp [Act.eval, Act.put]) (by simp [Act.eval, Act.put]) (hc1' _ _ _) ?_)
  go_wp2_with (at_builtin; refine list_copyK _ rfl _ _ 68 rfl _ _ rfl rfl (hc2' _ _) ?_)
  go_ret
  exact ⟨rfl, FIN.out⟩
end Go.Proofs.YtngkiokibldfjaaGreatDoor
namespace Go.Proofs.YtngkiokibldfjaaGreatDoor
open Go.RowKit
set_option linter.unusedVariables false
/-! slices.Replace at filed frames. -/
theorem own_pre {w : World} {base g n cap : Nat} {xs : List Value} (h : w.ownsRow base 112 8 (.slice (some ⟨g, 0, none⟩) n cap) n xs) (i : Nat) (hi : i ≤ n) : w.ownsRow base 112 8 (.slice (some ⟨g, 0, none⟩) i cap) i (xs.take (i * 8)) := by
  obtain ⟨cur, hb, hg, hnc, hcm, hcl, htk, hxl⟩ := own_parts h
  refine ⟨by rw [List.length_take]; omega, .inr ⟨g, cap, cur, rfl, hb, hg, by omega, hcm, by simpa using hcl, ?_⟩⟩
  show cur.toList.take (i * 8) = _
  rw [← htk, List.take_take]
  congr 1; omega
theorem run_append_nil8 (w : World) (a : Option Addr) (n cap : Nat) (ty : TypeId) (hn : n ≤ cap) (hc : cap ≤ 9223372036854775807) : (Builtin.append_ #[68, 68] ty #[.slice a n cap, .slice none 0 0]).run Tryz.prog w = .ok (.slice a n cap) w := by
  obtain ⟨i0, hi, hz0, hz1, hz2⟩ := info_parts Tryz.infoF8
  cases a with
  | none => simp [Builtin.append_, run_underlying Tryz.underlying68, sizeOf, typeInfo, hi, Builtin.lenOf, Builtin.firstCells, hn]
  | some a => simp [Builtin.append_, run_underlying Tryz.underlying68, sizeOf, typeInfo, hi, Builtin.lenOf, Builtin.firstCells, hn, storeCells]
theorem run_clear0 (w : World) (a : Option Addr) (c : Nat) (ty : TypeId) : (Builtin.clear_ #[68] ty #[.slice a 0 c]).run Tryz.prog w = .ok (.tuple #[]) w := by
  cases a <;> simp [Builtin.clear_, run_underlying Tryz.underlying68]
theorem run_copyNil (w : World) (a : Option Addr) (n c : Nat) (ty : TypeId) : (Builtin.copy_ #[68, 68] ty #[.slice a n c, .slice none 0 0]).run Tryz.prog w = .ok (goInt 0) w := by
  obtain ⟨i0, hi, hz0, hz1, hz2⟩ := info_parts Tryz.infoF8
  cases a with
  | none => simp [Builtin.copy_, run_underlying Tryz.underlying68, Builtin.lenOf, sizeOf, typeInfo, hi, Builtin.firstCells]
  | some a => simp [Builtin.copy_, run_underlying Tryz.underlying68, Builtin.lenOf, sizeOf, typeInfo, hi, Builtin.firstCells, storeCells]
/-- a row of which the end is cleared -/
theorem own_clear {W : World} {base g T n cap : Nat} {cB : Array Value} {ys : List Value} (hg : W.heap[g]? = some (.cells cB 112 (0, 0))) (hb : base ≤ g) (hT : T ≤ n) (hn : n ≤ cap) (hm : cap ≤ maxLen) (hl : cB.toList.length = cap * 8) (ht : cB.toList.take (T * 8) = ys) (hy : ys.length = T * 8) :
    (W.setRow g (cB.toList.take (T * 8) ++ zs8 (n - T) ++ cB.toList.drop (T * 8 + (zs8 (n - T)).length)).toArray).ownsRow base 112 8 (.slice (some ⟨g, 0, none⟩) T cap) T ys := by
  have zl := zs8_len (n - T)
  refine own_made hg hb (by omega) hm ?_ ?_ hy
  · simp only [List.length_append, List.length_take, List.length_drop, hl, zl]; omega
  · rw [rp_keepL _ _ _ _ (Nat.le_refl _) (by omega), ht]
set_option maxRecDepth 20000 in
set_option maxHeartbeats 4000000 in
/-- nothing is taken out: as Insert -/
theorem iRepEq0 (m c : Nat) (b : Option Addr) (w : World) {P : Option Addr → Nat → Nat → World → Prop} (K : Calls Tryz.prog 83 #[.slice none 0 0, .int .i64 0, .slice b m c] w fun e w' => ∃ a n' c', e = .returned (.slice a n' c') ∧ P a n' c' w') :
    Calls Tryz.prog 67 #[.slice none 0 0, .int .i64 0, .int .i64 0, .slice b m c] w fun e w' => ∃ a n' c', e = .returned (.slice a n' c') ∧ P a n' c' w' := by
  have HK := hid K
  clear K
  go_enter Tryz.func67, Tryz.ntmps67
  go_wp2_with fail
  refine HK.out.mono ?_
  rintro e w' ⟨a, n', c', rfl, hp⟩
  have H9 := hid hp
  clear hp HK
  go_wp2
  go_ret
  exact ⟨_, _, _, rfl, H9.out⟩
set_option maxRecDepth 20000 in
set_option maxHeartbeats 4000000 in
theorem iRepEq (g n cap i m c : Nat) (b : Option Addr) (hi : i ≤ n) (hn : n ≤ cap) (hc : cap ≤ 9223372036854775807) (w : World) {P : Option Addr → Nat → Nat → World → Prop} (K : Calls Tryz.prog 83 #[.slice (some ⟨g, 0, none⟩) n cap, .int .i64 (i : Int), .slice b m c] w fun e w' => ∃ a n' c', e = .returned (.slice a n' c') ∧ P a n' c' w') :
    Calls Tryz.prog 67 #[.slice (some ⟨g, 0, none⟩) n cap, .int .i64 (i : Int), .int .i64 (i : Int), .slice b m c] w fun e w' => ∃ a n' c', e = .returned (.slice a n' c') ∧ P a n' c' w' := by
  have HK := hid K
  have q1 : (0 : Int) ≤ (i : Int) := by omega
  have q2 : (i : Int) ≤ (cap : Int) := by omega
  clear K
  go_enter Tryz.func67, Tryz.ntmps67
  go_upto_region 3 with fail
  generalize Value.slice (if cap = i then some { block := g, off := 0 } else some { block := g, off := i * 8 }) 0 (cap - i) = Z0
  clear q1 q2
  go_wp2_with fail
  refine HK.out.mono ?_
  rintro e w' ⟨a, n', c', rfl, hp⟩
  have H9 := hid hp
  clear hp HK
  go_wp2
  go_ret
  exact ⟨_, _, _, rfl, H9.out⟩
set_option maxRecDepth 20000 in
set_option maxHeartbeats 4000000 in
/-- the end is cut off -/
theorem iRepCut (base g n cap i : Nat) (xs : List Value) (hi : i < n) (hn : n ≤ 1048576) (w : World) (hown : w.ownsRow base 112 8 (.slice (some ⟨g, 0, none⟩) n cap) n xs) :
    Calls Tryz.prog 67 #[.slice (some ⟨g, 0, none⟩) n cap, .int .i64 (i : Int), .int .i64 (n : Int), .slice none 0 0] w fun e w' =>
      e = .returned (.slice (some ⟨g, 0, none⟩) i cap) ∧ w'.ownsRow base 112 8 (.slice (some ⟨g, 0, none⟩) i cap) i (xs.take (i * 8)) ∧ w.grownBy w' (some g) := by
  obtain ⟨cur, hb, hg, hnc, hcm, hcl, htk, hxl⟩ := own_parts hown
  have cm : cap ≤ 9223372036854775807 := by unfold maxLen at hcm; omega
  have hap := fun ty => run_append_nil8 w (some ⟨g, 0, none⟩) i cap ty (by omega) cm
  have hcr := fun c ty => run_clear8 w g (i * 8) (n - i) c cur hg (by rw [← Array.length_toList, hcl]; omega) (by omega) ty
  have FIN := hid (And.intro (own_clear hg hb (Nat.le_of_lt hi) hnc hcm hcl (show cur.toList.take (i * 8) = xs.take (i * 8) by rw [← htk, List.take_take]; congr 1; omega) (by rw [List.length_take]; omega)) (setRow_grown w g (cur.toList.take (i * 8) ++ zs8 (n - i) ++ cur.toList.drop (i * 8 + (zs8 (n - i)).length)).toArray))
  obtain ⟨W1, hW1⟩ : ∃ W, W = w.setRow g (cur.toList.take (i * 8) ++ zs8 (n - i) ++ cur.toList.drop (i * 8 + (zs8 (n - i)).length)).toArray := ⟨_, rfl⟩
  rw [← hW1] at hcr FIN
  have q1 : (i : Int) ≤ (n : Int) := by omega
  have q2 : (0 : Int) ≤ (i : Int) := by omega
  have q3 : (n : Int) ≤ (cap : Int) := by omega
  have q4 : ¬ ((i : Int) = (n : Int)) := by omega
  have q5 : (i : Int) < (n : Int) := by omega
  have q6 : (i : Int) ≤ (cap : Int) := by omega
  have q7 : ¬ (cap = i) := by omega
  clear hW1 hg hcl htk hxl hown hb
  go_enter Tryz.func67, Tryz.ntmps67
  go_wp2
  go_ret
  exact ⟨rfl, FIN.out⟩
set_option maxRecDepth 20000 in
set_option maxHeartbeats 4000000 in
/-- the end is another, and there is room -/
theorem iRepTailR (base bv g n cap i m vb cv : Nat) (xs vs : List Value) (hi : i < n) (hm0 : 0 < m) (hn : n ≤ 1048576) (hm : m ≤ 1048576) (hroom : i + m ≤ cap) (w : World)
    (hown : w.ownsRow base 112 8 (.slice (some ⟨g, 0, none⟩) n cap) n xs) (hv : w.ownsRow bv 112 8 (.slice (some ⟨vb, 0, none⟩) m cv) m vs) (h1v : ∀ v ∈ vs, v.oneCell' = true) :
    Calls Tryz.prog 67 #[.slice (some ⟨g, 0, none⟩) n cap, .int .i64 (i : Int), .int .i64 (n : Int), .slice (some ⟨vb, 0, none⟩) m cv] w fun e w' =>
      e = .returned (.slice (some ⟨g, 0, none⟩) (i + m) cap) ∧ w'.ownsRow base 112 8 (.slice (some ⟨g, 0, none⟩) (i + m) cap) (i + m) (xs.take (i * 8) ++ vs) ∧ w.grownBy w' (some g) := by
  obtain ⟨_, _, _, hnc, hcm, _⟩ := own_parts hown
  obtain ⟨_, _, _, _, hcmv, _⟩ := own_parts hv
  have cm : cap ≤ 9223372036854775807 := by unfold maxLen at hcm; omega
  obtain ⟨i0, hi0, hz0, hz1, hz2⟩ := info_parts Tryz.infoF8
  obtain ⟨W1, hr, hO1, hG1⟩ := run_append_fits (P := Tryz.prog) w base 68 68 112 i0 8 Tryz.underlying68 hi0 hz1 g i cap (xs.take (i * 8)) (own_pre hown i (by omega)) ⟨vb, 0, none⟩ m cv vs hv.1 (fun k u hk => by rw [Addr.add_lit, Nat.zero_add]; exact own_cl hv k u hk) h1v hroom
  have HR := hid hr
  have q1 : (i : Int) ≤ (n : Int) := by omega
  have q2 : (0 : Int) ≤ (i : Int) := by omega
  have q3 : (n : Int) ≤ (cap : Int) := by omega
  have q4 : ¬ ((i : Int) = (n : Int)) := by omega
  have q6 : (i : Int) ≤ (cap : Int) := by omega
  obtain ⟨cur1, hb1, hg1, _, _, hcl1, htk1, hxl1⟩ := own_parts hO1
  by_cases hc : i + m < n
  · have q5 : (i : Int) + (m : Int) < (n : Int) := by omega
    have q8 : (0 : Int) ≤ (i : Int) + (m : Int) := by omega
    have q9 : (i : Int) + (m : Int) ≤ (n : Int) := by omega
    have s0 : ((i : Int) + (m : Int)).toNat = i + m := by omega
    have hcr := fun c ty => run_clear8 W1 g ((i + m) * 8) (n - (i + m)) c cur1 hg1 (by rw [← Array.length_toList, hcl1]; omega) (by omega) ty
    have FIN := hid (And.intro (own_clear hg1 hb1 (Nat.le_of_lt hc) hnc hcm hcl1 htk1 hxl1) (grown_trans hG1 (setRow_grown W1 g (cur1.toList.take ((i + m) * 8) ++ zs8 (n - (i + m)) ++ cur1.toList.drop ((i + m) * 8 + (zs8 (n - (i + m))).length)).toArray)))
    obtain ⟨W2, hW2⟩ : ∃ W, W = W1.setRow g (cur1.toList.take ((i + m) * 8) ++ zs8 (n - (i + m)) ++ cur1.toList.drop ((i + m) * 8 + (zs8 (n - (i + m))).length)).toArray := ⟨_, rfl⟩
    rw [← hW2] at hcr FIN
    have q7 : ¬ (cap = i + m) := by omega
    clear hW2 hg1 hcl1 htk1 hxl1 hown hb1 hv hr hO1 hG1
    go_enter Tryz.func67, Tryz.ntmps67
    go_wp2_with (at_builtin; refine list_appZ _ rfl _ _ 68 68 rfl _ _ rfl rfl HR.out ?_)
    go_ret
    exact ⟨rfl, FIN.out⟩
  · have q5 : ¬ (i : Int) + (m : Int) < (n : Int) := by omega
    have FIN := hid (And.intro hO1 hG1)
    clear hg1 hcl1 htk1 hxl1 hown hb1 hv hr hO1 hG1
    go_enter Tryz.func67, Tryz.ntmps67
    go_wp2_with (at_builtin; refine list_appZ _ rfl _ _ 68 68 rfl _ _ rfl rfl HR.out ?_)
    go_ret
    exact ⟨rfl, FIN.out⟩
set_option maxRecDepth 20000 in
set_option maxHeartbeats 4000000 in
/-- the end is another, and there is no room -/
theorem iRepTailG (base bv g n cap i m vb cv : Nat) (xs vs : List Value) (hi : i < n) (hm0 : 0 < m) (hn : n ≤ 1048576) (hm : m ≤ 1048576) (hroom : cap < i + m) (w : World) (hbase : base ≤ w.heap.size)
    (hown : w.ownsRow base 112 8 (.slice (some ⟨g, 0, none⟩) n cap) n xs) (hv : w.ownsRow bv 112 8 (.slice (some ⟨vb, 0, none⟩) m cv) m vs) (h1v : ∀ v ∈ vs, v.oneCell' = true) :
    Calls Tryz.prog 67 #[.slice (some ⟨g, 0, none⟩) n cap, .int .i64 (i : Int), .int .i64 (n : Int), .slice (some ⟨vb, 0, none⟩) m cv] w fun e w' =>
      ∃ v', e = .returned v' ∧ w'.ownsRow base 112 8 v' (i + m) (xs.take (i * 8) ++ vs) ∧ w.grownBy w' (some g) ∧ FreshV w (.slice (some ⟨g, 0, none⟩) n cap) v' := by
  obtain ⟨_, _, _, hnc, hcm, _⟩ := own_parts hown
  have cm : cap ≤ 9223372036854775807 := by unfold maxLen at hcm; omega
  obtain ⟨i0, hi0, hz0, hz1, hz2⟩ := info_parts Tryz.infoF8
  obtain ⟨v', w', hrun, r1, r2, r3⟩ := run_append_fresh (P := Tryz.prog) w base 68 68 112 i0 z8 8 64 Tryz.underlying68 hi0 hz0 hz1 hz2 rfl (by decide) _ i _ (own_pre hown i (by omega)) ⟨vb, 0, none⟩ m cv vs hv.1
    (fun j u hj => by rw [Addr.add_lit, Nat.zero_add]; exact own_cl hv j u hj) h1v (by unfold maxLen; omega) (by omega) hbase
  have FIN := hid (And.intro r1 (And.intro r2 (show FreshV w (.slice (some ⟨g, 0, none⟩) n cap) v' from r3)))
  have HR := hid hrun
  obtain ⟨a', c', hv'⟩ : ∃ a c, v' = .slice a (i + m) c := by
    rcases r1.2 with ⟨h0, h1⟩ | ⟨g', cap', cur', he, _⟩
    · omega
    · exact ⟨_, _, he⟩
  subst hv'
  have q1 : (i : Int) ≤ (n : Int) := by omega
  have q2 : (0 : Int) ≤ (i : Int) := by omega
  have q3 : (n : Int) ≤ (cap : Int) := by omega
  have q4 : ¬ ((i : Int) = (n : Int)) := by omega
  have q6 : (i : Int) ≤ (cap : Int) := by omega
  have q5 : ¬ (i : Int) + (m : Int) < (n : Int) := by omega
  clear r1 r2 r3 hrun hown hv
  go_enter Tryz.func67, Tryz.ntmps67
  go_wp2_with (at_builtin; refine list_appZ _ rfl _ _ 68 68 rfl _ _ rfl rfl HR.out ?_)
  go_ret
  exact ⟨_, rfl, FIN.out⟩
end Go.Proofs.YtngkiokibldfjaaGreatDoor
