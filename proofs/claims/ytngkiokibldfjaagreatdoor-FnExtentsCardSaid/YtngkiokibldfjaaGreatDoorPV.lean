import Derived.Test.YtngkiokibldfjaaGreatDoorPU
import Derived.Deep.RegionLaw
import Derived.BigQuiet
import Derived.Test.YtngkiokibldfjaaGreatDoorPK
namespace Go.Proofs.YtngkiokibldfjaaGreatDoor
open Go.RowKit
set_option linter.unusedVariables false
/-! slices.Replace at filed frames: in the middle. -/
/-- what is behind is moved down -/
theorem rp_cutF (base g n cap i j T : Nat) (xs : List Value) (hij : i < j) (hj : j < n) (hT : T = i + (n - j)) (w : World)
    (hown : w.ownsRow base 112 8 (.slice (some ⟨g, 0, none⟩) n cap) n xs) (h1x : ∀ v ∈ xs, v.oneCell' = true) :
    ∃ W2 : World,
      (∀ ty dc sc, (Builtin.copy_ #[68, 68] ty #[.slice (some ⟨g, i * 8, none⟩) (n - j) dc, .slice (some ⟨g, j * 8, none⟩) (n - j) sc]).run Tryz.prog w.drew = .ok (goInt ((n - j : Nat) : Int)) W2) ∧
      (∃ cB : Array Value, W2.heap[g]? = some (.cells cB 112 (0, 0)) ∧ cB.toList.length = cap * 8 ∧ cB.toList.take (T * 8) = xs.take (i * 8) ++ xs.drop (j * 8)) ∧ w.grownBy W2 (some g) := by
  obtain ⟨cur, hb, hg, hnc, hcm, hcl, htk, hxl⟩ := own_parts hown
  have hcs : cur.size = cap * 8 := by rw [← Array.length_toList]; exact hcl
  have hdl := rp_len xs n j (by omega) hxl
  have hx : cur.toList.take (i * 8) = xs.take (i * 8) := by rw [← htk, List.take_take]; congr 1; omega
  obtain ⟨B, hB⟩ : ∃ B, B = cur.toList.take (i * 8) ++ xs.drop (j * 8) ++ cur.toList.drop (i * 8 + (xs.drop (j * 8)).length) := ⟨_, rfl⟩
  have hBl : B.length = cap * 8 := by rw [hB]; simp only [List.length_append, List.length_take, List.length_drop, hcl, hdl]; omega
  have hBt : B.take (T * 8) = xs.take (i * 8) ++ xs.drop (j * 8) := by
    rw [hB, hx]
    apply List.take_left'
    simp only [List.length_append, List.length_take, hdl, hxl]; omega
  have hc2 : ∀ ty dc sc, (Builtin.copy_ #[68, 68] ty #[.slice (some ⟨g, i * 8, none⟩) (n - j) dc, .slice (some ⟨g, j * 8, none⟩) (n - j) sc]).run Tryz.prog w.drew = .ok (goInt ((n - j : Nat) : Int)) (w.drew.setRow g B.toArray) := fun ty dc sc => by
    have := run_copyK (P := Tryz.prog) w.drew 68 68 ty 112 8 g (i * 8) (n - j) dc ⟨g, j * 8, none⟩ (n - j) sc cur 112 (xs.drop (j * 8)) Tryz.underlying68 Tryz.szF8 hg
      (by rw [hdl, nmin_l (by omega)])
      (fun k v hk => by rw [Addr.add_lit]; exact own_cl hown _ v (by rwa [List.getElem?_drop] at hk)) (by rw [hcs, hdl]; omega) (fun v hv => h1x v (List.mem_of_mem_drop hv))
    rw [this, ← hB]
    rw [nmin_l (by omega)]
  exact ⟨w.drew.setRow g B.toArray, hc2, ⟨B.toArray, setRow_heap w.drew g cur B.toArray _ _ hg, by simpa using hBl, by simpa using hBt⟩, grown_trans (drew_grown w _) (setRow_grown _ _ _)⟩
set_option maxRecDepth 20000 in
set_option maxHeartbeats 4000000 in
/-- no room -/
theorem iRepMidG (base bv g n cap i j m vb cv T : Nat) (xs vs : List Value) (hij : i < j) (hj : j < n) (hT : T = i + m + (n - j)) (hm0 : 0 < m) (hn : n ≤ 1048576) (hm : m ≤ 1048576) (hgrow : cap < T) (w : World) (hbase : base ≤ w.heap.size)
    (hown : w.ownsRow base 112 8 (.slice (some ⟨g, 0, none⟩) n cap) n xs) (hv : w.ownsRow bv 112 8 (.slice (some ⟨vb, 0, none⟩) m cv) m vs) (h1x : ∀ v ∈ xs, v.oneCell' = true) (h1v : ∀ v ∈ vs, v.oneCell' = true) :
    Calls Tryz.prog 67 #[.slice (some ⟨g, 0, none⟩) n cap, .int .i64 (i : Int), .int .i64 (j : Int), .slice (some ⟨vb, 0, none⟩) m cv] w fun e w' =>
      ∃ G, e = .returned (.slice (some ⟨w.heap.size, 0, none⟩) T G) ∧ w'.ownsRow base 112 8 (.slice (some ⟨w.heap.size, 0, none⟩) T G) T (xs.take (i * 8) ++ vs ++ xs.drop (j * 8)) ∧ w.grownBy w' none := by
  obtain ⟨_, _, _, hnc, hcm, _⟩ := own_parts hown
  obtain ⟨_, _, _, _, hcmv, _⟩ := own_parts hv
  have KEY := fun q => hid (rp_growF base bv g n cap i j m vb cv T xs vs (Nat.le_of_lt hij) hj hT hm0 hn hm hgrow (w.drewN q) hbase hown hv h1x h1v)
  have e1 : ((T - i : Nat) : Int) = (T : Int) - (i : Int) := by omega
  have e2 : T - (i + m) = n - j := by omega
  have cm : cap ≤ 9223372036854775807 := by unfold maxLen at hcm; omega
  have q1 : ¬ ((i : Int) = (j : Int)) := by omega
  have q2 : ¬ ((j : Int) = (n : Int)) := by omega
  have q3 : (i : Int) ≤ (j : Int) := by omega
  have q4 : (0 : Int) ≤ (i : Int) := by omega
  have q5 : (j : Int) ≤ (cap : Int) := by omega
  have q6 : (j : Int) ≤ (n : Int) := by omega
  have q7 : (0 : Int) ≤ (j : Int) := by omega
  have q8 : (i : Int) ≤ (cap : Int) := by omega
  have r0 : IntKind.i64.wrap ((i : Int) + (m : Int)) = (i : Int) + (m : Int) := by rw [IntKind.wrap_i64]; omega
  have r1 : IntKind.i64.wrap ((i : Int) + (m : Int) + ((n - j : Nat) : Int)) = (T : Int) := by rw [IntKind.wrap_i64]; omega
  have r2 : ((i : Int) + (m : Int)).toNat = i + m := by omega
  have r9 : (i : Int) + (m : Int) ≤ (T : Int) := by omega
  have r10 : (i : Int) ≤ (T : Int) := by omega
  have r3 : (0 : Int) ≤ (i : Int) + (m : Int) := by omega
  have r6 : ¬ (cap = i) := by omega
  have r8 : ¬ (cap = j) := by omega
  have MT : Hid (i + m < T ∧ i < T) := ⟨by omega, by omega⟩
  clear hown hv h1x h1v hT
  go_enter Tryz.func67, Tryz.ntmps67
  go_upto_region 9 with fail
  go_quiet (fail)
  go_upto_region 11 with fail
  obtain ⟨G, W1, W2, W3, hG1, hG2, hrz, hc1, hc2, hO, hg⟩ := (KEY nq).out
  rw [e1] at hrz
  rw [e2] at hc2
  simp only [World.heap_drewN] at hrz hc1 hc2 hO
  have FIN := hid (And.intro hO (show w.grownBy W3 none from ⟨hg.os, hg.tape, hg.output, hg.size, hg.block⟩))
  have HRZ := hid hrz
  have r4 : ¬ (G = i + m) := by have := MT.out.1; omega
  have r5 : ¬ (G = i) := by have := MT.out.2; omega
  have r7 : T ≤ G := hG1
  clear hrz hO hg KEY
  go_wp2_with (first
    | (at_builtin; refine list_appZ _ rfl _ _ 68 3 rfl _ _ rfl rfl HRZ.out ?_)
    | (at_builtin; refine list_copyK _ rfl _ _ 68 rfl _ _ rfl rfl (hc1 _ _) ?_))
  try rw [e2]
  go_region_law (refine step_copyK rfl _ _ 68 rfl _ _ (by simp [Act.eval, Act.put]) (by simp [Act.eval, Act.put]) (hc2 _ _ _) ?_)
  go_wp2
  go_ret
  exact ⟨G, rfl, FIN.out⟩
set_option maxRecDepth 20000 in
set_option maxHeartbeats 4000000 in
/-- the new ones fit into the gap -/
theorem iRepMidE (base bv g n cap i j m vb cv T : Nat) (xs vs : List Value) (hij : i + m ≤ j) (hj : j < n) (hT : T = i + m + (n - j)) (hm0 : 0 < m) (hn : n ≤ 1048576) (w : World) (hne : vb ≠ g)
    (hown : w.ownsRow base 112 8 (.slice (some ⟨g, 0, none⟩) n cap) n xs) (hv : w.ownsRow bv 112 8 (.slice (some ⟨vb, 0, none⟩) m cv) m vs) (h1x : ∀ v ∈ xs, v.oneCell' = true) (h1v : ∀ v ∈ vs, v.oneCell' = true) :
    Calls Tryz.prog 67 #[.slice (some ⟨g, 0, none⟩) n cap, .int .i64 (i : Int), .int .i64 (j : Int), .slice (some ⟨vb, 0, none⟩) m cv] w fun e w' =>
      e = .returned (.slice (some ⟨g, 0, none⟩) T cap) ∧ w'.ownsRow base 112 8 (.slice (some ⟨g, 0, none⟩) T cap) T (xs.take (i * 8) ++ vs ++ xs.drop (j * 8)) ∧ w.grownBy w' (some g) := by
  obtain ⟨_, hb0, _, hnc, hcm, _, _, hxl⟩ := own_parts hown
  obtain ⟨_, _, _, hncv, hcmv, _, _, hvl⟩ := own_parts hv
  have KEY := fun q => hid (rp_easyF base bv g n cap i j m vb cv T xs vs hij hj hT hm0 (w.drewN q) hne hown hv h1x h1v)
  have SL : Hid ((xs.take (i * 8) ++ vs ++ xs.drop (j * 8)).length = T * 8) := by show _ = _; simp only [List.length_append, List.length_take, List.length_drop, hxl, hvl]; omega
  have cm : cap ≤ 9223372036854775807 := by unfold maxLen at hcm; omega
  have q1 : ¬ ((i : Int) = (j : Int)) := by omega
  have q2 : ¬ ((j : Int) = (n : Int)) := by omega
  have q3 : (i : Int) ≤ (j : Int) := by omega
  have q4 : (0 : Int) ≤ (i : Int) := by omega
  have q5 : (j : Int) ≤ (cap : Int) := by omega
  have q6 : (j : Int) ≤ (n : Int) := by omega
  have q7 : (0 : Int) ≤ (j : Int) := by omega
  have q8 : (i : Int) ≤ (cap : Int) := by omega
  have r6 : ¬ (cap = i) := by omega
  have r8 : ¬ (cap = j) := by omega
  have s1 : ¬ (cap : Int) < (T : Int) := by omega
  have s2 : (0 : Int) ≤ (T : Int) := by omega
  have s3 : (T : Int) ≤ (cap : Int) := by omega
  have s5 : (i : Int) ≤ (T : Int) := by omega
  have r0 : IntKind.i64.wrap ((i : Int) + (m : Int)) = (i : Int) + (m : Int) := by rw [IntKind.wrap_i64]; omega
  have r1 : IntKind.i64.wrap ((i : Int) + (m : Int) + ((n - j : Nat) : Int)) = (T : Int) := by rw [IntKind.wrap_i64]; omega
  have r2 : ((i : Int) + (m : Int)).toNat = i + m := by omega
  have r9 : (i : Int) + (m : Int) ≤ (T : Int) := by omega
  have r3 : (0 : Int) ≤ (i : Int) + (m : Int) := by omega
  have r4 : ¬ (cap = i + m) := by omega
  have e2 : T - (i + m) = n - j := by omega
  have s6 : (i : Int) + (m : Int) ≤ (j : Int) := by omega
  have s7 : (T : Int) ≤ (n : Int) := by omega
  have BB := hid (And.intro hb0 (And.intro hcm hnc))
  have HT := hid hT
  clear hown hv h1x h1v hxl hvl hb0 hT
  go_enter Tryz.func67, Tryz.ntmps67
  go_upto_region 9 with fail
  go_quiet (fail)
  go_upto_region 17 with fail
  obtain ⟨W1, W2, hc1, hc2, ⟨cB, hg2, hl2, ht2⟩, hg⟩ := (KEY nq).out
  clear KEY
  have hcl0 := fun (hlt : T < n) c ty => run_clear8 W2 g (T * 8) (n - T) c cB hg2 (by rw [← Array.length_toList, hl2]; omega) (by omega) ty
  have hc1' := fun ty dc => hc1 ty (T - i) dc (by have := HT.out; omega)
  have GW : w.grownBy W2 (some g) := ⟨hg.os, hg.tape, hg.output, hg.size, hg.block⟩
  by_cases hlt : T < n
  · have FIN := hid (And.intro (own_clear hg2 BB.out.1 (Nat.le_of_lt hlt) BB.out.2.2 BB.out.2.1 hl2 ht2 SL.out) (grown_trans GW (setRow_grown W2 g (cB.toList.take (T * 8) ++ zs8 (n - T) ++ cB.toList.drop (T * 8 + (zs8 (n - T)).length)).toArray)))
    have hcl := fun c ty => hcl0 hlt c ty
    clear hcl0
    have s8 : ¬ (cap = T) := by omega
    obtain ⟨W3, hW3⟩ : ∃ W, W = W2.setRow g (cB.toList.take (T * 8) ++ zs8 (n - T) ++ cB.toList.drop (T * 8 + (zs8 (n - T)).length)).toArray := ⟨_, rfl⟩
    rw [← hW3] at hcl FIN
    clear hg hg2 hl2 ht2 GW hW3 hc1
    go_wp2_with (at_builtin; refine list_copyK _ rfl _ _ 68 rfl _ _ rfl rfl (hc1' _ _) ?_)
    try rw [e2]
    go_region_law (refine step_copyK rfl _ _ 68 rfl _ _ (by simp [Act.eval, Act.put]) (by simp [Act.eval, Act.put]) (hc2 _ _ _) ?_)
    go_wp2
    go_ret
    exact ⟨rfl, FIN.out⟩
  · obtain rfl : T = n := by omega
    have hc0 := fun a c ty => run_clear0 W2 a c ty
    have hO : W2.ownsRow base 112 8 (.slice (some ⟨g, 0, none⟩) T cap) T (xs.take (i * 8) ++ vs ++ xs.drop (j * 8)) := ⟨SL.out, .inr ⟨g, cap, cB, rfl, BB.out.1, hg2, BB.out.2.2, BB.out.2.1, by rw [← Array.length_toList]; exact hl2, ht2⟩⟩
    have FIN := hid (And.intro hO GW)
    clear hg hg2 hl2 ht2 GW hc1 hcl0 hO
    rcases Classical.em (cap = T) with hct | hct
    · subst hct
      go_wp2_with (at_builtin; refine list_copyK _ rfl _ _ 68 rfl _ _ rfl rfl (hc1' _ _) ?_)
      try rw [e2]
      go_region_law (refine step_copyK rfl _ _ 68 rfl _ _ (by simp [Act.eval, Act.put]) (by simp [Act.eval, Act.put]) (hc2 _ _ _) ?_)
      go_wp2
      go_ret
      exact ⟨rfl, by have := FIN.out; simpa only [List.append_assoc] using this⟩
    · go_wp2_with (at_builtin; refine list_copyK _ rfl _ _ 68 rfl _ _ rfl rfl (hc1' _ _) ?_)
      try rw [e2]
      go_region_law (refine step_copyK rfl _ _ 68 rfl _ _ (by simp [Act.eval, Act.put]) (by simp [Act.eval, Act.put]) (hc2 _ _ _) ?_)
      go_wp2
      go_ret
      exact ⟨rfl, by have := FIN.out; simpa only [List.append_assoc] using this⟩
set_option maxRecDepth 20000 in
set_option maxHeartbeats 4000000 in
/-- none comes in -/
theorem iRepMid0 (base g n cap i j T : Nat) (xs : List Value) (hij : i < j) (hj : j < n) (hT : T = i + (n - j)) (hn : n ≤ 1048576) (w : World)
    (hown : w.ownsRow base 112 8 (.slice (some ⟨g, 0, none⟩) n cap) n xs) (h1x : ∀ v ∈ xs, v.oneCell' = true) :
    Calls Tryz.prog 67 #[.slice (some ⟨g, 0, none⟩) n cap, .int .i64 (i : Int), .int .i64 (j : Int), .slice none 0 0] w fun e w' =>
      e = .returned (.slice (some ⟨g, 0, none⟩) T cap) ∧ w'.ownsRow base 112 8 (.slice (some ⟨g, 0, none⟩) T cap) T (xs.take (i * 8) ++ xs.drop (j * 8)) ∧ w.grownBy w' (some g) := by
  obtain ⟨_, hb0, _, hnc, hcm, _, _, hxl⟩ := own_parts hown
  have KEY := fun q => hid (rp_cutF base g n cap i j T xs hij hj hT (w.drewN q) hown h1x)
  have SL : Hid ((xs.take (i * 8) ++ xs.drop (j * 8)).length = T * 8) := by show _ = _; simp only [List.length_append, List.length_take, List.length_drop, hxl]; omega
  have cm : cap ≤ 9223372036854775807 := by unfold maxLen at hcm; omega
  have q1 : ¬ ((i : Int) = (j : Int)) := by omega
  have q2 : ¬ ((j : Int) = (n : Int)) := by omega
  have q3 : (i : Int) ≤ (j : Int) := by omega
  have q4 : (0 : Int) ≤ (i : Int) := by omega
  have q5 : (j : Int) ≤ (cap : Int) := by omega
  have q6 : (j : Int) ≤ (n : Int) := by omega
  have q7 : (0 : Int) ≤ (j : Int) := by omega
  have q8 : (i : Int) ≤ (cap : Int) := by omega
  have r6 : ¬ (cap = i) := by omega
  have r8 : ¬ (cap = j) := by omega
  have s1 : ¬ (cap : Int) < (T : Int) := by omega
  have s2 : (0 : Int) ≤ (T : Int) := by omega
  have s3 : (T : Int) ≤ (cap : Int) := by omega
  have s5 : (i : Int) ≤ (T : Int) := by omega
  have r1 : IntKind.i64.wrap ((i : Int) + ((n - j : Nat) : Int)) = (T : Int) := by rw [IntKind.wrap_i64]; omega
  have r0 : IntKind.i64.wrap (i : Int) = (i : Int) := by rw [IntKind.wrap_i64]; omega
  have e2 : T - i = n - j := by omega
  have s7 : (T : Int) ≤ (n : Int) := by omega
  have hcn := fun W a n' c ty => run_copyNil W a n' c ty
  have BB := hid (And.intro hb0 (And.intro hcm hnc))
  have HT := hid hT
  clear hown h1x hxl hb0 hT
  go_enter Tryz.func67, Tryz.ntmps67
  go_upto_region 9 with fail
  go_quiet (fail)
  go_upto_region 17 with fail
  obtain ⟨W2, hc2, ⟨cB, hg2, hl2, ht2⟩, hg⟩ := (KEY nq).out
  simp only [World.drew_drewN] at hc2
  clear KEY
  have hcl := fun c ty => run_clear8 W2 g (T * 8) (n - T) c cB hg2 (by rw [← Array.length_toList, hl2]; omega) (by have := HT.out; omega) ty
  have GW : w.grownBy W2 (some g) := ⟨hg.os, hg.tape, hg.output, hg.size, hg.block⟩
  have FIN := hid (And.intro (own_clear hg2 BB.out.1 (show T ≤ n by have := HT.out; omega) BB.out.2.2 BB.out.2.1 hl2 ht2 SL.out) (grown_trans GW (setRow_grown W2 g (cB.toList.take (T * 8) ++ zs8 (n - T) ++ cB.toList.drop (T * 8 + (zs8 (n - T)).length)).toArray)))
  have s8 : ¬ (cap = T) := by have := HT.out; omega
  obtain ⟨W3, hW3⟩ : ∃ W, W = W2.setRow g (cB.toList.take (T * 8) ++ zs8 (n - T) ++ cB.toList.drop (T * 8 + (zs8 (n - T)).length)).toArray := ⟨_, rfl⟩
  rw [← hW3] at hcl FIN
  clear hg hg2 hl2 ht2 GW hW3
  go_wp2_with fail
  try rw [e2]
  go_region_law (refine step_copyK rfl _ _ 68 rfl _ _ (by simp [Act.eval, Act.put]) (by simp [Act.eval, Act.put]) (hc2 _ _ _) ?_)
  go_wp2
  go_ret
  exact ⟨rfl, FIN.out⟩
set_option maxRecDepth 20000 in
set_option maxHeartbeats 4000000 in
/-- there is room for more -/
theorem iRepMidR (base bv g n cap i j m vb cv T : Nat) (xs vs : List Value) (hij : i < j) (hmj : j < i + m) (hj : j < n) (hT : T = i + m + (n - j)) (hm0 : 0 < m) (hm : m ≤ 1048576) (hn : n ≤ 1048576) (hroom : T ≤ cap) (w : World) (hne : vb ≠ g)
    (hown : w.ownsRow base 112 8 (.slice (some ⟨g, 0, none⟩) n cap) n xs) (hv : w.ownsRow bv 112 8 (.slice (some ⟨vb, 0, none⟩) m cv) m vs) (h1x : ∀ v ∈ xs, v.oneCell' = true) (h1v : ∀ v ∈ vs, v.oneCell' = true) :
    Calls Tryz.prog 67 #[.slice (some ⟨g, 0, none⟩) n cap, .int .i64 (i : Int), .int .i64 (j : Int), .slice (some ⟨vb, 0, none⟩) m cv] w fun e w' =>
      e = .returned (.slice (some ⟨g, 0, none⟩) T cap) ∧ w'.ownsRow base 112 8 (.slice (some ⟨g, 0, none⟩) T cap) T (xs.take (i * 8) ++ vs ++ xs.drop (j * 8)) ∧ w.grownBy w' (some g) := by
  obtain ⟨_, _, _, hnc, hcm, _, _, _⟩ := own_parts hown
  have KEY := fun q => hid (rp_roomF base bv g n cap i j m vb cv T xs vs (Nat.le_of_lt hij) hj hT hm0 hroom (w.drewN q) hne hown hv h1x h1v)
  have cm : cap ≤ 9223372036854775807 := by unfold maxLen at hcm; omega
  have q1 : ¬ ((i : Int) = (j : Int)) := by omega
  have q2 : ¬ ((j : Int) = (n : Int)) := by omega
  have q3 : (i : Int) ≤ (j : Int) := by omega
  have q4 : (0 : Int) ≤ (i : Int) := by omega
  have q5 : (j : Int) ≤ (cap : Int) := by omega
  have q6 : (j : Int) ≤ (n : Int) := by omega
  have q7 : (0 : Int) ≤ (j : Int) := by omega
  have q8 : (i : Int) ≤ (cap : Int) := by omega
  have r6 : ¬ (cap = i) := by omega
  have r8 : ¬ (cap = j) := by omega
  have s1 : ¬ (cap : Int) < (T : Int) := by omega
  have s2 : (0 : Int) ≤ (T : Int) := by omega
  have s3 : (T : Int) ≤ (cap : Int) := by omega
  have s5 : (i : Int) ≤ (T : Int) := by omega
  have r0 : IntKind.i64.wrap ((i : Int) + (m : Int)) = (i : Int) + (m : Int) := by rw [IntKind.wrap_i64]; omega
  have r1 : IntKind.i64.wrap ((i : Int) + (m : Int) + ((n - j : Nat) : Int)) = (T : Int) := by rw [IntKind.wrap_i64]; omega
  have r2 : ((i : Int) + (m : Int)).toNat = i + m := by omega
  have r9 : (i : Int) + (m : Int) ≤ (T : Int) := by omega
  have r3 : (0 : Int) ≤ (i : Int) + (m : Int) := by omega
  have r4 : ¬ (cap = i + m) := by omega
  have e2 : T - (i + m) = n - j := by omega
  have s6 : ¬ ((i : Int) + (m : Int) ≤ (j : Int)) := by omega
  have HT := hid hT
  clear hown hv h1x h1v hT
  go_enter Tryz.func67, Tryz.ntmps67
  go_upto_region 9 with fail
  go_quiet (fail)
  go_upto_region 17 with fail
  obtain ⟨W1, W2, _, hov2, hc1, hc2, hO, hg⟩ := (KEY nq).out
  simp only [World.drew_drewN] at hc1
  clear KEY
  have GW : w.grownBy W2 (some g) := ⟨hg.os, hg.tape, hg.output, hg.size, hg.block⟩
  have FIN := hid (And.intro hO GW)
  have hc1' := fun ty dc sc => hc1 ty dc (n - j) sc (Nat.le_refl _)
  have hc2' := fun ty dc => hc2 ty (T - i) dc (by have := HT.out; omega)
  clear hO hg GW hc1 hc2
  go_wp2_with (simp only [hov2])
  try rw [e2]
  go_region_law (refine step_copyK rfl _ _ 68 rfl _ _ (by simp [Act.eval, Act.put]) (by simp [Act.eval, Act.put]) (hc1' _ _ _) ?_)
  go_wp2_with (at_builtin; refine list_copyK _ rfl _ _ 68 rfl _ _ rfl rfl (hc2' _ _) ?_)
  go_ret
  exact ⟨rfl, FIN.out⟩
end Go.Proofs.YtngkiokibldfjaaGreatDoor
namespace Go.Proofs.YtngkiokibldfjaaGreatDoor
open Go.RowKit
set_option linter.unusedVariables false
/-! slices.Replace at filed frames, whole. -/
theorem grown_any {w w' : World} (h : w.grownBy w' none) (r : Option Nat) : w.grownBy w' r := ⟨h.os, h.tape, h.output, h.size, fun k hk _ => h.block k hk (by simp)⟩
theorem iReplace (base bv n m i j : Nat) (v vv : Value) (xs vs : List Value) (hij : i ≤ j) (hj : j ≤ n) (hn : n ≤ 1048576) (hm : m ≤ 1048576) (w : World) (hbase : base ≤ w.heap.size)
    (hown : w.ownsRow base 112 8 v n xs) (hv : w.ownsRow bv 112 8 vv m vs) (hm0 : m = 0 → vv = .slice none 0 0) (hne : ∀ g, v.ownBlock = some g → vv.ownBlock ≠ some g) (h1x : ∀ v ∈ xs, v.oneCell' = true) (h1v : ∀ v ∈ vs, v.oneCell' = true) :
    Calls Tryz.prog 67 #[v, .int .i64 (i : Int), .int .i64 (j : Int), vv] w fun e w' =>
      ∃ v', e = .returned v' ∧ w'.ownsRow base 112 8 v' (i + m + (n - j)) (xs.take (i * 8) ++ vs ++ xs.drop (j * 8)) ∧ w.grownBy w' v.ownBlock := by
  have hx1 := hown.1
  have hv1 := hv.1
  rcases Nat.eq_zero_or_pos m with m0 | m0
  · subst m0
    obtain rfl := hm0 rfl
    have vs0 : vs = [] := List.eq_nil_of_length_eq_zero (by rw [hv1])
    subst vs0
    rcases Nat.eq_or_lt_of_le hij with rfl | hlt
    · have e1 : xs.take (i * 8) ++ [] ++ xs.drop (i * 8) = xs := by rw [List.append_nil, List.take_append_drop]
      rw [e1, show i + 0 + (n - i) = n by omega]
      have K : Calls Tryz.prog 83 #[v, .int .i64 (i : Int), .slice none 0 0] w fun e w' => ∃ a n' c', e = .returned (.slice a n' c') ∧ (w'.ownsRow base 112 8 (.slice a n' c') n xs ∧ w.grownBy w' v.ownBlock) :=
        (iIns0 base n i 0 none v xs hj hn w hown).mono (by
          rintro e w' ⟨rfl, hw⟩
          subst hw
          obtain ⟨a, c, rfl⟩ := orSlice hown
          exact ⟨a, n, c, rfl, hown, below_grown (Below.refl _ _) _⟩)
      rcases hown.2 with ⟨rfl, h0⟩ | ⟨g, cap, cur, rfl, hb, hg, hnc, hcm, _⟩
      · obtain rfl : i = 0 := by omega
        exact (iRepEq0 0 0 none w K).mono (by rintro e w' ⟨a, n', c', rfl, h⟩; exact ⟨_, rfl, h⟩)
      · exact (iRepEq g n cap i 0 0 none hj hnc (by unfold maxLen at hcm; omega) w K).mono (by rintro e w' ⟨a, n', c', rfl, h⟩; exact ⟨_, rfl, h⟩)
    · rcases hown.2 with ⟨rfl, h0⟩ | ⟨g, cap, cur, rfl, hb, hg, hnc, hcm, _⟩
      · omega
      · rw [List.append_nil]
        rcases Nat.eq_or_lt_of_le hj with rfl | hjn
        · have e1 : xs.drop (j * 8) = [] := List.drop_eq_nil_of_le (by rw [hx1]; exact Nat.le_refl _)
          rw [e1, List.append_nil, show i + 0 + (j - j) = i by omega]
          exact (iRepCut base g j cap i xs hlt hn w hown).mono (by rintro e w' ⟨rfl, h1, h2⟩; exact ⟨_, rfl, h1, h2⟩)
        · exact (iRepMid0 base g n cap i j (i + 0 + (n - j)) xs hlt hjn (by omega) hn w hown h1x).mono (by rintro e w' ⟨rfl, h1, h2⟩; exact ⟨_, rfl, h1, h2⟩)
  · obtain ⟨vb, cv, rfl⟩ : ∃ vb cv, vv = .slice (some ⟨vb, 0, none⟩) m cv := by
      rcases hv.2 with ⟨_, h0⟩ | ⟨g, cap, cur, h, _⟩
      · omega
      · exact ⟨_, _, h⟩
    rcases Nat.eq_or_lt_of_le hij with rfl | hlt
    · rcases hown.2 with ⟨rfl, h0⟩ | ⟨g, cap, cur, rfl, hb, hg, hnc, hcm, _⟩
      · subst h0
        obtain rfl : i = 0 := by omega
        have x0 : xs = [] := List.eq_nil_of_length_eq_zero (by rw [hx1])
        subst x0
        have K : Calls Tryz.prog 83 #[.slice none 0 0, .int .i64 ((0 : Nat) : Int), .slice (some ⟨vb, 0, none⟩) m cv] w fun e w' => ∃ a n' c', e = .returned (.slice a n' c') ∧ (w'.ownsRow base 112 8 (.slice a n' c') (0 + m + (0 - 0)) ([].take (0 * 8) ++ vs ++ [].drop (0 * 8)) ∧ w.grownBy w' (Value.slice none 0 0).ownBlock) :=
          (iInsEnd base bv 0 m vb cv (.slice none 0 0) [] vs hn m0 hm w hbase hown hv h1v).mono (by
            rintro e w' ⟨v', rfl, h1, h2, _⟩
            obtain ⟨a, c, rfl⟩ := orSlice h1
            exact ⟨a, _, c, rfl, by simpa using h1, h2⟩)
        exact (iRepEq0 m cv (some ⟨vb, 0, none⟩) w K).mono (by rintro e w' ⟨a, n', c', rfl, h⟩; exact ⟨_, rfl, h⟩)
      · have gv : vb ≠ g := fun e => hne g rfl (by rw [e]; rfl)
        have K : Calls Tryz.prog 83 #[.slice (some ⟨g, 0, none⟩) n cap, .int .i64 (i : Int), .slice (some ⟨vb, 0, none⟩) m cv] w fun e w' => ∃ a n' c', e = .returned (.slice a n' c') ∧ (w'.ownsRow base 112 8 (.slice a n' c') (i + m + (n - i)) (xs.take (i * 8) ++ vs ++ xs.drop (i * 8)) ∧ w.grownBy w' (Value.slice (some ⟨g, 0, none⟩) n cap).ownBlock) := by
          rcases Nat.eq_or_lt_of_le hj with rfl | hin
          · refine (iInsEnd base bv i m vb cv _ xs vs hn m0 hm w hbase hown hv h1v).mono ?_
            rintro e w' ⟨v', rfl, h1, h2, _⟩
            obtain ⟨a, c, rfl⟩ := orSlice h1
            have e1 : xs.drop (i * 8) = [] := List.drop_eq_nil_of_le (by rw [hx1]; exact Nat.le_refl _)
            have e2 : xs.take (i * 8) = xs := List.take_of_length_le (by rw [hx1]; exact Nat.le_refl _)
            exact ⟨a, _, c, rfl, by rw [e1, e2, List.append_nil, show i + m + (i - i) = i + m by omega]; exact h1, h2⟩
          · rw [show i + m + (n - i) = n + m by omega]
            rcases Nat.lt_or_ge cap (n + m) with hc | hc
            · refine (iInsGrow base bv g n cap i m vb cv xs vs hin m0 hn hm hc w hbase hown hv h1x h1v).mono ?_
              rintro e w' ⟨G, rfl, h1, h2⟩
              exact ⟨_, _, _, rfl, h1, grown_any h2 _⟩
            · refine (iInsRoom base bv g n cap i m vb cv xs vs hin m0 hn hm hc w gv hown hv h1x h1v).mono ?_
              rintro e w' ⟨rfl, h1, h2⟩
              exact ⟨_, _, _, rfl, h1, h2⟩
        exact (iRepEq g n cap i m cv (some ⟨vb, 0, none⟩) hj hnc (by unfold maxLen at hcm; omega) w K).mono (by rintro e w' ⟨a, n', c', rfl, h⟩; exact ⟨_, rfl, h⟩)
    · rcases hown.2 with ⟨rfl, h0⟩ | ⟨g, cap, cur, rfl, hb, hg, hnc, hcm, _⟩
      · omega
      · have gv : vb ≠ g := fun e => hne g rfl (by rw [e]; rfl)
        rcases Nat.eq_or_lt_of_le hj with rfl | hjn
        · have e1 : xs.drop (j * 8) = [] := List.drop_eq_nil_of_le (by rw [hx1]; exact Nat.le_refl _)
          rw [e1, List.append_nil, show i + m + (j - j) = i + m by omega]
          rcases Nat.lt_or_ge cap (i + m) with hc | hc
          · refine (iRepTailG base bv g j cap i m vb cv xs vs hlt m0 hn hm hc w hbase hown hv h1v).mono ?_
            rintro e w' ⟨v', rfl, h1, h2, _⟩
            exact ⟨_, rfl, h1, h2⟩
          · refine (iRepTailR base bv g j cap i m vb cv xs vs hlt m0 hn hm hc w hown hv h1v).mono ?_
            rintro e w' ⟨rfl, h1, h2⟩
            exact ⟨_, rfl, h1, h2⟩
        · rcases Nat.lt_or_ge cap (i + m + (n - j)) with hc | hc
          · refine (iRepMidG base bv g n cap i j m vb cv _ xs vs hlt hjn rfl m0 hn hm hc w hbase hown hv h1x h1v).mono ?_
            rintro e w' ⟨G, rfl, h1, h2⟩
            exact ⟨_, rfl, h1, grown_any h2 _⟩
          · rcases Nat.lt_or_ge j (i + m) with hs | hs
            · refine (iRepMidR base bv g n cap i j m vb cv _ xs vs hlt hs hjn rfl m0 hm hn hc w gv hown hv h1x h1v).mono ?_
              rintro e w' ⟨rfl, h1, h2⟩
              exact ⟨_, rfl, h1, h2⟩
            · refine (iRepMidE base bv g n cap i j m vb cv _ xs vs hs hjn rfl m0 hn w gv hown hv h1x h1v).mono ?_
              rintro e w' ⟨rfl, h1, h2⟩
              exact ⟨_, rfl, h1, h2⟩
end Go.Proofs.YtngkiokibldfjaaGreatDoor
