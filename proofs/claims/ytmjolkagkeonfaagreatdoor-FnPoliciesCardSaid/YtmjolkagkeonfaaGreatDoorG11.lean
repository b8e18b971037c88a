import Derived.Test.YtmjolkagkeonfaaGreatDoorG10
import Derived.Test.YtmjolkagkeonfaaGreatDoorG10
namespace Go.Proofs.YtmjolkagkeonfaaGreatDoor
open Go.RowKit
set_option linter.unusedVariables false
/-! The program's line reader: lists and conditions. -/
theorem Rdr.rdv {W0 w : World} {b g : Nat} {l : Int} {ws : List ByteArray} {k : Nat} (h : Rdr W0 w b g l ws k) (hv : RdV W0) : RdV w := hv.below h.bw
theorem Rdr.at {W0 w : World} {b g : Nat} {l : Int} {ws : List ByteArray} {k : Nat} (h : Rdr W0 w b g l ws k) (i : Nat) (hi : i < ws.length) : (atB ws i).size ≤ 1048576 := h.sz.2 _ (List.mem_of_getElem? (atB_get hi))
theorem atB_mem {L : List ByteArray} {i : Nat} (h : i < L.length) : atB L i ∈ L := List.mem_of_getElem? (atB_get h)
theorem splA_mem (c : UInt8) : ∀ (l cur x : List UInt8), x ∈ splA c cur l → x.length ≤ cur.length + l.length
  | [], cur, x, h => by simp [splA] at h; subst h; simp
  | y :: r, cur, x, h => by
    unfold splA at h
    split at h
    · rcases List.mem_cons.1 h with rfl | h
      · simp
      · have := splA_mem c r [] x h; simp at this ⊢; omega
    · have := splA_mem c r (cur ++ [y]) x h; simp at this ⊢; omega
theorem splB_B (c : UInt8) {s : ByteArray} (hs : s.size ≤ 1000000) : lsB (splB c s) := by
  unfold splB
  refine ⟨?_, ?_⟩
  · rw [List.length_map]
    have := (splA_len c s.data.toList []).2
    rw [baLen] at this
    omega
  · intro x hx
    obtain ⟨y, hy, rfl⟩ := List.mem_map.1 hx
    have := splA_mem c _ _ _ hy
    rw [baLen] at this
    rw [ofL_size]
    simp at this
    omega
theorem splB_len (c : UInt8) (s : ByteArray) : 1 ≤ (splB c s).length ∧ (splB c s).length ≤ s.size + 1 := by
  unfold splB
  rw [List.length_map]
  have := splA_len c s.data.toList []
  rw [baLen] at this
  exact this
theorem OwnStrs.mono {w : World} {base base' : Nat} {v : Value} {xs : List ByteArray} (h : OwnStrs w base v xs) (hb : base' ≤ base) : OwnStrs w base' v xs := by
  refine ⟨h.1, ?_⟩
  rcases h.2 with h0 | ⟨g, cap, cur, he, hbg, r⟩
  · exact Or.inl h0
  · exact Or.inr ⟨g, cap, cur, he, by omega, r⟩
set_option maxRecDepth 20000 in
set_option maxHeartbeats 2000000 in
theorem iTakeL_no (W0 : World) (hv : RdV W0) (b g : Nat) (l : Int) (ws : List ByteArray) (k : Nat) (nm : ByteArray) (w : World) (h : Rdr W0 w b g l ws k) (hn : ¬ (k + 1 < ws.length ∧ isW (atB ws k) nm.data.toList)) :
    Calls Tryz.prog 117 #[.pointer (some ⟨b, 0, none⟩), .string nm] w fun e w' => ThrownAt e 3 l ∧ Below W0.heap.size W0 w' := by
  by_cases h0 : k = ws.length
  · subst h0
    have K := hid (iTakeW_no W0 b g l ws w h)
    have B := hid h.bw
    clear h hn
    go_enter Tryz.func117, Tryz.ntmps117
    go_wp2_with fail
    refine K.out.mono ?_
    rintro e w2 ⟨hT, rfl⟩
    unfold ThrownAt at hT
    subst hT
    go_wp2
    exact ⟨rfl, rfl, B.out⟩
  · have hk : k < ws.length := by have := h.kn; omega
    have K := hid (iTakeW W0 b g l ws k hk w h)
    obtain ⟨t, ht⟩ : ∃ t, t = atB ws k := ⟨_, rfl⟩
    rw [← ht] at K hn
    clear ht h
    by_cases q : isW t nm.data.toList
    · have q1 : (t.toList == nm.toList) = true := by rw [ByteArray.toList_eq nm]; exact eqW_t q
      have hk2 : k + 1 = ws.length := by
        by_cases e : k + 1 < ws.length
        · exact absurd ⟨e, q⟩ hn
        · omega
      clear hn q
      go_enter Tryz.func117, Tryz.ntmps117
      go_wp2_with fail
      refine K.out.mono ?_
      rintro e w2 ⟨rfl, hL, hg⟩
      rw [hk2] at hL
      have K2 := hid (iTakeW_no W0 b g l ws w2 hL)
      have B := hid hL.bw
      clear hL hg hk2 K
      go_wp2_with fail
      refine K2.out.mono ?_
      rintro e w3 ⟨hT, rfl⟩
      unfold ThrownAt at hT
      subst hT
      go_wp2
      exact ⟨rfl, rfl, B.out⟩
    · have q1 : (t.toList == nm.toList) = false := by rw [ByteArray.toList_eq nm]; exact eqW_f q
      clear hn q
      go_enter Tryz.func117, Tryz.ntmps117
      go_wp2_with fail
      refine K.out.mono ?_
      rintro e w2 ⟨rfl, hL, hg⟩
      have K2 := hid (iFail W0 b g l ws (k + 1) w2 hL)
      have B := hid hL.bw
      clear hL hg K
      go_wp2_with fail
      refine K2.out.mono ?_
      rintro e w3 ⟨hT, rfl⟩
      unfold ThrownAt at hT
      subst hT
      go_wp2
      exact ⟨rfl, rfl, B.out⟩
set_option maxRecDepth 20000 in
set_option maxHeartbeats 4000000 in
theorem iTakeL (W0 : World) (hv : RdV W0) (b g : Nat) (l : Int) (ws : List ByteArray) (k : Nat) (nm : ByteArray) (w : World) (h : Rdr W0 w b g l ws k) (hk : k + 1 < ws.length) (hw : isW (atB ws k) nm.data.toList) :
    Calls Tryz.prog 117 #[.pointer (some ⟨b, 0, none⟩), .string nm] w fun e w' => ∃ v, e = .returned v ∧ OwnStrs w' w.heap.size v (splB 44 (atB ws (k + 1))) ∧ Rdr W0 w' b g l ws (k + 2) ∧ w.grownBy w' (some b) := by
  have INF := Tryz.infoS'
  have K := hid (iTakeW W0 b g l ws k (by omega) w h)
  have HV := hid hv
  obtain ⟨t, ht⟩ : ∃ t, t = atB ws k := ⟨_, rfl⟩
  rw [← ht] at K hw
  have q1 : (t.toList == nm.toList) = true := by rw [ByteArray.toList_eq nm]; exact eqW_t hw
  have hb0 : Hid (b < w.heap.size) := by obtain ⟨A, r1, _⟩ := h.row; exact r1.lt
  clear ht h hw hv
  obtain ⟨T, hT⟩ : ∃ T, T = atB ws (k + 1) := ⟨_, rfl⟩
  rw [← hT]
  have HT := hid hT
  clear hT
  go_enter Tryz.func117, Tryz.ntmps117
  go_wp2_with fail
  refine K.out.mono ?_
  rintro e w2 ⟨rfl, hL, hg⟩
  have G2 := hid hg
  have K2 := hid (iTakeW W0 b g l ws (k + 1) hk w2 hL)
  rw [← HT.out] at K2
  clear hL hg K
  go_wp2_with fail
  refine K2.out.mono ?_
  rintro e w3 ⟨rfl, hL, hg⟩
  have L3 := hid hL
  have G3 := hid (grown_trans G2.out hg)
  have hTs : T.size ≤ 1048576 := by rw [HT.out]; exact L3.out.at (k + 1) hk
  have K3 := hid (iSplitC 44 T hTs w3 (L3.out.rdv HV.out))
  clear hL hg K2 G2
  go_wp2_with fail
  refine K3.out.mono ?_
  rintro e w4 ⟨rfl, hw4⟩
  clear K3
  obtain ⟨S, hS⟩ : ∃ S, S = splB 44 T := ⟨_, rfl⟩
  rw [← hS] at hw4 ⊢
  obtain ⟨n, hn⟩ : ∃ n, n = S.length := ⟨_, rfl⟩
  rw [← hn]
  have hnb : n ≤ 1048577 := by rw [hn, hS]; have := (splB_len 44 T).2; omega
  have SZ : Hid (∀ i, i < n → (atB S i).size ≤ 281474976710656) := fun i hi => by
    have : atB S i ∈ splB 44 T := by rw [← hS]; exact atB_mem (by omega)
    unfold splB at this
    obtain ⟨y, hy, e⟩ := List.mem_map.1 this
    have := splA_mem _ _ _ _ hy
    rw [baLen] at this
    rw [← e, ofL_size]
    simp at this
    omega
  have R4 : Hid (RowAt w4 w3.heap.size 9 (S.map Value.string).toArray) := by rw [hw4]; exact RowAt.new _ _ _
  have L4 : Hid (Rdr W0 w4 b g l ws (k + 2)) := by rw [hw4]; exact L3.out.below ((Below.refl _ _).alloc (Nat.le_refl _) _)
  have G4 : Hid (w.grownBy w4 (some b)) := by rw [hw4]; exact grown_trans G3.out (World.grownBy_alloc _ _ _)
  have HN := hid hn
  have HS := hid hS
  have W34 : Hid (w.heap.size ≤ w3.heap.size) := G3.out.size
  obtain ⟨g3, hg3⟩ : ∃ x, x = w3.heap.size := ⟨_, rfl⟩
  rw [← hg3] at R4 W34 ⊢
  clear hw4 hS hn L3 G3 hg3
  go_wp2_with fail
  go_loopw [5, 18] (fun v5 v18 wr => ∃ j : Nat, j ≤ n ∧ v18 = .int .i64 (j : Int) ∧ OwnStrs wr w4.heap.size v5 (S.take j) ∧ Below w4.heap.size w4 wr) (fun _ v18 _ => n - (intOf v18).toNat)
  case atStart => exact ⟨0, Nat.zero_le _, rfl, ⟨rfl, .inl ⟨rfl, rfl⟩⟩, Below.refl _ _⟩
  case round =>
    obtain ⟨j, hj, rfl, hO, hB⟩ := hrel
    have O := hid hO
    have B := hid hB
    clear hO hB
    by_cases hlt : j < n
    · have d3 : (j : Int) < (n : Int) := by omega
      have j0 : (0 : Int) ≤ (j : Int) := by omega
      obtain ⟨x, hx⟩ : ∃ x, x = atB S j := ⟨_, rfl⟩
      have c0 : wr.cell? ⟨g3, j, none⟩ = some (.string x) := by
        rw [(R4.out.below B.out R4.out.lt).cell j, List.getElem?_toArray, List.getElem?_map, atB_get (by rw [← HN.out]; exact hlt), hx]
        rfl
      have KC := hid (clone_any x wr (by rw [hx]; exact SZ.out j hlt))
      have YL : Hid ((S.take j).length ≤ 1048576) := by show _ ≤ _; rw [List.length_take]; omega
      have TK : Hid (S.take j ++ [x] = S.take (j + 1)) := by
        show _ = _
        rw [List.take_add_one, atB_get (by rw [← HN.out]; exact hlt), hx]
        rfl
      clear hx
      go_wp2_with fail
      refine KC.out.mono ?_
      rintro e w5 ⟨rfl, hb5⟩
      have O5 := hid (O.out.below hb5)
      have B5 := hid (B.out.trans (hb5.mono B.out.size))
      clear hb5 KC c0
      go_wp2_with (refine append_str2 w4.heap.size w5 (by rfl) (.tmp 22) (.tmp 25) 70 (by rfl) Tryz.underlying70 INF _ (S.take j) x (by rfl) O5.out B5.out.size (by rfl) YL.out ?_; intro v6 w6 hO6 hg6)
      have B6 := hid (B5.out.grown hg6 B5.out.size fun k hk => (World.ownsRow.lt O5.out k hk).1)
      have O6 := hid hO6
      clear hO6 hg6
      rw [TK.out] at O6
      go_wp2
      go_roundw
      case rel => exact ⟨j + 1, by omega, by go_num, O6.out, B6.out⟩
      case measure => simp [intOf]; omega
    · have d3 : ¬ (j : Int) < (n : Int) := by omega
      have e : j = n := by omega
      have FE : Hid (S.take j = S) := by show _ = _; rw [e, HN.out, List.take_length]
      rw [FE.out] at O
      clear e
      go_wp2
      go_ret
      exact ⟨_, rfl, by rw [← HS.out]; exact O.out.mono G4.out.size, L4.out.below B.out, grown_trans G4.out (below_grown B.out _)⟩
def isC (e : Ending) (c : Cn) : Prop := (c.kd = 1 ∧ c.tm = 0 ∧ e = .returned (.iface 162 (.agg #[.string c.tx]))) ∨ (c.kd = 2 ∧ c.tx = ⟨#[]⟩ ∧ e = .returned (.iface 166 (.agg #[.int .i64 c.tm]))) ∨ (c.kd = 3 ∧ c.tx = ⟨#[]⟩ ∧ e = .returned (.iface 168 (.agg #[.int .i64 c.tm]))) ∨ (c.kd = 4 ∧ c.tm = 0 ∧ e = .returned (.iface 169 (.agg #[.string c.tx])))
def nmP (a : ByteArray) : Prop := isW a kPrefix ∨ isW a kBefore ∨ isW a kAfter ∨ isW a kFrom
set_option maxRecDepth 20000 in
set_option maxHeartbeats 4000000 in
theorem iRdC (a t : ByteArray) (ht : t.size ≤ 1048576) (w : World) (hv : RdV w) :
    Calls Tryz.prog 145 #[.string a, .string t] w fun e w' => ((¬ nmP a ∧ e = .returned .nilIface) ∨ ∃ c, CdO a t c ∧ isC e c) ∧ Below w.heap.size w w' := by
  by_cases h1 : isW a kPrefix
  · have q1 : (a.toList == [112, 114, 101, 102, 105, 120]) = true := eqW_t h1
    have K := hid (clone_any t w (by omega))
    have F : Hid (CdO a t ⟨1, t, 0⟩) := .inl ⟨h1, rfl⟩
    clear h1
    go_enter Tryz.func145, Tryz.ntmps145
    go_wp2_with fail
    refine K.out.mono ?_
    rintro e w2 ⟨rfl, hb⟩
    have B := hid hb
    clear hb K
    go_wp2
    go_ret
    exact ⟨.inr ⟨_, F.out, .inl ⟨rfl, rfl, rfl⟩⟩, B.out⟩
  have q1 : (a.toList == [112, 114, 101, 102, 105, 120]) = false := eqW_f h1
  by_cases h2 : isW a kBefore
  · have q2 : (a.toList == [98, 101, 102, 111, 114, 101]) = true := eqW_t h2
    have K := hid (iRDec2 t ht w hv)
    have F : Hid (∀ z, decO2 t.data.toList z → CdO a t ⟨2, ⟨#[]⟩, z⟩) := fun z hz => .inr (.inl ⟨h2, z, hz, rfl⟩)
    clear h1 h2
    go_enter Tryz.func145, Tryz.ntmps145
    go_wp2_with fail
    refine K.out.mono ?_
    rintro e w2 ⟨⟨z, rfl, hz⟩, hb⟩
    have B := hid hb
    have Z := hid (F.out z hz)
    clear hb K hz
    go_wp2
    go_ret
    exact ⟨.inr ⟨_, Z.out, .inr (.inl ⟨rfl, rfl, rfl⟩)⟩, B.out⟩
  have q2 : (a.toList == [98, 101, 102, 111, 114, 101]) = false := eqW_f h2
  by_cases h3 : isW a kAfter
  · have q3 : (a.toList == [97, 102, 116, 101, 114]) = true := eqW_t h3
    have K := hid (iRDec2 t ht w hv)
    have F : Hid (∀ z, decO2 t.data.toList z → CdO a t ⟨3, ⟨#[]⟩, z⟩) := fun z hz => .inr (.inr (.inl ⟨h3, z, hz, rfl⟩))
    clear h1 h2 h3
    go_enter Tryz.func145, Tryz.ntmps145
    go_wp2_with fail
    refine K.out.mono ?_
    rintro e w2 ⟨⟨z, rfl, hz⟩, hb⟩
    have B := hid hb
    have Z := hid (F.out z hz)
    clear hb K hz
    go_wp2
    go_ret
    exact ⟨.inr ⟨_, Z.out, .inr (.inr (.inl ⟨rfl, rfl, rfl⟩))⟩, B.out⟩
  have q3 : (a.toList == [97, 102, 116, 101, 114]) = false := eqW_f h3
  by_cases h4 : isW a kFrom
  · have q4 : (a.toList == [102, 114, 111, 109]) = true := eqW_t h4
    have K := hid (clone_any t w (by omega))
    have F : Hid (CdO a t ⟨4, t, 0⟩) := .inr (.inr (.inr ⟨h4, rfl⟩))
    clear h1 h2 h3 h4
    go_enter Tryz.func145, Tryz.ntmps145
    go_wp2_with fail
    refine K.out.mono ?_
    rintro e w2 ⟨rfl, hb⟩
    have B := hid hb
    clear hb K
    go_wp2
    go_ret
    exact ⟨.inr ⟨_, F.out, .inr (.inr (.inr ⟨rfl, rfl, rfl⟩))⟩, B.out⟩
  have q4 : (a.toList == [102, 114, 111, 109]) = false := eqW_f h4
  have F : Hid (¬ nmP a) := fun h => by rcases h with h | h | h | h <;> contradiction
  clear h1 h2 h3 h4
  go_enter Tryz.func145, Tryz.ntmps145
  go_wp2
  go_ret
  exact ⟨.inl ⟨F.out, rfl⟩, Below.refl _ _⟩
/-- a condition as a statement has it -/
theorem iPlainC {e : Ending} {c : Cn} (h : isC e c) : ∃ T x, e = .returned (.iface T x) ∧ ∀ w, Calls Tryz.prog 146 #[.iface T x] w fun e w' => e = .returned (.agg #[.int .i64 c.kd, .string c.tx, .int .i64 c.tm]) ∧ Below w.heap.size w w' := by
  rcases h with ⟨h1, h2, rfl⟩ | ⟨h1, h2, rfl⟩ | ⟨h1, h2, rfl⟩ | ⟨h1, h2, rfl⟩
  · exact ⟨_, _, rfl, fun w => by rw [h1, h2]; exact iPlain1 _ w⟩
  · exact ⟨_, _, rfl, fun w => by rw [h1, h2]; exact iPlain2 _ w⟩
  · exact ⟨_, _, rfl, fun w => by rw [h1, h2]; exact iPlain3 _ w⟩
  · exact ⟨_, _, rfl, fun w => by rw [h1, h2]; exact iPlain4 _ w⟩
end Go.Proofs.YtmjolkagkeonfaaGreatDoor
namespace Go.Proofs.YtmjolkagkeonfaaGreatDoor
open Go.RowKit
set_option linter.unusedVariables false
/-! The program's line reader: a condition, a statement. -/
set_option maxRecDepth 20000 in
set_option maxHeartbeats 4000000 in
theorem iTakeC_no (W0 : World) (hv : RdV W0) (b g : Nat) (l : Int) (ws : List ByteArray) (k : Nat) (w : World) (h : Rdr W0 w b g l ws k) (hn : ¬ (k + 1 < ws.length ∧ nmP (atB ws k))) :
    Calls Tryz.prog 118 #[.pointer (some ⟨b, 0, none⟩)] w fun e w' => ThrownAt e 3 l ∧ Below W0.heap.size W0 w' := by
  obtain ⟨W1, hW1⟩ : ∃ W, W = w.alloc (.cells #[.int .i64 0, .string ⟨#[]⟩, .int .i64 0] 83) := ⟨_, rfl⟩
  have h1 : Rdr W0 W1 b g l ws k := by rw [hW1]; exact h.below ((Below.refl _ _).alloc (Nat.le_refl _) _)
  clear h
  by_cases h0 : k = ws.length
  · subst h0
    have K := hid (iTakeW_no W0 b g l ws W1 h1)
    have B := hid h1.bw
    clear h1 hn
    go_enter Tryz.func118, Tryz.ntmps118
    go_wp2_with fail
    rw [← hW1]
    clear hW1
    refine K.out.mono ?_
    rintro e w2 ⟨hT, rfl⟩
    unfold ThrownAt at hT
    subst hT
    go_wp2
    exact ⟨rfl, rfl, B.out⟩
  have hk : k < ws.length := by have := h1.kn; omega
  have K := hid (iTakeW W0 b g l ws k hk W1 h1)
  obtain ⟨t, ht⟩ : ∃ t, t = atB ws k := ⟨_, rfl⟩
  rw [← ht] at K hn
  clear ht h1
  by_cases h2 : k + 1 = ws.length
  · clear hn
    go_enter Tryz.func118, Tryz.ntmps118
    go_wp2_with fail
    rw [← hW1]
    clear hW1
    refine K.out.mono ?_
    rintro e w2 ⟨rfl, hL, hg⟩
    rw [h2] at hL
    have K2 := hid (iTakeW_no W0 b g l ws w2 hL)
    have B := hid hL.bw
    clear hL hg h2 K
    go_wp2_with fail
    refine K2.out.mono ?_
    rintro e w3 ⟨hT, rfl⟩
    unfold ThrownAt at hT
    subst hT
    go_wp2
    exact ⟨rfl, rfl, B.out⟩
  have hk2 : k + 1 < ws.length := by omega
  have NM : Hid (¬ nmP t) := fun q => hn ⟨hk2, q⟩
  have HV := hid hv
  clear hn h2 hv
  go_enter Tryz.func118, Tryz.ntmps118
  go_wp2_with fail
  rw [← hW1]
  clear hW1
  refine K.out.mono ?_
  rintro e w2 ⟨rfl, hL, hg⟩
  have K2 := hid (iTakeW W0 b g l ws (k + 1) hk2 w2 hL)
  have TS : Hid ((atB ws (k + 1)).size ≤ 1048576) := hL.at (k + 1) hk2
  clear hL hg K
  obtain ⟨t2, ht2⟩ : ∃ t, t = atB ws (k + 1) := ⟨_, rfl⟩
  rw [← ht2] at K2 TS
  clear ht2
  go_wp2_with fail
  refine K2.out.mono ?_
  rintro e w3 ⟨rfl, hL, hg⟩
  have L3 := hid hL
  have K3 := hid (iRdC t t2 TS.out w3 (hL.rdv HV.out))
  clear hL hg K2
  go_wp2_with fail
  refine K3.out.mono ?_
  rintro e w4 ⟨h4 | ⟨c, hc, _⟩, hb4⟩
  · obtain ⟨_, rfl⟩ := h4
    have L4 := hid (L3.out.below hb4)
    have K4 := hid (iFail W0 b g l ws (k + 1 + 1) w4 L4.out)
    have B := hid L4.out.bw
    clear hb4 K3
    go_wp2_with fail
    refine K4.out.mono ?_
    rintro e w5 ⟨hT, rfl⟩
    unfold ThrownAt at hT
    subst hT
    go_wp2
    exact ⟨rfl, rfl, B.out⟩
  · exfalso
    refine NM.out ?_
    rcases hc with ⟨q, _⟩ | ⟨q, _⟩ | ⟨q, _⟩ | ⟨q, _⟩
    · exact .inl q
    · exact .inr (.inl q)
    · exact .inr (.inr (.inl q))
    · exact .inr (.inr (.inr q))
set_option maxRecDepth 20000 in
set_option maxHeartbeats 4000000 in
theorem iTakeC (W0 : World) (hv : RdV W0) (b g : Nat) (l : Int) (ws : List ByteArray) (k : Nat) (w : World) (h : Rdr W0 w b g l ws k) (hk : k + 1 < ws.length) (hn : nmP (atB ws k)) :
    Calls Tryz.prog 118 #[.pointer (some ⟨b, 0, none⟩)] w fun e w' => ∃ c, e = .returned (.agg #[.int .i64 c.kd, .string c.tx, .int .i64 c.tm]) ∧ CdO (atB ws k) (atB ws (k + 1)) c ∧ Rdr W0 w' b g l ws (k + 2) ∧ w.grownBy w' (some b) := by
  obtain ⟨W1, hW1⟩ : ∃ W, W = w.alloc (.cells #[.int .i64 0, .string ⟨#[]⟩, .int .i64 0] 83) := ⟨_, rfl⟩
  have h1 : Rdr W0 W1 b g l ws k := by rw [hW1]; exact h.below ((Below.refl _ _).alloc (Nat.le_refl _) _)
  have G1 : Hid (w.grownBy W1 (some b)) := by rw [hW1]; exact World.grownBy_alloc _ _ _
  have R1 : Hid (RowAt W1 w.heap.size 83 #[.int .i64 0, .string ⟨#[]⟩, .int .i64 0]) := by rw [hW1]; exact RowAt.new _ _ _
  have hbw : Hid (b < w.heap.size) := by obtain ⟨A, r1, _⟩ := h.row; exact r1.lt
  have hB0 : Hid (W0.heap.size ≤ w.heap.size) := h.bw.size
  clear h
  have K := hid (iTakeW W0 b g l ws k (by omega) W1 h1)
  obtain ⟨t, ht⟩ : ∃ t, t = atB ws k := ⟨_, rfl⟩
  rw [← ht] at K hn ⊢
  clear ht h1
  have NM := hid hn
  have HV := hid hv
  clear hn hv
  obtain ⟨t2, ht2⟩ : ∃ t, t = atB ws (k + 1) := ⟨_, rfl⟩
  rw [← ht2]
  have HT2 := hid ht2
  clear ht2
  go_enter Tryz.func118, Tryz.ntmps118
  go_wp2_with fail
  rw [← hW1]
  clear hW1
  refine K.out.mono ?_
  rintro e w2 ⟨rfl, hL, hg⟩
  have G2 := hid (grown_trans G1.out hg)
  have R2 : Hid (RowAt w2 w.heap.size 83 #[.int .i64 0, .string ⟨#[]⟩, .int .i64 0]) := (hg.block _ R1.out.lt (fun e => by have := hbw.out; have := Option.some.inj e; omega)).trans R1.out
  have K2 := hid (iTakeW W0 b g l ws (k + 1) hk w2 hL)
  have TS : Hid ((atB ws (k + 1)).size ≤ 1048576) := hL.at (k + 1) hk
  clear hL hg K G1 R1
  rw [← HT2.out] at K2 TS
  go_wp2_with fail
  refine K2.out.mono ?_
  rintro e w3 ⟨rfl, hL, hg⟩
  have L3 := hid hL
  have G3 := hid (grown_trans G2.out hg)
  have R3 : Hid (RowAt w3 w.heap.size 83 #[.int .i64 0, .string ⟨#[]⟩, .int .i64 0]) := (hg.block _ R2.out.lt (fun e => by have := hbw.out; have := Option.some.inj e; omega)).trans R2.out
  have K3 := hid (iRdC t t2 TS.out w3 (hL.rdv HV.out))
  clear hL hg K2 G2 R2
  go_wp2_with fail
  refine K3.out.mono ?_
  rintro e w4 ⟨h4 | ⟨c, hc, hi⟩, hb4⟩
  · exact absurd NM.out h4.1
  · have L4 := hid (L3.out.below hb4)
    have G4 := hid (grown_trans G3.out (below_grown hb4 _))
    have R4 := hid (R3.out.below hb4 R3.out.lt)
    have HC := hid hc
    clear hb4 hc K3 L3 G3 R3
    have STEP : ∀ w5, Below w4.heap.size w4 w5 → Hid (Rdr W0 (w5.setRow w.heap.size #[.int .i64 c.kd, .string c.tx, .int .i64 c.tm]) b g l ws (k + 1 + 1) ∧ w.grownBy (w5.setRow w.heap.size #[.int .i64 c.kd, .string c.tx, .int .i64 c.tm]) (some b) ∧ RowAt w5 w.heap.size 83 #[.int .i64 0, .string ⟨#[]⟩, .int .i64 0] ∧ RowAt (w5.setRow w.heap.size #[.int .i64 c.kd, .string c.tx, .int .i64 c.tm]) w.heap.size 83 #[.int .i64 c.kd, .string c.tx, .int .i64 c.tm]) := fun w5 hb5 => by
      have L5 := L4.out.below hb5
      have G5 := grown_trans G4.out (below_grown hb5 (some b))
      have R5 := R4.out.below hb5 R4.out.lt
      have hbw' := hbw.out
      have hB0' := hB0.out
      obtain ⟨A, r1, r2⟩ := L5.row
      have hgw : w.heap.size ≠ g := rowApart R5 L5.wd (by decide)
      refine ⟨⟨below_setRow L5.bw _ _ hB0', L5.hb, L5.bg, L5.kn, L5.sz, ⟨A, r1.otherRow _ _ (by omega), r2⟩, L5.wd.otherRow _ _ (fun e => hgw e.symm)⟩, ?_, R5, R5.setRow _⟩
      refine ⟨G5.os, G5.tape, G5.output, by rw [setRow_size]; exact G5.size, fun x hx hne => ?_⟩
      rw [setRow_other w5 w.heap.size x _ (by omega)]
      exact G5.block x hx hne
    have K5 := hid (iPlainC hi)
    clear hi
    obtain ⟨T, x, rfl, K6⟩ := K5.out
    have K7 := hid (K6 w4)
    clear K5 K6
    go_wp2_with fail
    refine K7.out.mono ?_
    rintro e w5 ⟨rfl, hb5⟩
    have S5 := STEP w5 hb5
    clear hb5 K7 STEP
    obtain ⟨s1, s2, s3, s4⟩ := S5.out
    have S1 := hid s1
    have S2 := hid s2
    have S3 := hid s3
    have S4 := hid s4
    clear s1 s2 s3 s4 S5
    go_wp2_with (refine wpList_store_row rfl 83 (.tmp 2) (.tmp 16) rfl w.heap.size #[.int .i64 c.kd, .string c.tx, .int .i64 c.tm] rfl rfl _ _ S3.out (by kernel_rfl) rfl (by simp [Value.oneCell']) ?_)
    refine bodyPost_ret (v := .agg #[.int .i64 c.kd, .string c.tx, .int .i64 c.tm]) ?_ rfl ⟨c, rfl, HC.out, S1.out, S2.out⟩
    exact results_cell_row Tryz.results118 _ _ w.heap.size _ _ _ _ rfl S4.out Tryz.underlying83 rfl (by kernel_rfl)
end Go.Proofs.YtmjolkagkeonfaaGreatDoor
