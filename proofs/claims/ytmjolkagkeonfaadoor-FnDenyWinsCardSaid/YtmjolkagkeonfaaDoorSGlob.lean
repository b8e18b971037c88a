import Derived.Test.YtmjolkagkeonfaaDoorGO
import Derived.Test.YtmjolkagkeonfaaDoorGB
import Derived.WalkLawsBesides
import Derived.WalkSpells
import Derived.OpenShut
namespace Go.Proofs.YtmjolkagkeonfaaDoor
open Go.RowKit
/-! The specification's GlobFits: a table of rows. -/
def fbs (n : Nat) : Array Value := (List.replicate n (Value.bool false)).toArray
theorem Tryd.infoBl : (Tryd.prog.info? 4).map (fun i => (i.zero, i.size, i.bytes)) = some (some (.bool false), 1, 1) := by kernel_rfl
theorem madeB (n : Nat) : madeCells (Value.bool false).cells (n * 1) = fbs n := by
  apply Array.ext
  · simp [madeCells, fbs]
  · intro i h1 h2
    simp [madeCells, fbs, Value.cells, Nat.mod_one]
theorem mkB (w : World) (n : Nat) (z : Int) (hz : z = (n : Int)) (hn : n ≤ 17592186044416) : (Instr.makeSlice 81 (.int .i64 z) (.int .i64 z)).run Tryd.prog w = .ok (.slice (some ⟨w.heap.size, 0, none⟩) n n) (w.alloc (.cells (fbs n) 4)) := by
  subst hz
  obtain ⟨i0, hi, hz0, hz1, hz2⟩ := info_parts Tryd.infoBl
  have := run_make (P := Tryd.prog) w 81 4 i0 (.bool false) Tryd.underlying81 hi hz0 .i64 .i64 n n (by omega) (Int.le_refl _) (by rw [hz2]; omega) (by omega)
  rw [this, hz1]
  simp only [Int.toNat_natCast, madeB]
theorem fbs_row (w : World) (n : Nat) : FRow (w.alloc (.cells (fbs n) 4)) w.heap.size 4 n (fun _ => .bool false) :=
  FRow.of (RowAt.new w _ _) (by simp [fbs]) (fun p hp => by simp [fbs, hp])
/-- the new row under way, where the byte is a star; where it is none -/
noncomputable def nxS (P T : List UInt8) (i j m : Nat) : Value := .bool (if m < j then canB P T (i + 1) m else false)
noncomputable def nxO (P T : List UInt8) (i j m : Nat) : Value := .bool (if m ≤ j then canB P T (i + 1) m else false)
noncomputable def cnV (P T : List UInt8) (i m : Nat) : Value := .bool (canB P T i m)
theorem bset {w w' : World} {n : Nat} (h : Below n w w') {b o : Nat} (hb : n ≤ b) (v : Value) : Below n w (w'.setCell ⟨b, o, none⟩ v) := h.setCell hb _
theorem stepS {P T : List UInt8} {i j nb n : Nat} {w : World} {t : TypeId} (h : FRow w nb t n (nxS P T i j)) (hs : P[i]? = some 42) (hj : j ≤ T.length) {v : Bool} (hv : v = someB P T i (j + 1)) : FRow (w.setCell ⟨nb, j, none⟩ (.bool v)) nb t n (nxS P T i (j + 1)) := by
  refine (h.set j (.bool v)).congr fun m _ => ?_
  unfold putF nxS
  by_cases e : m = j
  · subst e
    rw [if_pos rfl, if_pos (by omega), can_star P T i m hs hj, hv]
  · rw [if_neg e]
    by_cases h2 : m < j
    · rw [if_pos h2, if_pos (by omega)]
    · rw [if_neg h2, if_neg (by omega)]
theorem nxO_no {P T : List UInt8} {i j nb n : Nat} {w : World} {t : TypeId} (h : FRow w nb t n (nxO P T i j)) (hc : canB P T (i + 1) (j + 1) = false) : FRow w nb t n (nxO P T i (j + 1)) := by
  refine h.congr fun m _ => ?_
  unfold nxO
  by_cases e : m = j + 1
  · subst e; rw [if_neg (by omega), if_pos (Nat.le_refl _), hc]
  · by_cases h2 : m ≤ j
    · rw [if_pos h2, if_pos (by omega)]
    · rw [if_neg h2, if_neg (by omega)]
theorem nxO_end {P T : List UInt8} {i j nb n : Nat} {w : World} {t : TypeId} (h : FRow w nb t n (nxO P T i j)) (hn : n ≤ j + 1) : FRow w nb t n (nxO P T i (j + 1)) := by
  refine h.congr fun m hm => ?_
  unfold nxO
  rw [if_pos (by omega), if_pos (by omega)]
theorem nxO_yes {P T : List UInt8} {i j nb n : Nat} {w : World} {t : TypeId} (h : FRow w nb t n (nxO P T i j)) (hc : canB P T (i + 1) (j + 1) = true) : FRow (w.setCell ⟨nb, j + 1, none⟩ (.bool true)) nb t n (nxO P T i (j + 1)) := by
  refine (h.set (j + 1) (.bool true)).congr fun m _ => ?_
  unfold putF nxO
  by_cases e : m = j + 1
  · subst e; rw [if_pos rfl, if_pos (Nat.le_refl _), hc]
  · rw [if_neg e]
    by_cases h2 : m ≤ j
    · rw [if_pos h2, if_pos (by omega)]
    · rw [if_neg h2, if_neg (by omega)]
theorem FRow.drewN {w : World} {b : Nat} {t : TypeId} {n : Nat} {f : Nat → Value} (h : FRow w b t n f) (k : Nat) : FRow (w.drewN k) b t n f := h
theorem bdrewN {w w' : World} {n : Nat} (h : Below n w w') (k : Nat) : Below n w (w'.drewN k) := ⟨h.1, h.2, h.3, h.4, h.5⟩
set_option maxRecDepth 20000 in
set_option maxHeartbeats 2000000 in
theorem sGlob (p t : ByteArray) (hp : p.size ≤ 1099511627776) (ht : t.size ≤ 1099511627776) (w : World) :
    Calls Tryd.prog 27 #[.string p, .string t] w fun e w' => e = .returned (.bool (globV p t)) ∧ Below w.heap.size w w' := by
  by_cases h1 : p.size ≤ 200
  · by_cases h2 : t.size ≤ 2000
    · rw [glob_in h1 h2]
      obtain ⟨P, hP⟩ : ∃ P, p.data.toList = P := ⟨_, rfl⟩
      obtain ⟨T, hT⟩ : ∃ T, t.data.toList = T := ⟨_, rfl⟩
      rw [hP, hT]
      obtain ⟨N, hN⟩ : ∃ N, t.size = N := ⟨_, rfl⟩
      have HPL : Hid (P.length = p.size) := by show _ = _; rw [← hP, baLen]
      have HTL : Hid (T.length = t.size) := by show _ = _; rw [← hT, baLen]
      have AP : Hid (∀ i (h : i < p.size), P[i]? = some (p[i]'h)) := fun i h => by rw [← hP]; exact ba_at p i h
      have AT : Hid (∀ i (h : i < t.size), T[i]? = some (t[i]'h)) := fun i h => by rw [← hT]; exact ba_at t i h
      clear hP hT
      have d1 : ¬ (200 : Int) < (p.size : Int) := by omega
      have d2 : ¬ (2000 : Int) < (t.size : Int) := by omega
      have mk := fun w => mkB w (t.size + 1) ((t.size : Int) + 1) (by omega) (by omega)
      have R0 := hid (fbs_row w (t.size + 1))
      obtain ⟨W0, hW0⟩ : ∃ W, W = w.alloc (.cells (fbs (t.size + 1)) 4) := ⟨_, rfl⟩
      rw [← hW0] at R0
      have c0 := R0.out.cell (p := 0) (by omega)
      have f0 := R0.out.free 0
      have B0 : Hid (Below w.heap.size w W0) := by show Below _ _ _; rw [hW0]; exact (Below.refl _ w).alloc (Nat.le_refl _) _
      have mk0 := mk w
      rw [← hW0] at mk0
      have HN := hid hN
      clear mk hN
      have HW0 := hid hW0
      clear hW0
      go_enter Tryd.func27, Tryd.ntmps27
      go_wp2
      clear d1 d2 c0 f0 mk0
      have R1 : Hid (FRow (W0.setCell ⟨w.heap.size, 0, none⟩ (.bool true)) w.heap.size 4 (t.size + 1) (cnV P T 0)) := by
        refine (R0.out.set 0 (.bool true)).congr fun m hm => ?_
        unfold putF cnV
        rw [can_zero P T m (by rw [HTL.out]; omega)]
        by_cases h : m = 0
        · simp [h]
        · simp [h]
      have B1 : Hid (Below w.heap.size w (W0.setCell ⟨w.heap.size, 0, none⟩ (.bool true))) := bset B0.out (Nat.le_refl _) _
      clear R0 B0
      go_loopw [5, 6] (fun a c wr => ∃ i b : Nat, i ≤ p.size ∧ a = .slice (some ⟨b, 0, none⟩) (t.size + 1) (t.size + 1) ∧ c = .int .i64 (i : Int) ∧ w.heap.size ≤ b ∧ FRow wr b 4 (t.size + 1) (cnV P T i) ∧ Below w.heap.size w wr) (fun _ c _ => p.size - (intOf c).toNat)
      case atStart => exact ⟨0, w.heap.size, Nat.zero_le _, rfl, rfl, Nat.le_refl _, R1.out, B1.out⟩
      case round =>
        obtain ⟨i, b, hi, rfl, rfl, hb, hR, hB⟩ := hrel
        clear R1 B1
        have HR := hid hR
        have HB := hid hB
        have hbl : b < wr.heap.size := hR.lt
        clear hR hB
        by_cases ip : i < p.size
        · have d3 : (i : Int) < (p.size : Int) := by omega
          have ap := hid (AP.out i ip)
          obtain ⟨W1, hW1⟩ : ∃ W, W = wr.alloc (.cells (fbs (t.size + 1)) 4) := ⟨_, rfl⟩
          have mk1 := mkB wr (t.size + 1) ((t.size : Int) + 1) (by omega) (by omega)
          rw [← hW1] at mk1
          have S1 := hid (fbs_row wr (t.size + 1))
          have R1 := hid (HR.out.alloc (.cells (fbs (t.size + 1)) 4))
          have B1 := hid (HB.out.alloc HB.out.size (.cells (fbs (t.size + 1)) 4))
          rw [← hW1] at S1 R1 B1
          have hW := hid hW1
          have hwb : w.heap.size ≤ wr.heap.size := HB.out.size
          clear hW1
          obtain ⟨nb, hnb⟩ : ∃ n, wr.heap.size = n := ⟨_, rfl⟩
          rw [hnb] at mk1 S1 hwb hbl
          have HNB := hid hnb
          have hne : b ≠ nb := by omega
          clear hnb
          by_cases c42 : p[i]'ip = 42
          · have q1 : ((p[i]'ip).toNat : Int) = 42 := (u8_eq (c := 42) rfl).2 c42
            have PS : Hid (P[i]? = some 42) := by show _ = _; rw [ap.out, c42]
            clear c42
            go_wp2
            clear mk1
            go_loopw [8, 9] (fun a c wk => ∃ j : Nat, j ≤ t.size + 1 ∧ a = .bool (someB P T i j) ∧ c = .int .i64 (j : Int) ∧ FRow wk b 4 (t.size + 1) (cnV P T i) ∧ FRow wk nb 4 (t.size + 1) (nxS P T i j) ∧ Below w.heap.size w wk) (fun _ c _ => t.size + 1 - (intOf c).toNat)
            case atStart => exact ⟨0, Nat.zero_le _, by rw [some_zero], rfl, R1.out, S1.out.congr fun m _ => by unfold nxS; rw [if_neg (by omega)], B1.out⟩
            case round =>
              obtain ⟨j, hj, rfl, rfl, hR2, hS2, hB2⟩ := hrel
              clear R1 S1 B1
              have R2 := hid hR2
              have S2 := hid hS2
              have B2 := hid hB2
              clear hR2 hS2 hB2
              by_cases jn : j ≤ t.size
              · have d4 : (j : Int) ≤ (t.size : Int) := by omega
                have c1 := R2.out.cell (p := j) (by omega)
                unfold cnV at c1
                have c2 := S2.out.cell (p := j) (by omega)
                unfold nxS at c2
                have f2 := S2.out.free j
                have SN := hid (some_next P T i j)
                have TJ : Hid (j ≤ T.length) := by show _ ≤ _; rw [HTL.out]; exact jn
                generalize hsb : someB P T i j = sB at SN
                generalize hcb : canB P T i j = cB at SN c1
                have HS := hid hsb
                have HC := hid hcb
                clear hsb hcb
                cases sB
                · cases cB
                  · go_wp2
                    refine ⟨⟨j + 1, by omega, by rw [SN.out]; rfl, vi _ _ (by omega), R2.out.other _ _ hne, stepS S2.out PS.out TJ.out (by rw [SN.out]; rfl), bset B2.out hwb _⟩, ?_⟩
                    show t.size + 1 - ((j : Int) + 1).toNat < t.size + 1 - (j : Int).toNat
                    omega
                  · go_wp2
                    refine ⟨⟨j + 1, by omega, by rw [SN.out]; rfl, vi _ _ (by omega), R2.out.other _ _ hne, stepS S2.out PS.out TJ.out (by rw [SN.out]; rfl), bset B2.out hwb _⟩, ?_⟩
                    show t.size + 1 - ((j : Int) + 1).toNat < t.size + 1 - (j : Int).toNat
                    omega
                · go_wp2
                  refine ⟨⟨j + 1, by omega, by rw [SN.out]; rfl, vi _ _ (by omega), R2.out.other _ _ hne, stepS S2.out PS.out TJ.out (by rw [SN.out]; rfl), bset B2.out hwb _⟩, ?_⟩
                  show t.size + 1 - ((j : Int) + 1).toNat < t.size + 1 - (j : Int).toNat
                  omega
              · have d4 : ¬ (j : Int) ≤ (t.size : Int) := by omega
                have F : Hid (FRow wr nb 4 (t.size + 1) (cnV P T (i + 1))) := S2.out.congr fun m hm => by unfold nxS cnV; rw [if_pos (by omega)]
                go_wp2
                refine ⟨⟨i + 1, nb, by omega, rfl, vi _ _ (by omega), hwb, F.out, B2.out⟩, ?_⟩
                show p.size - ((i : Int) + 1).toNat < p.size - (i : Int).toNat
                omega
          · have q1 : ¬ ((p[i]'ip).toNat : Int) = 42 := fun h => c42 ((u8_eq (c := 42) rfl).1 h)
            have C42 := hid c42
            clear c42
            go_wp2
            clear mk1
            go_loopw [8, 9] (fun a c wk => ∃ j : Nat, j ≤ t.size + 1 ∧ a = .bool (someB P T i j) ∧ c = .int .i64 (j : Int) ∧ FRow wk b 4 (t.size + 1) (cnV P T i) ∧ FRow wk nb 4 (t.size + 1) (nxO P T i j) ∧ Below w.heap.size w wk) (fun _ c _ => t.size + 1 - (intOf c).toNat)
            case atStart => exact ⟨0, Nat.zero_le _, by rw [some_zero], rfl, R1.out, S1.out.congr fun m _ => by
              unfold nxO
              by_cases h : m ≤ 0
              · have : m = 0 := by omega
                subst this
                rw [if_pos h, can_first P T i _ ap.out C42.out]
              · rw [if_neg h], B1.out⟩
            case round =>
              obtain ⟨j, hj, rfl, rfl, hR2, hS2, hB2⟩ := hrel
              clear R1 S1 B1
              have R2 := hid hR2
              have S2 := hid hS2
              have B2 := hid hB2
              clear hR2 hS2 hB2
              by_cases jn : j ≤ t.size
              · have d4 : (j : Int) ≤ (t.size : Int) := by omega
                have c1 := R2.out.cell (p := j) (by omega)
                unfold cnV at c1
                have SN := hid (some_next P T i j)
                by_cases jN : j < t.size
                · have d5 : (j : Int) < (t.size : Int) := by omega
                  have d6 : j < t.size + 1 := by omega
                  have d7 : (j : Int) < (t.size : Int) + 1 := by omega
                  have at2 := hid (AT.out j jN)
                  have c2 := S2.out.cell (p := j + 1) (by omega)
                  unfold nxO at c2
                  have f2 := S2.out.free (j + 1)
                  have CO := hid (can_one P T i j _ _ ap.out C42.out at2.out)
                  generalize hsb : someB P T i j = sB at SN
                  generalize hcb : canB P T i j = cB at SN c1 CO
                  have HS := hid hsb
                  have HC := hid hcb
                  clear hsb hcb
                  cases sB
                  · skip
                    cases cB
                    · have CF : Hid (canB P T (i + 1) (j + 1) = false) := by show _ = _; rw [CO.out]; rfl
                      go_wp2
                      go_quiet (fail)
                      go_wp2
                      refine ⟨⟨j + 1, by omega, by rw [SN.out]; rfl, vi _ _ (by omega), R2.out.drewN _, (nxO_no S2.out CF.out).drewN _, bdrewN B2.out _⟩, ?_⟩
                      show t.size + 1 - ((j : Int) + 1).toNat < t.size + 1 - (j : Int).toNat
                      omega
                    · by_cases c63 : p[i]'ip = 63
                      · have q2 : ((p[i]'ip).toNat : Int) = 63 := (u8_eq (c := 63) rfl).2 c63
                        have CT : Hid (canB P T (i + 1) (j + 1) = true) := by show _ = _; rw [CO.out]; simp [c63]
                        clear c63
                        go_wp2
                        go_quiet (fail)
                        go_wp2
                        refine ⟨⟨j + 1, by omega, by rw [SN.out]; rfl, vi _ _ (by omega), (R2.out.drewN _).other _ _ hne, nxO_yes (S2.out.drewN _) CT.out, bset (bdrewN B2.out _) hwb _⟩, ?_⟩
                        show t.size + 1 - ((j : Int) + 1).toNat < t.size + 1 - (j : Int).toNat
                        omega
                      · have q2 : ¬ ((p[i]'ip).toNat : Int) = 63 := fun h => c63 ((u8_eq (c := 63) rfl).1 h)
                        by_cases cb : p[i]'ip = t[j]'jN
                        · have q3 : ((p[i]'ip).toNat : Int) = ((t[j]'jN).toNat : Int) := by rw [cb]
                          have q4 : ¬ ((t[j]'jN).toNat : Int) = 42 := by rw [← q3]; exact q1
                          have q5 : ¬ ((t[j]'jN).toNat : Int) = 63 := by rw [← q3]; exact q2
                          have CT : Hid (canB P T (i + 1) (j + 1) = true) := by show _ = _; rw [CO.out]; simp [cb]
                          clear c63 cb
                          go_wp2
                          go_quiet (fail)
                          go_wp2
                          refine ⟨⟨j + 1, by omega, by rw [SN.out]; rfl, vi _ _ (by omega), (R2.out.drewN _).other _ _ hne, nxO_yes (S2.out.drewN _) CT.out, bset (bdrewN B2.out _) hwb _⟩, ?_⟩
                          show t.size + 1 - ((j : Int) + 1).toNat < t.size + 1 - (j : Int).toNat
                          omega
                        · have q3 : ¬ ((p[i]'ip).toNat : Int) = ((t[j]'jN).toNat : Int) := fun h => cb ((u8_eq rfl).1 h)
                          have q4 : (((p[i]'ip).toNat : Int) == ((t[j]'jN).toNat : Int)) = false := by simpa using q3
                          have q5 : ¬ (p[i]'ip).toNat = (t[j]'jN).toNat := fun h => q3 (by rw [h])
                          have CF : Hid (canB P T (i + 1) (j + 1) = false) := by show _ = _; rw [CO.out]; simp [c63, cb]
                          have q6 : ¬ p[i]'ip = t[j]'jN := cb
                          clear c63 cb
                          go_wp2
                          go_quiet (fail)
                          go_wp2
                          refine ⟨⟨j + 1, by omega, by rw [SN.out]; rfl, vi _ _ (by omega), R2.out.drewN _, (nxO_no S2.out CF.out).drewN _, bdrewN B2.out _⟩, ?_⟩
                          show t.size + 1 - ((j : Int) + 1).toNat < t.size + 1 - (j : Int).toNat
                          omega
                  · skip
                    cases cB
                    · have CF : Hid (canB P T (i + 1) (j + 1) = false) := by show _ = _; rw [CO.out]; rfl
                      go_wp2
                      go_quiet (fail)
                      go_wp2
                      refine ⟨⟨j + 1, by omega, by rw [SN.out]; rfl, vi _ _ (by omega), R2.out.drewN _, (nxO_no S2.out CF.out).drewN _, bdrewN B2.out _⟩, ?_⟩
                      show t.size + 1 - ((j : Int) + 1).toNat < t.size + 1 - (j : Int).toNat
                      omega
                    · by_cases c63 : p[i]'ip = 63
                      · have q2 : ((p[i]'ip).toNat : Int) = 63 := (u8_eq (c := 63) rfl).2 c63
                        have CT : Hid (canB P T (i + 1) (j + 1) = true) := by show _ = _; rw [CO.out]; simp [c63]
                        clear c63
                        go_wp2
                        go_quiet (fail)
                        go_wp2
                        refine ⟨⟨j + 1, by omega, by rw [SN.out]; rfl, vi _ _ (by omega), (R2.out.drewN _).other _ _ hne, nxO_yes (S2.out.drewN _) CT.out, bset (bdrewN B2.out _) hwb _⟩, ?_⟩
                        show t.size + 1 - ((j : Int) + 1).toNat < t.size + 1 - (j : Int).toNat
                        omega
                      · have q2 : ¬ ((p[i]'ip).toNat : Int) = 63 := fun h => c63 ((u8_eq (c := 63) rfl).1 h)
                        by_cases cb : p[i]'ip = t[j]'jN
                        · have q3 : ((p[i]'ip).toNat : Int) = ((t[j]'jN).toNat : Int) := by rw [cb]
                          have q4 : ¬ ((t[j]'jN).toNat : Int) = 42 := by rw [← q3]; exact q1
                          have q5 : ¬ ((t[j]'jN).toNat : Int) = 63 := by rw [← q3]; exact q2
                          have CT : Hid (canB P T (i + 1) (j + 1) = true) := by show _ = _; rw [CO.out]; simp [cb]
                          clear c63 cb
                          go_wp2
                          go_quiet (fail)
                          go_wp2
                          refine ⟨⟨j + 1, by omega, by rw [SN.out]; rfl, vi _ _ (by omega), (R2.out.drewN _).other _ _ hne, nxO_yes (S2.out.drewN _) CT.out, bset (bdrewN B2.out _) hwb _⟩, ?_⟩
                          show t.size + 1 - ((j : Int) + 1).toNat < t.size + 1 - (j : Int).toNat
                          omega
                        · have q3 : ¬ ((p[i]'ip).toNat : Int) = ((t[j]'jN).toNat : Int) := fun h => cb ((u8_eq rfl).1 h)
                          have q4 : (((p[i]'ip).toNat : Int) == ((t[j]'jN).toNat : Int)) = false := by simpa using q3
                          have q5 : ¬ (p[i]'ip).toNat = (t[j]'jN).toNat := fun h => q3 (by rw [h])
                          have CF : Hid (canB P T (i + 1) (j + 1) = false) := by show _ = _; rw [CO.out]; simp [c63, cb]
                          have q6 : ¬ p[i]'ip = t[j]'jN := cb
                          clear c63 cb
                          go_wp2
                          go_quiet (fail)
                          go_wp2
                          refine ⟨⟨j + 1, by omega, by rw [SN.out]; rfl, vi _ _ (by omega), R2.out.drewN _, (nxO_no S2.out CF.out).drewN _, bdrewN B2.out _⟩, ?_⟩
                          show t.size + 1 - ((j : Int) + 1).toNat < t.size + 1 - (j : Int).toNat
                          omega
                · have d5 : ¬ (j : Int) < (t.size : Int) := by omega
                  generalize hsb : someB P T i j = sB at SN
                  generalize hcb : canB P T i j = cB at SN c1
                  have HS := hid hsb
                  have HC := hid hcb
                  clear hsb hcb
                  cases sB
                  · cases cB
                    · go_wp2
                      go_quiet (fail)
                      go_wp2
                      refine ⟨⟨j + 1, by omega, by rw [SN.out]; rfl, vi _ _ (by omega), R2.out.drewN _, (nxO_end S2.out (by omega)).drewN _, bdrewN B2.out _⟩, ?_⟩
                      show t.size + 1 - ((j : Int) + 1).toNat < t.size + 1 - (j : Int).toNat
                      omega
                    · go_wp2
                      go_quiet (fail)
                      go_wp2
                      refine ⟨⟨j + 1, by omega, by rw [SN.out]; rfl, vi _ _ (by omega), R2.out.drewN _, (nxO_end S2.out (by omega)).drewN _, bdrewN B2.out _⟩, ?_⟩
                      show t.size + 1 - ((j : Int) + 1).toNat < t.size + 1 - (j : Int).toNat
                      omega
                  · go_wp2
                    go_quiet (fail)
                    go_wp2
                    refine ⟨⟨j + 1, by omega, by rw [SN.out]; rfl, vi _ _ (by omega), R2.out.drewN _, (nxO_end S2.out (by omega)).drewN _, bdrewN B2.out _⟩, ?_⟩
                    show t.size + 1 - ((j : Int) + 1).toNat < t.size + 1 - (j : Int).toNat
                    omega
              · have d4 : ¬ (j : Int) ≤ (t.size : Int) := by omega
                have F : Hid (FRow wr nb 4 (t.size + 1) (cnV P T (i + 1))) := S2.out.congr fun m hm => by unfold nxO cnV; rw [if_pos (by omega)]
                go_wp2
                refine ⟨⟨i + 1, nb, by omega, rfl, vi _ _ (by omega), hwb, F.out, B2.out⟩, ?_⟩
                show p.size - ((i : Int) + 1).toNat < p.size - (i : Int).toNat
                omega
        · have d3 : ¬ (i : Int) < (p.size : Int) := by omega
          have c1 := HR.out.cell (p := t.size) (by omega)
          unfold cnV at c1
          have ei : i = P.length := by rw [HPL.out]; omega
          have E : Hid (canB P T i t.size = glB P T) := by show _ = _; rw [ei, ← HTL.out]; exact can_all P T
          rw [E.out] at c1
          have EI := hid ei
          clear ei
          go_wp2
          go_ret
          exact ⟨rfl, HB.out⟩
    · have d2 : (2000 : Int) < (t.size : Int) := by omega
      have d1 : ¬ (200 : Int) < (p.size : Int) := by omega
      rw [glob_no (fun h => h2 h.2)]
      go_enter Tryd.func27, Tryd.ntmps27
      go_wp2
      go_ret
      exact ⟨rfl, Below.refl _ _⟩
  · have d1 : (200 : Int) < (p.size : Int) := by omega
    rw [glob_no (fun h => h1 h.1)]
    go_enter Tryd.func27, Tryd.ntmps27
    go_wp2
    go_ret
    exact ⟨rfl, Below.refl _ _⟩
end Go.Proofs.YtmjolkagkeonfaaDoor
