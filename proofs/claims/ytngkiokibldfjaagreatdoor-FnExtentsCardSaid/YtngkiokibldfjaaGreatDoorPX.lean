import Derived.Test.YtngkiokibldfjaaGreatDoorPW
import Derived.Shelf.Strconv.Itoa4
import Derived.Test.YtngkiokibldfjaaGreatDoorProg
import Derived.Test.YtngkiokibldfjaaGreatDoorBase
import Derived.Test.YtngkiokibldfjaaGreatDoorPJ
import Derived.Deep.CutRange
namespace Go.Proofs.YtngkiokibldfjaaGreatDoor
open Go.RowKit Go.Shelf
set_option linter.unusedVariables false
/-! A shelf made anew: the program's newShelf. -/
theorem mkMapN (w : World) : (Instr.makeMap 69 none).run Tryz.prog w = .ok (.map (some w.heap.size)) (w.alloc (.map #[] 0)) := by
  simp [Instr.makeMap]
theorem allR_nil : allR ByteArray.empty = [] := rg_past _ _ _ (Nat.le_refl _)
theorem sc_nil : (sc ByteArray.empty 0).length = 0 := by
  rw [← grA_len _ (Nat.zero_le _)]
  unfold grA
  rw [allR_nil]
  rfl
theorem hld_nil : hldN ByteArray.empty = 0 := by
  have := held_count ByteArray.empty [] List.nodup_nil (fun k hk => by rw [sc_nil] at hk; omega)
  rw [← this]
  rfl
/-- an empty shelf -/
def shNew (w : World) (d : ByteArray) (sy : Nat) : World := ((w.alloc (.cells #[.string d, .int .i64 (sy : Nat)] 30)).alloc (.map #[] 0)).alloc (.cells #[.string ⟨#[]⟩, .slice none 0 0, .slice none 0 0, .int .i64 (sy : Nat), .slice none 0 0, .map (some (w.heap.size + 1)), .slice none 0 0, .int .i64 0] 72)
theorem shNew_below (w : World) (d : ByteArray) (sy : Nat) : Below w.heap.size w (shNew w d sy) := (((Below.refl _ w).alloc (Nat.le_refl _) _).alloc (by simp) _).alloc (by simp; omega) _
theorem shNew_at (ea eb : Addr) (d : ByteArray) (sy : Nat) (w : World) (hE : Errs w ea eb) : ShAt ea eb (w.heap.size + 2) ByteArray.empty sy [] (shNew w d sy) := by
  have sz : (shNew w d sy).heap.size = w.heap.size + 3 := by unfold shNew; simp only [World.size_alloc]
  refine ⟨.slice none 0 0, .slice none 0 0, .slice none 0 0, .slice none 0 0, 0, 0, w.heap.size + 1, [], ⟨?_, by omega, by rw [sz]; omega, ⟨rfl, Or.inl ⟨rfl, rfl⟩⟩, ⟨rfl, Or.inl ⟨rfl, rfl⟩⟩, fun k hk => (by cases hk), by omega, by omega⟩, hE.below (shNew_below w d sy), ?_, ?_, by omega, OwnFl.nil _ _, ?_, fun p hp => (by cases hp), ⟨rfl, Or.inl ⟨rfl, rfl⟩⟩, Nat.zero_le _⟩
  · have e : (w.heap.size + 2) = ((w.alloc (.cells #[.string d, .int .i64 (sy : Nat)] 30)).alloc (.map #[] 0)).heap.size := by simp only [World.size_alloc]
    rw [hld_nil]
    exact RowAt.next _ _ _ e
  · have h2 := hE.two
    obtain ⟨c, t, r⟩ := hE.rowA
    obtain ⟨c', t', r'⟩ := hE.rowB
    have := heap_lt r
    have := heap_lt r'
    exact ⟨by omega, by omega, by omega⟩
  · refine ⟨List.nodup_nil, _, NmOk.nil, ?_⟩
    have q := World.ownsMap_made (P := Tryz.prog) (w.alloc (.cells #[.string d, .int .i64 (sy : Nat)] 30)) 9 (plainElem Tryz.prog 3) (H := Unit)
    rw [World.size_alloc] at q
    exact World.ownsMap.alloc q _
  · exact allR_nil.symm
def NshQ (ea eb : Addr) (d : ByteArray) (sy : Nat) (w : World) (e : Ending) (w' : World) : Prop := e = .returned (.pointer (some ⟨w.heap.size + 2, 0, none⟩)) ∧ ShQ ea eb (w.heap.size + 2) d sy [] (shNew w d sy) w'
set_option maxRecDepth 20000 in
set_option maxHeartbeats 2000000 in
theorem iNewShelf (ea eb : Addr) (d : ByteArray) (hd : d.size ≤ 300000) (sy : Nat) (w : World) (hE : Errs w ea eb) :
    Calls Tryz.prog 25 #[.agg #[.string d, .int .i64 (sy : Nat)]] w fun e w' => NshQ ea eb d sy w e w' := by
  have S0 := hid (shNew_at ea eb d sy w hE)
  have KC := hid (iChange ea eb (w.heap.size + 2) ByteArray.empty d sy 0 300000 [] (by simp) hd (chg_new _ _ (Nat.zero_le _) hd) (by omega) (Nat.le_refl _) (by omega) _ S0.out)
  have hmk := fun wx => mkMapN wx
  have SN : Hid (shNew w d sy = ((w.alloc (.cells #[.string d, .int .i64 (sy : Nat)] 30)).alloc (.map #[] 0)).alloc (.cells #[.string ⟨#[]⟩, .slice none 0 0, .slice none 0 0, .int .i64 (sy : Nat), .slice none 0 0, .map (some (w.heap.size + 1)), .slice none 0 0, .int .i64 0] 72)) := rfl
  clear hE hd
  go_enter Tryz.func25, Tryz.ntmps25
  go_wp2_with fail
  rw [← SN.out]
  refine KC.out.mono ?_
  rintro e w1 hQ
  obtain ⟨v1, rfl⟩ := hQ.1
  have Q1 := hid hQ.q
  clear hQ
  go_wp2
  go_ret
  exact ⟨rfl, Q1.out⟩
end Go.Proofs.YtngkiokibldfjaaGreatDoor
namespace Go.Proofs.YtngkiokibldfjaaGreatDoor
open Go.RowKit Go.Shelf
/-! strconv.FormatInt off the shelf. -/
def fmRen : Ren := ⟨fun x => if x = 129 then 131 else if x = 173 then 95 else if x = 246 then 107 else if x = 283 then 119 else if x = 284 then 120 else if x = 285 then 121 else if x = 286 then 122 else if x = 317 then 130 else if x = 318 then 132 else if x = 319 then 133 else if x = 320 then 134 else if x = 337 then 136 else if x = 338 then 137 else x, fun x => if x = 0 then 0 else if x = 2 then 2 else if x = 3 then 3 else if x = 4 then 4 else if x = 5 then 5 else if x = 9 then 9 else if x = 20 then 20 else if x = 37 then 22 else if x = 46 then 136 else if x = 51 then 158 else if x = 53 then 173 else if x = 171 then 176 else if x = 173 then 179 else if x = 212 then 204 else if x = 213 then 205 else if x = 232 then 211 else if x = 233 then 212 else x, fun x => if x = 17 then 2 else if x = 18 then 4 else if x = 19 then 5 else x⟩
theorem fm_Lays_n173 : Lays.n173 Tryz.prog fmRen := { mixed := by kernel_rfl, f129 := by kernel_rfl, f173 := by kernel_rfl, f246 := by kernel_rfl, f283 := by kernel_rfl, f284 := by kernel_rfl, f285 := by kernel_rfl, f286 := by kernel_rfl, f317 := by kernel_rfl, f318 := by kernel_rfl, f319 := by kernel_rfl, f320 := by kernel_rfl, f337 := by kernel_rfl, f338 := by kernel_rfl, t0 := by kernel_rfl, a0 := fun _ => by kernel_rfl, z0 := fun _ => by kernel_rfl, v0 := fun _ => by kernel_rfl, t2 := by kernel_rfl, a2 := fun _ => by kernel_rfl, z2 := fun _ => by kernel_rfl, v2 := fun _ => by kernel_rfl, t3 := by kernel_rfl, a3 := fun _ => by kernel_rfl, z3 := fun _ => by kernel_rfl, v3 := fun _ => by kernel_rfl, t4 := by kernel_rfl, a4 := fun _ => by kernel_rfl, z4 := fun _ => by kernel_rfl, v4 := fun _ => by kernel_rfl, t5 := by kernel_rfl, a5 := fun _ => by kernel_rfl, z5 := fun _ => by kernel_rfl, v5 := fun _ => by kernel_rfl, t9 := by kernel_rfl, a9 := fun _ => by kernel_rfl, z9 := fun _ => by kernel_rfl, v9 := fun _ => by kernel_rfl, t20 := by kernel_rfl, a20 := fun _ => by kernel_rfl, z20 := fun _ => by kernel_rfl, v20 := fun _ => by kernel_rfl, t37 := by kernel_rfl, a37 := fun _ => by kernel_rfl, z37 := fun _ => by kernel_rfl, v37 := fun _ => by kernel_rfl, t46 := by kernel_rfl, a46 := fun _ => by kernel_rfl, z46 := fun _ => by kernel_rfl, v46 := fun _ => by kernel_rfl, t51 := by kernel_rfl, a51 := fun _ => by kernel_rfl, z51 := fun _ => by kernel_rfl, v51 := fun _ => by kernel_rfl, t53 := by kernel_rfl, a53 := fun _ => by kernel_rfl, z53 := fun _ => by kernel_rfl, v53 := fun _ => by kernel_rfl, t171 := by kernel_rfl, a171 := fun _ => by kernel_rfl, z171 := fun _ => by kernel_rfl, v171 := fun _ => by kernel_rfl, t173 := by kernel_rfl, a173 := fun _ => by kernel_rfl, z173 := fun _ => by kernel_rfl, v173 := fun _ => by kernel_rfl, t212 := by kernel_rfl, a212 := fun _ => by kernel_rfl, z212 := fun _ => by kernel_rfl, v212 := fun _ => by kernel_rfl, t213 := by kernel_rfl, a213 := fun _ => by kernel_rfl, z213 := fun _ => by kernel_rfl, t232 := by kernel_rfl, a232 := fun _ => by kernel_rfl, z232 := fun _ => by kernel_rfl, v232 := fun _ => by kernel_rfl, t233 := by kernel_rfl, a233 := fun _ => by kernel_rfl, z233 := fun _ => by kernel_rfl, v233 := fun _ => by kernel_rfl, g17 := by kernel_rfl, g18 := by kernel_rfl, g19 := by kernel_rfl }
theorem fm_LaysM_n173 : LaysM.n173 Tryz.prog fmRen := { fm_Lays_n173 with i0 := by kernel_rfl, i2 := by kernel_rfl, i3 := by kernel_rfl, i4 := by kernel_rfl, i5 := by kernel_rfl, i9 := by kernel_rfl, i20 := by kernel_rfl, i37 := by kernel_rfl, i46 := by kernel_rfl, i51 := by kernel_rfl, i53 := by kernel_rfl, i171 := by kernel_rfl, i173 := by kernel_rfl, i212 := by kernel_rfl, i232 := by kernel_rfl, i233 := by kernel_rfl, m17 := by kernel_rfl, m18 := by kernel_rfl, m19 := by kernel_rfl }
/-- the library's table of powers lies there -/
def TB (w : World) : Prop := Lib.TabIs Tryz.prog w "internal/strconv.uint64pow10" .u64 Lib.pow10Tab
theorem TB.below {w w' : World} (h : TB w) (hb : Below w.heap.size w w') : TB w' := by
  unfold TB Lib.TabIs World.var? at h ⊢
  have hg : Tryz.prog.globalNamed "internal/strconv.uint64pow10" = some 2 := by kernel_rfl
  rw [hg] at h ⊢
  simp only [Option.bind_some] at h ⊢
  have hlt : 2 < w.heap.size := by
    rcases Nat.lt_or_ge 2 w.heap.size with h' | h'
    · exact h'
    · rw [Array.getElem?_eq_none h'] at h; cases h
  rw [hb.block _ hlt]
  exact h
theorem iFmtZ (z : Int) (h0 : -9223372036854775808 ≤ z) (h1 : z ≤ 9223372036854775807) (w : World) (hT : TB w) :
    Calls Tryz.prog 95 #[.int .i64 z, .int .i64 10] w fun e w' => e = .returned (.string ⟨(Lib.itoa z).toArray⟩) ∧ Below w.heap.size w w' := by
  refine (Any.strconv_FormatInt_10 fm_LaysM_n173 z h0 h1 w hT).mono ?_
  rintro e w' ⟨rfl, k, os, rfl⟩
  refine ⟨rfl, rfl, rfl, rfl, ?_, ?_⟩
  · show w.heap.size ≤ (w.heap ++ os).size
    rw [Array.size_append]; omega
  · intro j hj
    show (w.heap ++ os)[j]? = _
    rw [Array.getElem?_append_left hj]
end Go.Proofs.YtngkiokibldfjaaGreatDoor
namespace Go.Proofs.YtngkiokibldfjaaGreatDoor
open Go.RowKit
set_option linter.unusedVariables false
/-! What a scrub tells between two records: the program's tellMarks. -/
theorem itoa_nat (n : Nat) : (⟨(Lib.itoa (n : Int)).toArray⟩ : ByteArray) = decB n := by
  unfold decB Lib.itoa
  simp
theorem TB.glob {w : World} (h : TB w) : 2 < w.heap.size := by
  unfold TB Lib.TabIs World.var? at h
  have hg : Tryz.prog.globalNamed "internal/strconv.uint64pow10" = some 2 := by kernel_rfl
  rw [hg] at h
  simp only [Option.bind_some] at h
  rcases Nat.lt_or_ge 2 w.heap.size with h' | h'
  · exact h'
  · rw [Array.getElem?_eq_none h'] at h; cases h
theorem TB.low {A B : World} {B0 : Nat} (h : TB A) (hG : 2 < B0) (hk : ∀ k, k < B0 → B.heap[k]? = A.heap[k]?) : TB B := by
  unfold TB Lib.TabIs World.var? at h ⊢
  have hg : Tryz.prog.globalNamed "internal/strconv.uint64pow10" = some 2 := by kernel_rfl
  rw [hg] at h ⊢
  simp only [Option.bind_some] at h ⊢
  rw [hk _ hG]
  exact h
theorem low_cell {A B : World} {B0 : Nat} (hk : ∀ k, k < B0 → B.heap[k]? = A.heap[k]?) {X i : Nat} (hX : X < B0) : B.cell? ⟨X, i, none⟩ = A.cell? ⟨X, i, none⟩ := by simp only [World.cell?, hk X hX]
theorem tell_one {A : List ByteArray} (q : Nat) (M : List Nat) (h : A.length < 100) : tellN A (q :: M) = tellN (A ++ [decB q]) M := by
  have e : tellN A [q] = A ++ [decB q] := by
    unfold tellN
    rw [List.take_of_length_le (by simp; omega)]
    rfl
  rw [← e, tell_app]
  rfl
theorem tell_max {A : List ByteArray} (M : List Nat) (h : ¬ A.length < 100) : tellN A M = A := by
  unfold tellN
  rw [show 100 - A.length = 0 by omega]
  simp
theorem tell_len {A : List ByteArray} (M : List Nat) (h : A.length ≤ 100) : (tellN A M).length ≤ 100 := by
  unfold tellN
  rw [List.length_append, List.length_map, List.length_take]
  omega
theorem Tryz.infoSt : (Tryz.prog.info? 9).map (fun i => (i.zero, i.size, i.bytes)) = some (some (.string ⟨#[]⟩), 1, 16) := by kernel_rfl
/-- what isn't cells stands -/
def NC (A B : World) : Prop := ∀ (j : Nat) (o : Obj), A.heap[j]? = some o → o.isCells = false → B.heap[j]? = some o
theorem NC.refl (A : World) : NC A A := fun _ _ h _ => h
theorem NC.trans {A B C : World} (h : NC A B) (k : NC B C) : NC A C := fun j o hj ho => k j o (h j o hj ho) ho
theorem NC.below {A B : World} (h : Below A.heap.size A B) : NC A B := fun j o hj _ => (h.block j (Array.getElem?_eq_some_iff.1 hj).1).trans hj
theorem NC.row {A B : World} {r : Option Nat} (hg : A.grownBy B r) (hr : ∀ g, r = some g → ∃ t cs, RowAt A g t cs) : NC A B := fun j o hj ho => (hg.block j (Array.getElem?_eq_some_iff.1 hj).1 (fun e => by
  obtain ⟨t, cs, hr⟩ := hr j e.symm
  have := hr.symm.trans hj
  cases this
  cases ho)).trans hj
def TelQ (d : ByteArray) (A : List ByteArray) (p e base : Nat) (w : World) (r : Ending) (w' : World) : Prop := ∃ v', r = .returned v' ∧ OwnStrs w' base v' (tellN A (mks d (e - p) p)) ∧ TG [9] false base w w' ∧ NC w w'
set_option maxRecDepth 20000 in
set_option maxHeartbeats 4000000 in
theorem iTell (X : Nat) (d : ByteArray) (hd : d.size ≤ 300000) (A : List ByteArray) (hA : A.length ≤ 100) (p e : Nat) (hpe : p ≤ e) (he : e ≤ d.size) (base : Nat) (v : Value) (w : World) (hb : base ≤ w.heap.size) (hX : X + 1 < base) (hT : TB w) (hG : 2 + 1 < base) (h0 : w.cell? ⟨X, 0, none⟩ = some (.string d)) (hO : OwnStrs w base v A) :
    Calls Tryz.prog 76 #[.pointer (some ⟨X, 0, none⟩), v, .int .i64 (p : Nat), .int .i64 (e : Nat)] w fun r w' => TelQ d A p e base w r w' := by
  have KN := fun (q : Nat) (hq : q ≤ e) W h => hid (nextMark_all X d q e hq he (by omega) W h)
  have KF := fun (q : Nat) (hq : q ≤ 300000) W h => hid (iFmtZ (q : Int) (by omega) (by omega) W h)
  have HT := hid hT
  have HG := hid hG
  have HX := hid hX
  have HB := hid hb
  have H0 := hid h0
  have HE := hid (And.intro he hd)
  have O0 := hid hO
  have HA := hid hA
  have HPE := hid hpe
  clear hT hG hX hb hO hA hpe he hd
  go_enter Tryz.func76, Tryz.ntmps76
  go_wp2_with fail
  refine (KN p HPE.out w h0).out.mono ?_
  rintro r w1 ⟨⟨q, rfl, n1, n2, n3, n4⟩, hw⟩
  obtain rfl := hw.symm
  have M0 : Hid (tellN A (mks d (e - q) q) = tellN A (mks d (e - p) p)) := by
    show _ = _
    rw [mks_skip d (e - p) p q n1 (by omega) n3, show p + (e - p) - q = e - q by omega]
  have Q0 := hid (And.intro n2 n4)
  clear n1 n2 n3 n4 h0
  go_upto_region 2 with fail
  go_loopw [1, 2] (fun vl va wr => ∃ (q : Nat) (A' : List ByteArray) (v1 : Value), v1 = vl ∧ va = .int .i64 (q : Nat) ∧ q ≤ e ∧ (q < e → byteAt d q = 231) ∧ A'.length ≤ 100 ∧ tellN A' (mks d (e - q) q) = tellN A (mks d (e - p) p) ∧ OwnStrs wr base v1 A' ∧ TG [9] false base w wr ∧ NC w wr) (fun _ va _ => e - (intOf va).toNat)
  case atStart => exact ⟨q, A, _, rfl, rfl, Q0.out.1, Q0.out.2, HA.out, M0.out, O0.out, TG.refl _ _ _ _, NC.refl _⟩
  case round =>
    clear M0 Q0 O0
    obtain ⟨q, A', v1, rfl, rfl, hq, hm, hl, hM, hO, hG, hN⟩ := hrel
    have HNC := hid hN
    clear hN
    have HM := hid hM
    have HO := hid hO
    have HGr := hid hG
    have HL := hid hl
    have HQ := hid (And.intro hq hm)
    obtain ⟨aL, cL, hv1⟩ := hO.slice
    obtain ⟨nL, hnL⟩ : ∃ n, n = A'.length := ⟨_, rfl⟩
    rw [← hnL] at hv1
    have HNL := hid hnL
    subst hv1
    clear hM hO hG hl hnL hq hm
    by_cases hlt : q < e
    · have d0 : decide ((q : Int) < (e : Int)) = true := by simp; omega
      have d1 : (q : Int) < (e : Int) := by omega
      by_cases hn : nL < 100
      · have d2 : decide ((nL : Int) < 100) = true := by simp; omega
        have d3 : (nL : Int) < 100 := by omega
        have lo : ∀ k, k < base - 1 → wr.heap[k]? = w.heap[k]? := fun k hk => HGr.out.low k (by omega)
        have T1 := hid (HT.out.low (B0 := base - 1) (by have := HG.out; omega) lo)
        have wq : IntKind.i64.wrap ((q : Int) + 1) = (q : Int) + 1 := by rw [IntKind.wrap_i64]; have := HE.out; omega
        have LT := hid hlt
        have LN := hid hn
        clear hlt hn lo
        go_wp2_with fail
        refine (KF q (by have := HE.out; have := HQ.out.1; omega) wr T1.out).out.mono ?_
        rintro r w3 ⟨rfl, hb3⟩
        rw [itoa_nat]
        have O3 := hid (HO.out.below hb3)
        have G3 : Hid (TG [9] false base w w3) := HGr.out.trans (TG.of_below _ _ hb3 (Nat.le_trans HB.out HGr.out.size))
        have N3 : Hid (NC w w3) := HNC.out.trans (NC.below hb3)
        clear hb3
        go_wp2_with (at_builtin; refine append_str2 base w3 rfl (.tmp 30) (.tmp 33) 23 rfl Tryz.underlying23 Tryz.infoSt (.slice aL nL cL) A' (decB q) rfl O3.out (Nat.le_trans HB.out G3.out.size) rfl (by have := HL.out; omega) ?_; intro v5 w5 hO5 hg5)
        have O5 := hid hO5
        have G5 : Hid (TG [9] false base w w5) := G3.out.trans (TG.grown false hg5 (Nat.le_trans HB.out G3.out.size) fun k hk => by
          obtain ⟨q1, _, cs, hr⟩ := orRow O3.out hk
          exact ⟨q1, _, cs, hr, by simp⟩)
        have N5 : Hid (NC w w5) := N3.out.trans (NC.row hg5 fun k hk => by
          obtain ⟨_, _, cs, hr⟩ := orRow O3.out hk
          exact ⟨_, cs, hr⟩)
        have x5 : w5.cell? ⟨X, 0, none⟩ = some (.string d) := (low_cell (B0 := base - 1) (fun k hk => G5.out.low k (by omega)) (by have := HX.out; omega)).trans H0.out
        have M5 : Hid (tellN (A' ++ [decB q]) (mks d (e - q - 1) (q + 1)) = tellN A (mks d (e - p) p)) := by
          show _ = _
          rw [← HM.out, mks_hit d (e - q) q (by have := LT.out; omega) (HQ.out.2 LT.out), tell_one q _ (by have := HNL.out; have := LN.out; omega)]
        have ec : ((q + 1 : Nat) : Int) = (q : Int) + 1 := by omega
        have K5 := KN (q + 1) LT.out w5 x5
        rw [ec] at K5
        clear hO5 hg5
        go_wp2_with fail
        refine K5.out.mono ?_
        rintro r w6 ⟨⟨q2, rfl, n1, n2, n3, n4⟩, hw⟩
        obtain rfl := hw.symm
        have M6 : Hid (tellN (A' ++ [decB q]) (mks d (e - q2) q2) = tellN A (mks d (e - p) p)) := by
          show _ = _
          rw [← M5.out, mks_skip d (e - q - 1) (q + 1) q2 n1 (by have := LT.out; omega) n3, show q + 1 + (e - q - 1) - q2 = e - q2 by have := LT.out; omega]
        have Q2 := hid (And.intro n1 (And.intro n2 n4))
        clear n1 n2 n3 n4 ec K5 x5
        go_wp2
        go_roundw
        case rel => exact ⟨q2, A' ++ [decB q], _, rfl, rfl, Q2.out.2.1, Q2.out.2.2, by rw [List.length_append]; have := HNL.out; have := LN.out; show A'.length + 1 ≤ 100; omega, M6.out, O5.out, G5.out, N5.out⟩
        case measure => simp [intOf]; have := Q2.out; have := LT.out; omega
      · have d2 : decide ((nL : Int) < 100) = false := by simp; omega
        have d3 : ¬ (nL : Int) < 100 := by omega
        have FIN : Hid (TelQ d A p e base w (.returned (.slice aL nL cL)) wr) := ⟨_, rfl, by rw [← HM.out, tell_max _ (by have := HNL.out; omega)]; exact HO.out, HGr.out, HNC.out⟩
        clear hlt hn
        go_wp2
        go_ret
        exact FIN.out
    · have d0 : decide ((q : Int) < (e : Int)) = false := by simp; omega
      have d1 : ¬ (q : Int) < (e : Int) := by omega
      have FIN : Hid (TelQ d A p e base w (.returned (.slice aL nL cL)) wr) := ⟨_, rfl, by
        rw [← HM.out, show e - q = 0 by omega]
        show OwnStrs _ _ _ (tellN A' [])
        rw [tell_nil]
        exact HO.out, HGr.out, HNC.out⟩
      clear hlt
      go_wp2
      go_ret
      exact FIN.out
end Go.Proofs.YtngkiokibldfjaaGreatDoor
