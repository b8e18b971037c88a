import Derived.Test.YtngkiokibldfjaaGreatDoorIDoX
import Derived.Test.YtngkiokibldfjaaGreatDoorPK
import Derived.Deep.RegionHeld3
namespace Go.Proofs.YtngkiokibldfjaaGreatDoor
open Go.RowKit Go.Shelf
set_option linter.unusedVariables false
/-! The program's RunExtent. -/
theorem lockY {P : Prop} (h : Hid P) : P := h.out
theorem mk_xouts (w : World) (n : Nat) (hn : n ≤ 1048576) : (Instr.makeSlice 31 (.int .i64 0) (.int .i64 n)).run Tryz.prog w = .ok (.slice (some ⟨w.heap.size, 0, none⟩) 0 n) (w.alloc (.cells (madeCells #[.int .i64 0, .string ⟨#[]⟩, .slice none 0 0, .int .i64 0] (n * 4)) 36)) := by
  obtain ⟨i0, hi, hz0, hz1, hz2⟩ := info_parts Tryz.infoXo
  have := run_make (P := Tryz.prog) w 31 36 i0 (.agg #[.int .i64 0, .string ⟨#[]⟩, .slice none 0 0, .int .i64 0]) Tryz.underlying31 hi hz0 .i64 .i64 0 n (by omega) (by omega) (by rw [hz2]; omega) (by omega)
  rw [this, hz1]
  simp [Value.cells]
theorem rx_ret {W' : World} {X : Nat} {v1 v2 v3 : Value} {P : Ending → World → Prop} {tm : Array Value} (sa : RowAt W' X 33 #[v1, v2, v3]) (so : P (.returned (.agg #[v1, v2, v3])) W') (h2 : tm.getD 4 undef = .pointer (some ⟨X, 0, none⟩)) :
    bodyPost Tryz.prog Tryz.f8 P Exit.ret { tmps := tm, defers := [] } W' := by
  refine bodyPost_ret (v := .agg #[v1, v2, v3]) ?_ rfl so
  exact results_cell_row Tryz.results8 _ _ X _ _ _ _ h2 sa Tryz.underlying33 rfl (by kernel_rfl)
/-- what RunExtent answers, its rows of keys apart from each other -/
def SxP (w : World) (d : ByteArray) (sy : Nat) (o : Nat → Op) (n : Nat) (e : Ending) (w' : World) : Prop := (∃ vO O, e = .returned (.agg #[.string (xRun d sy o n).1.1, .int .i64 ((xRun d sy o n).1.2 : Nat), vO]) ∧ O.map Prod.fst = (xRun d sy o n).2 ∧ w'.ownsRow w.heap.size 36 4 vO O.length (xoL O) ∧ (∀ p ∈ O, OwnStrs w' w.heap.size p.2 p.1.ks) ∧ O.Pairwise fun p q => ∀ g, p.2.ownBlock = some g → q.2.ownBlock ≠ some g) ∧ Below w.heap.size w w'
/-- behind i operations -/
structure RxI (ea eb : Addr) (X : Nat) (w : World) (d0 : ByteArray) (s0 : Nat) (o : Nat → Op) (i : Nat) (V : Value) (O : List (XOt × Value)) (NK : List ByteArray) (W : World) : Prop where
  sh : ShAt ea eb X (xRun d0 s0 o i).1.1 (xRun d0 s0 o i).1.2 NK W
  nk : NK.length ≤ 300000 * (i + 1)
  an : O.map Prod.fst = (xRun d0 s0 o i).2
  ou : W.ownsRow (X + 1) 36 4 V O.length (xoL O)
  oe : ∀ p ∈ O, OwnStrs W (X + 1) p.2 p.1.ks
  re : RowAt W (w.heap.size + 1) 33 #[.string ⟨#[]⟩, .int .i64 0, .slice none 0 0]
  bl : Below w.heap.size w W
  lo : w.heap.size + 4 ≤ X
  sp : O.Pairwise fun p q => ∀ g, p.2.ownBlock = some g → q.2.ownBlock ≠ some g
theorem RxI.below {ea eb : Addr} {X : Nat} {w : World} {d0 : ByteArray} {s0 : Nat} {o : Nat → Op} {i : Nat} {V : Value} {O : List (XOt × Value)} {NK : List ByteArray} {W W' : World} (h : RxI ea eb X w d0 s0 o i V O NK W) (hb : Below W.heap.size W W') : RxI ea eb X w d0 s0 o i V O NK W' :=
  ⟨h.sh.below hb, h.nk, h.an, orKeep h.ou fun g cs _ r => r.below hb r.lt, fun p hp => orKeep (h.oe p hp) fun g cs _ r => r.below hb r.lt, h.re.below hb h.re.lt, h.bl.trans (hb.mono h.bl.size), h.lo, h.sp⟩
theorem ShQ.low {ea eb : Addr} {X : Nat} {d' : ByteArray} {sy' : Nat} {NK : List ByteArray} {w A B : World} (h : ShQ ea eb X d' sy' NK A B) (hb : Below w.heap.size w A) (hX : w.heap.size + 1 ≤ X) : Below w.heap.size w B :=
  ⟨h.2.os.trans hb.os, h.2.tape.trans hb.tape, h.2.output.trans hb.output, Nat.le_trans hb.size h.2.size, fun j hj => (h.2.low j (by omega)).trans (hb.block j hj)⟩
set_option maxRecDepth 20000 in
set_option maxHeartbeats 8000000 in
theorem iRunX (ea eb : Addr) (d0 : ByteArray) (s0 : Nat) (hx : XOk d0 s0) (ad : Option Addr) (n cp : Nat) (o : Nat → Op) (hn : n ≤ 2000) (hz : ∀ k, k < n → (o k).ky.size ≤ 1048576 ∧ (o k).dt.size ≤ 1048576) (w : World) (hE : Errs w ea eb) (hT : TB w) (h : Exs w ad n cp o) :
    Calls Tryz.prog 8 #[.agg #[.string d0, .int .i64 (s0 : Nat)], .slice ad n cp] w fun e w' => SxP w d0 s0 o n e w' := by
  obtain ⟨W1, hW1⟩ : ∃ W, W = (w.alloc (.cells #[.string d0, .int .i64 (s0 : Nat)] 30)).alloc (.cells #[.string ⟨#[]⟩, .int .i64 0, .slice none 0 0] 33) := ⟨_, rfl⟩
  have b1 : Below w.heap.size w W1 := by rw [hW1]; exact ((Below.refl _ _).alloc (Nat.le_refl _) _).alloc (by simp) _
  have E1 : Hid (RowAt W1 w.heap.size 30 #[.string d0, .int .i64 (s0 : Nat)]) := by rw [hW1]; exact (RowAt.new _ _ _).alloc _
  have R1 : Hid (RowAt W1 (w.heap.size + 1) 33 #[.string ⟨#[]⟩, .int .i64 0, .slice none 0 0]) := by rw [hW1]; exact RowAt.next _ _ _ (by simp)
  have Z1 : Hid (W1.heap.size = w.heap.size + 2) := by rw [hW1]; show _ = _; simp only [World.size_alloc]
  have B1 := hid b1
  have HO := hid h
  have HZ := hid hz
  have HX := hid hx
  have HT := hid hT
  have KN := hid (iNewShelf ea eb d0 hx.bd s0 W1 (hE.below b1))
  have q0 := E1.out.cell 0
  have q1 := E1.out.cell 1
  have z1 := hx.bd
  have z2 := hx.bs
  have c0 : ¬ (2000 : Int) < (n : Int) := by omega
  have c1 : ¬ (300000 : Int) < (d0.size : Int) := by omega
  have c2 : ¬ (s0 : Int) < 0 := by omega
  have c3 : ¬ (d0.size : Int) < (s0 : Int) := by omega
  have hmk := fun wx => mk_xouts wx n (by omega)
  clear h hz hx b1 hE hT
  go_enter Tryz.func8, Tryz.ntmps8
  go_upto_region 1 with fail
  rw [← hW1]
  clear hW1
  go_wp2_with fail
  refine KN.out.mono ?_
  rintro e w3 ⟨rfl, hQ3⟩
  obtain ⟨X, hX⟩ : ∃ X, X = W1.heap.size + 2 := ⟨_, rfl⟩
  rw [← hX] at hQ3 ⊢
  obtain ⟨⟨NK3, A3, _, n3⟩, t3⟩ := hQ3
  have sb := shNew_below W1 d0 s0
  have b3 : Below w.heap.size w w3 := ⟨t3.os.trans (sb.os.trans B1.out.os), t3.tape.trans (sb.tape.trans B1.out.tape), t3.output.trans (sb.output.trans B1.out.output), Nat.le_trans B1.out.size (Nat.le_trans sb.size t3.size), fun j hj => (t3.low j (by have := Z1.out; omega)).trans ((sb.block j (by have := Z1.out; omega)).trans (B1.out.block j hj))⟩
  have R3 : RowAt w3 (w.heap.size + 1) 33 #[.string ⟨#[]⟩, .int .i64 0, .slice none 0 0] := (t3.low _ (by have := Z1.out; omega)).trans (R1.out.below sb R1.out.lt)
  obtain ⟨W4, hW4⟩ : ∃ W4, W4 = w3.alloc (.cells (madeCells #[.int .i64 0, .string ⟨#[]⟩, .slice none 0 0, .int .i64 0] (n * 4)) 36) := ⟨_, rfl⟩
  have b4 : Below w3.heap.size w3 W4 := by rw [hW4]; exact (Below.refl _ _).alloc (Nat.le_refl _) _
  have szX : X + 1 ≤ w3.heap.size := A3.size
  obtain ⟨g4, hg4⟩ : ∃ x, x = w3.heap.size := ⟨_, rfl⟩
  have O4 : W4.ownsRow (X + 1) 36 4 (.slice (some ⟨g4, 0, none⟩) 0 n) 0 [] := by rw [hW4, hg4]; exact World.ownsRow_made w3 _ n szX (by unfold maxLen; omega) (by simp [madeCells])
  have I4 : Hid (RxI ea eb X w d0 s0 o 0 (.slice (some ⟨g4, 0, none⟩) 0 n) [] NK3 W4) := ⟨A3.below b4, by simpa using n3, rfl, O4, fun p hp => (by cases hp), R3.below b4 R3.lt, b3.trans (b4.mono b3.size), by have := Z1.out; omega, List.Pairwise.nil⟩
  have HW4 := hid hW4
  clear hW4 sb b3 R3 b4 szX O4 t3 A3 n3 hX R1 E1 Z1 B1 KN q0 q1 c0 c1 c2 c3 z1 z2
  go_upto_region 5 with fail
  rw [← HW4.out, ← hg4]
  clear HW4 hg4 hmk
  go_wp2_with fail
  go_loopw [6, 39] (fun v q wr => ∃ (i : Nat) (V : Value) (O : List (XOt × Value)) (NK : List ByteArray), i ≤ n ∧ V = v ∧ q = .int .i64 (i : Int) ∧ RxI ea eb X w d0 s0 o i V O NK wr) (fun _ q _ => n - (intOf q).toNat)
  case atStart => exact ⟨0, _, [], NK3, Nat.zero_le _, rfl, rfl, I4.out⟩
  case round =>
    obtain ⟨i, V, O, NK, hi, rfl, rfl, hI⟩ := hrel
    have I5 := hid hI
    obtain ⟨av, cv, hv⟩ := orSlice hI.ou
    obtain ⟨nv, hnv⟩ : ∃ x, x = O.length := ⟨_, rfl⟩
    rw [← hnv] at hv
    have OL : Hid (O.length ≤ 2000) := by show _ ≤ _; have := congrArg List.length hI.an; rw [List.length_map, xRun_len] at this; omega
    clear hI hnv I4
    subst hv
    by_cases hlt : i < n
    · have d0' : (i : Int) < (n : Int) := by omega
      have i0 : (0 : Int) ≤ (i : Int) := by omega
      rcases (HO.out.below I5.out.bl).2 with h00 | ⟨bo, off, rfl, hbl, hcc⟩
      · omega
      obtain ⟨x0, x1, x2, x3, x4, x5⟩ := hcc i hlt
      have hpp := HZ.out i hlt
      obtain ⟨OP, hOP⟩ : ∃ OP, OP = o i := ⟨_, rfl⟩
      rw [← hOP] at x0 x1 x2 x3 x4 x5 hpp
      have HOP := hid hOP
      clear hcc hOP
      obtain ⟨W6, hW6⟩ : ∃ W, W = wr.alloc (.cells #[.int .i64 OP.kd, .string OP.ky, .string OP.dt, .int .i64 OP.kp, .int .i64 OP.at_, .int .i64 OP.tn] 27) := ⟨_, rfl⟩
      have b6 : Below wr.heap.size wr W6 := by rw [hW6]; exact (Below.refl _ _).alloc (Nat.le_refl _) _
      have P6 : Hid (RowAt W6 wr.heap.size 27 #[.int .i64 OP.kd, .string OP.ky, .string OP.dt, .int .i64 OP.kp, .int .i64 OP.at_, .int .i64 OP.tn]) := by rw [hW6]; exact RowAt.new _ _ _
      have I6 := hid (I5.out.below b6)
      have OKI : XOk (xRun d0 s0 o i).1.1 (xRun d0 s0 o i).1.2 := xRun_ok HX.out o i
      have K6 := hid (iDo ea eb X _ _ OKI NK (by have := I6.out.nk; omega) OP hpp.1 hpp.2 W6 (HT.out.below I6.out.bl) I6.out.sh)
      clear b6 I5 hpp OKI
      go_upto_region 8 with ((refine wpList_store_row rfl 27 (.tmp 8) (.tmp 42) rfl wr.heap.size #[.int .i64 OP.kd, .string OP.ky, .string OP.dt, .int .i64 OP.kp, .int .i64 OP.at_, .int .i64 OP.tn] rfl rfl _ _ (RowAt.new wr _ _) (by kernel_rfl) rfl (by simp [Value.oneCell']) ?_); rw [World.setRow_alloc_new])
      rw [← hW6]
      clear hW6 x0 x1 x2 x3 x4 x5
      have p0 := P6.out.cell 0
      have p1 := P6.out.cell 1
      have p2 := P6.out.cell 2
      have p3 := P6.out.cell 3
      have p4 := P6.out.cell 4
      have p5 := P6.out.cell 5
      go_wp2_with fail
      refine K6.out.mono ?_
      rintro e w7 ⟨a7, n7, c7, rfl, hO7, hQ7⟩
      have B7 := hid (hQ7.low I6.out.bl (by have := I6.out.lo; omega))
      obtain ⟨⟨NK7, A7, x7, l7⟩, t7⟩ := hQ7
      have SZ6 : X + 1 ≤ W6.heap.size := I6.out.sh.size
      have E7 := hid (orBase hO7 SZ6)
      have FR7 : Hid (∀ g, (Value.slice a7 n7 c7).ownBlock = some g → W6.heap.size ≤ g) := fun g e => (orRow hO7 e).1
      have A7 := hid A7
      have L7 := hid l7
      have O7 := hid (t7.own I6.out.ou (by decide))
      have U7 : Hid (∀ p ∈ O, OwnStrs w7 (X + 1) p.2 p.1.ks) := fun p hp => t7.own (I6.out.oe p hp) (by decide)
      have R7 := hid (t7.row _ _ _ I6.out.re (by decide))
      have S7 : Hid (X + 1 ≤ w7.heap.size) := Nat.le_trans SZ6 t7.size
      obtain ⟨xo, hxo⟩ : ∃ xo, xo = (xDo (xRun d0 s0 o i).1.1 (xRun d0 s0 o i).1.2 OP).2 := ⟨_, rfl⟩
      rw [← hxo] at E7 ⊢
      have HXO := hid hxo
      clear hO7 t7 x7 l7 K6 P6 p0 p1 p2 p3 p4 p5 hxo SZ6
      go_wp2_with (at_builtin; refine lockY ?_)
      refine hid ?_
      refine append_xo (X + 1) w7 rfl (.tmp 43) (.tmp 47) rfl (.slice av nv cv) O (xo, .slice a7 n7 c7) rfl O7.out S7.out rfl rfl (by have := OL.out; omega) ?_
      intro v8 w8 hO8 hg8
      obtain ⟨a8, c8, hv8⟩ := orSlice hO8
      obtain ⟨n8, hn8⟩ : ∃ x, x = (O ++ [((xo, .slice a7 n7 c7) : XOt × Value)]).length := ⟨_, rfl⟩
      rw [← hn8] at hv8
      clear hn8
      subst hv8
      have t8 : TG [36] false X w7 w8 := TG.grown false hg8 (by have := S7.out; omega) fun g e => by
        obtain ⟨q1, _, cs, hr⟩ := orRow O7.out e
        exact ⟨by omega, _, cs, hr, by simp⟩
      have U8 : ∀ p ∈ O ++ [((xo, .slice a7 n7 c7) : XOt × Value)], OwnStrs w8 (X + 1) p.2 p.1.ks := fun p hp => by
        rcases List.mem_append.1 hp with hp | hp
        · exact t8.own (U7.out p hp) (by decide)
        · rw [List.mem_singleton] at hp
          subst hp
          exact t8.own E7.out (by decide)
      have SP8 : (O ++ [((xo, .slice a7 n7 c7) : XOt × Value)]).Pairwise fun p q => ∀ g, p.2.ownBlock = some g → q.2.ownBlock ≠ some g := by
        rw [List.pairwise_append]
        refine ⟨I6.out.sp, List.pairwise_singleton _ _, fun p hp q hq g e1 e2 => ?_⟩
        rw [List.mem_singleton] at hq
        subst hq
        obtain ⟨_, _, cs, hr⟩ := orRow (I6.out.oe p hp) e1
        have h2 := FR7.out g e2
        have := hr.lt
        omega
      have I8 : Hid (RxI ea eb X w d0 s0 o (i + 1) (.slice a8 n8 c8) (O ++ [((xo, .slice a7 n7 c7) : XOt × Value)]) NK7 w8) := by
        have e1 : (xRun d0 s0 o (i + 1)).1 = (xDo (xRun d0 s0 o i).1.1 (xRun d0 s0 o i).1.2 OP).1 := by rw [HOP.out]; rfl
        have e2 : (xRun d0 s0 o (i + 1)).2 = (xRun d0 s0 o i).2 ++ [xo] := by rw [HXO.out, HOP.out]; rfl
        refine ⟨?_, ?_, ?_, hO8, U8, t8.row _ _ _ R7.out (by decide), B7.out.grown hg8 B7.out.size (fun g e => by have := (orRow O7.out e).1; have := I6.out.lo; omega), I6.out.lo, SP8⟩
        · rw [e1]
          exact A7.out.tg t8 (Nat.le_refl _) (by have := S7.out; omega) (by decide) (by decide) (by decide) (by decide)
        · have := L7.out; have := I6.out.nk; omega
        · rw [List.map_append, I6.out.an, e2]; rfl
      clear hO8 hg8 t8 U8 O7 U7 R7 B7 S7 E7 A7 L7
      go_wp2
      go_roundw
      case rel => exact ⟨i + 1, _, _, NK7, by omega, rfl, by go_num, I8.out⟩
      case measure => simp [intOf]; omega
    · have d0' : ¬ (i : Int) < (n : Int) := by omega
      have hin : i = n := by omega
      subst hin
      obtain ⟨D, hD⟩ : ∃ D, D = (xRun d0 s0 o i).1.1 := ⟨_, rfl⟩
      obtain ⟨S, hS⟩ : ∃ S, S = (xRun d0 s0 o i).1.2 := ⟨_, rfl⟩
      have hsh := I5.out.sh
      have HXD := hid hD
      have HXS := hid hS
      rw [← hD, ← hS] at hsh
      have x0 : wr.drew.cell? ⟨X, 0, none⟩ = some (.string D) := hsh.data
      have x3 : wr.drew.cell? ⟨X, 3, none⟩ = some (.int .i64 (S : Nat)) := hsh.synced.1
      have KC := hid (clone_any D wr.drew (by have := hsh.bd; omega))
      have R5 := I5.out.re.drew
      have r0 := R5.cell 0
      have r1 := R5.cell 1
      have r2 := R5.cell 2
      have SSX : Hid (∀ wx, Below wr.drew.heap.size wr.drew wx → wx.cell? ⟨X, 0, none⟩ = some (.string D) ∧ wx.cell? ⟨X, 3, none⟩ = some (.int .i64 (S : Nat))) := fun wx hb => ⟨(hsh.below ((Below.refl _ _).drew.trans hb)).data, (hsh.below ((Below.refl _ _).drew.trans hb)).synced.1⟩
      clear hD hS hsh R5
      have AFT : Hid (∀ w9, Below wr.drew.heap.size wr.drew w9 → Hid (RowAt w9 (w.heap.size + 1) 33 #[.string ⟨#[]⟩, .int .i64 0, .slice none 0 0]) ∧ Hid (RxI ea eb X w d0 s0 o i (.slice av nv cv) O NK w9) ∧ Hid ((((w9.setCell ⟨w.heap.size + 1, 0, none⟩ (.string D)).setCell ⟨w.heap.size + 1, 1, none⟩ (.int .i64 (S : Nat))).setCell ⟨w.heap.size + 1, 2, none⟩ (.slice av nv cv)).cell? ⟨X, 0, none⟩ = some (.string D) ∧ (((w9.setCell ⟨w.heap.size + 1, 0, none⟩ (.string D)).setCell ⟨w.heap.size + 1, 1, none⟩ (.int .i64 (S : Nat))).setCell ⟨w.heap.size + 1, 2, none⟩ (.slice av nv cv)).cell? ⟨X, 3, none⟩ = some (.int .i64 (S : Nat))) ∧ Hid (SxP w d0 s0 o i (.returned (.agg #[.string D, .int .i64 (S : Nat), .slice av nv cv])) (((w9.setCell ⟨w.heap.size + 1, 0, none⟩ (.string D)).setCell ⟨w.heap.size + 1, 1, none⟩ (.int .i64 (S : Nat))).setCell ⟨w.heap.size + 1, 2, none⟩ (.slice av nv cv)) ∧ RowAt (((w9.setCell ⟨w.heap.size + 1, 0, none⟩ (.string D)).setCell ⟨w.heap.size + 1, 1, none⟩ (.int .i64 (S : Nat))).setCell ⟨w.heap.size + 1, 2, none⟩ (.slice av nv cv)) (w.heap.size + 1) 33 #[.string D, .int .i64 (S : Nat), .slice av nv cv])) := fun w9 hb => by
        have I9 := I5.out.below ((Below.refl _ wr).drew.trans hb)
        have R := I9.re
        have sx := SSX.out w9 hb
        have XN : X ≠ w.heap.size + 1 := by have := I5.out.lo; omega
        have oc : ∀ {W : World} {c : Nat} {v : Value} {i : Nat}, W.cell? ⟨X, i, none⟩ = some v → ∀ u, (W.setCell ⟨w.heap.size + 1, c, none⟩ u).cell? ⟨X, i, none⟩ = some v := fun {W c v i} h u => far_set XN.symm h
        refine ⟨R, I9, ⟨oc (oc (oc sx.1 _) _) _, oc (oc (oc sx.2 _) _) _⟩, ⟨⟨.slice av nv cv, O, by rw [HXD.out, HXS.out], I5.out.an, ?_, ?_, I5.out.sp⟩, ?_⟩, ?_⟩
        · exact orBase (orKeep I9.ou fun g cs _ r => ((r.other _ _ (row_neX r R (by decide))).other _ _ (row_neX r R (by decide))).other _ _ (row_neX r R (by decide))) (by have := I5.out.lo; omega)
        · exact fun p hp => orBase (orKeep (I9.oe p hp) fun g cs _ r => ((r.other _ _ (row_neX r R (by decide))).other _ _ (row_neX r R (by decide))).other _ _ (row_neX r R (by decide))) (by have := I5.out.lo; omega)
        · exact ((I9.bl.setCell (by show w.heap.size ≤ w.heap.size + 1; omega) _).setCell (by show w.heap.size ≤ w.heap.size + 1; omega) _).setCell (by show w.heap.size ≤ w.heap.size + 1; omega) _
        · exact ((R.set 0 _).set 1 _).set 2 _
      clear r0 r1 r2 HXD HXS
      go_upto_region 10 with fail
      go_region_held3 (fun wx => wx.cell? ⟨X, 0, none⟩ = some (.string D) ∧ wx.cell? ⟨X, 3, none⟩ = some (.int .i64 (S : Nat))) (first | exact ⟨x0, x3⟩ | exact S9.out | exact SSX.out _ b9.out | (go_keep; done))
        (first
          | (go_at_call 27; refine KC.out.mono ?_; rintro e9 w9 ⟨rfl, hb9⟩; obtain ⟨R9, I9, S9, F9⟩ := AFT.out w9 hb9; have b9 := hid hb9; have k0 : w9.cell? ⟨w.heap.size + 1, 0, none⟩ = some (.string ⟨#[]⟩) := R9.out.cell 0; have k1 : w9.cell? ⟨w.heap.size + 1, 1, none⟩ = some (.int .i64 0) := R9.out.cell 1; have k2 : w9.cell? ⟨w.heap.size + 1, 2, none⟩ = some (.slice none 0 0) := R9.out.cell 2; have g0 := R9.out.free 0; have g1 := R9.out.free 1; have g2 := R9.out.free 2; clear hb9))
      all_goals (try simp [Act.put])
      all_goals go_wp2
      all_goals exact rx_ret F9.out.2 F9.out.1 rfl
end Go.Proofs.YtngkiokibldfjaaGreatDoor
namespace Go.Proofs.YtngkiokibldfjaaGreatDoor
open Go.RowKit Go.Shelf
set_option linter.unusedVariables false
/-! Both RunExtent at wrong arguments: the empty run. -/
def rxBad (n : Nat) (d : ByteArray) (s : Int) : Prop := 2000 < n ∨ 300000 < d.size ∨ s < 0 ∨ (d.size : Int) < s
instance (n : Nat) (d : ByteArray) (s : Int) : Decidable (rxBad n d s) := inferInstanceAs (Decidable (_ ∨ _ ∨ _ ∨ _))
theorem rx_ok {n : Nat} {d : ByteArray} {s : Int} (h : ¬ rxBad n d s) : n ≤ 2000 ∧ XOk d s.toNat ∧ s = (s.toNat : Int) := by
  unfold rxBad at h
  refine ⟨by omega, ⟨by omega, by omega⟩, by omega⟩
def rx0 : Value := .agg #[.string ⟨#[]⟩, .int .i64 0, .slice none 0 0]
def RxN (w : World) (e : Ending) (w' : World) : Prop := e = .returned rx0 ∧ Below w.heap.size w w'
set_option maxRecDepth 20000 in
set_option maxHeartbeats 4000000 in
theorem iRunX_no (d : ByteArray) (s : Int) (ad : Option Addr) (n cp : Nat) (hb : rxBad n d s) (w : World) :
    Calls Tryz.prog 8 #[.agg #[.string d, .int .i64 s], .slice ad n cp] w fun e w' => RxN w e w' := by
  obtain ⟨W1, hW1⟩ : ∃ W, W = (w.alloc (.cells #[.string d, .int .i64 s] 30)).alloc (.cells #[.string ⟨#[]⟩, .int .i64 0, .slice none 0 0] 33) := ⟨_, rfl⟩
  have b1 : Below w.heap.size w W1 := by rw [hW1]; exact ((Below.refl _ _).alloc (Nat.le_refl _) _).alloc (by simp) _
  have E1 : Hid (RowAt W1 w.heap.size 30 #[.string d, .int .i64 s]) := by rw [hW1]; exact (RowAt.new _ _ _).alloc _
  have R1 : Hid (RowAt W1 (w.heap.size + 1) 33 #[.string ⟨#[]⟩, .int .i64 0, .slice none 0 0]) := by rw [hW1]; exact RowAt.next _ _ _ (by simp)
  have B1 := hid b1
  have q0 : W1.cell? ⟨w.heap.size, 0, none⟩ = some (.string d) := E1.out.cell 0
  have q1 : W1.cell? ⟨w.heap.size, 1, none⟩ = some (.int .i64 s) := E1.out.cell 1
  clear b1
  have FIN : Hid (RxN w (.returned rx0) (W1.setRow (w.heap.size + 1) #[.string ⟨#[]⟩, .int .i64 0, .slice none 0 0])) := ⟨rfl, below_setRow B1.out _ _ (Nat.le_succ _)⟩
  by_cases k0 : (2000 : Int) < (n : Int)
  · clear hb
    go_enter Tryz.func8, Tryz.ntmps8
    go_upto_region 1 with fail
    rw [← hW1]
    clear hW1
    go_wp2_with (refine wpList_store_row rfl 33 (.tmp 4) (.tmp 31) rfl (w.heap.size + 1) #[.string ⟨#[]⟩, .int .i64 0, .slice none 0 0] rfl rfl _ _ R1.out (by kernel_rfl) rfl (by simp [Value.oneCell']) ?_)
    refine bodyPost_ret (v := rx0) ?_ rfl FIN.out
    exact results_cell_row Tryz.results8 _ _ (w.heap.size + 1) _ _ _ _ rfl (R1.out.setRow _) Tryz.underlying33 rfl (by kernel_rfl)
  by_cases k1 : (300000 : Int) < (d.size : Int)
  · clear hb
    go_enter Tryz.func8, Tryz.ntmps8
    go_upto_region 1 with fail
    rw [← hW1]
    clear hW1
    go_wp2_with (refine wpList_store_row rfl 33 (.tmp 4) (.tmp 31) rfl (w.heap.size + 1) #[.string ⟨#[]⟩, .int .i64 0, .slice none 0 0] rfl rfl _ _ R1.out (by kernel_rfl) rfl (by simp [Value.oneCell']) ?_)
    refine bodyPost_ret (v := rx0) ?_ rfl FIN.out
    exact results_cell_row Tryz.results8 _ _ (w.heap.size + 1) _ _ _ _ rfl (R1.out.setRow _) Tryz.underlying33 rfl (by kernel_rfl)
  by_cases k2 : s < 0
  · clear hb
    go_enter Tryz.func8, Tryz.ntmps8
    go_upto_region 1 with fail
    rw [← hW1]
    clear hW1
    go_wp2_with (refine wpList_store_row rfl 33 (.tmp 4) (.tmp 31) rfl (w.heap.size + 1) #[.string ⟨#[]⟩, .int .i64 0, .slice none 0 0] rfl rfl _ _ R1.out (by kernel_rfl) rfl (by simp [Value.oneCell']) ?_)
    refine bodyPost_ret (v := rx0) ?_ rfl FIN.out
    exact results_cell_row Tryz.results8 _ _ (w.heap.size + 1) _ _ _ _ rfl (R1.out.setRow _) Tryz.underlying33 rfl (by kernel_rfl)
  have k3 : (d.size : Int) < s := by unfold rxBad at hb; omega
  clear hb
  go_enter Tryz.func8, Tryz.ntmps8
  go_upto_region 1 with fail
  rw [← hW1]
  clear hW1
  go_wp2_with (refine wpList_store_row rfl 33 (.tmp 4) (.tmp 31) rfl (w.heap.size + 1) #[.string ⟨#[]⟩, .int .i64 0, .slice none 0 0] rfl rfl _ _ R1.out (by kernel_rfl) rfl (by simp [Value.oneCell']) ?_)
  refine bodyPost_ret (v := rx0) ?_ rfl FIN.out
  exact results_cell_row Tryz.results8 _ _ (w.heap.size + 1) _ _ _ _ rfl (R1.out.setRow _) Tryz.underlying33 rfl (by kernel_rfl)
set_option maxRecDepth 20000 in
set_option maxHeartbeats 4000000 in
theorem sRunX_no (d : ByteArray) (s : Int) (ad : Option Addr) (n cp : Nat) (hb : rxBad n d s) (w : World) :
    Calls Tryz.prog 10 #[.agg #[.string d, .int .i64 s], .slice ad n cp] w fun e w' => RxN w e w' := by
  obtain ⟨W1, hW1⟩ : ∃ W, W = (w.alloc (.cells #[.string d, .int .i64 s] 30)).alloc (.cells #[.string ⟨#[]⟩, .int .i64 0, .slice none 0 0] 33) := ⟨_, rfl⟩
  have b1 : Below w.heap.size w W1 := by rw [hW1]; exact ((Below.refl _ _).alloc (Nat.le_refl _) _).alloc (by simp) _
  have E1 : Hid (RowAt W1 w.heap.size 30 #[.string d, .int .i64 s]) := by rw [hW1]; exact (RowAt.new _ _ _).alloc _
  have R1 : Hid (RowAt W1 (w.heap.size + 1) 33 #[.string ⟨#[]⟩, .int .i64 0, .slice none 0 0]) := by rw [hW1]; exact RowAt.next _ _ _ (by simp)
  have B1 := hid b1
  have q0 : W1.cell? ⟨w.heap.size, 0, none⟩ = some (.string d) := E1.out.cell 0
  have q1 : W1.cell? ⟨w.heap.size, 1, none⟩ = some (.int .i64 s) := E1.out.cell 1
  clear b1
  have FIN : Hid (RxN w (.returned rx0) (W1.setRow (w.heap.size + 1) #[.string ⟨#[]⟩, .int .i64 0, .slice none 0 0])) := ⟨rfl, below_setRow B1.out _ _ (Nat.le_succ _)⟩
  by_cases k0 : (2000 : Int) < (n : Int)
  · clear hb
    go_enter Tryz.func10, Tryz.ntmps10
    go_upto_region 1 with fail
    rw [← hW1]
    clear hW1
    go_wp2_with (refine wpList_store_row rfl 33 (.tmp 4) (.tmp 42) rfl (w.heap.size + 1) #[.string ⟨#[]⟩, .int .i64 0, .slice none 0 0] rfl rfl _ _ R1.out (by kernel_rfl) rfl (by simp [Value.oneCell']) ?_)
    refine bodyPost_ret (v := rx0) ?_ rfl FIN.out
    exact results_cell_row Tryz.results10 _ _ (w.heap.size + 1) _ _ _ _ rfl (R1.out.setRow _) Tryz.underlying33 rfl (by kernel_rfl)
  by_cases k1 : (300000 : Int) < (d.size : Int)
  · clear hb
    go_enter Tryz.func10, Tryz.ntmps10
    go_upto_region 1 with fail
    rw [← hW1]
    clear hW1
    go_wp2_with (refine wpList_store_row rfl 33 (.tmp 4) (.tmp 42) rfl (w.heap.size + 1) #[.string ⟨#[]⟩, .int .i64 0, .slice none 0 0] rfl rfl _ _ R1.out (by kernel_rfl) rfl (by simp [Value.oneCell']) ?_)
    refine bodyPost_ret (v := rx0) ?_ rfl FIN.out
    exact results_cell_row Tryz.results10 _ _ (w.heap.size + 1) _ _ _ _ rfl (R1.out.setRow _) Tryz.underlying33 rfl (by kernel_rfl)
  by_cases k2 : s < 0
  · clear hb
    go_enter Tryz.func10, Tryz.ntmps10
    go_upto_region 1 with fail
    rw [← hW1]
    clear hW1
    go_wp2_with (refine wpList_store_row rfl 33 (.tmp 4) (.tmp 42) rfl (w.heap.size + 1) #[.string ⟨#[]⟩, .int .i64 0, .slice none 0 0] rfl rfl _ _ R1.out (by kernel_rfl) rfl (by simp [Value.oneCell']) ?_)
    refine bodyPost_ret (v := rx0) ?_ rfl FIN.out
    exact results_cell_row Tryz.results10 _ _ (w.heap.size + 1) _ _ _ _ rfl (R1.out.setRow _) Tryz.underlying33 rfl (by kernel_rfl)
  have k3 : (d.size : Int) < s := by unfold rxBad at hb; omega
  clear hb
  go_enter Tryz.func10, Tryz.ntmps10
  go_upto_region 1 with fail
  rw [← hW1]
  clear hW1
  go_wp2_with (refine wpList_store_row rfl 33 (.tmp 4) (.tmp 42) rfl (w.heap.size + 1) #[.string ⟨#[]⟩, .int .i64 0, .slice none 0 0] rfl rfl _ _ R1.out (by kernel_rfl) rfl (by simp [Value.oneCell']) ?_)
  refine bodyPost_ret (v := rx0) ?_ rfl FIN.out
  exact results_cell_row Tryz.results10 _ _ (w.heap.size + 1) _ _ _ _ rfl (R1.out.setRow _) Tryz.underlying33 rfl (by kernel_rfl)
end Go.Proofs.YtngkiokibldfjaaGreatDoor
