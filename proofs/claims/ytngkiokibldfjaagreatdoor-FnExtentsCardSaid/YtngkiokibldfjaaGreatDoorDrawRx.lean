import Derived.Test.YtngkiokibldfjaaGreatDoorDrawXo
import Derived.Test.YtngkiokibldfjaaGreatDoorED
import Derived.Deep.CutBlock
import Derived.Deep.CutRange
namespace Go.Proofs.YtngkiokibldfjaaGreatDoor
open Go.RowKit
set_option linter.unusedVariables false
/-! DrawRunExtent. -/
theorem results_x_tmp {P : Program} {fn : Func} {p u : Tmp} {ty : TypeId} (h : fn.results = #[.cell p ty, .tmp u]) (tmps : Array Value) (w : World) (g : Nat) (t : TypeId) (cs : Array Value) (fr : Nat × Nat) (d : TypeDesc) (v : Value)
    (hp : tmps.getD p undef = .pointer (some ⟨g, 0, none⟩)) (hv : tmps.getD u undef = v) (hg : w.heap[g]? = some (.cells cs t fr))
    (hu : P.underlying ty = some d) (hd : (match d with | .struct _ | .array _ _ => true | _ => false) = true) (hi : (P.info? ty).map (·.size) = some cs.size) :
    (results fn tmps).run P w = .ok (.tuple #[.agg cs, v]) w := by
  have hp' : tmps[p]?.getD undef = .pointer (some ⟨g, 0, none⟩) := by simpa using hp
  have hv' : tmps[u]?.getD undef = v := by simpa using hv
  simp [results, h, hp', hv', asAddr, run_loadVar_row w g t ty cs fr d hg hu hd hi]
theorem madeB (n : Nat) : madeCells (Value.int .u8 0).cells (n * 1) = ((List.replicate n (0 : Int)).map (Value.int .u8)).toArray := by
  apply Array.ext
  · simp [madeCells]
  · intro i h1 h2
    simp [madeCells, Value.cells, Nat.mod_one]
theorem mkM (w : World) (n : Nat) (hn : n ≤ 1048576) : ∃ (cs : Array Value) (t : ByteArray), (Instr.makeSlice 22 (.int .i64 n) (.int .i64 n)).run Tryz.prog w = .ok (.slice (some ⟨w.heap.size, 0, none⟩) n n) (w.alloc (.cells cs 5)) ∧ t.size = n ∧
    ∀ wx, wx = w.alloc (.cells cs 5) → (convert 22 9 (.slice (some ⟨w.heap.size, 0, none⟩) n n)).run Tryz.prog wx = .ok (.string t) wx := by
  obtain ⟨i0, hi, hz0, hz1, hz2⟩ := info_parts Tryz.infoU8
  refine ⟨((List.replicate n (0 : Int)).map (Value.int .u8)).toArray, strOfNums (List.replicate n 0), ?_, by rw [strOfNums_size]; simp, ?_⟩
  · have := run_make (P := Tryz.prog) w 22 5 i0 (.int .u8 0) Tryz.underlying22 hi hz0 .i64 .i64 n n (by omega) (Int.le_refl _) (by rw [hz2]; omega) (by omega)
    rw [this, hz1]
    simp only [Int.toNat_natCast, madeB]
  · rintro wx rfl
    have hO : OwnNums (w.alloc (.cells ((List.replicate n (0 : Int)).map (Value.int .u8)).toArray 5)) w.heap.size 5 .u8 (.slice (some ⟨w.heap.size, 0, none⟩) n n) (List.replicate n 0) := by
      refine ⟨by simp, .inr ⟨w.heap.size, n, ((List.replicate n (0 : Int)).map (Value.int .u8)).toArray, by simp, Nat.le_refl _, heap_alloc_new w _, by simp, by unfold maxLen; omega, by simp, ?_⟩⟩
      simp
    exact conv_owned _ 22 5 9 Tryz.underlying22 Tryz.underlying5 Tryz.underlying9 hO
theorem mk90 (w : World) : ∃ (cs : Array Value) (t : ByteArray), (Instr.makeSlice 22 (.int .i64 90000) (.int .i64 90000)).run Tryz.prog w = .ok (.slice (some ⟨w.heap.size, 0, none⟩) 90000 90000) (w.alloc (.cells cs 5)) ∧ t.size = 90000 ∧
    ∀ wx, wx = w.alloc (.cells cs 5) → (convert 22 9 (.slice (some ⟨w.heap.size, 0, none⟩) 90000 90000)).run Tryz.prog wx = .ok (.string t) wx := mkM w 90000 (by omega)
theorem Src.rowX {W0 w : World} {c : Nat} {a : Option Addr} {len cap p : Nat} (h : Src W0 w c a len cap p) : ∃ cs, RowAt w c 80 cs := by
  obtain ⟨⟨z, hz, _⟩, _⟩ := h
  exact ⟨_, hz⟩
/-- what is drawn -/
def DrX (w : World) (e : Ending) (w' : World) : Prop := (∃ (d : ByteArray) (s : Int) (v : Value) (L : List Op), e = .returned (.tuple #[.agg #[.string d, .int .i64 s], v]) ∧ d.size ≤ 1200003 ∧ OwnOp w' w.heap.size v L ∧ L.length ≤ 100 ∧ XoOk L) ∧ Below w.heap.size w w'
theorem drx_end {w w0 W : World} {Y : Nat} {a : Option Addr} {len cap : Nat} {d : ByteArray} {s : Int} {pp : Nat} {v : Value} {L : List Op} {tm : Array Value} (h : RxD w w0 Y a len cap d s pp W) (hO : OwnOp W w.heap.size v L) (hL : L.length ≤ 100) (hx : XoOk L) (h2 : tm.getD 2 undef = .pointer (some ⟨w.heap.size, 0, none⟩)) (h3 : tm.getD 3 undef = v) :
    bodyPost Tryz.prog Tryz.f9 (fun e w' => DrX w e w') Exit.ret { tmps := tm, defers := [] } (W.setRow w.heap.size #[.string d, .int .i64 s]) := by
  refine bodyPost_ret (v := .tuple #[.agg #[.string d, .int .i64 s], v]) ?_ rfl ⟨⟨d, s, v, L, rfl, h.z, orKeep hO fun g cs e r => r.otherRow _ _ (fun q => ownNe hO h.X (by decide) (e.trans (congrArg some q))), hL, hx⟩, below_setRow h.B _ _ (Nat.le_refl _)⟩
  exact results_x_tmp Tryz.results9 _ _ w.heap.size _ _ _ _ _ h2 h3 (h.X.setRow _) Tryz.underlying30 rfl (by kernel_rfl)
set_option maxRecDepth 20000 in
set_option maxHeartbeats 16000000 in
theorem drawRX_all (w : World) (a : Option Addr) (len cap : Nat) (hc : CodeOk w a len) (hlc : len ≤ cap) :
    Calls Tryz.prog 9 #[.slice a len cap] w fun e w' => DrX w e w' := by
  obtain ⟨w0, hw0⟩ : ∃ W, W = w.alloc (.cells #[.string ⟨#[]⟩, .int .i64 0] 30) := ⟨_, rfl⟩
  have b0 : Below w.heap.size w w0 := by rw [hw0]; exact (Below.refl _ _).alloc (Nat.le_refl _) _
  have X0 : Hid (RowAt w0 w.heap.size 30 #[.string ⟨#[]⟩, .int .i64 0]) := by rw [hw0]; exact RowAt.new _ _ _
  have B0 := hid b0
  have Z0 : Hid (w0.heap.size = w.heap.size + 1) := by rw [hw0]; exact World.size_alloc _ _
  have KS := hid (source_all w0 a len cap (hc.below b0) hlc)
  have C0 := hid hc
  clear hc b0
  go_enter Tryz.func9, Tryz.ntmps9
  go_upto_region 1 with fail
  rw [← hw0]
  clear hw0
  go_wp2_with fail
  refine KS.out.mono ?_
  rintro e w1 ⟨rfl, hs1, hb1⟩
  obtain ⟨W2, hW2⟩ : ∃ W, W = w1.alloc (.cells #[.string ⟨#[]⟩, .int .i64 0] 30) := ⟨_, rfl⟩
  have b2 : Below w1.heap.size w1 W2 := by rw [hW2]; exact (Below.refl _ _).alloc (Nat.le_refl _) _
  obtain ⟨Y, hY⟩ : ∃ y, y = w1.heap.size := ⟨_, rfl⟩
  have D2 : Hid (RxD w w0 Y a len cap ⟨#[]⟩ 0 0 W2) := by
    refine ⟨hs1.belowD b2, ?_, X0.out.below (hb1.trans (b2.mono hb1.size)) X0.out.lt, B0.out.trans ((hb1.trans (b2.mono hb1.size)).mono B0.out.size), Z0.out, by rw [hY]; exact hs1.lt, by decide⟩
    rw [hW2, hY]; exact RowAt.new _ _ _
  clear hs1 hb1 b2 KS X0 B0
  go_upto_region 3 with ((refine wpList_store_row rfl 30 (.tmp 5) (.tmp 10) rfl w1.heap.size #[.string ⟨#[]⟩, .int .i64 0] rfl rfl _ _ (RowAt.new w1 _ _) (by kernel_rfl) rfl (by simp [Value.oneCell']) ?_); rw [World.setRow_alloc_new])
  rw [← hW2, ← hY]
  clear hW2 hY
  go_wp2_with fail
  refine (one_all w0 W2 w0.heap.size a len cap 0 3 D2.out.S (by omega) (by omega) (by omega)).mono ?_
  rintro e w3 ⟨⟨b3, rfl⟩, hs3, hg3⟩
  have D3 := hid (D2.out.src hs3 hg3)
  clear hs3 hg3 D2
  go_upto_if 12 with fail
  go_cut [] from 11 to 22 (fun wx => ∃ (d : ByteArray) (Z pp : Nat), Z ≤ 1200003 ∧ pp ≤ 10 ∧ RxD w w0 Y a len cap d (Z : Int) pp wx)
  case first =>
    cases b3 with
    | true =>
      go_wp2_with fail
      refine (drawScan_all w3 a len cap (C0.out.below D3.out.B) hlc).mono ?_
      rintro e w4 ⟨⟨u, rfl, hu⟩, hb4⟩
      have D4 := hid (D3.out.below hb4)
      have kc := D4.out.T.cell 0
      have kf := D4.out.T.free 0
      obtain ⟨w5, hw5⟩ : ∃ W, W = w4.setCell ⟨Y, 0, none⟩ (.string u) := ⟨_, rfl⟩
      have D5 : Hid (RxD w w0 Y a len cap u 0 (0 + 1) w5) := by rw [hw5]; exact D4.out.set0 hu
      have HW := hid hw5
      clear hw5 hb4 D3 D4
      go_upto_region 5 with fail
      rw [← HW.out]
      clear HW kc kf
      have k0 := D5.out.T.cell 0
      have uz : (u.size : Int) ≤ 1200003 := by omega
      go_wp2_with fail
      refine (n_all w0 w5 w0.heap.size a len cap (0 + 1) ((u.size : Int) + 1) D5.out.S (by omega) (by omega) (by omega)).mono ?_
      rintro e w6 ⟨⟨r, rfl, hr0, hr1⟩, hs6, hg6⟩
      obtain ⟨Z, rfl⟩ := Int.eq_ofNat_of_zero_le hr0
      have D6 := hid (D5.out.src hs6 hg6)
      have kc := D6.out.T.cell 1
      have kf := D6.out.T.free 1
      obtain ⟨w7, hw7⟩ : ∃ W, W = w6.setCell ⟨Y, 1, none⟩ (.int .i64 (Z : Int)) := ⟨_, rfl⟩
      have D7 : Hid (RxD w w0 Y a len cap u (Z : Int) (0 + 1 + 1) w7) := by rw [hw7]; exact D6.out.set1
      have HW := hid hw7
      clear hw7 hs6 hg6 D5 D6 k0
      go_wp2_with fail
      rw [← HW.out]
      clear HW kc kf
      go_meet
      case rel => exact ⟨u, Z, 0 + 1 + 1, by omega, by omega, D7.out⟩
    | false =>
      go_wp2_with fail
      go_meet
      case rel => exact ⟨⟨#[]⟩, 0, 0 + 1, by omega, by omega, D3.out⟩
  case rest =>
  obtain ⟨d, Z, p4, hZ, hp4, hD4⟩ := hcut
  obtain ⟨w4, hw4⟩ : ∃ v, v = wc := ⟨_, rfl⟩
  rw [← hw4] at hD4
  rw [← hw4]
  have D4 := hid hD4
  clear hD4 D3 hw4
  go_wp2_with fail
  refine (one_all w0 w4 w0.heap.size a len cap p4 20 D4.out.S (by omega) (by omega) (by omega)).mono ?_
  rintro e w5 ⟨⟨b5, rfl⟩, hs5, hg5⟩
  have D5 := hid (D4.out.src hs5 hg5)
  clear hs5 hg5 D4
  go_upto_if 24 with fail
  go_cut [] from 23 to 31 (fun wx => ∃ (s : Int) (pp : Nat), pp ≤ 20 ∧ RxD w w0 Y a len cap d s pp wx)
  case first =>
    cases b5 with
    | true =>
      go_upto_region 7 with fail
      refine dx7_wp w w0 Y Z a len cap (p4 + 1) d w5 D5.out (by omega) (by omega) ?_
      intro R2 pp w6 hD6 hp6 hR2 _ _
      have D6 := hid hD6
      clear hD6 D5
      go_wp2_with fail
      go_meet
      case rel => exact ⟨_, pp, by omega, D6.out⟩
    | false =>
      go_wp2_with fail
      go_meet
      case rel => exact ⟨_, p4 + 1, by omega, D5.out⟩
  case rest =>
  obtain ⟨s, p6, hp6, hD6⟩ := hcut
  obtain ⟨w6, hw6⟩ : ∃ v, v = wc := ⟨_, rfl⟩
  rw [← hw6] at hD6
  rw [← hw6]
  have D6 := hid hD6
  obtain ⟨z, hz, hz0, hz1⟩ := hD6.S.1
  have zc : w6.cell? ⟨w0.heap.size, 2, none⟩ = some (.int .i64 z) := Blk.cell hz 2 _ rfl
  obtain ⟨zn, rfl⟩ := Int.eq_ofNat_of_zero_le hz0
  have z12 : (zn : Int) ≤ 12 := hz1
  clear hD6 D5 hw6 hz hz0 hz1
  go_wp2_with fail
  refine (n_all w0 w6 w0.heap.size a len cap p6 (8 + 2 * (zn : Int)) D6.out.S (by omega) (by omega) (by omega)).mono ?_
  rintro e w7 ⟨⟨r, rfl, hr0, hr1⟩, hs7, hg7⟩
  obtain ⟨rn, rfl⟩ := Int.eq_ofNat_of_zero_le hr0
  have D7 := hid (D6.out.src hs7 hg7)
  have rb : rn ≤ 32 := by omega
  clear hs7 hg7 D6 zc
  go_wp2_with fail
  refine (exOps_all w0 w7 w0.heap.size a len cap (p6 + 1) D7.out.S rn (by omega) (by omega)).mono ?_
  rintro e w8 ⟨⟨v, L, rfl, hL, hO, hX⟩, ⟨p8, hs8, hp8⟩, hg8⟩
  have D8 := hid (D7.out.src hs8 hg8)
  have O8 : Hid (OwnOp w8 w.heap.size v L) := orBase hO D7.out.B.size
  have LL : Hid (L.length ≤ 32) := by show _ ≤ _; omega
  have XX := hid hX
  have p8b : p8 ≤ 20000 := by omega
  clear hs8 hg8 hO hX hL D7
  go_wp2_with fail
  refine (one_all w0 w8 w0.heap.size a len cap p8 40 D8.out.S (by omega) (by omega) (by omega)).mono ?_
  rintro e w9 ⟨⟨b9, rfl⟩, hs9, hg9⟩
  obtain ⟨rcs, rsr⟩ := D8.out.S.rowX
  have O9 : Hid (OwnOp w9 w.heap.size v L) := orKeep O8.out fun g cs e r => (hg9.block g r.lt (fun q => ownNe (X := w0.heap.size) O8.out rsr (by decide) (e.trans q))).trans r
  have D9 := hid (D8.out.src hs9 hg9)
  clear hs9 hg9 O8 D8 rsr
  cases b9 with
  | false =>
    have c0 := D9.out.T.cell 0
    have c1 := D9.out.T.cell 1
    go_wp2_with (refine wpList_store_row rfl 30 (.tmp 2) (.tmp 54) rfl w.heap.size #[.string d, .int .i64 s] rfl rfl _ _ D9.out.X (by kernel_rfl) rfl (by simp [Value.oneCell']) ?_)
    exact drx_end D9.out O9.out (by have := LL.out; omega) XX.out rfl rfl
  | true =>
    go_wp2_with fail
    go_loopw [6, 7] (fun y6 y7 wx => ∃ (k : Nat) (V : Value) (Lk : List Op), k ≤ 4 ∧ V = y6 ∧ y7 = .int .i64 (k : Int) ∧ OwnOp wx w.heap.size V Lk ∧ Lk.length ≤ 32 + k ∧ XoOk Lk ∧ RxD w w0 Y a len cap d s (p8 + 1) wx) (fun _ y7 _ => 4 - (intOf y7).toNat)
    case atStart => exact ⟨0, _, L, Nat.zero_le _, rfl, rfl, O9.out, LL.out, XX.out, D9.out⟩
    case round =>
      obtain ⟨k, V, Lk, hk, rfl, rfl, hO, hl, hx, hD⟩ := hrel
      obtain ⟨WK, rfl⟩ : ∃ v, v = wr := ⟨_, rfl⟩
      have OK := hid hO
      have LK := hid hl
      have XK := hid hx
      have DK := hid hD
      clear hO hl hx hD O9 LL XX D9
      by_cases h4 : k < 4
      · have h4' : (k : Int) < 4 := by omega
        obtain ⟨cs, t, hmk, htz, hcv⟩ := mk90 WK
        obtain ⟨WA, hWA⟩ : ∃ W, W = WK.alloc (.cells cs 5) := ⟨_, rfl⟩
        rw [← hWA] at hmk
        have hcv' := hcv WA hWA
        have bA : Below WK.heap.size WK WA := by rw [hWA]; exact (Below.refl _ _).alloc (Nat.le_refl _) _
        have OA := hid (OK.out.below bA)
        have DA := hid (DK.out.below bA)
        have TZ := hid htz
        clear hcv hWA bA OK DK htz
        go_wp2_with (at_builtin; refine lockO ?_)
        refine hid ?_
        refine append_op w.heap.size WA rfl (.tmp 48) (.tmp 52) rfl V Lk ⟨1, ⟨#[97]⟩, t, 0, 0, 0⟩ rfl OA.out DA.out.B.size rfl (by have := LK.out; omega) ?_
        intro v5 w5 hO5 hg5
        have D5 : Hid (RxD w w0 Y a len cap d s (p8 + 1) w5) := by
          obtain ⟨rcs2, rsr2⟩ := DA.out.S.rowX
          have ns : V.ownBlock ≠ some w0.heap.size := ownNe OA.out rsr2 (by decide)
          have nx : V.ownBlock ≠ some w.heap.size := ownNe OA.out DA.out.X (by decide)
          have ge : ∀ g, V.ownBlock = some g → w.heap.size ≤ g := fun g e => (orRow OA.out e).1
          refine ⟨DA.out.S.far hg5 (fun e => ns e.symm) (fun g e => ?_), ownKeep OA.out DA.out.T (by decide) hg5, ownKeep OA.out DA.out.X (by decide) hg5, DA.out.B.grown hg5 DA.out.B.size ge, DA.out.o1, DA.out.o2, DA.out.z⟩
          have q1 := ge g e
          have q2 : g ≠ w.heap.size := fun q => nx (e.trans (congrArg some q))
          have q3 := DA.out.o1
          omega
        have O5 := hid hO5
        clear hO5 hg5 OA DA
        go_wp2_with fail
        go_roundw
        case rel => exact ⟨k + 1, _, _, by omega, rfl, by go_num, O5.out, by rw [List.length_append]; have := LK.out; show _ + 1 ≤ _; omega, XK.out.snoc ⟨by show (1 : Nat) ≤ 1000; omega, by have := TZ.out; show t.size ≤ 100000; omega⟩, D5.out⟩
        case measure => simp [intOf]; omega
      · have h4' : ¬ (k : Int) < 4 := by omega
        have c0 := DK.out.T.cell 0
        have c1 := DK.out.T.cell 1
        go_wp2_with (refine wpList_store_row rfl 30 (.tmp 2) (.tmp 54) rfl w.heap.size #[.string d, .int .i64 s] rfl rfl _ _ DK.out.X (by kernel_rfl) rfl (by simp [Value.oneCell']) ?_)
        exact drx_end DK.out OK.out (by have := LK.out; omega) XK.out rfl rfl
end Go.Proofs.YtngkiokibldfjaaGreatDoor
