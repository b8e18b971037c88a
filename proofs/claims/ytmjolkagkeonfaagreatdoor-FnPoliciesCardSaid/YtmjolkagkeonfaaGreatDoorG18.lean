import Derived.Test.YtmjolkagkeonfaaGreatDoorG12
import Derived.Test.YtmjolkagkeonfaaGreatDoorG13
import Derived.Test.YtmjolkagkeonfaaGreatDoorIWr2
namespace Go.Proofs.YtmjolkagkeonfaaGreatDoor
open Go.RowKit
/-! FnExactPolicyFault. -/
set_option maxRecDepth 20000 in
set_option maxHeartbeats 4000000 in
theorem iPolF (a : Option Addr) (m cap : Nat) (R : Nat → St) (hm : m ≤ 1048576) (hs : ∀ k, k < m → StB (R k) 1048576) (w : World) (h : Sts w a m cap R) :
    Calls Tryz.prog 9 #[.slice a m cap] w fun e w' => e = .returned (.int .i64 (plV m R)) ∧ Below w.heap.size w w' := by
  have hmf : ∀ (fn : Fn) (first cap : Array Value) (w : World), (Instr.makeFunc fn first cap).run Tryz.prog w = .ok (.func fn first cap) w := fun _ _ _ _ => rfl
  obtain ⟨W0, hW0⟩ : ∃ W, W = w.alloc (.cells #[.slice a m cap] 23) := ⟨_, rfl⟩
  have B0 : Hid (Below w.heap.size w W0) := by rw [hW0]; exact balCn (Below.refl _ _) _
  have R0 : Hid (RowAt W0 w.heap.size 23 #[.slice a m cap]) := by rw [hW0]; exact RowAt.new _ _ _
  have K := hid (iCaught w.heap.size a m cap R hm hs W0 R0.out.lt (R0.out.cell 0) (h.below B0.out))
  clear h hs
  go_enter Tryz.func9, Tryz.ntmps9
  go_wp2_with fail
  rw [← hW0]
  clear hW0
  refine K.out.mono ?_
  rintro e w2 ⟨⟨c, l, rfl, hc⟩, hb2⟩
  have B2 : Hid (Below w.heap.size w (w2.alloc (.cells #[.int .i64 c, .int .i64 l] 86))) := balCn (B0.out.trans (hb2.mono B0.out.size)) _
  clear hb2 K
  by_cases c0 : c = 0
  · have N : Hid (plV m R = 0) := by show _ = _; unfold plV; rw [pb_t (hc.1 c0)]; rfl
    have b0 : (c != 0) = false := by simp [c0]
    clear hc
    subst c0
    go_wp2
    go_ret
    exact ⟨by rw [N.out]; rfl, B2.out⟩
  · have N : Hid (plV m R = 1) := by show _ = _; unfold plV; rw [pb_f (fun hh => c0 (hc.2 hh))]; rfl
    have b0 : (c != 0) = true := by simpa using c0
    clear hc
    go_wp2
    go_ret
    exact ⟨by rw [N.out]; rfl, B2.out⟩
end Go.Proofs.YtmjolkagkeonfaaGreatDoor
namespace Go.Proofs.YtmjolkagkeonfaaGreatDoor
open Go.RowKit Go.Shelf
/-! The program's WritePolicy. -/
/-- a builder of the call's own, holding bytes -/
def Bld (B b : Nat) (l : List UInt8) (w : World) : Prop := Lib.IsBuilder (wrRen.t 72) (wrRen.t 5) B b (Lib.byteCells l) w
theorem bAt_below {T e : TypeId} {B b : Nat} {p : Value} {bs : List Value} {w w' : World} (h : Lib.BuilderAt T e B b p bs w) (hb : Below w.heap.size w w') : Lib.BuilderAt T e B b p bs w' := by
  have hlt := h.lt
  obtain ⟨h1, v, hc, ho, hn⟩ := h
  refine ⟨h1, v, (hb.block b hlt).trans hc, ⟨ho.1, ?_⟩, hn⟩
  rcases ho.2 with h0 | ⟨g, cap, cur, he, hbg, hr, r⟩
  · exact Or.inl h0
  · exact Or.inr ⟨g, cap, cur, he, hbg, (hb.block g (show RowAt w g e cur from hr).lt).trans hr, r⟩
theorem Bld.below {B b : Nat} {l : List UInt8} {w w' : World} (h : Bld B b l w) (hb : Below w.heap.size w w') : Bld B b l w' := h.imp (fun h => bAt_below h hb) (fun h => bAt_below h hb)
theorem bldWrite (B b : Nat) (l : List UInt8) (s : ByteArray) (w : World) (h : Bld B b l w) (hl : l.length + s.size ≤ 140737488355328) (hB : B ≤ w.heap.size) :
    Calls Tryz.prog 25 #[.pointer (some ⟨b, 0, none⟩), .string s] w fun e w' => e = .returned (.tuple #[.int .i64 s.size, .nilIface]) ∧ Bld B b (l ++ s.data.toList) w' ∧ Below B w w' := by
  refine (Any.Builder_WriteString wr_Lays_n166 wrExtra B b _ s w h (by rw [Lib.byteCells_length]; exact hl) hB).mono ?_
  rintro e w' ⟨rfl, h1, h2⟩
  refine ⟨rfl, ?_, h2⟩
  have e1 : Lib.byteCells (l ++ s.data.toList) = Lib.byteCells l ++ Lib.strCells s := by unfold Lib.byteCells Lib.strCells; simp
  unfold Bld
  rw [e1]
  exact Or.inr h1
theorem bldLen (B b : Nat) (l : List UInt8) (w : World) (h : Bld B b l w) :
    Calls Tryz.prog 27 #[.pointer (some ⟨b, 0, none⟩)] w fun e w' => e = .returned (.int .i64 (l.length : Int)) ∧ w' = w := by
  refine (Any.Builder_Len wr_Lays_n170 B b _ w h).mono ?_
  rintro e w' ⟨rfl, h1⟩
  exact ⟨by rw [Lib.byteCells_length], h1⟩
theorem bldStr (B b : Nat) (l : List UInt8) (w : World) (h : Bld B b l w) (hB : B ≤ w.heap.size) :
    Calls Tryz.prog 28 #[.pointer (some ⟨b, 0, none⟩)] w fun e w' => e = .returned (.string (bl l)) ∧ Below B w w' :=
  Any.Builder_String_any wr_Lays_n169 wrExtra B b l w h hB
theorem bldNew (w : World) : Bld w.heap.size w.heap.size [] (w.alloc (.cells #[.pointer none, .slice none 0 0] 69)) := Lib.fresh_isBuilder _ _ w
set_option maxRecDepth 20000 in
set_option maxHeartbeats 4000000 in
theorem iWr (a : Option Addr) (m cap : Nat) (R : Nat → St) (hm : m ≤ 1048576) (hs : ∀ k, k < m → StB (R k) 1048576) (w : World) (hT : TB w) (h : Sts w a m cap R) :
    Calls Tryz.prog 7 #[.slice a m cap] w fun e w' => (∃ t : ByteArray, e = .returned (.string t) ∧ t.data.toList = wrV m R) ∧ Below w.heap.size w w' := by
  have K0 := hid (iPolF a m cap R hm hs w h)
  have HH := hid h
  have HT := hid hT
  clear h hs hT
  by_cases hp : plP m R
  · have V0 : plV m R = 0 := by unfold plV; rw [pb_t hp]; rfl
    rw [V0] at K0
    have HP := hid hp
    have m50 : m ≤ 50 := hp.1
    clear hp V0
    go_enter Tryz.func7, Tryz.ntmps7
    go_wp2_with fail
    refine K0.out.mono ?_
    rintro e w1 ⟨rfl, hb1⟩
    have B1 := hid hb1
    clear hb1 K0
    go_wp2_with fail
    obtain ⟨w2, hw2⟩ : ∃ w2, w2 = w1.alloc (.cells #[.pointer none, .slice none 0 0] 69) := ⟨_, rfl⟩
    have N2 : Hid (Bld w1.heap.size w1.heap.size [] w2) := by rw [hw2]; exact bldNew w1
    have B2 : Hid (Below w.heap.size w w2) := by rw [hw2]; exact B1.out.alloc B1.out.size _
    have BB : Hid (Below w1.heap.size w1 w2) := by rw [hw2]; exact (Below.refl _ _).alloc (Nat.le_refl _) _
    rw [← hw2]
    clear hw2
    obtain ⟨b, hb⟩ : ∃ b, b = w1.heap.size := ⟨_, rfl⟩
    have HBS := hid hb
    have bw : w.heap.size ≤ b := by rw [hb]; exact B1.out.size
    rw [← hb] at N2 ⊢
    clear hb
    go_loopw [11] (fun i wr => ∃ (k : Nat), k ≤ m ∧ i = .int .i64 (k : Int) ∧ Bld b b (outL R k) wr ∧ (outL R k).length ≤ k * 40000 ∧ Below w.heap.size w wr ∧ b ≤ wr.heap.size) (fun i _ => m - (intOf i).toNat)
    case atStart => exact ⟨0, Nat.zero_le _, rfl, N2.out, Nat.zero_le _, B2.out, by rw [HBS.out]; exact BB.out.size⟩
    case round =>
      obtain ⟨k, hk, rfl, hN, hl, hB, hbw⟩ := hrel
      have HN := hid hN
      have HB := hid hB
      clear hN hB N2 B2 BB
      by_cases hlt : k < m
      · have d3 : (k : Int) < (m : Int) := by omega
        have k0 : (0 : Int) ≤ (k : Int) := by omega
        rcases (HH.out.below HB.out).2.1 with h00 | ⟨b0, off, rfl, hbl, hc⟩
        · omega
        obtain ⟨x0, x1, x2, x3, x4⟩ := hc k hlt
        have hin := hid ((HH.out.below HB.out).2.2 k hlt)
        have hst := hid (HP.out.2 k hlt).1
        have hn10 := hid (HP.out.2 k hlt).2
        have LN : Hid (outL R (k + 1) = outL R k ++ ln (R k)) := rfl
        clear hc
        generalize hRk : R k = T at x0 x1 x2 x3 x4 hin hst hn10 LN
        have HRk := hid hRk
        clear hRk
        have L := fun wx (hb : Below w.heap.size w wx) (hi : StIn wx T) => hid (iLine T hst.out hn10.out wx (HT.out.below hb) hi)
        generalize ln T = LT at LN L
        obtain ⟨f, ⟨a1, n1, c1, t1⟩, ⟨a2, n2, c2, t2⟩, ⟨a3, n3, c3, t3⟩, ⟨a4, n4, c4, o4⟩⟩ := T
        dsimp only at x0 x1 x2 x3 x4 L
        obtain ⟨W2, hW2⟩ : ∃ W, W = wr.alloc (.cells #[.int .i64 f, .slice a1 n1 c1, .slice a2 n2 c2, .slice a3 n3 c3, .slice a4 n4 c4] 73) := ⟨_, rfl⟩
        have B2 : Hid (Below w.heap.size w W2) := by rw [hW2]; exact HB.out.alloc HB.out.size _
        have BA : Hid (Below wr.heap.size wr W2) := by rw [hW2]; exact balCn (Below.refl _ _) _
        have I2 := hid (hin.out.below BA.out)
        have N2 := hid (HN.out.below BA.out)
        have z2 : b ≤ W2.heap.size := Nat.le_trans hbw BA.out.size
        clear hin hst hn10
        go_wp2_with fail
        rw [← hW2]
        clear hW2 x0 x1 x2 x3 x4
        refine (L _ B2.out I2.out).out.mono ?_
        rintro e w3 ⟨rfl, hl3, hb3⟩
        have B3 := hid (B2.out.trans (hb3.mono B2.out.size))
        have N3 := hid (N2.out.below hb3)
        have z3 : b ≤ w3.heap.size := Nat.le_trans z2 hb3.size
        clear hb3 B2 N2 I2 L BA
        have sz : (bl LT).size ≤ 40000 := by rw [← baLen]; exact hl3
        go_wp2_with fail
        refine (bldWrite b b _ (bl LT) w3 N3.out (by omega) z3).mono ?_
        rintro e w4 ⟨rfl, hN4, hb4⟩
        have B4 := hid (B3.out.trans (hb4.mono bw))
        rw [bl_list, ← LN.out] at hN4
        have N4 := hid hN4
        have z4 : b ≤ w4.heap.size := Nat.le_trans z3 hb4.size
        have LL : Hid ((outL R (k + 1)).length ≤ (k + 1) * 40000) := by show _ ≤ _; rw [LN.out, List.length_append]; omega
        clear hN4 hb4 B3 N3
        go_wp2
        go_roundw
        case rel => exact ⟨k + 1, by omega, by go_num, N4.out, LL.out, B4.out, z4⟩
        case measure => simp [intOf]; omega
      · have d3 : ¬ (k : Int) < (m : Int) := by omega
        have ek : k = m := by omega
        subst ek
        go_wp2_with fail
        refine (bldLen b b _ wr HN.out).mono ?_
        rintro e w3 ⟨rfl, hw3⟩
        obtain rfl := hw3.symm
        by_cases big : 10000 < (outL R k).length
        · have db : (10000 : Int) < ((outL R k).length : Int) := by omega
          have N : Hid (wrV k R = []) := wrV_no fun hh => by omega
          go_wp2
          go_ret
          exact ⟨⟨⟨#[]⟩, rfl, by rw [N.out]⟩, HB.out⟩
        · have db : ¬ (10000 : Int) < ((outL R k).length : Int) := by omega
          have N : Hid (wrV k R = outL R k) := wrV_ok ⟨HP.out, by omega⟩
          go_wp2_with fail
          refine (bldStr b b _ wr HN.out hbw).mono ?_
          rintro e w4 ⟨rfl, hb4⟩
          have B4 := hid (HB.out.trans (hb4.mono bw))
          go_wp2
          go_ret
          exact ⟨⟨_, rfl, by rw [bl_list, N.out]⟩, B4.out⟩
  · have V0 : plV m R = 1 := by unfold plV; rw [pb_f hp]; rfl
    rw [V0] at K0
    have N := hid (wrV_no (m := m) (R := R) (fun hh => hp hh.1))
    go_enter Tryz.func7, Tryz.ntmps7
    go_wp2_with fail
    refine K0.out.mono ?_
    rintro e w1 ⟨rfl, hb1⟩
    go_wp2
    go_ret
    exact ⟨⟨⟨#[]⟩, rfl, by rw [N.out]⟩, hb1⟩
end Go.Proofs.YtmjolkagkeonfaaGreatDoor
