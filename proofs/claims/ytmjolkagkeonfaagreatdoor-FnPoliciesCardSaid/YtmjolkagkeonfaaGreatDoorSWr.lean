import Derived.Test.YtmjolkagkeonfaaGreatDoorG17
import Derived.Test.YtmjolkagkeonfaaGreatDoorG13
import Derived.Deep.RegionHeld3
namespace Go.Proofs.YtmjolkagkeonfaaGreatDoor
open Go.RowKit
/-! The specification's WritePolicy. -/
def kw (k : Int) : List UInt8 := if k = 1 then [112, 114, 101, 102, 105, 120] else if k = 2 then [98, 101, 102, 111, 114, 101] else if k = 3 then [97, 102, 116, 101, 114] else [102, 114, 111, 109]
def cv (c : Cn) : List UInt8 := if c.kd = 1 ∨ c.kd = 4 then c.tx.data.toList else Lib.decDigits c.tm.toNat
def cw (c : Cn) : List UInt8 := kw c.kd ++ [32] ++ cv c
def ew (e : Int) : List UInt8 := if e = 2 then [100, 101, 110, 121] else [97, 108, 108, 111, 119]
def lnH (s : St) : List UInt8 := ew s.ef ++ [32, 119, 104, 111, 32] ++ jn s.wo.ts s.wo.n ++ [32, 100, 111, 32] ++ jn s.wa.ts s.wa.n ++ [32, 111, 110, 32] ++ jn s.wi.ts s.wi.n
def ifsL (o : Nat → Cn) : Nat → List UInt8
  | 0 => []
  | k + 1 => ifsL o k ++ [32] ++ cw (o k)
def ln (s : St) : List UInt8 := lnH s ++ ifsL s.cs.o s.cs.n ++ [10]
def outL (R : Nat → St) : Nat → List UInt8
  | 0 => []
  | k + 1 => outL R k ++ ln (R k)
theorem outL_mono (R : Nat → St) {j k : Nat} (h : j ≤ k) : (outL R j).length ≤ (outL R k).length := by
  induction k with
  | zero => rw [Nat.le_zero.mp h]; exact Nat.le_refl _
  | succ k ih => rcases Nat.lt_or_ge j (k + 1) with h1 | h1
                 · have := ih (by omega); show _ ≤ (outL R k ++ ln (R k)).length; rw [List.length_append]; omega
                 · rw [show j = k + 1 by omega]; exact Nat.le_refl _
open Classical in
noncomputable def wrV (m : Nat) (R : Nat → St) : List UInt8 := if plP m R ∧ (outL R m).length ≤ 10000 then outL R m else []
theorem wrV_no {m : Nat} {R : Nat → St} (h : ¬ (plP m R ∧ (outL R m).length ≤ 10000)) : wrV m R = [] := by unfold wrV; rw [if_neg h]
theorem wrV_ok {m : Nat} {R : Nat → St} (h : plP m R ∧ (outL R m).length ≤ 10000) : wrV m R = outL R m := by unfold wrV; rw [if_pos h]
set_option maxRecDepth 20000 in
set_option maxHeartbeats 8000000 in
theorem sWr (a : Option Addr) (m cap : Nat) (R : Nat → St) (hm : m ≤ 1048576) (hs : ∀ k, k < m → StB (R k) 1048576) (w : World) (h : Sts w a m cap R) :
    Calls Tryz.prog 8 #[.slice a m cap] w fun e w' => (∃ t : ByteArray, e = .returned (.string t) ∧ t.data.toList = wrV m R) ∧ Below w.heap.size w w' := by
  have K0 := hid (sPolF a m cap R hm hs w h)
  have HH := hid h
  clear h hs
  by_cases hp : plP m R
  · have V0 : plV m R = 0 := by unfold plV; rw [pb_t hp]; rfl
    rw [V0] at K0
    have HP := hid hp
    have m50 : m ≤ 50 := hp.1
    clear hp V0
    go_enter Tryz.func8, Tryz.ntmps8
    go_wp2_with fail
    refine K0.out.mono ?_
    rintro e w1 ⟨rfl, hb1⟩
    have B1 := hid hb1
    clear hb1 K0
    go_wp2_with fail
    go_loopw [3, 4] (fun v i wr => ∃ (t : ByteArray) (k : Nat), k ≤ m ∧ v = .string t ∧ i = .int .i64 (k : Int) ∧ t.data.toList = outL R k ∧ t.size ≤ 10000 ∧ Below w.heap.size w wr) (fun _ i _ => m - (intOf i).toNat)
    case atStart => exact ⟨⟨#[]⟩, 0, Nat.zero_le _, rfl, rfl, rfl, Nat.zero_le _, B1.out⟩
    case round =>
      obtain ⟨t, k, hk, rfl, rfl, hl, hts, hB⟩ := hrel
      have HL := hid hl
      have HB := hid hB
      clear hl hB B1
      by_cases hlt : k < m
      · have d3 : (k : Int) < (m : Int) := by omega
        have k0 : (0 : Int) ≤ (k : Int) := by omega
        rcases (HH.out.below HB.out).2.1 with h00 | ⟨b, off, rfl, hbl, hc⟩
        · omega
        obtain ⟨x0, x1, x2, x3, x4⟩ := hc k hlt
        have hin := hid ((HH.out.below HB.out).2.2 k hlt)
        have hst := (HP.out.2 k hlt).1
        have hn10 := (HP.out.2 k hlt).2
        have LN : Hid (outL R (k + 1) = outL R k ++ ln (R k)) := rfl
        clear hc
        generalize hRk : R k = T at x0 x1 x2 x3 x4 hin hst hn10 LN
        have HRk := hid hRk
        clear hRk
        obtain ⟨f, ⟨a1, n1, c1, t1⟩, ⟨a2, n2, c2, t2⟩, ⟨a3, n3, c3, t3⟩, ⟨a4, n4, c4, o4⟩⟩ := T
        dsimp only at x0 x1 x2 x3 x4 hn10
        obtain ⟨hef, hl1, hl2, hl3, hl4⟩ := hst
        dsimp only at hef hl1 hl2 hl3 hl4
        obtain ⟨W2, hW2⟩ : ∃ W, W = wr.alloc (.cells #[.int .i64 f, .slice a1 n1 c1, .slice a2 n2 c2, .slice a3 n3 c3, .slice a4 n4 c4] 73) := ⟨_, rfl⟩
        have A2 : Hid (RowAt W2 wr.heap.size 73 #[.int .i64 f, .slice a1 n1 c1, .slice a2 n2 c2, .slice a3 n3 c3, .slice a4 n4 c4]) := by rw [hW2]; exact RowAt.new _ _ _
        have B2 : Hid (Below w.heap.size w W2) := by rw [hW2]; exact HB.out.alloc HB.out.size _
        have I2 : Hid (StIn W2 ⟨f, ⟨a1, n1, c1, t1⟩, ⟨a2, n2, c2, t2⟩, ⟨a3, n3, c3, t3⟩, ⟨a4, n4, c4, o4⟩⟩) := by rw [hW2]; exact hin.out.below (balCn (Below.refl _ _) _)
        have sz1 : ∀ i, i < n1 → (t1 i).size ≤ 200 := fun i hi => (hl1.2.2 i hi).1.2.1
        have sz2 : ∀ i, i < n2 → (t2 i).size ≤ 200 := fun i hi => (hl2.2.2 i hi).1.2.1
        have sz3 : ∀ i, i < n3 → (t3 i).size ≤ 200 := fun i hi => (hl3.2.2 i hi).1.2.1
        have J1 := fun wx (hb : Below W2.heap.size W2 wx) => hid (sJoin a1 n1 c1 t1 hl1.2.1 sz1 wx (I2.out.wo.below hb))
        have J2 := fun wx (hb : Below W2.heap.size W2 wx) => hid (sJoin a2 n2 c2 t2 hl2.2.1 sz2 wx (I2.out.wa.below hb))
        have J3 := fun wx (hb : Below W2.heap.size W2 wx) => hid (sJoin a3 n3 c3 t3 hl3.2.1 sz3 wx (I2.out.wi.below hb))
        have HL4 := hid hl4
        clear hl1 hl2 hl3 hl4 sz1 sz2 sz3 hin
        go_upto_region 8 with fail
        rw [← hW2]
        clear hW2 x0 x1 x2 x3 x4
        obtain ⟨G, hG⟩ : ∃ G, G = wr.heap.size := ⟨_, rfl⟩
        rw [← hG] at A2 ⊢
        clear hG
        have BD : Hid (Below W2.heap.size W2 W2.drew) := (Below.refl _ W2).drew
        have BA : Hid (∀ o, Below W2.heap.size W2 (W2.alloc o).drew) := fun o => ((Below.refl _ W2).alloc (Nat.le_refl _) o).drew
        have BX : Hid (∀ o, Below W2.heap.size W2 (W2.drew.alloc o)) := fun o => (Below.refl _ W2).drew.alloc (Nat.le_refl _) o
        go_cut [3] from 21 to 42 (fun c wx => (∃ u : ByteArray, c = .string u ∧ u.data.toList = outL R k ++ lnH ⟨f, ⟨a1, n1, c1, t1⟩, ⟨a2, n2, c2, t2⟩, ⟨a3, n3, c3, t3⟩, ⟨a4, n4, c4, o4⟩⟩ ∧ u.size ≤ 30000) ∧ Below W2.heap.size W2 wx)
        case first =>
          -- @r8
          rcases hef with rfl | rfl
          · skip
            have szA : ∀ a b : Nat, a ≤ 30000 → b ≤ 30000 → ¬ 9223372036854775807 < a + b := fun a b _ _ => by omega
            refine wp_region_held_drew (S := fun wx => wx.cell? ⟨G, 0, none⟩ = some (.int .i64 1) ∧ wx.cell? ⟨G, 1, none⟩ = some (.slice a1 n1 c1) ∧ wx.cell? ⟨G, 2, none⟩ = some (.slice a2 n2 c2) ∧ wx.cell? ⟨G, 3, none⟩ = some (.slice a3 n3 c3)) (by kernel_rfl) ?_ (fun hHeld => ?_)
            · first | exact ⟨A2.out.cell 0, A2.out.cell 1, A2.out.cell 2, A2.out.cell 3⟩ | exact ⟨(A2.out.alloc _).cell 0, (A2.out.alloc _).cell 1, (A2.out.alloc _).cell 2, (A2.out.alloc _).cell 3⟩
            refine wpAnyH_take (i := 0) (oi := { dst := some 21, op := Op.move (Operand.tmp 3), type := 9, pos := "l09_policy.go:179", after := #[], guard := none }) (v := ?vr1) rfl (by kernel_rfl) (by kernel_rfl) (by kernel_rfl) (fun _ _ _ h => h) (Or.inl ⟨by rfl, ?hyr1⟩) hHeld ?restr1
            case hyr1 => (intro w hSw; (try dsimp only at hSw); go_simp; first | done | (rw [if_neg (by omega)]; done) | (rw [if_neg (by omega)]; with_reducible rfl) | with_reducible rfl)
            simp only [Act.put, List.setIfInBounds_toArray, List.set_cons_zero, List.set_cons_succ]
            refine wpAnyH_take (i := 2) (oi := { dst := some 23, op := Op.fieldAddr 73 (Operand.tmp 5) 0, type := 0, pos := "l09_policy.go:179", after := #[], guard := none }) (v := ?vr2) rfl (by kernel_rfl) (by kernel_rfl) (by kernel_rfl) (fun _ _ _ h => h) (Or.inl ⟨by rfl, ?hyr2⟩) hHeld ?restr2
            case hyr2 => (intro w hSw; (try dsimp only at hSw); go_simp; first | done | (rw [if_neg (by omega)]; done) | (rw [if_neg (by omega)]; with_reducible rfl) | with_reducible rfl)
            simp only [Act.put, List.setIfInBounds_toArray, List.set_cons_zero, List.set_cons_succ]
            refine wpAnyH_take (i := 3) (oi := { dst := some 24, op := Op.load 2 (Operand.tmp 23), type := 2, pos := "l09_policy.go:179", after := #[{ on := 2, ground := Ground.data }], guard := none }) (v := ?vr3) rfl (by kernel_rfl) (by kernel_rfl) (by kernel_rfl) (fun _ _ _ h => h) (Or.inl ⟨by rfl, ?hyr3⟩) hHeld ?restr3
            case hyr3 => (intro w hSw; (try dsimp only at hSw); go_simp; first | done | (rw [if_neg (by omega)]; done) | (rw [if_neg (by omega)]; with_reducible rfl) | with_reducible rfl)
            simp only [Act.put, List.setIfInBounds_toArray, List.set_cons_zero, List.set_cons_succ]
            refine wpAnyH_take (i := 8) (oi := { dst := some 29, op := Op.fieldAddr 73 (Operand.tmp 5) 1, type := 0, pos := "l09_policy.go:179", after := #[], guard := none }) (v := ?vr4) rfl (by kernel_rfl) (by kernel_rfl) (by kernel_rfl) (fun _ _ _ h => h) (Or.inl ⟨by rfl, ?hyr4⟩) hHeld ?restr4
            case hyr4 => (intro w hSw; (try dsimp only at hSw); go_simp; first | done | (rw [if_neg (by omega)]; done) | (rw [if_neg (by omega)]; with_reducible rfl) | with_reducible rfl)
            simp only [Act.put, List.setIfInBounds_toArray, List.set_cons_zero, List.set_cons_succ]
            refine wpAnyH_take (i := 9) (oi := { dst := some 30, op := Op.load 70 (Operand.tmp 29), type := 70, pos := "l09_policy.go:179", after := #[{ on := 8, ground := Ground.data }], guard := none }) (v := ?vr5) rfl (by kernel_rfl) (by kernel_rfl) (by kernel_rfl) (fun _ _ _ h => h) (Or.inl ⟨by rfl, ?hyr5⟩) hHeld ?restr5
            case hyr5 => (intro w hSw; (try dsimp only at hSw); go_simp; first | done | (rw [if_neg (by omega)]; done) | (rw [if_neg (by omega)]; with_reducible rfl) | with_reducible rfl)
            simp only [Act.put, List.setIfInBounds_toArray, List.set_cons_zero, List.set_cons_succ]
            refine wpAnyH_take (i := 13) (oi := { dst := some 34, op := Op.fieldAddr 73 (Operand.tmp 5) 2, type := 0, pos := "l09_policy.go:179", after := #[], guard := none }) (v := ?vr6) rfl (by kernel_rfl) (by kernel_rfl) (by kernel_rfl) (fun _ _ _ h => h) (Or.inl ⟨by rfl, ?hyr6⟩) hHeld ?restr6
            case hyr6 => (intro w hSw; (try dsimp only at hSw); go_simp; first | done | (rw [if_neg (by omega)]; done) | (rw [if_neg (by omega)]; with_reducible rfl) | with_reducible rfl)
            simp only [Act.put, List.setIfInBounds_toArray, List.set_cons_zero, List.set_cons_succ]
            refine wpAnyH_take (i := 14) (oi := { dst := some 35, op := Op.load 70 (Operand.tmp 34), type := 70, pos := "l09_policy.go:179", after := #[{ on := 13, ground := Ground.data }], guard := none }) (v := ?vr7) rfl (by kernel_rfl) (by kernel_rfl) (by kernel_rfl) (fun _ _ _ h => h) (Or.inl ⟨by rfl, ?hyr7⟩) hHeld ?restr7
            case hyr7 => (intro w hSw; (try dsimp only at hSw); go_simp; first | done | (rw [if_neg (by omega)]; done) | (rw [if_neg (by omega)]; with_reducible rfl) | with_reducible rfl)
            simp only [Act.put, List.setIfInBounds_toArray, List.set_cons_zero, List.set_cons_succ]
            refine wpAnyH_take (i := 18) (oi := { dst := some 39, op := Op.fieldAddr 73 (Operand.tmp 5) 3, type := 0, pos := "l09_policy.go:179", after := #[], guard := none }) (v := ?vr8) rfl (by kernel_rfl) (by kernel_rfl) (by kernel_rfl) (fun _ _ _ h => h) (Or.inl ⟨by rfl, ?hyr8⟩) hHeld ?restr8
            case hyr8 => (intro w hSw; (try dsimp only at hSw); go_simp; first | done | (rw [if_neg (by omega)]; done) | (rw [if_neg (by omega)]; with_reducible rfl) | with_reducible rfl)
            simp only [Act.put, List.setIfInBounds_toArray, List.set_cons_zero, List.set_cons_succ]
            refine wpAnyH_take (i := 19) (oi := { dst := some 40, op := Op.load 70 (Operand.tmp 39), type := 70, pos := "l09_policy.go:179", after := #[{ on := 18, ground := Ground.data }], guard := none }) (v := ?vr9) rfl (by kernel_rfl) (by kernel_rfl) (by kernel_rfl) (fun _ _ _ h => h) (Or.inl ⟨by rfl, ?hyr9⟩) hHeld ?restr9
            case hyr9 => (intro w hSw; (try dsimp only at hSw); go_simp; first | done | (rw [if_neg (by omega)]; done) | (rw [if_neg (by omega)]; with_reducible rfl) | with_reducible rfl)
            simp only [Act.put, List.setIfInBounds_toArray, List.set_cons_zero, List.set_cons_succ]
            refine wpAnyH_ready (rs := [1, 10]) (by kernel_rfl) (by simp) ?_
            refine AllReadyH.cons (o := { dst := some 22, op := Op.buildSlice 70 3 #[(0, Operand.const (Value.string { data := #[] })), (1, Operand.const (Value.string { data := #[97, 108, 108, 111, 119] })), (2, Operand.const (Value.string { data := #[100, 101, 110, 121] }))], type := 70, pos := "l09_policy.go:179", after := #[], guard := none }) rfl (fun K hK => ?_) (AllReadyH.cons (o := { dst := some 31, op := Op.call { callee := Callee.value (Operand.func 29), args := #[Operand.tmp 30], argTypes := #[70] }, type := 9, pos := "l09_policy.go:179", after := #[{ on := 9, ground := Ground.data }], guard := none }) rfl (fun K hK => ?_) AllReadyH.nil)
            · go_simp
              refine hK.out _ _ ?_ (fun hHeld => ?_)
              · first | exact ⟨A2.out.cell 0, A2.out.cell 1, A2.out.cell 2, A2.out.cell 3⟩ | exact ⟨(A2.out.alloc _).cell 0, (A2.out.alloc _).cell 1, (A2.out.alloc _).cell 2, (A2.out.alloc _).cell 3⟩
              clear hK K
              try simp only [Act.put, List.setIfInBounds_toArray, List.set_cons_zero, List.set_cons_succ]
              refine wpAnyH_take (i := 4) (oi := { dst := some 25, op := Op.indexAddr 70 (Operand.tmp 22) (Operand.tmp 24), type := 0, pos := "l09_policy.go:179", after := #[{ on := 1, ground := Ground.data }, { on := 3, ground := Ground.data }], guard := none }) (v := ?vr10) rfl (by kernel_rfl) (by kernel_rfl) (by kernel_rfl) (fun _ _ _ h => h) (Or.inl ⟨by rfl, ?hyr10⟩) hHeld ?restr10
              case hyr10 => (intro w hSw; (try dsimp only at hSw); go_simp; first | done | (rw [if_neg (by omega)]; done) | (rw [if_neg (by omega)]; with_reducible rfl) | with_reducible rfl)
              simp only [Act.put, List.setIfInBounds_toArray, List.set_cons_zero, List.set_cons_succ]
              refine wpAnyH_ready (rs := [5, 10]) (by kernel_rfl) (by simp) ?_
              refine AllReadyH.cons (o := { dst := some 26, op := Op.load 9 (Operand.tmp 25), type := 9, pos := "l09_policy.go:179", after := #[{ on := 4, ground := Ground.data }], guard := none }) rfl (fun K hK => ?_) (AllReadyH.cons (o := { dst := some 31, op := Op.call { callee := Callee.value (Operand.func 29), args := #[Operand.tmp 30], argTypes := #[70] }, type := 9, pos := "l09_policy.go:179", after := #[{ on := 9, ground := Ground.data }], guard := none }) rfl (fun K hK => ?_) AllReadyH.nil)
              · go_simp
                refine hK.out _ _ ?_ (fun hHeld => ?_)
                · first | exact ⟨A2.out.cell 0, A2.out.cell 1, A2.out.cell 2, A2.out.cell 3⟩ | exact ⟨(A2.out.alloc _).cell 0, (A2.out.alloc _).cell 1, (A2.out.alloc _).cell 2, (A2.out.alloc _).cell 3⟩
                clear hK K
                try simp only [Act.put, List.setIfInBounds_toArray, List.set_cons_zero, List.set_cons_succ]
                refine wpAnyH_take (i := 6) (oi := { dst := some 27, op := Op.binOp BinOp.add 9 (Operand.tmp 21) (Operand.tmp 26) 9, type := 9, pos := "l09_policy.go:179", after := #[{ on := 0, ground := Ground.data }, { on := 5, ground := Ground.data }], guard := none }) (v := ?vr11) rfl (by kernel_rfl) (by kernel_rfl) (by kernel_rfl) (fun _ _ _ h => h) (Or.inl ⟨by rfl, ?hyr11⟩) hHeld ?restr11
                case hyr11 => (intro w hSw; (try dsimp only at hSw); go_simp; first | done | (rw [if_neg (by omega)]; done) | (rw [if_neg (by omega)]; with_reducible rfl) | with_reducible rfl)
                simp only [Act.put, List.setIfInBounds_toArray, List.set_cons_zero, List.set_cons_succ]
                refine wpAnyH_take (i := 7) (oi := { dst := some 28, op := Op.binOp BinOp.add 9 (Operand.tmp 27) (Operand.const (Value.string { data := #[32, 119, 104, 111, 32] })) 9, type := 9, pos := "l09_policy.go:179", after := #[{ on := 6, ground := Ground.data }], guard := none }) (v := ?vr12) rfl (by kernel_rfl) (by kernel_rfl) (by kernel_rfl) (fun _ _ _ h => h) (Or.inl ⟨by rfl, ?hyr12⟩) hHeld ?restr12
                case hyr12 => (intro w hSw; (try dsimp only at hSw); go_simp; first | done | (rw [if_neg (by omega)]; done) | (rw [if_neg (by omega)]; with_reducible rfl) | with_reducible rfl)
                simp only [Act.put, List.setIfInBounds_toArray, List.set_cons_zero, List.set_cons_succ]
                refine wpAnyH_ready (rs := [10]) (by kernel_rfl) (by simp) ?_
                refine AllReadyH.cons (o := { dst := some 31, op := Op.call { callee := Callee.value (Operand.func 29), args := #[Operand.tmp 30], argTypes := #[70] }, type := 9, pos := "l09_policy.go:179", after := #[{ on := 9, ground := Ground.data }], guard := none }) rfl (fun K hK => ?_) AllReadyH.nil
                go_simp
                refine (J1 _ (by first | exact BD.out | exact BA.out _ | exact BX.out _)).out.mono ?_
                rintro e w5 ⟨⟨q1, rfl, hq1, hz1⟩, hw5⟩
                obtain rfl := hw5.symm
                have Q1 := hid hq1
                clear hq1
                go_wp2_with fail
                refine hK.out _ _ ?_ (fun hHeld => ?_)
                · first | exact ⟨A2.out.cell 0, A2.out.cell 1, A2.out.cell 2, A2.out.cell 3⟩ | exact ⟨(A2.out.alloc _).cell 0, (A2.out.alloc _).cell 1, (A2.out.alloc _).cell 2, (A2.out.alloc _).cell 3⟩
                clear hK K
                try simp only [Act.put, List.setIfInBounds_toArray, List.set_cons_zero, List.set_cons_succ]
                refine wpAnyH_take (i := 11) (oi := { dst := some 32, op := Op.binOp BinOp.add 9 (Operand.tmp 28) (Operand.tmp 31) 9, type := 9, pos := "l09_policy.go:179", after := #[{ on := 7, ground := Ground.data }, { on := 10, ground := Ground.data }], guard := none }) (v := ?vr13) rfl (by kernel_rfl) (by kernel_rfl) (by kernel_rfl) (fun _ _ _ h => h) (Or.inl ⟨by rfl, ?hyr13⟩) hHeld ?restr13
                case hyr13 => (intro w hSw; (try dsimp only at hSw); go_simp; first | done | (rw [if_neg (by omega)]; done) | (rw [if_neg (by omega)]; with_reducible rfl) | with_reducible rfl)
                simp only [Act.put, List.setIfInBounds_toArray, List.set_cons_zero, List.set_cons_succ]
                refine wpAnyH_take (i := 12) (oi := { dst := some 33, op := Op.binOp BinOp.add 9 (Operand.tmp 32) (Operand.const (Value.string { data := #[32, 100, 111, 32] })) 9, type := 9, pos := "l09_policy.go:179", after := #[{ on := 11, ground := Ground.data }], guard := none }) (v := ?vr14) rfl (by kernel_rfl) (by kernel_rfl) (by kernel_rfl) (fun _ _ _ h => h) (Or.inl ⟨by rfl, ?hyr14⟩) hHeld ?restr14
                case hyr14 => (intro w hSw; (try dsimp only at hSw); go_simp; first | done | (rw [if_neg (by omega)]; done) | (rw [if_neg (by omega)]; with_reducible rfl) | with_reducible rfl)
                simp only [Act.put, List.setIfInBounds_toArray, List.set_cons_zero, List.set_cons_succ]
                refine wpAnyH_ready (rs := [15]) (by kernel_rfl) (by simp) ?_
                refine AllReadyH.cons (o := { dst := some 36, op := Op.call { callee := Callee.value (Operand.func 29), args := #[Operand.tmp 35], argTypes := #[70] }, type := 9, pos := "l09_policy.go:179", after := #[{ on := 14, ground := Ground.data }, { on := 10, ground := Ground.chain }], guard := none }) rfl (fun K hK => ?_) AllReadyH.nil
                go_simp
                refine (J2 _ (by first | exact BD.out | exact BA.out _ | exact BX.out _)).out.mono ?_
                rintro e w5 ⟨⟨q2, rfl, hq2, hz2⟩, hw5⟩
                obtain rfl := hw5.symm
                have Q2 := hid hq2
                clear hq2
                go_wp2_with fail
                refine hK.out _ _ ?_ (fun hHeld => ?_)
                · first | exact ⟨A2.out.cell 0, A2.out.cell 1, A2.out.cell 2, A2.out.cell 3⟩ | exact ⟨(A2.out.alloc _).cell 0, (A2.out.alloc _).cell 1, (A2.out.alloc _).cell 2, (A2.out.alloc _).cell 3⟩
                clear hK K
                try simp only [Act.put, List.setIfInBounds_toArray, List.set_cons_zero, List.set_cons_succ]
                refine wpAnyH_take (i := 16) (oi := { dst := some 37, op := Op.binOp BinOp.add 9 (Operand.tmp 33) (Operand.tmp 36) 9, type := 9, pos := "l09_policy.go:179", after := #[{ on := 12, ground := Ground.data }, { on := 15, ground := Ground.data }], guard := none }) (v := ?vr15) rfl (by kernel_rfl) (by kernel_rfl) (by kernel_rfl) (fun _ _ _ h => h) (Or.inl ⟨by rfl, ?hyr15⟩) hHeld ?restr15
                case hyr15 => (intro w hSw; (try dsimp only at hSw); go_simp; first | done | (rw [if_neg (by omega)]; done) | (rw [if_neg (by omega)]; with_reducible rfl) | with_reducible rfl)
                simp only [Act.put, List.setIfInBounds_toArray, List.set_cons_zero, List.set_cons_succ]
                refine wpAnyH_take (i := 17) (oi := { dst := some 38, op := Op.binOp BinOp.add 9 (Operand.tmp 37) (Operand.const (Value.string { data := #[32, 111, 110, 32] })) 9, type := 9, pos := "l09_policy.go:179", after := #[{ on := 16, ground := Ground.data }], guard := none }) (v := ?vr16) rfl (by kernel_rfl) (by kernel_rfl) (by kernel_rfl) (fun _ _ _ h => h) (Or.inl ⟨by rfl, ?hyr16⟩) hHeld ?restr16
                case hyr16 => (intro w hSw; (try dsimp only at hSw); go_simp; first | done | (rw [if_neg (by omega)]; done) | (rw [if_neg (by omega)]; with_reducible rfl) | with_reducible rfl)
                simp only [Act.put, List.setIfInBounds_toArray, List.set_cons_zero, List.set_cons_succ]
                refine wpAnyH_ready (rs := [20]) (by kernel_rfl) (by simp) ?_
                refine AllReadyH.cons (o := { dst := some 41, op := Op.call { callee := Callee.value (Operand.func 29), args := #[Operand.tmp 40], argTypes := #[70] }, type := 9, pos := "l09_policy.go:179", after := #[{ on := 19, ground := Ground.data }, { on := 15, ground := Ground.chain }], guard := none }) rfl (fun K hK => ?_) AllReadyH.nil
                go_simp
                refine (J3 _ (by first | exact BD.out | exact BA.out _ | exact BX.out _)).out.mono ?_
                rintro e w5 ⟨⟨q3, rfl, hq3, hz3⟩, hw5⟩
                obtain rfl := hw5.symm
                have Q3 := hid hq3
                clear hq3
                go_wp2_with fail
                refine hK.out _ _ ?_ (fun hHeld => ?_)
                · first | exact ⟨A2.out.cell 0, A2.out.cell 1, A2.out.cell 2, A2.out.cell 3⟩ | exact ⟨(A2.out.alloc _).cell 0, (A2.out.alloc _).cell 1, (A2.out.alloc _).cell 2, (A2.out.alloc _).cell 3⟩
                clear hK K
                try simp only [Act.put, List.setIfInBounds_toArray, List.set_cons_zero, List.set_cons_succ]
                refine wpAnyH_take (i := 21) (oi := { dst := some 42, op := Op.binOp BinOp.add 9 (Operand.tmp 38) (Operand.tmp 41) 9, type := 9, pos := "l09_policy.go:179", after := #[{ on := 17, ground := Ground.data }, { on := 20, ground := Ground.data }], guard := none }) (v := ?vr17) rfl (by kernel_rfl) (by kernel_rfl) (by kernel_rfl) (fun _ _ _ h => h) (Or.inl ⟨by rfl, ?hyr17⟩) hHeld ?restr17
                case hyr17 => (intro w hSw; (try dsimp only at hSw); go_simp; first | done | (rw [if_neg (by omega)]; done) | (rw [if_neg (by omega)]; with_reducible rfl) | with_reducible rfl)
                simp only [Act.put, List.setIfInBounds_toArray, List.set_cons_zero, List.set_cons_succ]
                refine wpAnyH_take (i := 22) (oi := { dst := some 3, op := Op.assign (Operand.tmp 42), type := 9, pos := "l09_policy.go:179", after := #[{ on := 21, ground := Ground.data }, { on := 20, ground := Ground.chain }, { on := 0, ground := Ground.phase }, { on := 1, ground := Ground.phase }, { on := 2, ground := Ground.phase }, { on := 3, ground := Ground.phase }, { on := 4, ground := Ground.phase }, { on := 5, ground := Ground.phase }, { on := 6, ground := Ground.phase }, { on := 7, ground := Ground.phase }, { on := 8, ground := Ground.phase }, { on := 9, ground := Ground.phase }, { on := 10, ground := Ground.phase }, { on := 11, ground := Ground.phase }, { on := 12, ground := Ground.phase }, { on := 13, ground := Ground.phase }, { on := 14, ground := Ground.phase }, { on := 15, ground := Ground.phase }, { on := 16, ground := Ground.phase }, { on := 17, ground := Ground.phase }, { on := 18, ground := Ground.phase }, { on := 19, ground := Ground.phase }, { on := 20, ground := Ground.phase }, { on := 21, ground := Ground.phase }], guard := none }) (v := ?vr18) rfl (by kernel_rfl) (by kernel_rfl) (by kernel_rfl) (fun _ _ _ h => h) (Or.inl ⟨by rfl, ?hyr18⟩) hHeld ?restr18
                case hyr18 => (intro w hSw; (try dsimp only at hSw); go_simp; first | done | (rw [if_neg (by omega)]; done) | (rw [if_neg (by omega)]; with_reducible rfl) | with_reducible rfl)
                simp only [Act.put, List.setIfInBounds_toArray, List.set_cons_zero, List.set_cons_succ]
                refine wpAnyH_done (by kernel_rfl) ?_ _
                go_wp2
                go_meet
                exact ⟨⟨_, rfl, by simp only [ba_app, HL.out, Q1.out, Q2.out, Q3.out]; unfold lnH ew; simp, by simp only [sizeApp]; show t.size + 5 + 5 + q1.size + 4 + q2.size + 4 + q3.size ≤ 30000; omega⟩, by first | exact BD.out | exact BA.out _ | exact BX.out _⟩
              · go_simp
                refine (J1 _ (by first | exact BD.out | exact BA.out _ | exact BX.out _)).out.mono ?_
                rintro e w5 ⟨⟨q1, rfl, hq1, hz1⟩, hw5⟩
                obtain rfl := hw5.symm
                have Q1 := hid hq1
                clear hq1
                go_wp2_with fail
                refine hK.out _ _ ?_ (fun hHeld => ?_)
                · first | exact ⟨A2.out.cell 0, A2.out.cell 1, A2.out.cell 2, A2.out.cell 3⟩ | exact ⟨(A2.out.alloc _).cell 0, (A2.out.alloc _).cell 1, (A2.out.alloc _).cell 2, (A2.out.alloc _).cell 3⟩
                clear hK K
                try simp only [Act.put, List.setIfInBounds_toArray, List.set_cons_zero, List.set_cons_succ]
                refine wpAnyH_ready (rs := [5, 15]) (by kernel_rfl) (by simp) ?_
                refine AllReadyH.cons (o := { dst := some 26, op := Op.load 9 (Operand.tmp 25), type := 9, pos := "l09_policy.go:179", after := #[{ on := 4, ground := Ground.data }], guard := none }) rfl (fun K hK => ?_) (AllReadyH.cons (o := { dst := some 36, op := Op.call { callee := Callee.value (Operand.func 29), args := #[Operand.tmp 35], argTypes := #[70] }, type := 9, pos := "l09_policy.go:179", after := #[{ on := 14, ground := Ground.data }, { on := 10, ground := Ground.chain }], guard := none }) rfl (fun K hK => ?_) AllReadyH.nil)
                · go_simp
                  refine hK.out _ _ ?_ (fun hHeld => ?_)
                  · first | exact ⟨A2.out.cell 0, A2.out.cell 1, A2.out.cell 2, A2.out.cell 3⟩ | exact ⟨(A2.out.alloc _).cell 0, (A2.out.alloc _).cell 1, (A2.out.alloc _).cell 2, (A2.out.alloc _).cell 3⟩
                  clear hK K
                  try simp only [Act.put, List.setIfInBounds_toArray, List.set_cons_zero, List.set_cons_succ]
                  refine wpAnyH_take (i := 6) (oi := { dst := some 27, op := Op.binOp BinOp.add 9 (Operand.tmp 21) (Operand.tmp 26) 9, type := 9, pos := "l09_policy.go:179", after := #[{ on := 0, ground := Ground.data }, { on := 5, ground := Ground.data }], guard := none }) (v := ?vr19) rfl (by kernel_rfl) (by kernel_rfl) (by kernel_rfl) (fun _ _ _ h => h) (Or.inl ⟨by rfl, ?hyr19⟩) hHeld ?restr19
                  case hyr19 => (intro w hSw; (try dsimp only at hSw); go_simp; first | done | (rw [if_neg (by omega)]; done) | (rw [if_neg (by omega)]; with_reducible rfl) | with_reducible rfl)
                  simp only [Act.put, List.setIfInBounds_toArray, List.set_cons_zero, List.set_cons_succ]
                  refine wpAnyH_take (i := 7) (oi := { dst := some 28, op := Op.binOp BinOp.add 9 (Operand.tmp 27) (Operand.const (Value.string { data := #[32, 119, 104, 111, 32] })) 9, type := 9, pos := "l09_policy.go:179", after := #[{ on := 6, ground := Ground.data }], guard := none }) (v := ?vr20) rfl (by kernel_rfl) (by kernel_rfl) (by kernel_rfl) (fun _ _ _ h => h) (Or.inl ⟨by rfl, ?hyr20⟩) hHeld ?restr20
                  case hyr20 => (intro w hSw; (try dsimp only at hSw); go_simp; first | done | (rw [if_neg (by omega)]; done) | (rw [if_neg (by omega)]; with_reducible rfl) | with_reducible rfl)
                  simp only [Act.put, List.setIfInBounds_toArray, List.set_cons_zero, List.set_cons_succ]
                  refine wpAnyH_take (i := 11) (oi := { dst := some 32, op := Op.binOp BinOp.add 9 (Operand.tmp 28) (Operand.tmp 31) 9, type := 9, pos := "l09_policy.go:179", after := #[{ on := 7, ground := Ground.data }, { on := 10, ground := Ground.data }], guard := none }) (v := ?vr21) rfl (by kernel_rfl) (by kernel_rfl) (by kernel_rfl) (fun _ _ _ h => h) (Or.inl ⟨by rfl, ?hyr21⟩) hHeld ?restr21
                  case hyr21 => (intro w hSw; (try dsimp only at hSw); go_simp; first | done | (rw [if_neg (by omega)]; done) | (rw [if_neg (by omega)]; with_reducible rfl) | with_reducible rfl)
                  simp only [Act.put, List.setIfInBounds_toArray, List.set_cons_zero, List.set_cons_succ]
                  refine wpAnyH_take (i := 12) (oi := { dst := some 33, op := Op.binOp BinOp.add 9 (Operand.tmp 32) (Operand.const (Value.string { data := #[32, 100, 111, 32] })) 9, type := 9, pos := "l09_policy.go:179", after := #[{ on := 11, ground := Ground.data }], guard := none }) (v := ?vr22) rfl (by kernel_rfl) (by kernel_rfl) (by kernel_rfl) (fun _ _ _ h => h) (Or.inl ⟨by rfl, ?hyr22⟩) hHeld ?restr22
                  case hyr22 => (intro w hSw; (try dsimp only at hSw); go_simp; first | done | (rw [if_neg (by omega)]; done) | (rw [if_neg (by omega)]; with_reducible rfl) | with_reducible rfl)
                  simp only [Act.put, List.setIfInBounds_toArray, List.set_cons_zero, List.set_cons_succ]
                  refine wpAnyH_ready (rs := [15]) (by kernel_rfl) (by simp) ?_
                  refine AllReadyH.cons (o := { dst := some 36, op := Op.call { callee := Callee.value (Operand.func 29), args := #[Operand.tmp 35], argTypes := #[70] }, type := 9, pos := "l09_policy.go:179", after := #[{ on := 14, ground := Ground.data }, { on := 10, ground := Ground.chain }], guard := none }) rfl (fun K hK => ?_) AllReadyH.nil
                  go_simp
                  refine (J2 _ (by first | exact BD.out | exact BA.out _ | exact BX.out _)).out.mono ?_
                  rintro e w5 ⟨⟨q2, rfl, hq2, hz2⟩, hw5⟩
                  obtain rfl := hw5.symm
                  have Q2 := hid hq2
                  clear hq2
                  go_wp2_with fail
                  refine hK.out _ _ ?_ (fun hHeld => ?_)
                  · first | exact ⟨A2.out.cell 0, A2.out.cell 1, A2.out.cell 2, A2.out.cell 3⟩ | exact ⟨(A2.out.alloc _).cell 0, (A2.out.alloc _).cell 1, (A2.out.alloc _).cell 2, (A2.out.alloc _).cell 3⟩
                  clear hK K
                  try simp only [Act.put, List.setIfInBounds_toArray, List.set_cons_zero, List.set_cons_succ]
                  refine wpAnyH_take (i := 16) (oi := { dst := some 37, op := Op.binOp BinOp.add 9 (Operand.tmp 33) (Operand.tmp 36) 9, type := 9, pos := "l09_policy.go:179", after := #[{ on := 12, ground := Ground.data }, { on := 15, ground := Ground.data }], guard := none }) (v := ?vr23) rfl (by kernel_rfl) (by kernel_rfl) (by kernel_rfl) (fun _ _ _ h => h) (Or.inl ⟨by rfl, ?hyr23⟩) hHeld ?restr23
                  case hyr23 => (intro w hSw; (try dsimp only at hSw); go_simp; first | done | (rw [if_neg (by omega)]; done) | (rw [if_neg (by omega)]; with_reducible rfl) | with_reducible rfl)
                  simp only [Act.put, List.setIfInBounds_toArray, List.set_cons_zero, List.set_cons_succ]
                  refine wpAnyH_take (i := 17) (oi := { dst := some 38, op := Op.binOp BinOp.add 9 (Operand.tmp 37) (Operand.const (Value.string { data := #[32, 111, 110, 32] })) 9, type := 9, pos := "l09_policy.go:179", after := #[{ on := 16, ground := Ground.data }], guard := none }) (v := ?vr24) rfl (by kernel_rfl) (by kernel_rfl) (by kernel_rfl) (fun _ _ _ h => h) (Or.inl ⟨by rfl, ?hyr24⟩) hHeld ?restr24
                  case hyr24 => (intro w hSw; (try dsimp only at hSw); go_simp; first | done | (rw [if_neg (by omega)]; done) | (rw [if_neg (by omega)]; with_reducible rfl) | with_reducible rfl)
                  simp only [Act.put, List.setIfInBounds_toArray, List.set_cons_zero, List.set_cons_succ]
                  refine wpAnyH_ready (rs := [20]) (by kernel_rfl) (by simp) ?_
                  refine AllReadyH.cons (o := { dst := some 41, op := Op.call { callee := Callee.value (Operand.func 29), args := #[Operand.tmp 40], argTypes := #[70] }, type := 9, pos := "l09_policy.go:179", after := #[{ on := 19, ground := Ground.data }, { on := 15, ground := Ground.chain }], guard := none }) rfl (fun K hK => ?_) AllReadyH.nil
                  go_simp
                  refine (J3 _ (by first | exact BD.out | exact BA.out _ | exact BX.out _)).out.mono ?_
                  rintro e w5 ⟨⟨q3, rfl, hq3, hz3⟩, hw5⟩
                  obtain rfl := hw5.symm
                  have Q3 := hid hq3
                  clear hq3
                  go_wp2_with fail
                  refine hK.out _ _ ?_ (fun hHeld => ?_)
                  · first | exact ⟨A2.out.cell 0, A2.out.cell 1, A2.out.cell 2, A2.out.cell 3⟩ | exact ⟨(A2.out.alloc _).cell 0, (A2.out.alloc _).cell 1, (A2.out.alloc _).cell 2, (A2.out.alloc _).cell 3⟩
                  clear hK K
                  try simp only [Act.put, List.setIfInBounds_toArray, List.set_cons_zero, List.set_cons_succ]
                  refine wpAnyH_take (i := 21) (oi := { dst := some 42, op := Op.binOp BinOp.add 9 (Operand.tmp 38) (Operand.tmp 41) 9, type := 9, pos := "l09_policy.go:179", after := #[{ on := 17, ground := Ground.data }, { on := 20, ground := Ground.data }], guard := none }) (v := ?vr25) rfl (by kernel_rfl) (by kernel_rfl) (by kernel_rfl) (fun _ _ _ h => h) (Or.inl ⟨by rfl, ?hyr25⟩) hHeld ?restr25
                  case hyr25 => (intro w hSw; (try dsimp only at hSw); go_simp; first | done | (rw [if_neg (by omega)]; done) | (rw [if_neg (by omega)]; with_reducible rfl) | with_reducible rfl)
                  simp only [Act.put, List.setIfInBounds_toArray, List.set_cons_zero, List.set_cons_succ]
                  refine wpAnyH_take (i := 22) (oi := { dst := some 3, op := Op.assign (Operand.tmp 42), type := 9, pos := "l09_policy.go:179", after := #[{ on := 21, ground := Ground.data }, { on := 20, ground := Ground.chain }, { on := 0, ground := Ground.phase }, { on := 1, ground := Ground.phase }, { on := 2, ground := Ground.phase }, { on := 3, ground := Ground.phase }, { on := 4, ground := Ground.phase }, { on := 5, ground := Ground.phase }, { on := 6, ground := Ground.phase }, { on := 7, ground := Ground.phase }, { on := 8, ground := Ground.phase }, { on := 9, ground := Ground.phase }, { on := 10, ground := Ground.phase }, { on := 11, ground := Ground.phase }, { on := 12, ground := Ground.phase }, { on := 13, ground := Ground.phase }, { on := 14, ground := Ground.phase }, { on := 15, ground := Ground.phase }, { on := 16, ground := Ground.phase }, { on := 17, ground := Ground.phase }, { on := 18, ground := Ground.phase }, { on := 19, ground := Ground.phase }, { on := 20, ground := Ground.phase }, { on := 21, ground := Ground.phase }], guard := none }) (v := ?vr26) rfl (by kernel_rfl) (by kernel_rfl) (by kernel_rfl) (fun _ _ _ h => h) (Or.inl ⟨by rfl, ?hyr26⟩) hHeld ?restr26
                  case hyr26 => (intro w hSw; (try dsimp only at hSw); go_simp; first | done | (rw [if_neg (by omega)]; done) | (rw [if_neg (by omega)]; with_reducible rfl) | with_reducible rfl)
                  simp only [Act.put, List.setIfInBounds_toArray, List.set_cons_zero, List.set_cons_succ]
                  refine wpAnyH_done (by kernel_rfl) ?_ _
                  go_wp2
                  go_meet
                  exact ⟨⟨_, rfl, by simp only [ba_app, HL.out, Q1.out, Q2.out, Q3.out]; unfold lnH ew; simp, by simp only [sizeApp]; show t.size + 5 + 5 + q1.size + 4 + q2.size + 4 + q3.size ≤ 30000; omega⟩, by first | exact BD.out | exact BA.out _ | exact BX.out _⟩
                · go_simp
                  refine (J2 _ (by first | exact BD.out | exact BA.out _ | exact BX.out _)).out.mono ?_
                  rintro e w5 ⟨⟨q2, rfl, hq2, hz2⟩, hw5⟩
                  obtain rfl := hw5.symm
                  have Q2 := hid hq2
                  clear hq2
                  go_wp2_with fail
                  refine hK.out _ _ ?_ (fun hHeld => ?_)
                  · first | exact ⟨A2.out.cell 0, A2.out.cell 1, A2.out.cell 2, A2.out.cell 3⟩ | exact ⟨(A2.out.alloc _).cell 0, (A2.out.alloc _).cell 1, (A2.out.alloc _).cell 2, (A2.out.alloc _).cell 3⟩
                  clear hK K
                  try simp only [Act.put, List.setIfInBounds_toArray, List.set_cons_zero, List.set_cons_succ]
                  refine wpAnyH_ready (rs := [5, 20]) (by kernel_rfl) (by simp) ?_
                  refine AllReadyH.cons (o := { dst := some 26, op := Op.load 9 (Operand.tmp 25), type := 9, pos := "l09_policy.go:179", after := #[{ on := 4, ground := Ground.data }], guard := none }) rfl (fun K hK => ?_) (AllReadyH.cons (o := { dst := some 41, op := Op.call { callee := Callee.value (Operand.func 29), args := #[Operand.tmp 40], argTypes := #[70] }, type := 9, pos := "l09_policy.go:179", after := #[{ on := 19, ground := Ground.data }, { on := 15, ground := Ground.chain }], guard := none }) rfl (fun K hK => ?_) AllReadyH.nil)
                  · go_simp
                    refine hK.out _ _ ?_ (fun hHeld => ?_)
                    · first | exact ⟨A2.out.cell 0, A2.out.cell 1, A2.out.cell 2, A2.out.cell 3⟩ | exact ⟨(A2.out.alloc _).cell 0, (A2.out.alloc _).cell 1, (A2.out.alloc _).cell 2, (A2.out.alloc _).cell 3⟩
                    clear hK K
                    try simp only [Act.put, List.setIfInBounds_toArray, List.set_cons_zero, List.set_cons_succ]
                    refine wpAnyH_take (i := 6) (oi := { dst := some 27, op := Op.binOp BinOp.add 9 (Operand.tmp 21) (Operand.tmp 26) 9, type := 9, pos := "l09_policy.go:179", after := #[{ on := 0, ground := Ground.data }, { on := 5, ground := Ground.data }], guard := none }) (v := ?vr27) rfl (by kernel_rfl) (by kernel_rfl) (by kernel_rfl) (fun _ _ _ h => h) (Or.inl ⟨by rfl, ?hyr27⟩) hHeld ?restr27
                    case hyr27 => (intro w hSw; (try dsimp only at hSw); go_simp; first | done | (rw [if_neg (by omega)]; done) | (rw [if_neg (by omega)]; with_reducible rfl) | with_reducible rfl)
                    simp only [Act.put, List.setIfInBounds_toArray, List.set_cons_zero, List.set_cons_succ]
                    refine wpAnyH_take (i := 7) (oi := { dst := some 28, op := Op.binOp BinOp.add 9 (Operand.tmp 27) (Operand.const (Value.string { data := #[32, 119, 104, 111, 32] })) 9, type := 9, pos := "l09_policy.go:179", after := #[{ on := 6, ground := Ground.data }], guard := none }) (v := ?vr28) rfl (by kernel_rfl) (by kernel_rfl) (by kernel_rfl) (fun _ _ _ h => h) (Or.inl ⟨by rfl, ?hyr28⟩) hHeld ?restr28
                    case hyr28 => (intro w hSw; (try dsimp only at hSw); go_simp; first | done | (rw [if_neg (by omega)]; done) | (rw [if_neg (by omega)]; with_reducible rfl) | with_reducible rfl)
                    simp only [Act.put, List.setIfInBounds_toArray, List.set_cons_zero, List.set_cons_succ]
                    refine wpAnyH_take (i := 11) (oi := { dst := some 32, op := Op.binOp BinOp.add 9 (Operand.tmp 28) (Operand.tmp 31) 9, type := 9, pos := "l09_policy.go:179", after := #[{ on := 7, ground := Ground.data }, { on := 10, ground := Ground.data }], guard := none }) (v := ?vr29) rfl (by kernel_rfl) (by kernel_rfl) (by kernel_rfl) (fun _ _ _ h => h) (Or.inl ⟨by rfl, ?hyr29⟩) hHeld ?restr29
                    case hyr29 => (intro w hSw; (try dsimp only at hSw); go_simp; first | done | (rw [if_neg (by omega)]; done) | (rw [if_neg (by omega)]; with_reducible rfl) | with_reducible rfl)
                    simp only [Act.put, List.setIfInBounds_toArray, List.set_cons_zero, List.set_cons_succ]
                    refine wpAnyH_take (i := 12) (oi := { dst := some 33, op := Op.binOp BinOp.add 9 (Operand.tmp 32) (Operand.const (Value.string { data := #[32, 100, 111, 32] })) 9, type := 9, pos := "l09_policy.go:179", after := #[{ on := 11, ground := Ground.data }], guard := none }) (v := ?vr30) rfl (by kernel_rfl) (by kernel_rfl) (by kernel_rfl) (fun _ _ _ h => h) (Or.inl ⟨by rfl, ?hyr30⟩) hHeld ?restr30
                    case hyr30 => (intro w hSw; (try dsimp only at hSw); go_simp; first | done | (rw [if_neg (by omega)]; done) | (rw [if_neg (by omega)]; with_reducible rfl) | with_reducible rfl)
                    simp only [Act.put, List.setIfInBounds_toArray, List.set_cons_zero, List.set_cons_succ]
                    refine wpAnyH_take (i := 16) (oi := { dst := some 37, op := Op.binOp BinOp.add 9 (Operand.tmp 33) (Operand.tmp 36) 9, type := 9, pos := "l09_policy.go:179", after := #[{ on := 12, ground := Ground.data }, { on := 15, ground := Ground.data }], guard := none }) (v := ?vr31) rfl (by kernel_rfl) (by kernel_rfl) (by kernel_rfl) (fun _ _ _ h => h) (Or.inl ⟨by rfl, ?hyr31⟩) hHeld ?restr31
                    case hyr31 => (intro w hSw; (try dsimp only at hSw); go_simp; first | done | (rw [if_neg (by omega)]; done) | (rw [if_neg (by omega)]; with_reducible rfl) | with_reducible rfl)
                    simp only [Act.put, List.setIfInBounds_toArray, List.set_cons_zero, List.set_cons_succ]
                    refine wpAnyH_take (i := 17) (oi := { dst := some 38, op := Op.binOp BinOp.add 9 (Operand.tmp 37) (Operand.const (Value.string { data := #[32, 111, 110, 32] })) 9, type := 9, pos := "l09_policy.go:179", after := #[{ on := 16, ground := Ground.data }], guard := none }) (v := ?vr32) rfl (by kernel_rfl) (by kernel_rfl) (by kernel_rfl) (fun _ _ _ h => h) (Or.inl ⟨by rfl, ?hyr32⟩) hHeld ?restr32
                    case hyr32 => (intro w hSw; (try dsimp only at hSw); go_simp; first | done | (rw [if_neg (by omega)]; done) | (rw [if_neg (by omega)]; with_reducible rfl) | with_reducible rfl)
                    simp only [Act.put, List.setIfInBounds_toArray, List.set_cons_zero, List.set_cons_succ]
                    refine wpAnyH_ready (rs := [20]) (by kernel_rfl) (by simp) ?_
                    refine AllReadyH.cons (o := { dst := some 41, op := Op.call { callee := Callee.value (Operand.func 29), args := #[Operand.tmp 40], argTypes := #[70] }, type := 9, pos := "l09_policy.go:179", after := #[{ on := 19, ground := Ground.data }, { on := 15, ground := Ground.chain }], guard := none }) rfl (fun K hK => ?_) AllReadyH.nil
                    go_simp
                    refine (J3 _ (by first | exact BD.out | exact BA.out _ | exact BX.out _)).out.mono ?_
                    rintro e w5 ⟨⟨q3, rfl, hq3, hz3⟩, hw5⟩
                    obtain rfl := hw5.symm
                    have Q3 := hid hq3
                    clear hq3
                    go_wp2_with fail
                    refine hK.out _ _ ?_ (fun hHeld => ?_)
                    · first | exact ⟨A2.out.cell 0, A2.out.cell 1, A2.out.cell 2, A2.out.cell 3⟩ | exact ⟨(A2.out.alloc _).cell 0, (A2.out.alloc _).cell 1, (A2.out.alloc _).cell 2, (A2.out.alloc _).cell 3⟩
                    clear hK K
                    try simp only [Act.put, List.setIfInBounds_toArray, List.set_cons_zero, List.set_cons_succ]
                    refine wpAnyH_take (i := 21) (oi := { dst := some 42, op := Op.binOp BinOp.add 9 (Operand.tmp 38) (Operand.tmp 41) 9, type := 9, pos := "l09_policy.go:179", after := #[{ on := 17, ground := Ground.data }, { on := 20, ground := Ground.data }], guard := none }) (v := ?vr33) rfl (by kernel_rfl) (by kernel_rfl) (by kernel_rfl) (fun _ _ _ h => h) (Or.inl ⟨by rfl, ?hyr33⟩) hHeld ?restr33
                    case hyr33 => (intro w hSw; (try dsimp only at hSw); go_simp; first | done | (rw [if_neg (by omega)]; done) | (rw [if_neg (by omega)]; with_reducible rfl) | with_reducible rfl)
                    simp only [Act.put, List.setIfInBounds_toArray, List.set_cons_zero, List.set_cons_succ]
                    refine wpAnyH_take (i := 22) (oi := { dst := some 3, op := Op.assign (Operand.tmp 42), type := 9, pos := "l09_policy.go:179", after := #[{ on := 21, ground := Ground.data }, { on := 20, ground := Ground.chain }, { on := 0, ground := Ground.phase }, { on := 1, ground := Ground.phase }, { on := 2, ground := Ground.phase }, { on := 3, ground := Ground.phase }, { on := 4, ground := Ground.phase }, { on := 5, ground := Ground.phase }, { on := 6, ground := Ground.phase }, { on := 7, ground := Ground.phase }, { on := 8, ground := Ground.phase }, { on := 9, ground := Ground.phase }, { on := 10, ground := Ground.phase }, { on := 11, ground := Ground.phase }, { on := 12, ground := Ground.phase }, { on := 13, ground := Ground.phase }, { on := 14, ground := Ground.phase }, { on := 15, ground := Ground.phase }, { on := 16, ground := Ground.phase }, { on := 17, ground := Ground.phase }, { on := 18, ground := Ground.phase }, { on := 19, ground := Ground.phase }, { on := 20, ground := Ground.phase }, { on := 21, ground := Ground.phase }], guard := none }) (v := ?vr34) rfl (by kernel_rfl) (by kernel_rfl) (by kernel_rfl) (fun _ _ _ h => h) (Or.inl ⟨by rfl, ?hyr34⟩) hHeld ?restr34
                    case hyr34 => (intro w hSw; (try dsimp only at hSw); go_simp; first | done | (rw [if_neg (by omega)]; done) | (rw [if_neg (by omega)]; with_reducible rfl) | with_reducible rfl)
                    simp only [Act.put, List.setIfInBounds_toArray, List.set_cons_zero, List.set_cons_succ]
                    refine wpAnyH_done (by kernel_rfl) ?_ _
                    go_wp2
                    go_meet
                    exact ⟨⟨_, rfl, by simp only [ba_app, HL.out, Q1.out, Q2.out, Q3.out]; unfold lnH ew; simp, by simp only [sizeApp]; show t.size + 5 + 5 + q1.size + 4 + q2.size + 4 + q3.size ≤ 30000; omega⟩, by first | exact BD.out | exact BA.out _ | exact BX.out _⟩
                  · go_simp
                    refine (J3 _ (by first | exact BD.out | exact BA.out _ | exact BX.out _)).out.mono ?_
                    rintro e w5 ⟨⟨q3, rfl, hq3, hz3⟩, hw5⟩
                    obtain rfl := hw5.symm
                    have Q3 := hid hq3
                    clear hq3
                    go_wp2_with fail
                    refine hK.out _ _ ?_ (fun hHeld => ?_)
                    · first | exact ⟨A2.out.cell 0, A2.out.cell 1, A2.out.cell 2, A2.out.cell 3⟩ | exact ⟨(A2.out.alloc _).cell 0, (A2.out.alloc _).cell 1, (A2.out.alloc _).cell 2, (A2.out.alloc _).cell 3⟩
                    clear hK K
                    try simp only [Act.put, List.setIfInBounds_toArray, List.set_cons_zero, List.set_cons_succ]
                    refine wpAnyH_ready (rs := [5]) (by kernel_rfl) (by simp) ?_
                    refine AllReadyH.cons (o := { dst := some 26, op := Op.load 9 (Operand.tmp 25), type := 9, pos := "l09_policy.go:179", after := #[{ on := 4, ground := Ground.data }], guard := none }) rfl (fun K hK => ?_) AllReadyH.nil
                    go_simp
                    refine hK.out _ _ ?_ (fun hHeld => ?_)
                    · first | exact ⟨A2.out.cell 0, A2.out.cell 1, A2.out.cell 2, A2.out.cell 3⟩ | exact ⟨(A2.out.alloc _).cell 0, (A2.out.alloc _).cell 1, (A2.out.alloc _).cell 2, (A2.out.alloc _).cell 3⟩
                    clear hK K
                    try simp only [Act.put, List.setIfInBounds_toArray, List.set_cons_zero, List.set_cons_succ]
                    refine wpAnyH_take (i := 6) (oi := { dst := some 27, op := Op.binOp BinOp.add 9 (Operand.tmp 21) (Operand.tmp 26) 9, type := 9, pos := "l09_policy.go:179", after := #[{ on := 0, ground := Ground.data }, { on := 5, ground := Ground.data }], guard := none }) (v := ?vr35) rfl (by kernel_rfl) (by kernel_rfl) (by kernel_rfl) (fun _ _ _ h => h) (Or.inl ⟨by rfl, ?hyr35⟩) hHeld ?restr35
                    case hyr35 => (intro w hSw; (try dsimp only at hSw); go_simp; first | done | (rw [if_neg (by omega)]; done) | (rw [if_neg (by omega)]; with_reducible rfl) | with_reducible rfl)
                    simp only [Act.put, List.setIfInBounds_toArray, List.set_cons_zero, List.set_cons_succ]
                    refine wpAnyH_take (i := 7) (oi := { dst := some 28, op := Op.binOp BinOp.add 9 (Operand.tmp 27) (Operand.const (Value.string { data := #[32, 119, 104, 111, 32] })) 9, type := 9, pos := "l09_policy.go:179", after := #[{ on := 6, ground := Ground.data }], guard := none }) (v := ?vr36) rfl (by kernel_rfl) (by kernel_rfl) (by kernel_rfl) (fun _ _ _ h => h) (Or.inl ⟨by rfl, ?hyr36⟩) hHeld ?restr36
                    case hyr36 => (intro w hSw; (try dsimp only at hSw); go_simp; first | done | (rw [if_neg (by omega)]; done) | (rw [if_neg (by omega)]; with_reducible rfl) | with_reducible rfl)
                    simp only [Act.put, List.setIfInBounds_toArray, List.set_cons_zero, List.set_cons_succ]
                    refine wpAnyH_take (i := 11) (oi := { dst := some 32, op := Op.binOp BinOp.add 9 (Operand.tmp 28) (Operand.tmp 31) 9, type := 9, pos := "l09_policy.go:179", after := #[{ on := 7, ground := Ground.data }, { on := 10, ground := Ground.data }], guard := none }) (v := ?vr37) rfl (by kernel_rfl) (by kernel_rfl) (by kernel_rfl) (fun _ _ _ h => h) (Or.inl ⟨by rfl, ?hyr37⟩) hHeld ?restr37
                    case hyr37 => (intro w hSw; (try dsimp only at hSw); go_simp; first | done | (rw [if_neg (by omega)]; done) | (rw [if_neg (by omega)]; with_reducible rfl) | with_reducible rfl)
                    simp only [Act.put, List.setIfInBounds_toArray, List.set_cons_zero, List.set_cons_succ]
                    refine wpAnyH_take (i := 12) (oi := { dst := some 33, op := Op.binOp BinOp.add 9 (Operand.tmp 32) (Operand.const (Value.string { data := #[32, 100, 111, 32] })) 9, type := 9, pos := "l09_policy.go:179", after := #[{ on := 11, ground := Ground.data }], guard := none }) (v := ?vr38) rfl (by kernel_rfl) (by kernel_rfl) (by kernel_rfl) (fun _ _ _ h => h) (Or.inl ⟨by rfl, ?hyr38⟩) hHeld ?restr38
                    case hyr38 => (intro w hSw; (try dsimp only at hSw); go_simp; first | done | (rw [if_neg (by omega)]; done) | (rw [if_neg (by omega)]; with_reducible rfl) | with_reducible rfl)
                    simp only [Act.put, List.setIfInBounds_toArray, List.set_cons_zero, List.set_cons_succ]
                    refine wpAnyH_take (i := 16) (oi := { dst := some 37, op := Op.binOp BinOp.add 9 (Operand.tmp 33) (Operand.tmp 36) 9, type := 9, pos := "l09_policy.go:179", after := #[{ on := 12, ground := Ground.data }, { on := 15, ground := Ground.data }], guard := none }) (v := ?vr39) rfl (by kernel_rfl) (by kernel_rfl) (by kernel_rfl) (fun _ _ _ h => h) (Or.inl ⟨by rfl, ?hyr39⟩) hHeld ?restr39
                    case hyr39 => (intro w hSw; (try dsimp only at hSw); go_simp; first | done | (rw [if_neg (by omega)]; done) | (rw [if_neg (by omega)]; with_reducible rfl) | with_reducible rfl)
                    simp only [Act.put, List.setIfInBounds_toArray, List.set_cons_zero, List.set_cons_succ]
                    refine wpAnyH_take (i := 17) (oi := { dst := some 38, op := Op.binOp BinOp.add 9 (Operand.tmp 37) (Operand.const (Value.string { data := #[32, 111, 110, 32] })) 9, type := 9, pos := "l09_policy.go:179", after := #[{ on := 16, ground := Ground.data }], guard := none }) (v := ?vr40) rfl (by kernel_rfl) (by kernel_rfl) (by kernel_rfl) (fun _ _ _ h => h) (Or.inl ⟨by rfl, ?hyr40⟩) hHeld ?restr40
                    case hyr40 => (intro w hSw; (try dsimp only at hSw); go_simp; first | done | (rw [if_neg (by omega)]; done) | (rw [if_neg (by omega)]; with_reducible rfl) | with_reducible rfl)
                    simp only [Act.put, List.setIfInBounds_toArray, List.set_cons_zero, List.set_cons_succ]
                    refine wpAnyH_take (i := 21) (oi := { dst := some 42, op := Op.binOp BinOp.add 9 (Operand.tmp 38) (Operand.tmp 41) 9, type := 9, pos := "l09_policy.go:179", after := #[{ on := 17, ground := Ground.data }, { on := 20, ground := Ground.data }], guard := none }) (v := ?vr41) rfl (by kernel_rfl) (by kernel_rfl) (by kernel_rfl) (fun _ _ _ h => h) (Or.inl ⟨by rfl, ?hyr41⟩) hHeld ?restr41
                    case hyr41 => (intro w hSw; (try dsimp only at hSw); go_simp; first | done | (rw [if_neg (by omega)]; done) | (rw [if_neg (by omega)]; with_reducible rfl) | with_reducible rfl)
                    simp only [Act.put, List.setIfInBounds_toArray, List.set_cons_zero, List.set_cons_succ]
                    refine wpAnyH_take (i := 22) (oi := { dst := some 3, op := Op.assign (Operand.tmp 42), type := 9, pos := "l09_policy.go:179", after := #[{ on := 21, ground := Ground.data }, { on := 20, ground := Ground.chain }, { on := 0, ground := Ground.phase }, { on := 1, ground := Ground.phase }, { on := 2, ground := Ground.phase }, { on := 3, ground := Ground.phase }, { on := 4, ground := Ground.phase }, { on := 5, ground := Ground.phase }, { on := 6, ground := Ground.phase }, { on := 7, ground := Ground.phase }, { on := 8, ground := Ground.phase }, { on := 9, ground := Ground.phase }, { on := 10, ground := Ground.phase }, { on := 11, ground := Ground.phase }, { on := 12, ground := Ground.phase }, { on := 13, ground := Ground.phase }, { on := 14, ground := Ground.phase }, { on := 15, ground := Ground.phase }, { on := 16, ground := Ground.phase }, { on := 17, ground := Ground.phase }, { on := 18, ground := Ground.phase }, { on := 19, ground := Ground.phase }, { on := 20, ground := Ground.phase }, { on := 21, ground := Ground.phase }], guard := none }) (v := ?vr42) rfl (by kernel_rfl) (by kernel_rfl) (by kernel_rfl) (fun _ _ _ h => h) (Or.inl ⟨by rfl, ?hyr42⟩) hHeld ?restr42
                    case hyr42 => (intro w hSw; (try dsimp only at hSw); go_simp; first | done | (rw [if_neg (by omega)]; done) | (rw [if_neg (by omega)]; with_reducible rfl) | with_reducible rfl)
                    simp only [Act.put, List.setIfInBounds_toArray, List.set_cons_zero, List.set_cons_succ]
                    refine wpAnyH_done (by kernel_rfl) ?_ _
                    go_wp2
                    go_meet
                    exact ⟨⟨_, rfl, by simp only [ba_app, HL.out, Q1.out, Q2.out, Q3.out]; unfold lnH ew; simp, by simp only [sizeApp]; show t.size + 5 + 5 + q1.size + 4 + q2.size + 4 + q3.size ≤ 30000; omega⟩, by first | exact BD.out | exact BA.out _ | exact BX.out _⟩
            · go_simp
              refine (J1 _ (by first | exact BD.out | exact BA.out _ | exact BX.out _)).out.mono ?_
              rintro e w5 ⟨⟨q1, rfl, hq1, hz1⟩, hw5⟩
              obtain rfl := hw5.symm
              have Q1 := hid hq1
              clear hq1
              go_wp2_with fail
              refine hK.out _ _ ?_ (fun hHeld => ?_)
              · first | exact ⟨A2.out.cell 0, A2.out.cell 1, A2.out.cell 2, A2.out.cell 3⟩ | exact ⟨(A2.out.alloc _).cell 0, (A2.out.alloc _).cell 1, (A2.out.alloc _).cell 2, (A2.out.alloc _).cell 3⟩
              clear hK K
              try simp only [Act.put, List.setIfInBounds_toArray, List.set_cons_zero, List.set_cons_succ]
              refine wpAnyH_ready (rs := [1, 15]) (by kernel_rfl) (by simp) ?_
              refine AllReadyH.cons (o := { dst := some 22, op := Op.buildSlice 70 3 #[(0, Operand.const (Value.string { data := #[] })), (1, Operand.const (Value.string { data := #[97, 108, 108, 111, 119] })), (2, Operand.const (Value.string { data := #[100, 101, 110, 121] }))], type := 70, pos := "l09_policy.go:179", after := #[], guard := none }) rfl (fun K hK => ?_) (AllReadyH.cons (o := { dst := some 36, op := Op.call { callee := Callee.value (Operand.func 29), args := #[Operand.tmp 35], argTypes := #[70] }, type := 9, pos := "l09_policy.go:179", after := #[{ on := 14, ground := Ground.data }, { on := 10, ground := Ground.chain }], guard := none }) rfl (fun K hK => ?_) AllReadyH.nil)
              · go_simp
                refine hK.out _ _ ?_ (fun hHeld => ?_)
                · first | exact ⟨A2.out.cell 0, A2.out.cell 1, A2.out.cell 2, A2.out.cell 3⟩ | exact ⟨(A2.out.alloc _).cell 0, (A2.out.alloc _).cell 1, (A2.out.alloc _).cell 2, (A2.out.alloc _).cell 3⟩
                clear hK K
                try simp only [Act.put, List.setIfInBounds_toArray, List.set_cons_zero, List.set_cons_succ]
                refine wpAnyH_take (i := 4) (oi := { dst := some 25, op := Op.indexAddr 70 (Operand.tmp 22) (Operand.tmp 24), type := 0, pos := "l09_policy.go:179", after := #[{ on := 1, ground := Ground.data }, { on := 3, ground := Ground.data }], guard := none }) (v := ?vr43) rfl (by kernel_rfl) (by kernel_rfl) (by kernel_rfl) (fun _ _ _ h => h) (Or.inl ⟨by rfl, ?hyr43⟩) hHeld ?restr43
                case hyr43 => (intro w hSw; (try dsimp only at hSw); go_simp; first | done | (rw [if_neg (by omega)]; done) | (rw [if_neg (by omega)]; with_reducible rfl) | with_reducible rfl)
                simp only [Act.put, List.setIfInBounds_toArray, List.set_cons_zero, List.set_cons_succ]
                refine wpAnyH_ready (rs := [5, 15]) (by kernel_rfl) (by simp) ?_
                refine AllReadyH.cons (o := { dst := some 26, op := Op.load 9 (Operand.tmp 25), type := 9, pos := "l09_policy.go:179", after := #[{ on := 4, ground := Ground.data }], guard := none }) rfl (fun K hK => ?_) (AllReadyH.cons (o := { dst := some 36, op := Op.call { callee := Callee.value (Operand.func 29), args := #[Operand.tmp 35], argTypes := #[70] }, type := 9, pos := "l09_policy.go:179", after := #[{ on := 14, ground := Ground.data }, { on := 10, ground := Ground.chain }], guard := none }) rfl (fun K hK => ?_) AllReadyH.nil)
                · go_simp
                  refine hK.out _ _ ?_ (fun hHeld => ?_)
                  · first | exact ⟨A2.out.cell 0, A2.out.cell 1, A2.out.cell 2, A2.out.cell 3⟩ | exact ⟨(A2.out.alloc _).cell 0, (A2.out.alloc _).cell 1, (A2.out.alloc _).cell 2, (A2.out.alloc _).cell 3⟩
                  clear hK K
                  try simp only [Act.put, List.setIfInBounds_toArray, List.set_cons_zero, List.set_cons_succ]
                  refine wpAnyH_take (i := 6) (oi := { dst := some 27, op := Op.binOp BinOp.add 9 (Operand.tmp 21) (Operand.tmp 26) 9, type := 9, pos := "l09_policy.go:179", after := #[{ on := 0, ground := Ground.data }, { on := 5, ground := Ground.data }], guard := none }) (v := ?vr44) rfl (by kernel_rfl) (by kernel_rfl) (by kernel_rfl) (fun _ _ _ h => h) (Or.inl ⟨by rfl, ?hyr44⟩) hHeld ?restr44
                  case hyr44 => (intro w hSw; (try dsimp only at hSw); go_simp; first | done | (rw [if_neg (by omega)]; done) | (rw [if_neg (by omega)]; with_reducible rfl) | with_reducible rfl)
                  simp only [Act.put, List.setIfInBounds_toArray, List.set_cons_zero, List.set_cons_succ]
                  refine wpAnyH_take (i := 7) (oi := { dst := some 28, op := Op.binOp BinOp.add 9 (Operand.tmp 27) (Operand.const (Value.string { data := #[32, 119, 104, 111, 32] })) 9, type := 9, pos := "l09_policy.go:179", after := #[{ on := 6, ground := Ground.data }], guard := none }) (v := ?vr45) rfl (by kernel_rfl) (by kernel_rfl) (by kernel_rfl) (fun _ _ _ h => h) (Or.inl ⟨by rfl, ?hyr45⟩) hHeld ?restr45
                  case hyr45 => (intro w hSw; (try dsimp only at hSw); go_simp; first | done | (rw [if_neg (by omega)]; done) | (rw [if_neg (by omega)]; with_reducible rfl) | with_reducible rfl)
                  simp only [Act.put, List.setIfInBounds_toArray, List.set_cons_zero, List.set_cons_succ]
                  refine wpAnyH_take (i := 11) (oi := { dst := some 32, op := Op.binOp BinOp.add 9 (Operand.tmp 28) (Operand.tmp 31) 9, type := 9, pos := "l09_policy.go:179", after := #[{ on := 7, ground := Ground.data }, { on := 10, ground := Ground.data }], guard := none }) (v := ?vr46) rfl (by kernel_rfl) (by kernel_rfl) (by kernel_rfl) (fun _ _ _ h => h) (Or.inl ⟨by rfl, ?hyr46⟩) hHeld ?restr46
                  case hyr46 => (intro w hSw; (try dsimp only at hSw); go_simp; first | done | (rw [if_neg (by omega)]; done) | (rw [if_neg (by omega)]; with_reducible rfl) | with_reducible rfl)
                  simp only [Act.put, List.setIfInBounds_toArray, List.set_cons_zero, List.set_cons_succ]
                  refine wpAnyH_take (i := 12) (oi := { dst := some 33, op := Op.binOp BinOp.add 9 (Operand.tmp 32) (Operand.const (Value.string { data := #[32, 100, 111, 32] })) 9, type := 9, pos := "l09_policy.go:179", after := #[{ on := 11, ground := Ground.data }], guard := none }) (v := ?vr47) rfl (by kernel_rfl) (by kernel_rfl) (by kernel_rfl) (fun _ _ _ h => h) (Or.inl ⟨by rfl, ?hyr47⟩) hHeld ?restr47
                  case hyr47 => (intro w hSw; (try dsimp only at hSw); go_simp; first | done | (rw [if_neg (by omega)]; done) | (rw [if_neg (by omega)]; with_reducible rfl) | with_reducible rfl)
                  simp only [Act.put, List.setIfInBounds_toArray, List.set_cons_zero, List.set_cons_succ]
                  refine wpAnyH_ready (rs := [15]) (by kernel_rfl) (by simp) ?_
                  refine AllReadyH.cons (o := { dst := some 36, op := Op.call { callee := Callee.value (Operand.func 29), args := #[Operand.tmp 35], argTypes := #[70] }, type := 9, pos := "l09_policy.go:179", after := #[{ on := 14, ground := Ground.data }, { on := 10, ground := Ground.chain }], guard := none }) rfl (fun K hK => ?_) AllReadyH.nil
                  go_simp
                  refine (J2 _ (by first | exact BD.out | exact BA.out _ | exact BX.out _)).out.mono ?_
                  rintro e w5 ⟨⟨q2, rfl, hq2, hz2⟩, hw5⟩
                  obtain rfl := hw5.symm
                  have Q2 := hid hq2
                  clear hq2
                  go_wp2_with fail
                  refine hK.out _ _ ?_ (fun hHeld => ?_)
                  · first | exact ⟨A2.out.cell 0, A2.out.cell 1, A2.out.cell 2, A2.out.cell 3⟩ | exact ⟨(A2.out.alloc _).cell 0, (A2.out.alloc _).cell 1, (A2.out.alloc _).cell 2, (A2.out.alloc _).cell 3⟩
                  clear hK K
                  try simp only [Act.put, List.setIfInBounds_toArray, List.set_cons_zero, List.set_cons_succ]
                  refine wpAnyH_take (i := 16) (oi := { dst := some 37, op := Op.binOp BinOp.add 9 (Operand.tmp 33) (Operand.tmp 36) 9, type := 9, pos := "l09_policy.go:179", after := #[{ on := 12, ground := Ground.data }, { on := 15, ground := Ground.data }], guard := none }) (v := ?vr48) rfl (by kernel_rfl) (by kernel_rfl) (by kernel_rfl) (fun _ _ _ h => h) (Or.inl ⟨by rfl, ?hyr48⟩) hHeld ?restr48
                  case hyr48 => (intro w hSw; (try dsimp only at hSw); go_simp; first | done | (rw [if_neg (by omega)]; done) | (rw [if_neg (by omega)]; with_reducible rfl) | with_reducible rfl)
                  simp only [Act.put, List.setIfInBounds_toArray, List.set_cons_zero, List.set_cons_succ]
                  refine wpAnyH_take (i := 17) (oi := { dst := some 38, op := Op.binOp BinOp.add 9 (Operand.tmp 37) (Operand.const (Value.string { data := #[32, 111, 110, 32] })) 9, type := 9, pos := "l09_policy.go:179", after := #[{ on := 16, ground := Ground.data }], guard := none }) (v := ?vr49) rfl (by kernel_rfl) (by kernel_rfl) (by kernel_rfl) (fun _ _ _ h => h) (Or.inl ⟨by rfl, ?hyr49⟩) hHeld ?restr49
                  case hyr49 => (intro w hSw; (try dsimp only at hSw); go_simp; first | done | (rw [if_neg (by omega)]; done) | (rw [if_neg (by omega)]; with_reducible rfl) | with_reducible rfl)
                  simp only [Act.put, List.setIfInBounds_toArray, List.set_cons_zero, List.set_cons_succ]
                  refine wpAnyH_ready (rs := [20]) (by kernel_rfl) (by simp) ?_
                  refine AllReadyH.cons (o := { dst := some 41, op := Op.call { callee := Callee.value (Operand.func 29), args := #[Operand.tmp 40], argTypes := #[70] }, type := 9, pos := "l09_policy.go:179", after := #[{ on := 19, ground := Ground.data }, { on := 15, ground := Ground.chain }], guard := none }) rfl (fun K hK => ?_) AllReadyH.nil
                  go_simp
                  refine (J3 _ (by first | exact BD.out | exact BA.out _ | exact BX.out _)).out.mono ?_
                  rintro e w5 ⟨⟨q3, rfl, hq3, hz3⟩, hw5⟩
                  obtain rfl := hw5.symm
                  have Q3 := hid hq3
                  clear hq3
                  go_wp2_with fail
                  refine hK.out _ _ ?_ (fun hHeld => ?_)
                  · first | exact ⟨A2.out.cell 0, A2.out.cell 1, A2.out.cell 2, A2.out.cell 3⟩ | exact ⟨(A2.out.alloc _).cell 0, (A2.out.alloc _).cell 1, (A2.out.alloc _).cell 2, (A2.out.alloc _).cell 3⟩
                  clear hK K
                  try simp only [Act.put, List.setIfInBounds_toArray, List.set_cons_zero, List.set_cons_succ]
                  refine wpAnyH_take (i := 21) (oi := { dst := some 42, op := Op.binOp BinOp.add 9 (Operand.tmp 38) (Operand.tmp 41) 9, type := 9, pos := "l09_policy.go:179", after := #[{ on := 17, ground := Ground.data }, { on := 20, ground := Ground.data }], guard := none }) (v := ?vr50) rfl (by kernel_rfl) (by kernel_rfl) (by kernel_rfl) (fun _ _ _ h => h) (Or.inl ⟨by rfl, ?hyr50⟩) hHeld ?restr50
                  case hyr50 => (intro w hSw; (try dsimp only at hSw); go_simp; first | done | (rw [if_neg (by omega)]; done) | (rw [if_neg (by omega)]; with_reducible rfl) | with_reducible rfl)
                  simp only [Act.put, List.setIfInBounds_toArray, List.set_cons_zero, List.set_cons_succ]
                  refine wpAnyH_take (i := 22) (oi := { dst := some 3, op := Op.assign (Operand.tmp 42), type := 9, pos := "l09_policy.go:179", after := #[{ on := 21, ground := Ground.data }, { on := 20, ground := Ground.chain }, { on := 0, ground := Ground.phase }, { on := 1, ground := Ground.phase }, { on := 2, ground := Ground.phase }, { on := 3, ground := Ground.phase }, { on := 4, ground := Ground.phase }, { on := 5, ground := Ground.phase }, { on := 6, ground := Ground.phase }, { on := 7, ground := Ground.phase }, { on := 8, ground := Ground.phase }, { on := 9, ground := Ground.phase }, { on := 10, ground := Ground.phase }, { on := 11, ground := Ground.phase }, { on := 12, ground := Ground.phase }, { on := 13, ground := Ground.phase }, { on := 14, ground := Ground.phase }, { on := 15, ground := Ground.phase }, { on := 16, ground := Ground.phase }, { on := 17, ground := Ground.phase }, { on := 18, ground := Ground.phase }, { on := 19, ground := Ground.phase }, { on := 20, ground := Ground.phase }, { on := 21, ground := Ground.phase }], guard := none }) (v := ?vr51) rfl (by kernel_rfl) (by kernel_rfl) (by kernel_rfl) (fun _ _ _ h => h) (Or.inl ⟨by rfl, ?hyr51⟩) hHeld ?restr51
                  case hyr51 => (intro w hSw; (try dsimp only at hSw); go_simp; first | done | (rw [if_neg (by omega)]; done) | (rw [if_neg (by omega)]; with_reducible rfl) | with_reducible rfl)
                  simp only [Act.put, List.setIfInBounds_toArray, List.set_cons_zero, List.set_cons_succ]
                  refine wpAnyH_done (by kernel_rfl) ?_ _
                  go_wp2
                  go_meet
                  exact ⟨⟨_, rfl, by simp only [ba_app, HL.out, Q1.out, Q2.out, Q3.out]; unfold lnH ew; simp, by simp only [sizeApp]; show t.size + 5 + 5 + q1.size + 4 + q2.size + 4 + q3.size ≤ 30000; omega⟩, by first | exact BD.out | exact BA.out _ | exact BX.out _⟩
                · go_simp
                  refine (J2 _ (by first | exact BD.out | exact BA.out _ | exact BX.out _)).out.mono ?_
                  rintro e w5 ⟨⟨q2, rfl, hq2, hz2⟩, hw5⟩
                  obtain rfl := hw5.symm
                  have Q2 := hid hq2
                  clear hq2
                  go_wp2_with fail
                  refine hK.out _ _ ?_ (fun hHeld => ?_)
                  · first | exact ⟨A2.out.cell 0, A2.out.cell 1, A2.out.cell 2, A2.out.cell 3⟩ | exact ⟨(A2.out.alloc _).cell 0, (A2.out.alloc _).cell 1, (A2.out.alloc _).cell 2, (A2.out.alloc _).cell 3⟩
                  clear hK K
                  try simp only [Act.put, List.setIfInBounds_toArray, List.set_cons_zero, List.set_cons_succ]
                  refine wpAnyH_ready (rs := [5, 20]) (by kernel_rfl) (by simp) ?_
                  refine AllReadyH.cons (o := { dst := some 26, op := Op.load 9 (Operand.tmp 25), type := 9, pos := "l09_policy.go:179", after := #[{ on := 4, ground := Ground.data }], guard := none }) rfl (fun K hK => ?_) (AllReadyH.cons (o := { dst := some 41, op := Op.call { callee := Callee.value (Operand.func 29), args := #[Operand.tmp 40], argTypes := #[70] }, type := 9, pos := "l09_policy.go:179", after := #[{ on := 19, ground := Ground.data }, { on := 15, ground := Ground.chain }], guard := none }) rfl (fun K hK => ?_) AllReadyH.nil)
                  · go_simp
                    refine hK.out _ _ ?_ (fun hHeld => ?_)
                    · first | exact ⟨A2.out.cell 0, A2.out.cell 1, A2.out.cell 2, A2.out.cell 3⟩ | exact ⟨(A2.out.alloc _).cell 0, (A2.out.alloc _).cell 1, (A2.out.alloc _).cell 2, (A2.out.alloc _).cell 3⟩
                    clear hK K
                    try simp only [Act.put, List.setIfInBounds_toArray, List.set_cons_zero, List.set_cons_succ]
                    refine wpAnyH_take (i := 6) (oi := { dst := some 27, op := Op.binOp BinOp.add 9 (Operand.tmp 21) (Operand.tmp 26) 9, type := 9, pos := "l09_policy.go:179", after := #[{ on := 0, ground := Ground.data }, { on := 5, ground := Ground.data }], guard := none }) (v := ?vr52) rfl (by kernel_rfl) (by kernel_rfl) (by kernel_rfl) (fun _ _ _ h => h) (Or.inl ⟨by rfl, ?hyr52⟩) hHeld ?restr52
                    case hyr52 => (intro w hSw; (try dsimp only at hSw); go_simp; first | done | (rw [if_neg (by omega)]; done) | (rw [if_neg (by omega)]; with_reducible rfl) | with_reducible rfl)
                    simp only [Act.put, List.setIfInBounds_toArray, List.set_cons_zero, List.set_cons_succ]
                    refine wpAnyH_take (i := 7) (oi := { dst := some 28, op := Op.binOp BinOp.add 9 (Operand.tmp 27) (Operand.const (Value.string { data := #[32, 119, 104, 111, 32] })) 9, type := 9, pos := "l09_policy.go:179", after := #[{ on := 6, ground := Ground.data }], guard := none }) (v := ?vr53) rfl (by kernel_rfl) (by kernel_rfl) (by kernel_rfl) (fun _ _ _ h => h) (Or.inl ⟨by rfl, ?hyr53⟩) hHeld ?restr53
                    case hyr53 => (intro w hSw; (try dsimp only at hSw); go_simp; first | done | (rw [if_neg (by omega)]; done) | (rw [if_neg (by omega)]; with_reducible rfl) | with_reducible rfl)
                    simp only [Act.put, List.setIfInBounds_toArray, List.set_cons_zero, List.set_cons_succ]
                    refine wpAnyH_take (i := 11) (oi := { dst := some 32, op := Op.binOp BinOp.add 9 (Operand.tmp 28) (Operand.tmp 31) 9, type := 9, pos := "l09_policy.go:179", after := #[{ on := 7, ground := Ground.data }, { on := 10, ground := Ground.data }], guard := none }) (v := ?vr54) rfl (by kernel_rfl) (by kernel_rfl) (by kernel_rfl) (fun _ _ _ h => h) (Or.inl ⟨by rfl, ?hyr54⟩) hHeld ?restr54
                    case hyr54 => (intro w hSw; (try dsimp only at hSw); go_simp; first | done | (rw [if_neg (by omega)]; done) | (rw [if_neg (by omega)]; with_reducible rfl) | with_reducible rfl)
                    simp only [Act.put, List.setIfInBounds_toArray, List.set_cons_zero, List.set_cons_succ]
                    refine wpAnyH_take (i := 12) (oi := { dst := some 33, op := Op.binOp BinOp.add 9 (Operand.tmp 32) (Operand.const (Value.string { data := #[32, 100, 111, 32] })) 9, type := 9, pos := "l09_policy.go:179", after := #[{ on := 11, ground := Ground.data }], guard := none }) (v := ?vr55) rfl (by kernel_rfl) (by kernel_rfl) (by kernel_rfl) (fun _ _ _ h => h) (Or.inl ⟨by rfl, ?hyr55⟩) hHeld ?restr55
                    case hyr55 => (intro w hSw; (try dsimp only at hSw); go_simp; first | done | (rw [if_neg (by omega)]; done) | (rw [if_neg (by omega)]; with_reducible rfl) | with_reducible rfl)
                    simp only [Act.put, List.setIfInBounds_toArray, List.set_cons_zero, List.set_cons_succ]
                    refine wpAnyH_take (i := 16) (oi := { dst := some 37, op := Op.binOp BinOp.add 9 (Operand.tmp 33) (Operand.tmp 36) 9, type := 9, pos := "l09_policy.go:179", after := #[{ on := 12, ground := Ground.data }, { on := 15, ground := Ground.data }], guard := none }) (v := ?vr56) rfl (by kernel_rfl) (by kernel_rfl) (by kernel_rfl) (fun _ _ _ h => h) (Or.inl ⟨by rfl, ?hyr56⟩) hHeld ?restr56
                    case hyr56 => (intro w hSw; (try dsimp only at hSw); go_simp; first | done | (rw [if_neg (by omega)]; done) | (rw [if_neg (by omega)]; with_reducible rfl) | with_reducible rfl)
                    simp only [Act.put, List.setIfInBounds_toArray, List.set_cons_zero, List.set_cons_succ]
                    refine wpAnyH_take (i := 17) (oi := { dst := some 38, op := Op.binOp BinOp.add 9 (Operand.tmp 37) (Operand.const (Value.string { data := #[32, 111, 110, 32] })) 9, type := 9, pos := "l09_policy.go:179", after := #[{ on := 16, ground := Ground.data }], guard := none }) (v := ?vr57) rfl (by kernel_rfl) (by kernel_rfl) (by kernel_rfl) (fun _ _ _ h => h) (Or.inl ⟨by rfl, ?hyr57⟩) hHeld ?restr57
                    case hyr57 => (intro w hSw; (try dsimp only at hSw); go_simp; first | done | (rw [if_neg (by omega)]; done) | (rw [if_neg (by omega)]; with_reducible rfl) | with_reducible rfl)
                    simp only [Act.put, List.setIfInBounds_toArray, List.set_cons_zero, List.set_cons_succ]
                    refine wpAnyH_ready (rs := [20]) (by kernel_rfl) (by simp) ?_
                    refine AllReadyH.cons (o := { dst := some 41, op := Op.call { callee := Callee.value (Operand.func 29), args := #[Operand.tmp 40], argTypes := #[70] }, type := 9, pos := "l09_policy.go:179", after := #[{ on := 19, ground := Ground.data }, { on := 15, ground := Ground.chain }], guard := none }) rfl (fun K hK => ?_) AllReadyH.nil
                    go_simp
                    refine (J3 _ (by first | exact BD.out | exact BA.out _ | exact BX.out _)).out.mono ?_
                    rintro e w5 ⟨⟨q3, rfl, hq3, hz3⟩, hw5⟩
                    obtain rfl := hw5.symm
                    have Q3 := hid hq3
                    clear hq3
                    go_wp2_with fail
                    refine hK.out _ _ ?_ (fun hHeld => ?_)
                    · first | exact ⟨A2.out.cell 0, A2.out.cell 1, A2.out.cell 2, A2.out.cell 3⟩ | exact ⟨(A2.out.alloc _).cell 0, (A2.out.alloc _).cell 1, (A2.out.alloc _).cell 2, (A2.out.alloc _).cell 3⟩
                    clear hK K
                    try simp only [Act.put, List.setIfInBounds_toArray, List.set_cons_zero, List.set_cons_succ]
                    refine wpAnyH_take (i := 21) (oi := { dst := some 42, op := Op.binOp BinOp.add 9 (Operand.tmp 38) (Operand.tmp 41) 9, type := 9, pos := "l09_policy.go:179", after := #[{ on := 17, ground := Ground.data }, { on := 20, ground := Ground.data }], guard := none }) (v := ?vr58) rfl (by kernel_rfl) (by kernel_rfl) (by kernel_rfl) (fun _ _ _ h => h) (Or.inl ⟨by rfl, ?hyr58⟩) hHeld ?restr58
                    case hyr58 => (intro w hSw; (try dsimp only at hSw); go_simp; first | done | (rw [if_neg (by omega)]; done) | (rw [if_neg (by omega)]; with_reducible rfl) | with_reducible rfl)
                    simp only [Act.put, List.setIfInBounds_toArray, List.set_cons_zero, List.set_cons_succ]
                    refine wpAnyH_take (i := 22) (oi := { dst := some 3, op := Op.assign (Operand.tmp 42), type := 9, pos := "l09_policy.go:179", after := #[{ on := 21, ground := Ground.data }, { on := 20, ground := Ground.chain }, { on := 0, ground := Ground.phase }, { on := 1, ground := Ground.phase }, { on := 2, ground := Ground.phase }, { on := 3, ground := Ground.phase }, { on := 4, ground := Ground.phase }, { on := 5, ground := Ground.phase }, { on := 6, ground := Ground.phase }, { on := 7, ground := Ground.phase }, { on := 8, ground := Ground.phase }, { on := 9, ground := Ground.phase }, { on := 10, ground := Ground.phase }, { on := 11, ground := Ground.phase }, { on := 12, ground := Ground.phase }, { on := 13, ground := Ground.phase }, { on := 14, ground := Ground.phase }, { on := 15, ground := Ground.phase }, { on := 16, ground := Ground.phase }, { on := 17, ground := Ground.phase }, { on := 18, ground := Ground.phase }, { on := 19, ground := Ground.phase }, { on := 20, ground := Ground.phase }, { on := 21, ground := Ground.phase }], guard := none }) (v := ?vr59) rfl (by kernel_rfl) (by kernel_rfl) (by kernel_rfl) (fun _ _ _ h => h) (Or.inl ⟨by rfl, ?hyr59⟩) hHeld ?restr59
                    case hyr59 => (intro w hSw; (try dsimp only at hSw); go_simp; first | done | (rw [if_neg (by omega)]; done) | (rw [if_neg (by omega)]; with_reducible rfl) | with_reducible rfl)
                    simp only [Act.put, List.setIfInBounds_toArray, List.set_cons_zero, List.set_cons_succ]
                    refine wpAnyH_done (by kernel_rfl) ?_ _
                    go_wp2
                    go_meet
                    exact ⟨⟨_, rfl, by simp only [ba_app, HL.out, Q1.out, Q2.out, Q3.out]; unfold lnH ew; simp, by simp only [sizeApp]; show t.size + 5 + 5 + q1.size + 4 + q2.size + 4 + q3.size ≤ 30000; omega⟩, by first | exact BD.out | exact BA.out _ | exact BX.out _⟩
                  · go_simp
                    refine (J3 _ (by first | exact BD.out | exact BA.out _ | exact BX.out _)).out.mono ?_
                    rintro e w5 ⟨⟨q3, rfl, hq3, hz3⟩, hw5⟩
                    obtain rfl := hw5.symm
                    have Q3 := hid hq3
                    clear hq3
                    go_wp2_with fail
                    refine hK.out _ _ ?_ (fun hHeld => ?_)
                    · first | exact ⟨A2.out.cell 0, A2.out.cell 1, A2.out.cell 2, A2.out.cell 3⟩ | exact ⟨(A2.out.alloc _).cell 0, (A2.out.alloc _).cell 1, (A2.out.alloc _).cell 2, (A2.out.alloc _).cell 3⟩
                    clear hK K
                    try simp only [Act.put, List.setIfInBounds_toArray, List.set_cons_zero, List.set_cons_succ]
                    refine wpAnyH_ready (rs := [5]) (by kernel_rfl) (by simp) ?_
                    refine AllReadyH.cons (o := { dst := some 26, op := Op.load 9 (Operand.tmp 25), type := 9, pos := "l09_policy.go:179", after := #[{ on := 4, ground := Ground.data }], guard := none }) rfl (fun K hK => ?_) AllReadyH.nil
                    go_simp
                    refine hK.out _ _ ?_ (fun hHeld => ?_)
                    · first | exact ⟨A2.out.cell 0, A2.out.cell 1, A2.out.cell 2, A2.out.cell 3⟩ | exact ⟨(A2.out.alloc _).cell 0, (A2.out.alloc _).cell 1, (A2.out.alloc _).cell 2, (A2.out.alloc _).cell 3⟩
                    clear hK K
                    try simp only [Act.put, List.setIfInBounds_toArray, List.set_cons_zero, List.set_cons_succ]
                    refine wpAnyH_take (i := 6) (oi := { dst := some 27, op := Op.binOp BinOp.add 9 (Operand.tmp 21) (Operand.tmp 26) 9, type := 9, pos := "l09_policy.go:179", after := #[{ on := 0, ground := Ground.data }, { on := 5, ground := Ground.data }], guard := none }) (v := ?vr60) rfl (by kernel_rfl) (by kernel_rfl) (by kernel_rfl) (fun _ _ _ h => h) (Or.inl ⟨by rfl, ?hyr60⟩) hHeld ?restr60
                    case hyr60 => (intro w hSw; (try dsimp only at hSw); go_simp; first | done | (rw [if_neg (by omega)]; done) | (rw [if_neg (by omega)]; with_reducible rfl) | with_reducible rfl)
                    simp only [Act.put, List.setIfInBounds_toArray, List.set_cons_zero, List.set_cons_succ]
                    refine wpAnyH_take (i := 7) (oi := { dst := some 28, op := Op.binOp BinOp.add 9 (Operand.tmp 27) (Operand.const (Value.string { data := #[32, 119, 104, 111, 32] })) 9, type := 9, pos := "l09_policy.go:179", after := #[{ on := 6, ground := Ground.data }], guard := none }) (v := ?vr61) rfl (by kernel_rfl) (by kernel_rfl) (by kernel_rfl) (fun _ _ _ h => h) (Or.inl ⟨by rfl, ?hyr61⟩) hHeld ?restr61
                    case hyr61 => (intro w hSw; (try dsimp only at hSw); go_simp; first | done | (rw [if_neg (by omega)]; done) | (rw [if_neg (by omega)]; with_reducible rfl) | with_reducible rfl)
                    simp only [Act.put, List.setIfInBounds_toArray, List.set_cons_zero, List.set_cons_succ]
                    refine wpAnyH_take (i := 11) (oi := { dst := some 32, op := Op.binOp BinOp.add 9 (Operand.tmp 28) (Operand.tmp 31) 9, type := 9, pos := "l09_policy.go:179", after := #[{ on := 7, ground := Ground.data }, { on := 10, ground := Ground.data }], guard := none }) (v := ?vr62) rfl (by kernel_rfl) (by kernel_rfl) (by kernel_rfl) (fun _ _ _ h => h) (Or.inl ⟨by rfl, ?hyr62⟩) hHeld ?restr62
                    case hyr62 => (intro w hSw; (try dsimp only at hSw); go_simp; first | done | (rw [if_neg (by omega)]; done) | (rw [if_neg (by omega)]; with_reducible rfl) | with_reducible rfl)
                    simp only [Act.put, List.setIfInBounds_toArray, List.set_cons_zero, List.set_cons_succ]
                    refine wpAnyH_take (i := 12) (oi := { dst := some 33, op := Op.binOp BinOp.add 9 (Operand.tmp 32) (Operand.const (Value.string { data := #[32, 100, 111, 32] })) 9, type := 9, pos := "l09_policy.go:179", after := #[{ on := 11, ground := Ground.data }], guard := none }) (v := ?vr63) rfl (by kernel_rfl) (by kernel_rfl) (by kernel_rfl) (fun _ _ _ h => h) (Or.inl ⟨by rfl, ?hyr63⟩) hHeld ?restr63
                    case hyr63 => (intro w hSw; (try dsimp only at hSw); go_simp; first | done | (rw [if_neg (by omega)]; done) | (rw [if_neg (by omega)]; with_reducible rfl) | with_reducible rfl)
                    simp only [Act.put, List.setIfInBounds_toArray, List.set_cons_zero, List.set_cons_succ]
                    refine wpAnyH_take (i := 16) (oi := { dst := some 37, op := Op.binOp BinOp.add 9 (Operand.tmp 33) (Operand.tmp 36) 9, type := 9, pos := "l09_policy.go:179", after := #[{ on := 12, ground := Ground.data }, { on := 15, ground := Ground.data }], guard := none }) (v := ?vr64) rfl (by kernel_rfl) (by kernel_rfl) (by kernel_rfl) (fun _ _ _ h => h) (Or.inl ⟨by rfl, ?hyr64⟩) hHeld ?restr64
                    case hyr64 => (intro w hSw; (try dsimp only at hSw); go_simp; first | done | (rw [if_neg (by omega)]; done) | (rw [if_neg (by omega)]; with_reducible rfl) | with_reducible rfl)
                    simp only [Act.put, List.setIfInBounds_toArray, List.set_cons_zero, List.set_cons_succ]
                    refine wpAnyH_take (i := 17) (oi := { dst := some 38, op := Op.binOp BinOp.add 9 (Operand.tmp 37) (Operand.const (Value.string { data := #[32, 111, 110, 32] })) 9, type := 9, pos := "l09_policy.go:179", after := #[{ on := 16, ground := Ground.data }], guard := none }) (v := ?vr65) rfl (by kernel_rfl) (by kernel_rfl) (by kernel_rfl) (fun _ _ _ h => h) (Or.inl ⟨by rfl, ?hyr65⟩) hHeld ?restr65
                    case hyr65 => (intro w hSw; (try dsimp only at hSw); go_simp; first | done | (rw [if_neg (by omega)]; done) | (rw [if_neg (by omega)]; with_reducible rfl) | with_reducible rfl)
                    simp only [Act.put, List.setIfInBounds_toArray, List.set_cons_zero, List.set_cons_succ]
                    refine wpAnyH_take (i := 21) (oi := { dst := some 42, op := Op.binOp BinOp.add 9 (Operand.tmp 38) (Operand.tmp 41) 9, type := 9, pos := "l09_policy.go:179", after := #[{ on := 17, ground := Ground.data }, { on := 20, ground := Ground.data }], guard := none }) (v := ?vr66) rfl (by kernel_rfl) (by kernel_rfl) (by kernel_rfl) (fun _ _ _ h => h) (Or.inl ⟨by rfl, ?hyr66⟩) hHeld ?restr66
                    case hyr66 => (intro w hSw; (try dsimp only at hSw); go_simp; first | done | (rw [if_neg (by omega)]; done) | (rw [if_neg (by omega)]; with_reducible rfl) | with_reducible rfl)
                    simp only [Act.put, List.setIfInBounds_toArray, List.set_cons_zero, List.set_cons_succ]
                    refine wpAnyH_take (i := 22) (oi := { dst := some 3, op := Op.assign (Operand.tmp 42), type := 9, pos := "l09_policy.go:179", after := #[{ on := 21, ground := Ground.data }, { on := 20, ground := Ground.chain }, { on := 0, ground := Ground.phase }, { on := 1, ground := Ground.phase }, { on := 2, ground := Ground.phase }, { on := 3, ground := Ground.phase }, { on := 4, ground := Ground.phase }, { on := 5, ground := Ground.phase }, { on := 6, ground := Ground.phase }, { on := 7, ground := Ground.phase }, { on := 8, ground := Ground.phase }, { on := 9, ground := Ground.phase }, { on := 10, ground := Ground.phase }, { on := 11, ground := Ground.phase }, { on := 12, ground := Ground.phase }, { on := 13, ground := Ground.phase }, { on := 14, ground := Ground.phase }, { on := 15, ground := Ground.phase }, { on := 16, ground := Ground.phase }, { on := 17, ground := Ground.phase }, { on := 18, ground := Ground.phase }, { on := 19, ground := Ground.phase }, { on := 20, ground := Ground.phase }, { on := 21, ground := Ground.phase }], guard := none }) (v := ?vr67) rfl (by kernel_rfl) (by kernel_rfl) (by kernel_rfl) (fun _ _ _ h => h) (Or.inl ⟨by rfl, ?hyr67⟩) hHeld ?restr67
                    case hyr67 => (intro w hSw; (try dsimp only at hSw); go_simp; first | done | (rw [if_neg (by omega)]; done) | (rw [if_neg (by omega)]; with_reducible rfl) | with_reducible rfl)
                    simp only [Act.put, List.setIfInBounds_toArray, List.set_cons_zero, List.set_cons_succ]
                    refine wpAnyH_done (by kernel_rfl) ?_ _
                    go_wp2
                    go_meet
                    exact ⟨⟨_, rfl, by simp only [ba_app, HL.out, Q1.out, Q2.out, Q3.out]; unfold lnH ew; simp, by simp only [sizeApp]; show t.size + 5 + 5 + q1.size + 4 + q2.size + 4 + q3.size ≤ 30000; omega⟩, by first | exact BD.out | exact BA.out _ | exact BX.out _⟩
              · go_simp
                refine (J2 _ (by first | exact BD.out | exact BA.out _ | exact BX.out _)).out.mono ?_
                rintro e w5 ⟨⟨q2, rfl, hq2, hz2⟩, hw5⟩
                obtain rfl := hw5.symm
                have Q2 := hid hq2
                clear hq2
                go_wp2_with fail
                refine hK.out _ _ ?_ (fun hHeld => ?_)
                · first | exact ⟨A2.out.cell 0, A2.out.cell 1, A2.out.cell 2, A2.out.cell 3⟩ | exact ⟨(A2.out.alloc _).cell 0, (A2.out.alloc _).cell 1, (A2.out.alloc _).cell 2, (A2.out.alloc _).cell 3⟩
                clear hK K
                try simp only [Act.put, List.setIfInBounds_toArray, List.set_cons_zero, List.set_cons_succ]
                refine wpAnyH_ready (rs := [1, 20]) (by kernel_rfl) (by simp) ?_
                refine AllReadyH.cons (o := { dst := some 22, op := Op.buildSlice 70 3 #[(0, Operand.const (Value.string { data := #[] })), (1, Operand.const (Value.string { data := #[97, 108, 108, 111, 119] })), (2, Operand.const (Value.string { data := #[100, 101, 110, 121] }))], type := 70, pos := "l09_policy.go:179", after := #[], guard := none }) rfl (fun K hK => ?_) (AllReadyH.cons (o := { dst := some 41, op := Op.call { callee := Callee.value (Operand.func 29), args := #[Operand.tmp 40], argTypes := #[70] }, type := 9, pos := "l09_policy.go:179", after := #[{ on := 19, ground := Ground.data }, { on := 15, ground := Ground.chain }], guard := none }) rfl (fun K hK => ?_) AllReadyH.nil)
                · go_simp
                  refine hK.out _ _ ?_ (fun hHeld => ?_)
                  · first | exact ⟨A2.out.cell 0, A2.out.cell 1, A2.out.cell 2, A2.out.cell 3⟩ | exact ⟨(A2.out.alloc _).cell 0, (A2.out.alloc _).cell 1, (A2.out.alloc _).cell 2, (A2.out.alloc _).cell 3⟩
                  clear hK K
                  try simp only [Act.put, List.setIfInBounds_toArray, List.set_cons_zero, List.set_cons_succ]
                  refine wpAnyH_take (i := 4) (oi := { dst := some 25, op := Op.indexAddr 70 (Operand.tmp 22) (Operand.tmp 24), type := 0, pos := "l09_policy.go:179", after := #[{ on := 1, ground := Ground.data }, { on := 3, ground := Ground.data }], guard := none }) (v := ?vr68) rfl (by kernel_rfl) (by kernel_rfl) (by kernel_rfl) (fun _ _ _ h => h) (Or.inl ⟨by rfl, ?hyr68⟩) hHeld ?restr68
                  case hyr68 => (intro w hSw; (try dsimp only at hSw); go_simp; first | done | (rw [if_neg (by omega)]; done) | (rw [if_neg (by omega)]; with_reducible rfl) | with_reducible rfl)
                  simp only [Act.put, List.setIfInBounds_toArray, List.set_cons_zero, List.set_cons_succ]
                  refine wpAnyH_ready (rs := [5, 20]) (by kernel_rfl) (by simp) ?_
                  refine AllReadyH.cons (o := { dst := some 26, op := Op.load 9 (Operand.tmp 25), type := 9, pos := "l09_policy.go:179", after := #[{ on := 4, ground := Ground.data }], guard := none }) rfl (fun K hK => ?_) (AllReadyH.cons (o := { dst := some 41, op := Op.call { callee := Callee.value (Operand.func 29), args := #[Operand.tmp 40], argTypes := #[70] }, type := 9, pos := "l09_policy.go:179", after := #[{ on := 19, ground := Ground.data }, { on := 15, ground := Ground.chain }], guard := none }) rfl (fun K hK => ?_) AllReadyH.nil)
                  · go_simp
                    refine hK.out _ _ ?_ (fun hHeld => ?_)
                    · first | exact ⟨A2.out.cell 0, A2.out.cell 1, A2.out.cell 2, A2.out.cell 3⟩ | exact ⟨(A2.out.alloc _).cell 0, (A2.out.alloc _).cell 1, (A2.out.alloc _).cell 2, (A2.out.alloc _).cell 3⟩
                    clear hK K
                    try simp only [Act.put, List.setIfInBounds_toArray, List.set_cons_zero, List.set_cons_succ]
                    refine wpAnyH_take (i := 6) (oi := { dst := some 27, op := Op.binOp BinOp.add 9 (Operand.tmp 21) (Operand.tmp 26) 9, type := 9, pos := "l09_policy.go:179", after := #[{ on := 0, ground := Ground.data }, { on := 5, ground := Ground.data }], guard := none }) (v := ?vr69) rfl (by kernel_rfl) (by kernel_rfl) (by kernel_rfl) (fun _ _ _ h => h) (Or.inl ⟨by rfl, ?hyr69⟩) hHeld ?restr69
                    case hyr69 => (intro w hSw; (try dsimp only at hSw); go_simp; first | done | (rw [if_neg (by omega)]; done) | (rw [if_neg (by omega)]; with_reducible rfl) | with_reducible rfl)
                    simp only [Act.put, List.setIfInBounds_toArray, List.set_cons_zero, List.set_cons_succ]
                    refine wpAnyH_take (i := 7) (oi := { dst := some 28, op := Op.binOp BinOp.add 9 (Operand.tmp 27) (Operand.const (Value.string { data := #[32, 119, 104, 111, 32] })) 9, type := 9, pos := "l09_policy.go:179", after := #[{ on := 6, ground := Ground.data }], guard := none }) (v := ?vr70) rfl (by kernel_rfl) (by kernel_rfl) (by kernel_rfl) (fun _ _ _ h => h) (Or.inl ⟨by rfl, ?hyr70⟩) hHeld ?restr70
                    case hyr70 => (intro w hSw; (try dsimp only at hSw); go_simp; first | done | (rw [if_neg (by omega)]; done) | (rw [if_neg (by omega)]; with_reducible rfl) | with_reducible rfl)
                    simp only [Act.put, List.setIfInBounds_toArray, List.set_cons_zero, List.set_cons_succ]
                    refine wpAnyH_take (i := 11) (oi := { dst := some 32, op := Op.binOp BinOp.add 9 (Operand.tmp 28) (Operand.tmp 31) 9, type := 9, pos := "l09_policy.go:179", after := #[{ on := 7, ground := Ground.data }, { on := 10, ground := Ground.data }], guard := none }) (v := ?vr71) rfl (by kernel_rfl) (by kernel_rfl) (by kernel_rfl) (fun _ _ _ h => h) (Or.inl ⟨by rfl, ?hyr71⟩) hHeld ?restr71
                    case hyr71 => (intro w hSw; (try dsimp only at hSw); go_simp; first | done | (rw [if_neg (by omega)]; done) | (rw [if_neg (by omega)]; with_reducible rfl) | with_reducible rfl)
                    simp only [Act.put, List.setIfInBounds_toArray, List.set_cons_zero, List.set_cons_succ]
                    refine wpAnyH_take (i := 12) (oi := { dst := some 33, op := Op.binOp BinOp.add 9 (Operand.tmp 32) (Operand.const (Value.string { data := #[32, 100, 111, 32] })) 9, type := 9, pos := "l09_policy.go:179", after := #[{ on := 11, ground := Ground.data }], guard := none }) (v := ?vr72) rfl (by kernel_rfl) (by kernel_rfl) (by kernel_rfl) (fun _ _ _ h => h) (Or.inl ⟨by rfl, ?hyr72⟩) hHeld ?restr72
                    case hyr72 => (intro w hSw; (try dsimp only at hSw); go_simp; first | done | (rw [if_neg (by omega)]; done) | (rw [if_neg (by omega)]; with_reducible rfl) | with_reducible rfl)
                    simp only [Act.put, List.setIfInBounds_toArray, List.set_cons_zero, List.set_cons_succ]
                    refine wpAnyH_take (i := 16) (oi := { dst := some 37, op := Op.binOp BinOp.add 9 (Operand.tmp 33) (Operand.tmp 36) 9, type := 9, pos := "l09_policy.go:179", after := #[{ on := 12, ground := Ground.data }, { on := 15, ground := Ground.data }], guard := none }) (v := ?vr73) rfl (by kernel_rfl) (by kernel_rfl) (by kernel_rfl) (fun _ _ _ h => h) (Or.inl ⟨by rfl, ?hyr73⟩) hHeld ?restr73
                    case hyr73 => (intro w hSw; (try dsimp only at hSw); go_simp; first | done | (rw [if_neg (by omega)]; done) | (rw [if_neg (by omega)]; with_reducible rfl) | with_reducible rfl)
                    simp only [Act.put, List.setIfInBounds_toArray, List.set_cons_zero, List.set_cons_succ]
                    refine wpAnyH_take (i := 17) (oi := { dst := some 38, op := Op.binOp BinOp.add 9 (Operand.tmp 37) (Operand.const (Value.string { data := #[32, 111, 110, 32] })) 9, type := 9, pos := "l09_policy.go:179", after := #[{ on := 16, ground := Ground.data }], guard := none }) (v := ?vr74) rfl (by kernel_rfl) (by kernel_rfl) (by kernel_rfl) (fun _ _ _ h => h) (Or.inl ⟨by rfl, ?hyr74⟩) hHeld ?restr74
                    case hyr74 => (intro w hSw; (try dsimp only at hSw); go_simp; first | done | (rw [if_neg (by omega)]; done) | (rw [if_neg (by omega)]; with_reducible rfl) | with_reducible rfl)
                    simp only [Act.put, List.setIfInBounds_toArray, List.set_cons_zero, List.set_cons_succ]
                    refine wpAnyH_ready (rs := [20]) (by kernel_rfl) (by simp) ?_
                    refine AllReadyH.cons (o := { dst := some 41, op := Op.call { callee := Callee.value (Operand.func 29), args := #[Operand.tmp 40], argTypes := #[70] }, type := 9, pos := "l09_policy.go:179", after := #[{ on := 19, ground := Ground.data }, { on := 15, ground := Ground.chain }], guard := none }) rfl (fun K hK => ?_) AllReadyH.nil
                    go_simp
                    refine (J3 _ (by first | exact BD.out | exact BA.out _ | exact BX.out _)).out.mono ?_
                    rintro e w5 ⟨⟨q3, rfl, hq3, hz3⟩, hw5⟩
                    obtain rfl := hw5.symm
                    have Q3 := hid hq3
                    clear hq3
                    go_wp2_with fail
                    refine hK.out _ _ ?_ (fun hHeld => ?_)
                    · first | exact ⟨A2.out.cell 0, A2.out.cell 1, A2.out.cell 2, A2.out.cell 3⟩ | exact ⟨(A2.out.alloc _).cell 0, (A2.out.alloc _).cell 1, (A2.out.alloc _).cell 2, (A2.out.alloc _).cell 3⟩
                    clear hK K
                    try simp only [Act.put, List.setIfInBounds_toArray, List.set_cons_zero, List.set_cons_succ]
                    refine wpAnyH_take (i := 21) (oi := { dst := some 42, op := Op.binOp BinOp.add 9 (Operand.tmp 38) (Operand.tmp 41) 9, type := 9, pos := "l09_policy.go:179", after := #[{ on := 17, ground := Ground.data }, { on := 20, ground := Ground.data }], guard := none }) (v := ?vr75) rfl (by kernel_rfl) (by kernel_rfl) (by kernel_rfl) (fun _ _ _ h => h) (Or.inl ⟨by rfl, ?hyr75⟩) hHeld ?restr75
                    case hyr75 => (intro w hSw; (try dsimp only at hSw); go_simp; first | done | (rw [if_neg (by omega)]; done) | (rw [if_neg (by omega)]; with_reducible rfl) | with_reducible rfl)
                    simp only [Act.put, List.setIfInBounds_toArray, List.set_cons_zero, List.set_cons_succ]
                    refine wpAnyH_take (i := 22) (oi := { dst := some 3, op := Op.assign (Operand.tmp 42), type := 9, pos := "l09_policy.go:179", after := #[{ on := 21, ground := Ground.data }, { on := 20, ground := Ground.chain }, { on := 0, ground := Ground.phase }, { on := 1, ground := Ground.phase }, { on := 2, ground := Ground.phase }, { on := 3, ground := Ground.phase }, { on := 4, ground := Ground.phase }, { on := 5, ground := Ground.phase }, { on := 6, ground := Ground.phase }, { on := 7, ground := Ground.phase }, { on := 8, ground := Ground.phase }, { on := 9, ground := Ground.phase }, { on := 10, ground := Ground.phase }, { on := 11, ground := Ground.phase }, { on := 12, ground := Ground.phase }, { on := 13, ground := Ground.phase }, { on := 14, ground := Ground.phase }, { on := 15, ground := Ground.phase }, { on := 16, ground := Ground.phase }, { on := 17, ground := Ground.phase }, { on := 18, ground := Ground.phase }, { on := 19, ground := Ground.phase }, { on := 20, ground := Ground.phase }, { on := 21, ground := Ground.phase }], guard := none }) (v := ?vr76) rfl (by kernel_rfl) (by kernel_rfl) (by kernel_rfl) (fun _ _ _ h => h) (Or.inl ⟨by rfl, ?hyr76⟩) hHeld ?restr76
                    case hyr76 => (intro w hSw; (try dsimp only at hSw); go_simp; first | done | (rw [if_neg (by omega)]; done) | (rw [if_neg (by omega)]; with_reducible rfl) | with_reducible rfl)
                    simp only [Act.put, List.setIfInBounds_toArray, List.set_cons_zero, List.set_cons_succ]
                    refine wpAnyH_done (by kernel_rfl) ?_ _
                    go_wp2
                    go_meet
                    exact ⟨⟨_, rfl, by simp only [ba_app, HL.out, Q1.out, Q2.out, Q3.out]; unfold lnH ew; simp, by simp only [sizeApp]; show t.size + 5 + 5 + q1.size + 4 + q2.size + 4 + q3.size ≤ 30000; omega⟩, by first | exact BD.out | exact BA.out _ | exact BX.out _⟩
                  · go_simp
                    refine (J3 _ (by first | exact BD.out | exact BA.out _ | exact BX.out _)).out.mono ?_
                    rintro e w5 ⟨⟨q3, rfl, hq3, hz3⟩, hw5⟩
                    obtain rfl := hw5.symm
                    have Q3 := hid hq3
                    clear hq3
                    go_wp2_with fail
                    refine hK.out _ _ ?_ (fun hHeld => ?_)
                    · first | exact ⟨A2.out.cell 0, A2.out.cell 1, A2.out.cell 2, A2.out.cell 3⟩ | exact ⟨(A2.out.alloc _).cell 0, (A2.out.alloc _).cell 1, (A2.out.alloc _).cell 2, (A2.out.alloc _).cell 3⟩
                    clear hK K
                    try simp only [Act.put, List.setIfInBounds_toArray, List.set_cons_zero, List.set_cons_succ]
                    refine wpAnyH_ready (rs := [5]) (by kernel_rfl) (by simp) ?_
                    refine AllReadyH.cons (o := { dst := some 26, op := Op.load 9 (Operand.tmp 25), type := 9, pos := "l09_policy.go:179", after := #[{ on := 4, ground := Ground.data }], guard := none }) rfl (fun K hK => ?_) AllReadyH.nil
                    go_simp
                    refine hK.out _ _ ?_ (fun hHeld => ?_)
                    · first | exact ⟨A2.out.cell 0, A2.out.cell 1, A2.out.cell 2, A2.out.cell 3⟩ | exact ⟨(A2.out.alloc _).cell 0, (A2.out.alloc _).cell 1, (A2.out.alloc _).cell 2, (A2.out.alloc _).cell 3⟩
                    clear hK K
                    try simp only [Act.put, List.setIfInBounds_toArray, List.set_cons_zero, List.set_cons_succ]
                    refine wpAnyH_take (i := 6) (oi := { dst := some 27, op := Op.binOp BinOp.add 9 (Operand.tmp 21) (Operand.tmp 26) 9, type := 9, pos := "l09_policy.go:179", after := #[{ on := 0, ground := Ground.data }, { on := 5, ground := Ground.data }], guard := none }) (v := ?vr77) rfl (by kernel_rfl) (by kernel_rfl) (by kernel_rfl) (fun _ _ _ h => h) (Or.inl ⟨by rfl, ?hyr77⟩) hHeld ?restr77
                    case hyr77 => (intro w hSw; (try dsimp only at hSw); go_simp; first | done | (rw [if_neg (by omega)]; done) | (rw [if_neg (by omega)]; with_reducible rfl) | with_reducible rfl)
                    simp only [Act.put, List.setIfInBounds_toArray, List.set_cons_zero, List.set_cons_succ]
                    refine wpAnyH_take (i := 7) (oi := { dst := some 28, op := Op.binOp BinOp.add 9 (Operand.tmp 27) (Operand.const (Value.string { data := #[32, 119, 104, 111, 32] })) 9, type := 9, pos := "l09_policy.go:179", after := #[{ on := 6, ground := Ground.data }], guard := none }) (v := ?vr78) rfl (by kernel_rfl) (by kernel_rfl) (by kernel_rfl) (fun _ _ _ h => h) (Or.inl ⟨by rfl, ?hyr78⟩) hHeld ?restr78
                    case hyr78 => (intro w hSw; (try dsimp only at hSw); go_simp; first | done | (rw [if_neg (by omega)]; done) | (rw [if_neg (by omega)]; with_reducible rfl) | with_reducible rfl)
                    simp only [Act.put, List.setIfInBounds_toArray, List.set_cons_zero, List.set_cons_succ]
                    refine wpAnyH_take (i := 11) (oi := { dst := some 32, op := Op.binOp BinOp.add 9 (Operand.tmp 28) (Operand.tmp 31) 9, type := 9, pos := "l09_policy.go:179", after := #[{ on := 7, ground := Ground.data }, { on := 10, ground := Ground.data }], guard := none }) (v := ?vr79) rfl (by kernel_rfl) (by kernel_rfl) (by kernel_rfl) (fun _ _ _ h => h) (Or.inl ⟨by rfl, ?hyr79⟩) hHeld ?restr79
                    case hyr79 => (intro w hSw; (try dsimp only at hSw); go_simp; first | done | (rw [if_neg (by omega)]; done) | (rw [if_neg (by omega)]; with_reducible rfl) | with_reducible rfl)
                    simp only [Act.put, List.setIfInBounds_toArray, List.set_cons_zero, List.set_cons_succ]
                    refine wpAnyH_take (i := 12) (oi := { dst := some 33, op := Op.binOp BinOp.add 9 (Operand.tmp 32) (Operand.const (Value.string { data := #[32, 100, 111, 32] })) 9, type := 9, pos := "l09_policy.go:179", after := #[{ on := 11, ground := Ground.data }], guard := none }) (v := ?vr80) rfl (by kernel_rfl) (by kernel_rfl) (by kernel_rfl) (fun _ _ _ h => h) (Or.inl ⟨by rfl, ?hyr80⟩) hHeld ?restr80
                    case hyr80 => (intro w hSw; (try dsimp only at hSw); go_simp; first | done | (rw [if_neg (by omega)]; done) | (rw [if_neg (by omega)]; with_reducible rfl) | with_reducible rfl)
                    simp only [Act.put, List.setIfInBounds_toArray, List.set_cons_zero, List.set_cons_succ]
                    refine wpAnyH_take (i := 16) (oi := { dst := some 37, op := Op.binOp BinOp.add 9 (Operand.tmp 33) (Operand.tmp 36) 9, type := 9, pos := "l09_policy.go:179", after := #[{ on := 12, ground := Ground.data }, { on := 15, ground := Ground.data }], guard := none }) (v := ?vr81) rfl (by kernel_rfl) (by kernel_rfl) (by kernel_rfl) (fun _ _ _ h => h) (Or.inl ⟨by rfl, ?hyr81⟩) hHeld ?restr81
                    case hyr81 => (intro w hSw; (try dsimp only at hSw); go_simp; first | done | (rw [if_neg (by omega)]; done) | (rw [if_neg (by omega)]; with_reducible rfl) | with_reducible rfl)
                    simp only [Act.put, List.setIfInBounds_toArray, List.set_cons_zero, List.set_cons_succ]
                    refine wpAnyH_take (i := 17) (oi := { dst := some 38, op := Op.binOp BinOp.add 9 (Operand.tmp 37) (Operand.const (Value.string { data := #[32, 111, 110, 32] })) 9, type := 9, pos := "l09_policy.go:179", after := #[{ on := 16, ground := Ground.data }], guard := none }) (v := ?vr82) rfl (by kernel_rfl) (by kernel_rfl) (by kernel_rfl) (fun _ _ _ h => h) (Or.inl ⟨by rfl, ?hyr82⟩) hHeld ?restr82
                    case hyr82 => (intro w hSw; (try dsimp only at hSw); go_simp; first | done | (rw [if_neg (by omega)]; done) | (rw [if_neg (by omega)]; with_reducible rfl) | with_reducible rfl)
                    simp only [Act.put, List.setIfInBounds_toArray, List.set_cons_zero, List.set_cons_succ]
                    refine wpAnyH_take (i := 21) (oi := { dst := some 42, op := Op.binOp BinOp.add 9 (Operand.tmp 38) (Operand.tmp 41) 9, type := 9, pos := "l09_policy.go:179", after := #[{ on := 17, ground := Ground.data }, { on := 20, ground := Ground.data }], guard := none }) (v := ?vr83) rfl (by kernel_rfl) (by kernel_rfl) (by kernel_rfl) (fun _ _ _ h => h) (Or.inl ⟨by rfl, ?hyr83⟩) hHeld ?restr83
                    case hyr83 => (intro w hSw; (try dsimp only at hSw); go_simp; first | done | (rw [if_neg (by omega)]; done) | (rw [if_neg (by omega)]; with_reducible rfl) | with_reducible rfl)
                    simp only [Act.put, List.setIfInBounds_toArray, List.set_cons_zero, List.set_cons_succ]
                    refine wpAnyH_take (i := 22) (oi := { dst := some 3, op := Op.assign (Operand.tmp 42), type := 9, pos := "l09_policy.go:179", after := #[{ on := 21, ground := Ground.data }, { on := 20, ground := Ground.chain }, { on := 0, ground := Ground.phase }, { on := 1, ground := Ground.phase }, { on := 2, ground := Ground.phase }, { on := 3, ground := Ground.phase }, { on := 4, ground := Ground.phase }, { on := 5, ground := Ground.phase }, { on := 6, ground := Ground.phase }, { on := 7, ground := Ground.phase }, { on := 8, ground := Ground.phase }, { on := 9, ground := Ground.phase }, { on := 10, ground := Ground.phase }, { on := 11, ground := Ground.phase }, { on := 12, ground := Ground.phase }, { on := 13, ground := Ground.phase }, { on := 14, ground := Ground.phase }, { on := 15, ground := Ground.phase }, { on := 16, ground := Ground.phase }, { on := 17, ground := Ground.phase }, { on := 18, ground := Ground.phase }, { on := 19, ground := Ground.phase }, { on := 20, ground := Ground.phase }, { on := 21, ground := Ground.phase }], guard := none }) (v := ?vr84) rfl (by kernel_rfl) (by kernel_rfl) (by kernel_rfl) (fun _ _ _ h => h) (Or.inl ⟨by rfl, ?hyr84⟩) hHeld ?restr84
                    case hyr84 => (intro w hSw; (try dsimp only at hSw); go_simp; first | done | (rw [if_neg (by omega)]; done) | (rw [if_neg (by omega)]; with_reducible rfl) | with_reducible rfl)
                    simp only [Act.put, List.setIfInBounds_toArray, List.set_cons_zero, List.set_cons_succ]
                    refine wpAnyH_done (by kernel_rfl) ?_ _
                    go_wp2
                    go_meet
                    exact ⟨⟨_, rfl, by simp only [ba_app, HL.out, Q1.out, Q2.out, Q3.out]; unfold lnH ew; simp, by simp only [sizeApp]; show t.size + 5 + 5 + q1.size + 4 + q2.size + 4 + q3.size ≤ 30000; omega⟩, by first | exact BD.out | exact BA.out _ | exact BX.out _⟩
                · go_simp
                  refine (J3 _ (by first | exact BD.out | exact BA.out _ | exact BX.out _)).out.mono ?_
                  rintro e w5 ⟨⟨q3, rfl, hq3, hz3⟩, hw5⟩
                  obtain rfl := hw5.symm
                  have Q3 := hid hq3
                  clear hq3
                  go_wp2_with fail
                  refine hK.out _ _ ?_ (fun hHeld => ?_)
                  · first | exact ⟨A2.out.cell 0, A2.out.cell 1, A2.out.cell 2, A2.out.cell 3⟩ | exact ⟨(A2.out.alloc _).cell 0, (A2.out.alloc _).cell 1, (A2.out.alloc _).cell 2, (A2.out.alloc _).cell 3⟩
                  clear hK K
                  try simp only [Act.put, List.setIfInBounds_toArray, List.set_cons_zero, List.set_cons_succ]
                  refine wpAnyH_ready (rs := [1]) (by kernel_rfl) (by simp) ?_
                  refine AllReadyH.cons (o := { dst := some 22, op := Op.buildSlice 70 3 #[(0, Operand.const (Value.string { data := #[] })), (1, Operand.const (Value.string { data := #[97, 108, 108, 111, 119] })), (2, Operand.const (Value.string { data := #[100, 101, 110, 121] }))], type := 70, pos := "l09_policy.go:179", after := #[], guard := none }) rfl (fun K hK => ?_) AllReadyH.nil
                  go_simp
                  refine hK.out _ _ ?_ (fun hHeld => ?_)
                  · first | exact ⟨A2.out.cell 0, A2.out.cell 1, A2.out.cell 2, A2.out.cell 3⟩ | exact ⟨(A2.out.alloc _).cell 0, (A2.out.alloc _).cell 1, (A2.out.alloc _).cell 2, (A2.out.alloc _).cell 3⟩
                  clear hK K
                  try simp only [Act.put, List.setIfInBounds_toArray, List.set_cons_zero, List.set_cons_succ]
                  refine wpAnyH_take (i := 4) (oi := { dst := some 25, op := Op.indexAddr 70 (Operand.tmp 22) (Operand.tmp 24), type := 0, pos := "l09_policy.go:179", after := #[{ on := 1, ground := Ground.data }, { on := 3, ground := Ground.data }], guard := none }) (v := ?vr85) rfl (by kernel_rfl) (by kernel_rfl) (by kernel_rfl) (fun _ _ _ h => h) (Or.inl ⟨by rfl, ?hyr85⟩) hHeld ?restr85
                  case hyr85 => (intro w hSw; (try dsimp only at hSw); go_simp; first | done | (rw [if_neg (by omega)]; done) | (rw [if_neg (by omega)]; with_reducible rfl) | with_reducible rfl)
                  simp only [Act.put, List.setIfInBounds_toArray, List.set_cons_zero, List.set_cons_succ]
                  refine wpAnyH_ready (rs := [5]) (by kernel_rfl) (by simp) ?_
                  refine AllReadyH.cons (o := { dst := some 26, op := Op.load 9 (Operand.tmp 25), type := 9, pos := "l09_policy.go:179", after := #[{ on := 4, ground := Ground.data }], guard := none }) rfl (fun K hK => ?_) AllReadyH.nil
                  go_simp
                  refine hK.out _ _ ?_ (fun hHeld => ?_)
                  · first | exact ⟨A2.out.cell 0, A2.out.cell 1, A2.out.cell 2, A2.out.cell 3⟩ | exact ⟨(A2.out.alloc _).cell 0, (A2.out.alloc _).cell 1, (A2.out.alloc _).cell 2, (A2.out.alloc _).cell 3⟩
                  clear hK K
                  try simp only [Act.put, List.setIfInBounds_toArray, List.set_cons_zero, List.set_cons_succ]
                  refine wpAnyH_take (i := 6) (oi := { dst := some 27, op := Op.binOp BinOp.add 9 (Operand.tmp 21) (Operand.tmp 26) 9, type := 9, pos := "l09_policy.go:179", after := #[{ on := 0, ground := Ground.data }, { on := 5, ground := Ground.data }], guard := none }) (v := ?vr86) rfl (by kernel_rfl) (by kernel_rfl) (by kernel_rfl) (fun _ _ _ h => h) (Or.inl ⟨by rfl, ?hyr86⟩) hHeld ?restr86
                  case hyr86 => (intro w hSw; (try dsimp only at hSw); go_simp; first | done | (rw [if_neg (by omega)]; done) | (rw [if_neg (by omega)]; with_reducible rfl) | with_reducible rfl)
                  simp only [Act.put, List.setIfInBounds_toArray, List.set_cons_zero, List.set_cons_succ]
                  refine wpAnyH_take (i := 7) (oi := { dst := some 28, op := Op.binOp BinOp.add 9 (Operand.tmp 27) (Operand.const (Value.string { data := #[32, 119, 104, 111, 32] })) 9, type := 9, pos := "l09_policy.go:179", after := #[{ on := 6, ground := Ground.data }], guard := none }) (v := ?vr87) rfl (by kernel_rfl) (by kernel_rfl) (by kernel_rfl) (fun _ _ _ h => h) (Or.inl ⟨by rfl, ?hyr87⟩) hHeld ?restr87
                  case hyr87 => (intro w hSw; (try dsimp only at hSw); go_simp; first | done | (rw [if_neg (by omega)]; done) | (rw [if_neg (by omega)]; with_reducible rfl) | with_reducible rfl)
                  simp only [Act.put, List.setIfInBounds_toArray, List.set_cons_zero, List.set_cons_succ]
                  refine wpAnyH_take (i := 11) (oi := { dst := some 32, op := Op.binOp BinOp.add 9 (Operand.tmp 28) (Operand.tmp 31) 9, type := 9, pos := "l09_policy.go:179", after := #[{ on := 7, ground := Ground.data }, { on := 10, ground := Ground.data }], guard := none }) (v := ?vr88) rfl (by kernel_rfl) (by kernel_rfl) (by kernel_rfl) (fun _ _ _ h => h) (Or.inl ⟨by rfl, ?hyr88⟩) hHeld ?restr88
                  case hyr88 => (intro w hSw; (try dsimp only at hSw); go_simp; first | done | (rw [if_neg (by omega)]; done) | (rw [if_neg (by omega)]; with_reducible rfl) | with_reducible rfl)
                  simp only [Act.put, List.setIfInBounds_toArray, List.set_cons_zero, List.set_cons_succ]
                  refine wpAnyH_take (i := 12) (oi := { dst := some 33, op := Op.binOp BinOp.add 9 (Operand.tmp 32) (Operand.const (Value.string { data := #[32, 100, 111, 32] })) 9, type := 9, pos := "l09_policy.go:179", after := #[{ on := 11, ground := Ground.data }], guard := none }) (v := ?vr89) rfl (by kernel_rfl) (by kernel_rfl) (by kernel_rfl) (fun _ _ _ h => h) (Or.inl ⟨by rfl, ?hyr89⟩) hHeld ?restr89
                  case hyr89 => (intro w hSw; (try dsimp only at hSw); go_simp; first | done | (rw [if_neg (by omega)]; done) | (rw [if_neg (by omega)]; with_reducible rfl) | with_reducible rfl)
                  simp only [Act.put, List.setIfInBounds_toArray, List.set_cons_zero, List.set_cons_succ]
                  refine wpAnyH_take (i := 16) (oi := { dst := some 37, op := Op.binOp BinOp.add 9 (Operand.tmp 33) (Operand.tmp 36) 9, type := 9, pos := "l09_policy.go:179", after := #[{ on := 12, ground := Ground.data }, { on := 15, ground := Ground.data }], guard := none }) (v := ?vr90) rfl (by kernel_rfl) (by kernel_rfl) (by kernel_rfl) (fun _ _ _ h => h) (Or.inl ⟨by rfl, ?hyr90⟩) hHeld ?restr90
                  case hyr90 => (intro w hSw; (try dsimp only at hSw); go_simp; first | done | (rw [if_neg (by omega)]; done) | (rw [if_neg (by omega)]; with_reducible rfl) | with_reducible rfl)
                  simp only [Act.put, List.setIfInBounds_toArray, List.set_cons_zero, List.set_cons_succ]
                  refine wpAnyH_take (i := 17) (oi := { dst := some 38, op := Op.binOp BinOp.add 9 (Operand.tmp 37) (Operand.const (Value.string { data := #[32, 111, 110, 32] })) 9, type := 9, pos := "l09_policy.go:179", after := #[{ on := 16, ground := Ground.data }], guard := none }) (v := ?vr91) rfl (by kernel_rfl) (by kernel_rfl) (by kernel_rfl) (fun _ _ _ h => h) (Or.inl ⟨by rfl, ?hyr91⟩) hHeld ?restr91
                  case hyr91 => (intro w hSw; (try dsimp only at hSw); go_simp; first | done | (rw [if_neg (by omega)]; done) | (rw [if_neg (by omega)]; with_reducible rfl) | with_reducible rfl)
                  simp only [Act.put, List.setIfInBounds_toArray, List.set_cons_zero, List.set_cons_succ]
                  refine wpAnyH_take (i := 21) (oi := { dst := some 42, op := Op.binOp BinOp.add 9 (Operand.tmp 38) (Operand.tmp 41) 9, type := 9, pos := "l09_policy.go:179", after := #[{ on := 17, ground := Ground.data }, { on := 20, ground := Ground.data }], guard := none }) (v := ?vr92) rfl (by kernel_rfl) (by kernel_rfl) (by kernel_rfl) (fun _ _ _ h => h) (Or.inl ⟨by rfl, ?hyr92⟩) hHeld ?restr92
                  case hyr92 => (intro w hSw; (try dsimp only at hSw); go_simp; first | done | (rw [if_neg (by omega)]; done) | (rw [if_neg (by omega)]; with_reducible rfl) | with_reducible rfl)
                  simp only [Act.put, List.setIfInBounds_toArray, List.set_cons_zero, List.set_cons_succ]
                  refine wpAnyH_take (i := 22) (oi := { dst := some 3, op := Op.assign (Operand.tmp 42), type := 9, pos := "l09_policy.go:179", after := #[{ on := 21, ground := Ground.data }, { on := 20, ground := Ground.chain }, { on := 0, ground := Ground.phase }, { on := 1, ground := Ground.phase }, { on := 2, ground := Ground.phase }, { on := 3, ground := Ground.phase }, { on := 4, ground := Ground.phase }, { on := 5, ground := Ground.phase }, { on := 6, ground := Ground.phase }, { on := 7, ground := Ground.phase }, { on := 8, ground := Ground.phase }, { on := 9, ground := Ground.phase }, { on := 10, ground := Ground.phase }, { on := 11, ground := Ground.phase }, { on := 12, ground := Ground.phase }, { on := 13, ground := Ground.phase }, { on := 14, ground := Ground.phase }, { on := 15, ground := Ground.phase }, { on := 16, ground := Ground.phase }, { on := 17, ground := Ground.phase }, { on := 18, ground := Ground.phase }, { on := 19, ground := Ground.phase }, { on := 20, ground := Ground.phase }, { on := 21, ground := Ground.phase }], guard := none }) (v := ?vr93) rfl (by kernel_rfl) (by kernel_rfl) (by kernel_rfl) (fun _ _ _ h => h) (Or.inl ⟨by rfl, ?hyr93⟩) hHeld ?restr93
                  case hyr93 => (intro w hSw; (try dsimp only at hSw); go_simp; first | done | (rw [if_neg (by omega)]; done) | (rw [if_neg (by omega)]; with_reducible rfl) | with_reducible rfl)
                  simp only [Act.put, List.setIfInBounds_toArray, List.set_cons_zero, List.set_cons_succ]
                  refine wpAnyH_done (by kernel_rfl) ?_ _
                  go_wp2
                  go_meet
                  exact ⟨⟨_, rfl, by simp only [ba_app, HL.out, Q1.out, Q2.out, Q3.out]; unfold lnH ew; simp, by simp only [sizeApp]; show t.size + 5 + 5 + q1.size + 4 + q2.size + 4 + q3.size ≤ 30000; omega⟩, by first | exact BD.out | exact BA.out _ | exact BX.out _⟩
          · skip
            have szA : ∀ a b : Nat, a ≤ 30000 → b ≤ 30000 → ¬ 9223372036854775807 < a + b := fun a b _ _ => by omega
            refine wp_region_held_drew (S := fun wx => wx.cell? ⟨G, 0, none⟩ = some (.int .i64 2) ∧ wx.cell? ⟨G, 1, none⟩ = some (.slice a1 n1 c1) ∧ wx.cell? ⟨G, 2, none⟩ = some (.slice a2 n2 c2) ∧ wx.cell? ⟨G, 3, none⟩ = some (.slice a3 n3 c3)) (by kernel_rfl) ?_ (fun hHeld => ?_)
            · first | exact ⟨A2.out.cell 0, A2.out.cell 1, A2.out.cell 2, A2.out.cell 3⟩ | exact ⟨(A2.out.alloc _).cell 0, (A2.out.alloc _).cell 1, (A2.out.alloc _).cell 2, (A2.out.alloc _).cell 3⟩
            refine wpAnyH_take (i := 0) (oi := { dst := some 21, op := Op.move (Operand.tmp 3), type := 9, pos := "l09_policy.go:179", after := #[], guard := none }) (v := ?vr94) rfl (by kernel_rfl) (by kernel_rfl) (by kernel_rfl) (fun _ _ _ h => h) (Or.inl ⟨by rfl, ?hyr94⟩) hHeld ?restr94
            case hyr94 => (intro w hSw; (try dsimp only at hSw); go_simp; first | done | (rw [if_neg (by omega)]; done) | (rw [if_neg (by omega)]; with_reducible rfl) | with_reducible rfl)
            simp only [Act.put, List.setIfInBounds_toArray, List.set_cons_zero, List.set_cons_succ]
            refine wpAnyH_take (i := 2) (oi := { dst := some 23, op := Op.fieldAddr 73 (Operand.tmp 5) 0, type := 0, pos := "l09_policy.go:179", after := #[], guard := none }) (v := ?vr95) rfl (by kernel_rfl) (by kernel_rfl) (by kernel_rfl) (fun _ _ _ h => h) (Or.inl ⟨by rfl, ?hyr95⟩) hHeld ?restr95
            case hyr95 => (intro w hSw; (try dsimp only at hSw); go_simp; first | done | (rw [if_neg (by omega)]; done) | (rw [if_neg (by omega)]; with_reducible rfl) | with_reducible rfl)
            simp only [Act.put, List.setIfInBounds_toArray, List.set_cons_zero, List.set_cons_succ]
            refine wpAnyH_take (i := 3) (oi := { dst := some 24, op := Op.load 2 (Operand.tmp 23), type := 2, pos := "l09_policy.go:179", after := #[{ on := 2, ground := Ground.data }], guard := none }) (v := ?vr96) rfl (by kernel_rfl) (by kernel_rfl) (by kernel_rfl) (fun _ _ _ h => h) (Or.inl ⟨by rfl, ?hyr96⟩) hHeld ?restr96
            case hyr96 => (intro w hSw; (try dsimp only at hSw); go_simp; first | done | (rw [if_neg (by omega)]; done) | (rw [if_neg (by omega)]; with_reducible rfl) | with_reducible rfl)
            simp only [Act.put, List.setIfInBounds_toArray, List.set_cons_zero, List.set_cons_succ]
            refine wpAnyH_take (i := 8) (oi := { dst := some 29, op := Op.fieldAddr 73 (Operand.tmp 5) 1, type := 0, pos := "l09_policy.go:179", after := #[], guard := none }) (v := ?vr97) rfl (by kernel_rfl) (by kernel_rfl) (by kernel_rfl) (fun _ _ _ h => h) (Or.inl ⟨by rfl, ?hyr97⟩) hHeld ?restr97
            case hyr97 => (intro w hSw; (try dsimp only at hSw); go_simp; first | done | (rw [if_neg (by omega)]; done) | (rw [if_neg (by omega)]; with_reducible rfl) | with_reducible rfl)
            simp only [Act.put, List.setIfInBounds_toArray, List.set_cons_zero, List.set_cons_succ]
            refine wpAnyH_take (i := 9) (oi := { dst := some 30, op := Op.load 70 (Operand.tmp 29), type := 70, pos := "l09_policy.go:179", after := #[{ on := 8, ground := Ground.data }], guard := none }) (v := ?vr98) rfl (by kernel_rfl) (by kernel_rfl) (by kernel_rfl) (fun _ _ _ h => h) (Or.inl ⟨by rfl, ?hyr98⟩) hHeld ?restr98
            case hyr98 => (intro w hSw; (try dsimp only at hSw); go_simp; first | done | (rw [if_neg (by omega)]; done) | (rw [if_neg (by omega)]; with_reducible rfl) | with_reducible rfl)
            simp only [Act.put, List.setIfInBounds_toArray, List.set_cons_zero, List.set_cons_succ]
            refine wpAnyH_take (i := 13) (oi := { dst := some 34, op := Op.fieldAddr 73 (Operand.tmp 5) 2, type := 0, pos := "l09_policy.go:179", after := #[], guard := none }) (v := ?vr99) rfl (by kernel_rfl) (by kernel_rfl) (by kernel_rfl) (fun _ _ _ h => h) (Or.inl ⟨by rfl, ?hyr99⟩) hHeld ?restr99
            case hyr99 => (intro w hSw; (try dsimp only at hSw); go_simp; first | done | (rw [if_neg (by omega)]; done) | (rw [if_neg (by omega)]; with_reducible rfl) | with_reducible rfl)
            simp only [Act.put, List.setIfInBounds_toArray, List.set_cons_zero, List.set_cons_succ]
            refine wpAnyH_take (i := 14) (oi := { dst := some 35, op := Op.load 70 (Operand.tmp 34), type := 70, pos := "l09_policy.go:179", after := #[{ on := 13, ground := Ground.data }], guard := none }) (v := ?vr100) rfl (by kernel_rfl) (by kernel_rfl) (by kernel_rfl) (fun _ _ _ h => h) (Or.inl ⟨by rfl, ?hyr100⟩) hHeld ?restr100
            case hyr100 => (intro w hSw; (try dsimp only at hSw); go_simp; first | done | (rw [if_neg (by omega)]; done) | (rw [if_neg (by omega)]; with_reducible rfl) | with_reducible rfl)
            simp only [Act.put, List.setIfInBounds_toArray, List.set_cons_zero, List.set_cons_succ]
            refine wpAnyH_take (i := 18) (oi := { dst := some 39, op := Op.fieldAddr 73 (Operand.tmp 5) 3, type := 0, pos := "l09_policy.go:179", after := #[], guard := none }) (v := ?vr101) rfl (by kernel_rfl) (by kernel_rfl) (by kernel_rfl) (fun _ _ _ h => h) (Or.inl ⟨by rfl, ?hyr101⟩) hHeld ?restr101
            case hyr101 => (intro w hSw; (try dsimp only at hSw); go_simp; first | done | (rw [if_neg (by omega)]; done) | (rw [if_neg (by omega)]; with_reducible rfl) | with_reducible rfl)
            simp only [Act.put, List.setIfInBounds_toArray, List.set_cons_zero, List.set_cons_succ]
            refine wpAnyH_take (i := 19) (oi := { dst := some 40, op := Op.load 70 (Operand.tmp 39), type := 70, pos := "l09_policy.go:179", after := #[{ on := 18, ground := Ground.data }], guard := none }) (v := ?vr102) rfl (by kernel_rfl) (by kernel_rfl) (by kernel_rfl) (fun _ _ _ h => h) (Or.inl ⟨by rfl, ?hyr102⟩) hHeld ?restr102
            case hyr102 => (intro w hSw; (try dsimp only at hSw); go_simp; first | done | (rw [if_neg (by omega)]; done) | (rw [if_neg (by omega)]; with_reducible rfl) | with_reducible rfl)
            simp only [Act.put, List.setIfInBounds_toArray, List.set_cons_zero, List.set_cons_succ]
            refine wpAnyH_ready (rs := [1, 10]) (by kernel_rfl) (by simp) ?_
            refine AllReadyH.cons (o := { dst := some 22, op := Op.buildSlice 70 3 #[(0, Operand.const (Value.string { data := #[] })), (1, Operand.const (Value.string { data := #[97, 108, 108, 111, 119] })), (2, Operand.const (Value.string { data := #[100, 101, 110, 121] }))], type := 70, pos := "l09_policy.go:179", after := #[], guard := none }) rfl (fun K hK => ?_) (AllReadyH.cons (o := { dst := some 31, op := Op.call { callee := Callee.value (Operand.func 29), args := #[Operand.tmp 30], argTypes := #[70] }, type := 9, pos := "l09_policy.go:179", after := #[{ on := 9, ground := Ground.data }], guard := none }) rfl (fun K hK => ?_) AllReadyH.nil)
            · go_simp
              refine hK.out _ _ ?_ (fun hHeld => ?_)
              · first | exact ⟨A2.out.cell 0, A2.out.cell 1, A2.out.cell 2, A2.out.cell 3⟩ | exact ⟨(A2.out.alloc _).cell 0, (A2.out.alloc _).cell 1, (A2.out.alloc _).cell 2, (A2.out.alloc _).cell 3⟩
              clear hK K
              try simp only [Act.put, List.setIfInBounds_toArray, List.set_cons_zero, List.set_cons_succ]
              refine wpAnyH_take (i := 4) (oi := { dst := some 25, op := Op.indexAddr 70 (Operand.tmp 22) (Operand.tmp 24), type := 0, pos := "l09_policy.go:179", after := #[{ on := 1, ground := Ground.data }, { on := 3, ground := Ground.data }], guard := none }) (v := ?vr103) rfl (by kernel_rfl) (by kernel_rfl) (by kernel_rfl) (fun _ _ _ h => h) (Or.inl ⟨by rfl, ?hyr103⟩) hHeld ?restr103
              case hyr103 => (intro w hSw; (try dsimp only at hSw); go_simp; first | done | (rw [if_neg (by omega)]; done) | (rw [if_neg (by omega)]; with_reducible rfl) | with_reducible rfl)
              simp only [Act.put, List.setIfInBounds_toArray, List.set_cons_zero, List.set_cons_succ]
              refine wpAnyH_ready (rs := [5, 10]) (by kernel_rfl) (by simp) ?_
              refine AllReadyH.cons (o := { dst := some 26, op := Op.load 9 (Operand.tmp 25), type := 9, pos := "l09_policy.go:179", after := #[{ on := 4, ground := Ground.data }], guard := none }) rfl (fun K hK => ?_) (AllReadyH.cons (o := { dst := some 31, op := Op.call { callee := Callee.value (Operand.func 29), args := #[Operand.tmp 30], argTypes := #[70] }, type := 9, pos := "l09_policy.go:179", after := #[{ on := 9, ground := Ground.data }], guard := none }) rfl (fun K hK => ?_) AllReadyH.nil)
              · go_simp
                refine hK.out _ _ ?_ (fun hHeld => ?_)
                · first | exact ⟨A2.out.cell 0, A2.out.cell 1, A2.out.cell 2, A2.out.cell 3⟩ | exact ⟨(A2.out.alloc _).cell 0, (A2.out.alloc _).cell 1, (A2.out.alloc _).cell 2, (A2.out.alloc _).cell 3⟩
                clear hK K
                try simp only [Act.put, List.setIfInBounds_toArray, List.set_cons_zero, List.set_cons_succ]
                refine wpAnyH_take (i := 6) (oi := { dst := some 27, op := Op.binOp BinOp.add 9 (Operand.tmp 21) (Operand.tmp 26) 9, type := 9, pos := "l09_policy.go:179", after := #[{ on := 0, ground := Ground.data }, { on := 5, ground := Ground.data }], guard := none }) (v := ?vr104) rfl (by kernel_rfl) (by kernel_rfl) (by kernel_rfl) (fun _ _ _ h => h) (Or.inl ⟨by rfl, ?hyr104⟩) hHeld ?restr104
                case hyr104 => (intro w hSw; (try dsimp only at hSw); go_simp; first | done | (rw [if_neg (by omega)]; done) | (rw [if_neg (by omega)]; with_reducible rfl) | with_reducible rfl)
                simp only [Act.put, List.setIfInBounds_toArray, List.set_cons_zero, List.set_cons_succ]
                refine wpAnyH_take (i := 7) (oi := { dst := some 28, op := Op.binOp BinOp.add 9 (Operand.tmp 27) (Operand.const (Value.string { data := #[32, 119, 104, 111, 32] })) 9, type := 9, pos := "l09_policy.go:179", after := #[{ on := 6, ground := Ground.data }], guard := none }) (v := ?vr105) rfl (by kernel_rfl) (by kernel_rfl) (by kernel_rfl) (fun _ _ _ h => h) (Or.inl ⟨by rfl, ?hyr105⟩) hHeld ?restr105
                case hyr105 => (intro w hSw; (try dsimp only at hSw); go_simp; first | done | (rw [if_neg (by omega)]; done) | (rw [if_neg (by omega)]; with_reducible rfl) | with_reducible rfl)
                simp only [Act.put, List.setIfInBounds_toArray, List.set_cons_zero, List.set_cons_succ]
                refine wpAnyH_ready (rs := [10]) (by kernel_rfl) (by simp) ?_
                refine AllReadyH.cons (o := { dst := some 31, op := Op.call { callee := Callee.value (Operand.func 29), args := #[Operand.tmp 30], argTypes := #[70] }, type := 9, pos := "l09_policy.go:179", after := #[{ on := 9, ground := Ground.data }], guard := none }) rfl (fun K hK => ?_) AllReadyH.nil
                go_simp
                refine (J1 _ (by first | exact BD.out | exact BA.out _ | exact BX.out _)).out.mono ?_
                rintro e w5 ⟨⟨q1, rfl, hq1, hz1⟩, hw5⟩
                obtain rfl := hw5.symm
                have Q1 := hid hq1
                clear hq1
                go_wp2_with fail
                refine hK.out _ _ ?_ (fun hHeld => ?_)
                · first | exact ⟨A2.out.cell 0, A2.out.cell 1, A2.out.cell 2, A2.out.cell 3⟩ | exact ⟨(A2.out.alloc _).cell 0, (A2.out.alloc _).cell 1, (A2.out.alloc _).cell 2, (A2.out.alloc _).cell 3⟩
                clear hK K
                try simp only [Act.put, List.setIfInBounds_toArray, List.set_cons_zero, List.set_cons_succ]
                refine wpAnyH_take (i := 11) (oi := { dst := some 32, op := Op.binOp BinOp.add 9 (Operand.tmp 28) (Operand.tmp 31) 9, type := 9, pos := "l09_policy.go:179", after := #[{ on := 7, ground := Ground.data }, { on := 10, ground := Ground.data }], guard := none }) (v := ?vr106) rfl (by kernel_rfl) (by kernel_rfl) (by kernel_rfl) (fun _ _ _ h => h) (Or.inl ⟨by rfl, ?hyr106⟩) hHeld ?restr106
                case hyr106 => (intro w hSw; (try dsimp only at hSw); go_simp; first | done | (rw [if_neg (by omega)]; done) | (rw [if_neg (by omega)]; with_reducible rfl) | with_reducible rfl)
                simp only [Act.put, List.setIfInBounds_toArray, List.set_cons_zero, List.set_cons_succ]
                refine wpAnyH_take (i := 12) (oi := { dst := some 33, op := Op.binOp BinOp.add 9 (Operand.tmp 32) (Operand.const (Value.string { data := #[32, 100, 111, 32] })) 9, type := 9, pos := "l09_policy.go:179", after := #[{ on := 11, ground := Ground.data }], guard := none }) (v := ?vr107) rfl (by kernel_rfl) (by kernel_rfl) (by kernel_rfl) (fun _ _ _ h => h) (Or.inl ⟨by rfl, ?hyr107⟩) hHeld ?restr107
                case hyr107 => (intro w hSw; (try dsimp only at hSw); go_simp; first | done | (rw [if_neg (by omega)]; done) | (rw [if_neg (by omega)]; with_reducible rfl) | with_reducible rfl)
                simp only [Act.put, List.setIfInBounds_toArray, List.set_cons_zero, List.set_cons_succ]
                refine wpAnyH_ready (rs := [15]) (by kernel_rfl) (by simp) ?_
                refine AllReadyH.cons (o := { dst := some 36, op := Op.call { callee := Callee.value (Operand.func 29), args := #[Operand.tmp 35], argTypes := #[70] }, type := 9, pos := "l09_policy.go:179", after := #[{ on := 14, ground := Ground.data }, { on := 10, ground := Ground.chain }], guard := none }) rfl (fun K hK => ?_) AllReadyH.nil
                go_simp
                refine (J2 _ (by first | exact BD.out | exact BA.out _ | exact BX.out _)).out.mono ?_
                rintro e w5 ⟨⟨q2, rfl, hq2, hz2⟩, hw5⟩
                obtain rfl := hw5.symm
                have Q2 := hid hq2
                clear hq2
                go_wp2_with fail
                refine hK.out _ _ ?_ (fun hHeld => ?_)
                · first | exact ⟨A2.out.cell 0, A2.out.cell 1, A2.out.cell 2, A2.out.cell 3⟩ | exact ⟨(A2.out.alloc _).cell 0, (A2.out.alloc _).cell 1, (A2.out.alloc _).cell 2, (A2.out.alloc _).cell 3⟩
                clear hK K
                try simp only [Act.put, List.setIfInBounds_toArray, List.set_cons_zero, List.set_cons_succ]
                refine wpAnyH_take (i := 16) (oi := { dst := some 37, op := Op.binOp BinOp.add 9 (Operand.tmp 33) (Operand.tmp 36) 9, type := 9, pos := "l09_policy.go:179", after := #[{ on := 12, ground := Ground.data }, { on := 15, ground := Ground.data }], guard := none }) (v := ?vr108) rfl (by kernel_rfl) (by kernel_rfl) (by kernel_rfl) (fun _ _ _ h => h) (Or.inl ⟨by rfl, ?hyr108⟩) hHeld ?restr108
                case hyr108 => (intro w hSw; (try dsimp only at hSw); go_simp; first | done | (rw [if_neg (by omega)]; done) | (rw [if_neg (by omega)]; with_reducible rfl) | with_reducible rfl)
                simp only [Act.put, List.setIfInBounds_toArray, List.set_cons_zero, List.set_cons_succ]
                refine wpAnyH_take (i := 17) (oi := { dst := some 38, op := Op.binOp BinOp.add 9 (Operand.tmp 37) (Operand.const (Value.string { data := #[32, 111, 110, 32] })) 9, type := 9, pos := "l09_policy.go:179", after := #[{ on := 16, ground := Ground.data }], guard := none }) (v := ?vr109) rfl (by kernel_rfl) (by kernel_rfl) (by kernel_rfl) (fun _ _ _ h => h) (Or.inl ⟨by rfl, ?hyr109⟩) hHeld ?restr109
                case hyr109 => (intro w hSw; (try dsimp only at hSw); go_simp; first | done | (rw [if_neg (by omega)]; done) | (rw [if_neg (by omega)]; with_reducible rfl) | with_reducible rfl)
                simp only [Act.put, List.setIfInBounds_toArray, List.set_cons_zero, List.set_cons_succ]
                refine wpAnyH_ready (rs := [20]) (by kernel_rfl) (by simp) ?_
                refine AllReadyH.cons (o := { dst := some 41, op := Op.call { callee := Callee.value (Operand.func 29), args := #[Operand.tmp 40], argTypes := #[70] }, type := 9, pos := "l09_policy.go:179", after := #[{ on := 19, ground := Ground.data }, { on := 15, ground := Ground.chain }], guard := none }) rfl (fun K hK => ?_) AllReadyH.nil
                go_simp
                refine (J3 _ (by first | exact BD.out | exact BA.out _ | exact BX.out _)).out.mono ?_
                rintro e w5 ⟨⟨q3, rfl, hq3, hz3⟩, hw5⟩
                obtain rfl := hw5.symm
                have Q3 := hid hq3
                clear hq3
                go_wp2_with fail
                refine hK.out _ _ ?_ (fun hHeld => ?_)
                · first | exact ⟨A2.out.cell 0, A2.out.cell 1, A2.out.cell 2, A2.out.cell 3⟩ | exact ⟨(A2.out.alloc _).cell 0, (A2.out.alloc _).cell 1, (A2.out.alloc _).cell 2, (A2.out.alloc _).cell 3⟩
                clear hK K
                try simp only [Act.put, List.setIfInBounds_toArray, List.set_cons_zero, List.set_cons_succ]
                refine wpAnyH_take (i := 21) (oi := { dst := some 42, op := Op.binOp BinOp.add 9 (Operand.tmp 38) (Operand.tmp 41) 9, type := 9, pos := "l09_policy.go:179", after := #[{ on := 17, ground := Ground.data }, { on := 20, ground := Ground.data }], guard := none }) (v := ?vr110) rfl (by kernel_rfl) (by kernel_rfl) (by kernel_rfl) (fun _ _ _ h => h) (Or.inl ⟨by rfl, ?hyr110⟩) hHeld ?restr110
                case hyr110 => (intro w hSw; (try dsimp only at hSw); go_simp; first | done | (rw [if_neg (by omega)]; done) | (rw [if_neg (by omega)]; with_reducible rfl) | with_reducible rfl)
                simp only [Act.put, List.setIfInBounds_toArray, List.set_cons_zero, List.set_cons_succ]
                refine wpAnyH_take (i := 22) (oi := { dst := some 3, op := Op.assign (Operand.tmp 42), type := 9, pos := "l09_policy.go:179", after := #[{ on := 21, ground := Ground.data }, { on := 20, ground := Ground.chain }, { on := 0, ground := Ground.phase }, { on := 1, ground := Ground.phase }, { on := 2, ground := Ground.phase }, { on := 3, ground := Ground.phase }, { on := 4, ground := Ground.phase }, { on := 5, ground := Ground.phase }, { on := 6, ground := Ground.phase }, { on := 7, ground := Ground.phase }, { on := 8, ground := Ground.phase }, { on := 9, ground := Ground.phase }, { on := 10, ground := Ground.phase }, { on := 11, ground := Ground.phase }, { on := 12, ground := Ground.phase }, { on := 13, ground := Ground.phase }, { on := 14, ground := Ground.phase }, { on := 15, ground := Ground.phase }, { on := 16, ground := Ground.phase }, { on := 17, ground := Ground.phase }, { on := 18, ground := Ground.phase }, { on := 19, ground := Ground.phase }, { on := 20, ground := Ground.phase }, { on := 21, ground := Ground.phase }], guard := none }) (v := ?vr111) rfl (by kernel_rfl) (by kernel_rfl) (by kernel_rfl) (fun _ _ _ h => h) (Or.inl ⟨by rfl, ?hyr111⟩) hHeld ?restr111
                case hyr111 => (intro w hSw; (try dsimp only at hSw); go_simp; first | done | (rw [if_neg (by omega)]; done) | (rw [if_neg (by omega)]; with_reducible rfl) | with_reducible rfl)
                simp only [Act.put, List.setIfInBounds_toArray, List.set_cons_zero, List.set_cons_succ]
                refine wpAnyH_done (by kernel_rfl) ?_ _
                go_wp2
                go_meet
                exact ⟨⟨_, rfl, by simp only [ba_app, HL.out, Q1.out, Q2.out, Q3.out]; unfold lnH ew; simp, by simp only [sizeApp]; show t.size + 4 + 5 + q1.size + 4 + q2.size + 4 + q3.size ≤ 30000; omega⟩, by first | exact BD.out | exact BA.out _ | exact BX.out _⟩
              · go_simp
                refine (J1 _ (by first | exact BD.out | exact BA.out _ | exact BX.out _)).out.mono ?_
                rintro e w5 ⟨⟨q1, rfl, hq1, hz1⟩, hw5⟩
                obtain rfl := hw5.symm
                have Q1 := hid hq1
                clear hq1
                go_wp2_with fail
                refine hK.out _ _ ?_ (fun hHeld => ?_)
                · first | exact ⟨A2.out.cell 0, A2.out.cell 1, A2.out.cell 2, A2.out.cell 3⟩ | exact ⟨(A2.out.alloc _).cell 0, (A2.out.alloc _).cell 1, (A2.out.alloc _).cell 2, (A2.out.alloc _).cell 3⟩
                clear hK K
                try simp only [Act.put, List.setIfInBounds_toArray, List.set_cons_zero, List.set_cons_succ]
                refine wpAnyH_ready (rs := [5, 15]) (by kernel_rfl) (by simp) ?_
                refine AllReadyH.cons (o := { dst := some 26, op := Op.load 9 (Operand.tmp 25), type := 9, pos := "l09_policy.go:179", after := #[{ on := 4, ground := Ground.data }], guard := none }) rfl (fun K hK => ?_) (AllReadyH.cons (o := { dst := some 36, op := Op.call { callee := Callee.value (Operand.func 29), args := #[Operand.tmp 35], argTypes := #[70] }, type := 9, pos := "l09_policy.go:179", after := #[{ on := 14, ground := Ground.data }, { on := 10, ground := Ground.chain }], guard := none }) rfl (fun K hK => ?_) AllReadyH.nil)
                · go_simp
                  refine hK.out _ _ ?_ (fun hHeld => ?_)
                  · first | exact ⟨A2.out.cell 0, A2.out.cell 1, A2.out.cell 2, A2.out.cell 3⟩ | exact ⟨(A2.out.alloc _).cell 0, (A2.out.alloc _).cell 1, (A2.out.alloc _).cell 2, (A2.out.alloc _).cell 3⟩
                  clear hK K
                  try simp only [Act.put, List.setIfInBounds_toArray, List.set_cons_zero, List.set_cons_succ]
                  refine wpAnyH_take (i := 6) (oi := { dst := some 27, op := Op.binOp BinOp.add 9 (Operand.tmp 21) (Operand.tmp 26) 9, type := 9, pos := "l09_policy.go:179", after := #[{ on := 0, ground := Ground.data }, { on := 5, ground := Ground.data }], guard := none }) (v := ?vr112) rfl (by kernel_rfl) (by kernel_rfl) (by kernel_rfl) (fun _ _ _ h => h) (Or.inl ⟨by rfl, ?hyr112⟩) hHeld ?restr112
                  case hyr112 => (intro w hSw; (try dsimp only at hSw); go_simp; first | done | (rw [if_neg (by omega)]; done) | (rw [if_neg (by omega)]; with_reducible rfl) | with_reducible rfl)
                  simp only [Act.put, List.setIfInBounds_toArray, List.set_cons_zero, List.set_cons_succ]
                  refine wpAnyH_take (i := 7) (oi := { dst := some 28, op := Op.binOp BinOp.add 9 (Operand.tmp 27) (Operand.const (Value.string { data := #[32, 119, 104, 111, 32] })) 9, type := 9, pos := "l09_policy.go:179", after := #[{ on := 6, ground := Ground.data }], guard := none }) (v := ?vr113) rfl (by kernel_rfl) (by kernel_rfl) (by kernel_rfl) (fun _ _ _ h => h) (Or.inl ⟨by rfl, ?hyr113⟩) hHeld ?restr113
                  case hyr113 => (intro w hSw; (try dsimp only at hSw); go_simp; first | done | (rw [if_neg (by omega)]; done) | (rw [if_neg (by omega)]; with_reducible rfl) | with_reducible rfl)
                  simp only [Act.put, List.setIfInBounds_toArray, List.set_cons_zero, List.set_cons_succ]
                  refine wpAnyH_take (i := 11) (oi := { dst := some 32, op := Op.binOp BinOp.add 9 (Operand.tmp 28) (Operand.tmp 31) 9, type := 9, pos := "l09_policy.go:179", after := #[{ on := 7, ground := Ground.data }, { on := 10, ground := Ground.data }], guard := none }) (v := ?vr114) rfl (by kernel_rfl) (by kernel_rfl) (by kernel_rfl) (fun _ _ _ h => h) (Or.inl ⟨by rfl, ?hyr114⟩) hHeld ?restr114
                  case hyr114 => (intro w hSw; (try dsimp only at hSw); go_simp; first | done | (rw [if_neg (by omega)]; done) | (rw [if_neg (by omega)]; with_reducible rfl) | with_reducible rfl)
                  simp only [Act.put, List.setIfInBounds_toArray, List.set_cons_zero, List.set_cons_succ]
                  refine wpAnyH_take (i := 12) (oi := { dst := some 33, op := Op.binOp BinOp.add 9 (Operand.tmp 32) (Operand.const (Value.string { data := #[32, 100, 111, 32] })) 9, type := 9, pos := "l09_policy.go:179", after := #[{ on := 11, ground := Ground.data }], guard := none }) (v := ?vr115) rfl (by kernel_rfl) (by kernel_rfl) (by kernel_rfl) (fun _ _ _ h => h) (Or.inl ⟨by rfl, ?hyr115⟩) hHeld ?restr115
                  case hyr115 => (intro w hSw; (try dsimp only at hSw); go_simp; first | done | (rw [if_neg (by omega)]; done) | (rw [if_neg (by omega)]; with_reducible rfl) | with_reducible rfl)
                  simp only [Act.put, List.setIfInBounds_toArray, List.set_cons_zero, List.set_cons_succ]
                  refine wpAnyH_ready (rs := [15]) (by kernel_rfl) (by simp) ?_
                  refine AllReadyH.cons (o := { dst := some 36, op := Op.call { callee := Callee.value (Operand.func 29), args := #[Operand.tmp 35], argTypes := #[70] }, type := 9, pos := "l09_policy.go:179", after := #[{ on := 14, ground := Ground.data }, { on := 10, ground := Ground.chain }], guard := none }) rfl (fun K hK => ?_) AllReadyH.nil
                  go_simp
                  refine (J2 _ (by first | exact BD.out | exact BA.out _ | exact BX.out _)).out.mono ?_
                  rintro e w5 ⟨⟨q2, rfl, hq2, hz2⟩, hw5⟩
                  obtain rfl := hw5.symm
                  have Q2 := hid hq2
                  clear hq2
                  go_wp2_with fail
                  refine hK.out _ _ ?_ (fun hHeld => ?_)
                  · first | exact ⟨A2.out.cell 0, A2.out.cell 1, A2.out.cell 2, A2.out.cell 3⟩ | exact ⟨(A2.out.alloc _).cell 0, (A2.out.alloc _).cell 1, (A2.out.alloc _).cell 2, (A2.out.alloc _).cell 3⟩
                  clear hK K
                  try simp only [Act.put, List.setIfInBounds_toArray, List.set_cons_zero, List.set_cons_succ]
                  refine wpAnyH_take (i := 16) (oi := { dst := some 37, op := Op.binOp BinOp.add 9 (Operand.tmp 33) (Operand.tmp 36) 9, type := 9, pos := "l09_policy.go:179", after := #[{ on := 12, ground := Ground.data }, { on := 15, ground := Ground.data }], guard := none }) (v := ?vr116) rfl (by kernel_rfl) (by kernel_rfl) (by kernel_rfl) (fun _ _ _ h => h) (Or.inl ⟨by rfl, ?hyr116⟩) hHeld ?restr116
                  case hyr116 => (intro w hSw; (try dsimp only at hSw); go_simp; first | done | (rw [if_neg (by omega)]; done) | (rw [if_neg (by omega)]; with_reducible rfl) | with_reducible rfl)
                  simp only [Act.put, List.setIfInBounds_toArray, List.set_cons_zero, List.set_cons_succ]
                  refine wpAnyH_take (i := 17) (oi := { dst := some 38, op := Op.binOp BinOp.add 9 (Operand.tmp 37) (Operand.const (Value.string { data := #[32, 111, 110, 32] })) 9, type := 9, pos := "l09_policy.go:179", after := #[{ on := 16, ground := Ground.data }], guard := none }) (v := ?vr117) rfl (by kernel_rfl) (by kernel_rfl) (by kernel_rfl) (fun _ _ _ h => h) (Or.inl ⟨by rfl, ?hyr117⟩) hHeld ?restr117
                  case hyr117 => (intro w hSw; (try dsimp only at hSw); go_simp; first | done | (rw [if_neg (by omega)]; done) | (rw [if_neg (by omega)]; with_reducible rfl) | with_reducible rfl)
                  simp only [Act.put, List.setIfInBounds_toArray, List.set_cons_zero, List.set_cons_succ]
                  refine wpAnyH_ready (rs := [20]) (by kernel_rfl) (by simp) ?_
                  refine AllReadyH.cons (o := { dst := some 41, op := Op.call { callee := Callee.value (Operand.func 29), args := #[Operand.tmp 40], argTypes := #[70] }, type := 9, pos := "l09_policy.go:179", after := #[{ on := 19, ground := Ground.data }, { on := 15, ground := Ground.chain }], guard := none }) rfl (fun K hK => ?_) AllReadyH.nil
                  go_simp
                  refine (J3 _ (by first | exact BD.out | exact BA.out _ | exact BX.out _)).out.mono ?_
                  rintro e w5 ⟨⟨q3, rfl, hq3, hz3⟩, hw5⟩
                  obtain rfl := hw5.symm
                  have Q3 := hid hq3
                  clear hq3
                  go_wp2_with fail
                  refine hK.out _ _ ?_ (fun hHeld => ?_)
                  · first | exact ⟨A2.out.cell 0, A2.out.cell 1, A2.out.cell 2, A2.out.cell 3⟩ | exact ⟨(A2.out.alloc _).cell 0, (A2.out.alloc _).cell 1, (A2.out.alloc _).cell 2, (A2.out.alloc _).cell 3⟩
                  clear hK K
                  try simp only [Act.put, List.setIfInBounds_toArray, List.set_cons_zero, List.set_cons_succ]
                  refine wpAnyH_take (i := 21) (oi := { dst := some 42, op := Op.binOp BinOp.add 9 (Operand.tmp 38) (Operand.tmp 41) 9, type := 9, pos := "l09_policy.go:179", after := #[{ on := 17, ground := Ground.data }, { on := 20, ground := Ground.data }], guard := none }) (v := ?vr118) rfl (by kernel_rfl) (by kernel_rfl) (by kernel_rfl) (fun _ _ _ h => h) (Or.inl ⟨by rfl, ?hyr118⟩) hHeld ?restr118
                  case hyr118 => (intro w hSw; (try dsimp only at hSw); go_simp; first | done | (rw [if_neg (by omega)]; done) | (rw [if_neg (by omega)]; with_reducible rfl) | with_reducible rfl)
                  simp only [Act.put, List.setIfInBounds_toArray, List.set_cons_zero, List.set_cons_succ]
                  refine wpAnyH_take (i := 22) (oi := { dst := some 3, op := Op.assign (Operand.tmp 42), type := 9, pos := "l09_policy.go:179", after := #[{ on := 21, ground := Ground.data }, { on := 20, ground := Ground.chain }, { on := 0, ground := Ground.phase }, { on := 1, ground := Ground.phase }, { on := 2, ground := Ground.phase }, { on := 3, ground := Ground.phase }, { on := 4, ground := Ground.phase }, { on := 5, ground := Ground.phase }, { on := 6, ground := Ground.phase }, { on := 7, ground := Ground.phase }, { on := 8, ground := Ground.phase }, { on := 9, ground := Ground.phase }, { on := 10, ground := Ground.phase }, { on := 11, ground := Ground.phase }, { on := 12, ground := Ground.phase }, { on := 13, ground := Ground.phase }, { on := 14, ground := Ground.phase }, { on := 15, ground := Ground.phase }, { on := 16, ground := Ground.phase }, { on := 17, ground := Ground.phase }, { on := 18, ground := Ground.phase }, { on := 19, ground := Ground.phase }, { on := 20, ground := Ground.phase }, { on := 21, ground := Ground.phase }], guard := none }) (v := ?vr119) rfl (by kernel_rfl) (by kernel_rfl) (by kernel_rfl) (fun _ _ _ h => h) (Or.inl ⟨by rfl, ?hyr119⟩) hHeld ?restr119
                  case hyr119 => (intro w hSw; (try dsimp only at hSw); go_simp; first | done | (rw [if_neg (by omega)]; done) | (rw [if_neg (by omega)]; with_reducible rfl) | with_reducible rfl)
                  simp only [Act.put, List.setIfInBounds_toArray, List.set_cons_zero, List.set_cons_succ]
                  refine wpAnyH_done (by kernel_rfl) ?_ _
                  go_wp2
                  go_meet
                  exact ⟨⟨_, rfl, by simp only [ba_app, HL.out, Q1.out, Q2.out, Q3.out]; unfold lnH ew; simp, by simp only [sizeApp]; show t.size + 4 + 5 + q1.size + 4 + q2.size + 4 + q3.size ≤ 30000; omega⟩, by first | exact BD.out | exact BA.out _ | exact BX.out _⟩
                · go_simp
                  refine (J2 _ (by first | exact BD.out | exact BA.out _ | exact BX.out _)).out.mono ?_
                  rintro e w5 ⟨⟨q2, rfl, hq2, hz2⟩, hw5⟩
                  obtain rfl := hw5.symm
                  have Q2 := hid hq2
                  clear hq2
                  go_wp2_with fail
                  refine hK.out _ _ ?_ (fun hHeld => ?_)
                  · first | exact ⟨A2.out.cell 0, A2.out.cell 1, A2.out.cell 2, A2.out.cell 3⟩ | exact ⟨(A2.out.alloc _).cell 0, (A2.out.alloc _).cell 1, (A2.out.alloc _).cell 2, (A2.out.alloc _).cell 3⟩
                  clear hK K
                  try simp only [Act.put, List.setIfInBounds_toArray, List.set_cons_zero, List.set_cons_succ]
                  refine wpAnyH_ready (rs := [5, 20]) (by kernel_rfl) (by simp) ?_
                  refine AllReadyH.cons (o := { dst := some 26, op := Op.load 9 (Operand.tmp 25), type := 9, pos := "l09_policy.go:179", after := #[{ on := 4, ground := Ground.data }], guard := none }) rfl (fun K hK => ?_) (AllReadyH.cons (o := { dst := some 41, op := Op.call { callee := Callee.value (Operand.func 29), args := #[Operand.tmp 40], argTypes := #[70] }, type := 9, pos := "l09_policy.go:179", after := #[{ on := 19, ground := Ground.data }, { on := 15, ground := Ground.chain }], guard := none }) rfl (fun K hK => ?_) AllReadyH.nil)
                  · go_simp
                    refine hK.out _ _ ?_ (fun hHeld => ?_)
                    · first | exact ⟨A2.out.cell 0, A2.out.cell 1, A2.out.cell 2, A2.out.cell 3⟩ | exact ⟨(A2.out.alloc _).cell 0, (A2.out.alloc _).cell 1, (A2.out.alloc _).cell 2, (A2.out.alloc _).cell 3⟩
                    clear hK K
                    try simp only [Act.put, List.setIfInBounds_toArray, List.set_cons_zero, List.set_cons_succ]
                    refine wpAnyH_take (i := 6) (oi := { dst := some 27, op := Op.binOp BinOp.add 9 (Operand.tmp 21) (Operand.tmp 26) 9, type := 9, pos := "l09_policy.go:179", after := #[{ on := 0, ground := Ground.data }, { on := 5, ground := Ground.data }], guard := none }) (v := ?vr120) rfl (by kernel_rfl) (by kernel_rfl) (by kernel_rfl) (fun _ _ _ h => h) (Or.inl ⟨by rfl, ?hyr120⟩) hHeld ?restr120
                    case hyr120 => (intro w hSw; (try dsimp only at hSw); go_simp; first | done | (rw [if_neg (by omega)]; done) | (rw [if_neg (by omega)]; with_reducible rfl) | with_reducible rfl)
                    simp only [Act.put, List.setIfInBounds_toArray, List.set_cons_zero, List.set_cons_succ]
                    refine wpAnyH_take (i := 7) (oi := { dst := some 28, op := Op.binOp BinOp.add 9 (Operand.tmp 27) (Operand.const (Value.string { data := #[32, 119, 104, 111, 32] })) 9, type := 9, pos := "l09_policy.go:179", after := #[{ on := 6, ground := Ground.data }], guard := none }) (v := ?vr121) rfl (by kernel_rfl) (by kernel_rfl) (by kernel_rfl) (fun _ _ _ h => h) (Or.inl ⟨by rfl, ?hyr121⟩) hHeld ?restr121
                    case hyr121 => (intro w hSw; (try dsimp only at hSw); go_simp; first | done | (rw [if_neg (by omega)]; done) | (rw [if_neg (by omega)]; with_reducible rfl) | with_reducible rfl)
                    simp only [Act.put, List.setIfInBounds_toArray, List.set_cons_zero, List.set_cons_succ]
                    refine wpAnyH_take (i := 11) (oi := { dst := some 32, op := Op.binOp BinOp.add 9 (Operand.tmp 28) (Operand.tmp 31) 9, type := 9, pos := "l09_policy.go:179", after := #[{ on := 7, ground := Ground.data }, { on := 10, ground := Ground.data }], guard := none }) (v := ?vr122) rfl (by kernel_rfl) (by kernel_rfl) (by kernel_rfl) (fun _ _ _ h => h) (Or.inl ⟨by rfl, ?hyr122⟩) hHeld ?restr122
                    case hyr122 => (intro w hSw; (try dsimp only at hSw); go_simp; first | done | (rw [if_neg (by omega)]; done) | (rw [if_neg (by omega)]; with_reducible rfl) | with_reducible rfl)
                    simp only [Act.put, List.setIfInBounds_toArray, List.set_cons_zero, List.set_cons_succ]
                    refine wpAnyH_take (i := 12) (oi := { dst := some 33, op := Op.binOp BinOp.add 9 (Operand.tmp 32) (Operand.const (Value.string { data := #[32, 100, 111, 32] })) 9, type := 9, pos := "l09_policy.go:179", after := #[{ on := 11, ground := Ground.data }], guard := none }) (v := ?vr123) rfl (by kernel_rfl) (by kernel_rfl) (by kernel_rfl) (fun _ _ _ h => h) (Or.inl ⟨by rfl, ?hyr123⟩) hHeld ?restr123
                    case hyr123 => (intro w hSw; (try dsimp only at hSw); go_simp; first | done | (rw [if_neg (by omega)]; done) | (rw [if_neg (by omega)]; with_reducible rfl) | with_reducible rfl)
                    simp only [Act.put, List.setIfInBounds_toArray, List.set_cons_zero, List.set_cons_succ]
                    refine wpAnyH_take (i := 16) (oi := { dst := some 37, op := Op.binOp BinOp.add 9 (Operand.tmp 33) (Operand.tmp 36) 9, type := 9, pos := "l09_policy.go:179", after := #[{ on := 12, ground := Ground.data }, { on := 15, ground := Ground.data }], guard := none }) (v := ?vr124) rfl (by kernel_rfl) (by kernel_rfl) (by kernel_rfl) (fun _ _ _ h => h) (Or.inl ⟨by rfl, ?hyr124⟩) hHeld ?restr124
                    case hyr124 => (intro w hSw; (try dsimp only at hSw); go_simp; first | done | (rw [if_neg (by omega)]; done) | (rw [if_neg (by omega)]; with_reducible rfl) | with_reducible rfl)
                    simp only [Act.put, List.setIfInBounds_toArray, List.set_cons_zero, List.set_cons_succ]
                    refine wpAnyH_take (i := 17) (oi := { dst := some 38, op := Op.binOp BinOp.add 9 (Operand.tmp 37) (Operand.const (Value.string { data := #[32, 111, 110, 32] })) 9, type := 9, pos := "l09_policy.go:179", after := #[{ on := 16, ground := Ground.data }], guard := none }) (v := ?vr125) rfl (by kernel_rfl) (by kernel_rfl) (by kernel_rfl) (fun _ _ _ h => h) (Or.inl ⟨by rfl, ?hyr125⟩) hHeld ?restr125
                    case hyr125 => (intro w hSw; (try dsimp only at hSw); go_simp; first | done | (rw [if_neg (by omega)]; done) | (rw [if_neg (by omega)]; with_reducible rfl) | with_reducible rfl)
                    simp only [Act.put, List.setIfInBounds_toArray, List.set_cons_zero, List.set_cons_succ]
                    refine wpAnyH_ready (rs := [20]) (by kernel_rfl) (by simp) ?_
                    refine AllReadyH.cons (o := { dst := some 41, op := Op.call { callee := Callee.value (Operand.func 29), args := #[Operand.tmp 40], argTypes := #[70] }, type := 9, pos := "l09_policy.go:179", after := #[{ on := 19, ground := Ground.data }, { on := 15, ground := Ground.chain }], guard := none }) rfl (fun K hK => ?_) AllReadyH.nil
                    go_simp
                    refine (J3 _ (by first | exact BD.out | exact BA.out _ | exact BX.out _)).out.mono ?_
                    rintro e w5 ⟨⟨q3, rfl, hq3, hz3⟩, hw5⟩
                    obtain rfl := hw5.symm
                    have Q3 := hid hq3
                    clear hq3
                    go_wp2_with fail
                    refine hK.out _ _ ?_ (fun hHeld => ?_)
                    · first | exact ⟨A2.out.cell 0, A2.out.cell 1, A2.out.cell 2, A2.out.cell 3⟩ | exact ⟨(A2.out.alloc _).cell 0, (A2.out.alloc _).cell 1, (A2.out.alloc _).cell 2, (A2.out.alloc _).cell 3⟩
                    clear hK K
                    try simp only [Act.put, List.setIfInBounds_toArray, List.set_cons_zero, List.set_cons_succ]
                    refine wpAnyH_take (i := 21) (oi := { dst := some 42, op := Op.binOp BinOp.add 9 (Operand.tmp 38) (Operand.tmp 41) 9, type := 9, pos := "l09_policy.go:179", after := #[{ on := 17, ground := Ground.data }, { on := 20, ground := Ground.data }], guard := none }) (v := ?vr126) rfl (by kernel_rfl) (by kernel_rfl) (by kernel_rfl) (fun _ _ _ h => h) (Or.inl ⟨by rfl, ?hyr126⟩) hHeld ?restr126
                    case hyr126 => (intro w hSw; (try dsimp only at hSw); go_simp; first | done | (rw [if_neg (by omega)]; done) | (rw [if_neg (by omega)]; with_reducible rfl) | with_reducible rfl)
                    simp only [Act.put, List.setIfInBounds_toArray, List.set_cons_zero, List.set_cons_succ]
                    refine wpAnyH_take (i := 22) (oi := { dst := some 3, op := Op.assign (Operand.tmp 42), type := 9, pos := "l09_policy.go:179", after := #[{ on := 21, ground := Ground.data }, { on := 20, ground := Ground.chain }, { on := 0, ground := Ground.phase }, { on := 1, ground := Ground.phase }, { on := 2, ground := Ground.phase }, { on := 3, ground := Ground.phase }, { on := 4, ground := Ground.phase }, { on := 5, ground := Ground.phase }, { on := 6, ground := Ground.phase }, { on := 7, ground := Ground.phase }, { on := 8, ground := Ground.phase }, { on := 9, ground := Ground.phase }, { on := 10, ground := Ground.phase }, { on := 11, ground := Ground.phase }, { on := 12, ground := Ground.phase }, { on := 13, ground := Ground.phase }, { on := 14, ground := Ground.phase }, { on := 15, ground := Ground.phase }, { on := 16, ground := Ground.phase }, { on := 17, ground := Ground.phase }, { on := 18, ground := Ground.phase }, { on := 19, ground := Ground.phase }, { on := 20, ground := Ground.phase }, { on := 21, ground := Ground.phase }], guard := none }) (v := ?vr127) rfl (by kernel_rfl) (by kernel_rfl) (by kernel_rfl) (fun _ _ _ h => h) (Or.inl ⟨by rfl, ?hyr127⟩) hHeld ?restr127
                    case hyr127 => (intro w hSw; (try dsimp only at hSw); go_simp; first | done | (rw [if_neg (by omega)]; done) | (rw [if_neg (by omega)]; with_reducible rfl) | with_reducible rfl)
                    simp only [Act.put, List.setIfInBounds_toArray, List.set_cons_zero, List.set_cons_succ]
                    refine wpAnyH_done (by kernel_rfl) ?_ _
                    go_wp2
                    go_meet
                    exact ⟨⟨_, rfl, by simp only [ba_app, HL.out, Q1.out, Q2.out, Q3.out]; unfold lnH ew; simp, by simp only [sizeApp]; show t.size + 4 + 5 + q1.size + 4 + q2.size + 4 + q3.size ≤ 30000; omega⟩, by first | exact BD.out | exact BA.out _ | exact BX.out _⟩
                  · go_simp
                    refine (J3 _ (by first | exact BD.out | exact BA.out _ | exact BX.out _)).out.mono ?_
                    rintro e w5 ⟨⟨q3, rfl, hq3, hz3⟩, hw5⟩
                    obtain rfl := hw5.symm
                    have Q3 := hid hq3
                    clear hq3
                    go_wp2_with fail
                    refine hK.out _ _ ?_ (fun hHeld => ?_)
                    · first | exact ⟨A2.out.cell 0, A2.out.cell 1, A2.out.cell 2, A2.out.cell 3⟩ | exact ⟨(A2.out.alloc _).cell 0, (A2.out.alloc _).cell 1, (A2.out.alloc _).cell 2, (A2.out.alloc _).cell 3⟩
                    clear hK K
                    try simp only [Act.put, List.setIfInBounds_toArray, List.set_cons_zero, List.set_cons_succ]
                    refine wpAnyH_ready (rs := [5]) (by kernel_rfl) (by simp) ?_
                    refine AllReadyH.cons (o := { dst := some 26, op := Op.load 9 (Operand.tmp 25), type := 9, pos := "l09_policy.go:179", after := #[{ on := 4, ground := Ground.data }], guard := none }) rfl (fun K hK => ?_) AllReadyH.nil
                    go_simp
                    refine hK.out _ _ ?_ (fun hHeld => ?_)
                    · first | exact ⟨A2.out.cell 0, A2.out.cell 1, A2.out.cell 2, A2.out.cell 3⟩ | exact ⟨(A2.out.alloc _).cell 0, (A2.out.alloc _).cell 1, (A2.out.alloc _).cell 2, (A2.out.alloc _).cell 3⟩
                    clear hK K
                    try simp only [Act.put, List.setIfInBounds_toArray, List.set_cons_zero, List.set_cons_succ]
                    refine wpAnyH_take (i := 6) (oi := { dst := some 27, op := Op.binOp BinOp.add 9 (Operand.tmp 21) (Operand.tmp 26) 9, type := 9, pos := "l09_policy.go:179", after := #[{ on := 0, ground := Ground.data }, { on := 5, ground := Ground.data }], guard := none }) (v := ?vr128) rfl (by kernel_rfl) (by kernel_rfl) (by kernel_rfl) (fun _ _ _ h => h) (Or.inl ⟨by rfl, ?hyr128⟩) hHeld ?restr128
                    case hyr128 => (intro w hSw; (try dsimp only at hSw); go_simp; first | done | (rw [if_neg (by omega)]; done) | (rw [if_neg (by omega)]; with_reducible rfl) | with_reducible rfl)
                    simp only [Act.put, List.setIfInBounds_toArray, List.set_cons_zero, List.set_cons_succ]
                    refine wpAnyH_take (i := 7) (oi := { dst := some 28, op := Op.binOp BinOp.add 9 (Operand.tmp 27) (Operand.const (Value.string { data := #[32, 119, 104, 111, 32] })) 9, type := 9, pos := "l09_policy.go:179", after := #[{ on := 6, ground := Ground.data }], guard := none }) (v := ?vr129) rfl (by kernel_rfl) (by kernel_rfl) (by kernel_rfl) (fun _ _ _ h => h) (Or.inl ⟨by rfl, ?hyr129⟩) hHeld ?restr129
                    case hyr129 => (intro w hSw; (try dsimp only at hSw); go_simp; first | done | (rw [if_neg (by omega)]; done) | (rw [if_neg (by omega)]; with_reducible rfl) | with_reducible rfl)
                    simp only [Act.put, List.setIfInBounds_toArray, List.set_cons_zero, List.set_cons_succ]
                    refine wpAnyH_take (i := 11) (oi := { dst := some 32, op := Op.binOp BinOp.add 9 (Operand.tmp 28) (Operand.tmp 31) 9, type := 9, pos := "l09_policy.go:179", after := #[{ on := 7, ground := Ground.data }, { on := 10, ground := Ground.data }], guard := none }) (v := ?vr130) rfl (by kernel_rfl) (by kernel_rfl) (by kernel_rfl) (fun _ _ _ h => h) (Or.inl ⟨by rfl, ?hyr130⟩) hHeld ?restr130
                    case hyr130 => (intro w hSw; (try dsimp only at hSw); go_simp; first | done | (rw [if_neg (by omega)]; done) | (rw [if_neg (by omega)]; with_reducible rfl) | with_reducible rfl)
                    simp only [Act.put, List.setIfInBounds_toArray, List.set_cons_zero, List.set_cons_succ]
                    refine wpAnyH_take (i := 12) (oi := { dst := some 33, op := Op.binOp BinOp.add 9 (Operand.tmp 32) (Operand.const (Value.string { data := #[32, 100, 111, 32] })) 9, type := 9, pos := "l09_policy.go:179", after := #[{ on := 11, ground := Ground.data }], guard := none }) (v := ?vr131) rfl (by kernel_rfl) (by kernel_rfl) (by kernel_rfl) (fun _ _ _ h => h) (Or.inl ⟨by rfl, ?hyr131⟩) hHeld ?restr131
                    case hyr131 => (intro w hSw; (try dsimp only at hSw); go_simp; first | done | (rw [if_neg (by omega)]; done) | (rw [if_neg (by omega)]; with_reducible rfl) | with_reducible rfl)
                    simp only [Act.put, List.setIfInBounds_toArray, List.set_cons_zero, List.set_cons_succ]
                    refine wpAnyH_take (i := 16) (oi := { dst := some 37, op := Op.binOp BinOp.add 9 (Operand.tmp 33) (Operand.tmp 36) 9, type := 9, pos := "l09_policy.go:179", after := #[{ on := 12, ground := Ground.data }, { on := 15, ground := Ground.data }], guard := none }) (v := ?vr132) rfl (by kernel_rfl) (by kernel_rfl) (by kernel_rfl) (fun _ _ _ h => h) (Or.inl ⟨by rfl, ?hyr132⟩) hHeld ?restr132
                    case hyr132 => (intro w hSw; (try dsimp only at hSw); go_simp; first | done | (rw [if_neg (by omega)]; done) | (rw [if_neg (by omega)]; with_reducible rfl) | with_reducible rfl)
                    simp only [Act.put, List.setIfInBounds_toArray, List.set_cons_zero, List.set_cons_succ]
                    refine wpAnyH_take (i := 17) (oi := { dst := some 38, op := Op.binOp BinOp.add 9 (Operand.tmp 37) (Operand.const (Value.string { data := #[32, 111, 110, 32] })) 9, type := 9, pos := "l09_policy.go:179", after := #[{ on := 16, ground := Ground.data }], guard := none }) (v := ?vr133) rfl (by kernel_rfl) (by kernel_rfl) (by kernel_rfl) (fun _ _ _ h => h) (Or.inl ⟨by rfl, ?hyr133⟩) hHeld ?restr133
                    case hyr133 => (intro w hSw; (try dsimp only at hSw); go_simp; first | done | (rw [if_neg (by omega)]; done) | (rw [if_neg (by omega)]; with_reducible rfl) | with_reducible rfl)
                    simp only [Act.put, List.setIfInBounds_toArray, List.set_cons_zero, List.set_cons_succ]
                    refine wpAnyH_take (i := 21) (oi := { dst := some 42, op := Op.binOp BinOp.add 9 (Operand.tmp 38) (Operand.tmp 41) 9, type := 9, pos := "l09_policy.go:179", after := #[{ on := 17, ground := Ground.data }, { on := 20, ground := Ground.data }], guard := none }) (v := ?vr134) rfl (by kernel_rfl) (by kernel_rfl) (by kernel_rfl) (fun _ _ _ h => h) (Or.inl ⟨by rfl, ?hyr134⟩) hHeld ?restr134
                    case hyr134 => (intro w hSw; (try dsimp only at hSw); go_simp; first | done | (rw [if_neg (by omega)]; done) | (rw [if_neg (by omega)]; with_reducible rfl) | with_reducible rfl)
                    simp only [Act.put, List.setIfInBounds_toArray, List.set_cons_zero, List.set_cons_succ]
                    refine wpAnyH_take (i := 22) (oi := { dst := some 3, op := Op.assign (Operand.tmp 42), type := 9, pos := "l09_policy.go:179", after := #[{ on := 21, ground := Ground.data }, { on := 20, ground := Ground.chain }, { on := 0, ground := Ground.phase }, { on := 1, ground := Ground.phase }, { on := 2, ground := Ground.phase }, { on := 3, ground := Ground.phase }, { on := 4, ground := Ground.phase }, { on := 5, ground := Ground.phase }, { on := 6, ground := Ground.phase }, { on := 7, ground := Ground.phase }, { on := 8, ground := Ground.phase }, { on := 9, ground := Ground.phase }, { on := 10, ground := Ground.phase }, { on := 11, ground := Ground.phase }, { on := 12, ground := Ground.phase }, { on := 13, ground := Ground.phase }, { on := 14, ground := Ground.phase }, { on := 15, ground := Ground.phase }, { on := 16, ground := Ground.phase }, { on := 17, ground := Ground.phase }, { on := 18, ground := Ground.phase }, { on := 19, ground := Ground.phase }, { on := 20, ground := Ground.phase }, { on := 21, ground := Ground.phase }], guard := none }) (v := ?vr135) rfl (by kernel_rfl) (by kernel_rfl) (by kernel_rfl) (fun _ _ _ h => h) (Or.inl ⟨by rfl, ?hyr135⟩) hHeld ?restr135
                    case hyr135 => (intro w hSw; (try dsimp only at hSw); go_simp; first | done | (rw [if_neg (by omega)]; done) | (rw [if_neg (by omega)]; with_reducible rfl) | with_reducible rfl)
                    simp only [Act.put, List.setIfInBounds_toArray, List.set_cons_zero, List.set_cons_succ]
                    refine wpAnyH_done (by kernel_rfl) ?_ _
                    go_wp2
                    go_meet
                    exact ⟨⟨_, rfl, by simp only [ba_app, HL.out, Q1.out, Q2.out, Q3.out]; unfold lnH ew; simp, by simp only [sizeApp]; show t.size + 4 + 5 + q1.size + 4 + q2.size + 4 + q3.size ≤ 30000; omega⟩, by first | exact BD.out | exact BA.out _ | exact BX.out _⟩
            · go_simp
              refine (J1 _ (by first | exact BD.out | exact BA.out _ | exact BX.out _)).out.mono ?_
              rintro e w5 ⟨⟨q1, rfl, hq1, hz1⟩, hw5⟩
              obtain rfl := hw5.symm
              have Q1 := hid hq1
              clear hq1
              go_wp2_with fail
              refine hK.out _ _ ?_ (fun hHeld => ?_)
              · first | exact ⟨A2.out.cell 0, A2.out.cell 1, A2.out.cell 2, A2.out.cell 3⟩ | exact ⟨(A2.out.alloc _).cell 0, (A2.out.alloc _).cell 1, (A2.out.alloc _).cell 2, (A2.out.alloc _).cell 3⟩
              clear hK K
              try simp only [Act.put, List.setIfInBounds_toArray, List.set_cons_zero, List.set_cons_succ]
              refine wpAnyH_ready (rs := [1, 15]) (by kernel_rfl) (by simp) ?_
              refine AllReadyH.cons (o := { dst := some 22, op := Op.buildSlice 70 3 #[(0, Operand.const (Value.string { data := #[] })), (1, Operand.const (Value.string { data := #[97, 108, 108, 111, 119] })), (2, Operand.const (Value.string { data := #[100, 101, 110, 121] }))], type := 70, pos := "l09_policy.go:179", after := #[], guard := none }) rfl (fun K hK => ?_) (AllReadyH.cons (o := { dst := some 36, op := Op.call { callee := Callee.value (Operand.func 29), args := #[Operand.tmp 35], argTypes := #[70] }, type := 9, pos := "l09_policy.go:179", after := #[{ on := 14, ground := Ground.data }, { on := 10, ground := Ground.chain }], guard := none }) rfl (fun K hK => ?_) AllReadyH.nil)
              · go_simp
                refine hK.out _ _ ?_ (fun hHeld => ?_)
                · first | exact ⟨A2.out.cell 0, A2.out.cell 1, A2.out.cell 2, A2.out.cell 3⟩ | exact ⟨(A2.out.alloc _).cell 0, (A2.out.alloc _).cell 1, (A2.out.alloc _).cell 2, (A2.out.alloc _).cell 3⟩
                clear hK K
                try simp only [Act.put, List.setIfInBounds_toArray, List.set_cons_zero, List.set_cons_succ]
                refine wpAnyH_take (i := 4) (oi := { dst := some 25, op := Op.indexAddr 70 (Operand.tmp 22) (Operand.tmp 24), type := 0, pos := "l09_policy.go:179", after := #[{ on := 1, ground := Ground.data }, { on := 3, ground := Ground.data }], guard := none }) (v := ?vr136) rfl (by kernel_rfl) (by kernel_rfl) (by kernel_rfl) (fun _ _ _ h => h) (Or.inl ⟨by rfl, ?hyr136⟩) hHeld ?restr136
                case hyr136 => (intro w hSw; (try dsimp only at hSw); go_simp; first | done | (rw [if_neg (by omega)]; done) | (rw [if_neg (by omega)]; with_reducible rfl) | with_reducible rfl)
                simp only [Act.put, List.setIfInBounds_toArray, List.set_cons_zero, List.set_cons_succ]
                refine wpAnyH_ready (rs := [5, 15]) (by kernel_rfl) (by simp) ?_
                refine AllReadyH.cons (o := { dst := some 26, op := Op.load 9 (Operand.tmp 25), type := 9, pos := "l09_policy.go:179", after := #[{ on := 4, ground := Ground.data }], guard := none }) rfl (fun K hK => ?_) (AllReadyH.cons (o := { dst := some 36, op := Op.call { callee := Callee.value (Operand.func 29), args := #[Operand.tmp 35], argTypes := #[70] }, type := 9, pos := "l09_policy.go:179", after := #[{ on := 14, ground := Ground.data }, { on := 10, ground := Ground.chain }], guard := none }) rfl (fun K hK => ?_) AllReadyH.nil)
                · go_simp
                  refine hK.out _ _ ?_ (fun hHeld => ?_)
                  · first | exact ⟨A2.out.cell 0, A2.out.cell 1, A2.out.cell 2, A2.out.cell 3⟩ | exact ⟨(A2.out.alloc _).cell 0, (A2.out.alloc _).cell 1, (A2.out.alloc _).cell 2, (A2.out.alloc _).cell 3⟩
                  clear hK K
                  try simp only [Act.put, List.setIfInBounds_toArray, List.set_cons_zero, List.set_cons_succ]
                  refine wpAnyH_take (i := 6) (oi := { dst := some 27, op := Op.binOp BinOp.add 9 (Operand.tmp 21) (Operand.tmp 26) 9, type := 9, pos := "l09_policy.go:179", after := #[{ on := 0, ground := Ground.data }, { on := 5, ground := Ground.data }], guard := none }) (v := ?vr137) rfl (by kernel_rfl) (by kernel_rfl) (by kernel_rfl) (fun _ _ _ h => h) (Or.inl ⟨by rfl, ?hyr137⟩) hHeld ?restr137
                  case hyr137 => (intro w hSw; (try dsimp only at hSw); go_simp; first | done | (rw [if_neg (by omega)]; done) | (rw [if_neg (by omega)]; with_reducible rfl) | with_reducible rfl)
                  simp only [Act.put, List.setIfInBounds_toArray, List.set_cons_zero, List.set_cons_succ]
                  refine wpAnyH_take (i := 7) (oi := { dst := some 28, op := Op.binOp BinOp.add 9 (Operand.tmp 27) (Operand.const (Value.string { data := #[32, 119, 104, 111, 32] })) 9, type := 9, pos := "l09_policy.go:179", after := #[{ on := 6, ground := Ground.data }], guard := none }) (v := ?vr138) rfl (by kernel_rfl) (by kernel_rfl) (by kernel_rfl) (fun _ _ _ h => h) (Or.inl ⟨by rfl, ?hyr138⟩) hHeld ?restr138
                  case hyr138 => (intro w hSw; (try dsimp only at hSw); go_simp; first | done | (rw [if_neg (by omega)]; done) | (rw [if_neg (by omega)]; with_reducible rfl) | with_reducible rfl)
                  simp only [Act.put, List.setIfInBounds_toArray, List.set_cons_zero, List.set_cons_succ]
                  refine wpAnyH_take (i := 11) (oi := { dst := some 32, op := Op.binOp BinOp.add 9 (Operand.tmp 28) (Operand.tmp 31) 9, type := 9, pos := "l09_policy.go:179", after := #[{ on := 7, ground := Ground.data }, { on := 10, ground := Ground.data }], guard := none }) (v := ?vr139) rfl (by kernel_rfl) (by kernel_rfl) (by kernel_rfl) (fun _ _ _ h => h) (Or.inl ⟨by rfl, ?hyr139⟩) hHeld ?restr139
                  case hyr139 => (intro w hSw; (try dsimp only at hSw); go_simp; first | done | (rw [if_neg (by omega)]; done) | (rw [if_neg (by omega)]; with_reducible rfl) | with_reducible rfl)
                  simp only [Act.put, List.setIfInBounds_toArray, List.set_cons_zero, List.set_cons_succ]
                  refine wpAnyH_take (i := 12) (oi := { dst := some 33, op := Op.binOp BinOp.add 9 (Operand.tmp 32) (Operand.const (Value.string { data := #[32, 100, 111, 32] })) 9, type := 9, pos := "l09_policy.go:179", after := #[{ on := 11, ground := Ground.data }], guard := none }) (v := ?vr140) rfl (by kernel_rfl) (by kernel_rfl) (by kernel_rfl) (fun _ _ _ h => h) (Or.inl ⟨by rfl, ?hyr140⟩) hHeld ?restr140
                  case hyr140 => (intro w hSw; (try dsimp only at hSw); go_simp; first | done | (rw [if_neg (by omega)]; done) | (rw [if_neg (by omega)]; with_reducible rfl) | with_reducible rfl)
                  simp only [Act.put, List.setIfInBounds_toArray, List.set_cons_zero, List.set_cons_succ]
                  refine wpAnyH_ready (rs := [15]) (by kernel_rfl) (by simp) ?_
                  refine AllReadyH.cons (o := { dst := some 36, op := Op.call { callee := Callee.value (Operand.func 29), args := #[Operand.tmp 35], argTypes := #[70] }, type := 9, pos := "l09_policy.go:179", after := #[{ on := 14, ground := Ground.data }, { on := 10, ground := Ground.chain }], guard := none }) rfl (fun K hK => ?_) AllReadyH.nil
                  go_simp
                  refine (J2 _ (by first | exact BD.out | exact BA.out _ | exact BX.out _)).out.mono ?_
                  rintro e w5 ⟨⟨q2, rfl, hq2, hz2⟩, hw5⟩
                  obtain rfl := hw5.symm
                  have Q2 := hid hq2
                  clear hq2
                  go_wp2_with fail
                  refine hK.out _ _ ?_ (fun hHeld => ?_)
                  · first | exact ⟨A2.out.cell 0, A2.out.cell 1, A2.out.cell 2, A2.out.cell 3⟩ | exact ⟨(A2.out.alloc _).cell 0, (A2.out.alloc _).cell 1, (A2.out.alloc _).cell 2, (A2.out.alloc _).cell 3⟩
                  clear hK K
                  try simp only [Act.put, List.setIfInBounds_toArray, List.set_cons_zero, List.set_cons_succ]
                  refine wpAnyH_take (i := 16) (oi := { dst := some 37, op := Op.binOp BinOp.add 9 (Operand.tmp 33) (Operand.tmp 36) 9, type := 9, pos := "l09_policy.go:179", after := #[{ on := 12, ground := Ground.data }, { on := 15, ground := Ground.data }], guard := none }) (v := ?vr141) rfl (by kernel_rfl) (by kernel_rfl) (by kernel_rfl) (fun _ _ _ h => h) (Or.inl ⟨by rfl, ?hyr141⟩) hHeld ?restr141
                  case hyr141 => (intro w hSw; (try dsimp only at hSw); go_simp; first | done | (rw [if_neg (by omega)]; done) | (rw [if_neg (by omega)]; with_reducible rfl) | with_reducible rfl)
                  simp only [Act.put, List.setIfInBounds_toArray, List.set_cons_zero, List.set_cons_succ]
                  refine wpAnyH_take (i := 17) (oi := { dst := some 38, op := Op.binOp BinOp.add 9 (Operand.tmp 37) (Operand.const (Value.string { data := #[32, 111, 110, 32] })) 9, type := 9, pos := "l09_policy.go:179", after := #[{ on := 16, ground := Ground.data }], guard := none }) (v := ?vr142) rfl (by kernel_rfl) (by kernel_rfl) (by kernel_rfl) (fun _ _ _ h => h) (Or.inl ⟨by rfl, ?hyr142⟩) hHeld ?restr142
                  case hyr142 => (intro w hSw; (try dsimp only at hSw); go_simp; first | done | (rw [if_neg (by omega)]; done) | (rw [if_neg (by omega)]; with_reducible rfl) | with_reducible rfl)
                  simp only [Act.put, List.setIfInBounds_toArray, List.set_cons_zero, List.set_cons_succ]
                  refine wpAnyH_ready (rs := [20]) (by kernel_rfl) (by simp) ?_
                  refine AllReadyH.cons (o := { dst := some 41, op := Op.call { callee := Callee.value (Operand.func 29), args := #[Operand.tmp 40], argTypes := #[70] }, type := 9, pos := "l09_policy.go:179", after := #[{ on := 19, ground := Ground.data }, { on := 15, ground := Ground.chain }], guard := none }) rfl (fun K hK => ?_) AllReadyH.nil
                  go_simp
                  refine (J3 _ (by first | exact BD.out | exact BA.out _ | exact BX.out _)).out.mono ?_
                  rintro e w5 ⟨⟨q3, rfl, hq3, hz3⟩, hw5⟩
                  obtain rfl := hw5.symm
                  have Q3 := hid hq3
                  clear hq3
                  go_wp2_with fail
                  refine hK.out _ _ ?_ (fun hHeld => ?_)
                  · first | exact ⟨A2.out.cell 0, A2.out.cell 1, A2.out.cell 2, A2.out.cell 3⟩ | exact ⟨(A2.out.alloc _).cell 0, (A2.out.alloc _).cell 1, (A2.out.alloc _).cell 2, (A2.out.alloc _).cell 3⟩
                  clear hK K
                  try simp only [Act.put, List.setIfInBounds_toArray, List.set_cons_zero, List.set_cons_succ]
                  refine wpAnyH_take (i := 21) (oi := { dst := some 42, op := Op.binOp BinOp.add 9 (Operand.tmp 38) (Operand.tmp 41) 9, type := 9, pos := "l09_policy.go:179", after := #[{ on := 17, ground := Ground.data }, { on := 20, ground := Ground.data }], guard := none }) (v := ?vr143) rfl (by kernel_rfl) (by kernel_rfl) (by kernel_rfl) (fun _ _ _ h => h) (Or.inl ⟨by rfl, ?hyr143⟩) hHeld ?restr143
                  case hyr143 => (intro w hSw; (try dsimp only at hSw); go_simp; first | done | (rw [if_neg (by omega)]; done) | (rw [if_neg (by omega)]; with_reducible rfl) | with_reducible rfl)
                  simp only [Act.put, List.setIfInBounds_toArray, List.set_cons_zero, List.set_cons_succ]
                  refine wpAnyH_take (i := 22) (oi := { dst := some 3, op := Op.assign (Operand.tmp 42), type := 9, pos := "l09_policy.go:179", after := #[{ on := 21, ground := Ground.data }, { on := 20, ground := Ground.chain }, { on := 0, ground := Ground.phase }, { on := 1, ground := Ground.phase }, { on := 2, ground := Ground.phase }, { on := 3, ground := Ground.phase }, { on := 4, ground := Ground.phase }, { on := 5, ground := Ground.phase }, { on := 6, ground := Ground.phase }, { on := 7, ground := Ground.phase }, { on := 8, ground := Ground.phase }, { on := 9, ground := Ground.phase }, { on := 10, ground := Ground.phase }, { on := 11, ground := Ground.phase }, { on := 12, ground := Ground.phase }, { on := 13, ground := Ground.phase }, { on := 14, ground := Ground.phase }, { on := 15, ground := Ground.phase }, { on := 16, ground := Ground.phase }, { on := 17, ground := Ground.phase }, { on := 18, ground := Ground.phase }, { on := 19, ground := Ground.phase }, { on := 20, ground := Ground.phase }, { on := 21, ground := Ground.phase }], guard := none }) (v := ?vr144) rfl (by kernel_rfl) (by kernel_rfl) (by kernel_rfl) (fun _ _ _ h => h) (Or.inl ⟨by rfl, ?hyr144⟩) hHeld ?restr144
                  case hyr144 => (intro w hSw; (try dsimp only at hSw); go_simp; first | done | (rw [if_neg (by omega)]; done) | (rw [if_neg (by omega)]; with_reducible rfl) | with_reducible rfl)
                  simp only [Act.put, List.setIfInBounds_toArray, List.set_cons_zero, List.set_cons_succ]
                  refine wpAnyH_done (by kernel_rfl) ?_ _
                  go_wp2
                  go_meet
                  exact ⟨⟨_, rfl, by simp only [ba_app, HL.out, Q1.out, Q2.out, Q3.out]; unfold lnH ew; simp, by simp only [sizeApp]; show t.size + 4 + 5 + q1.size + 4 + q2.size + 4 + q3.size ≤ 30000; omega⟩, by first | exact BD.out | exact BA.out _ | exact BX.out _⟩
                · go_simp
                  refine (J2 _ (by first | exact BD.out | exact BA.out _ | exact BX.out _)).out.mono ?_
                  rintro e w5 ⟨⟨q2, rfl, hq2, hz2⟩, hw5⟩
                  obtain rfl := hw5.symm
                  have Q2 := hid hq2
                  clear hq2
                  go_wp2_with fail
                  refine hK.out _ _ ?_ (fun hHeld => ?_)
                  · first | exact ⟨A2.out.cell 0, A2.out.cell 1, A2.out.cell 2, A2.out.cell 3⟩ | exact ⟨(A2.out.alloc _).cell 0, (A2.out.alloc _).cell 1, (A2.out.alloc _).cell 2, (A2.out.alloc _).cell 3⟩
                  clear hK K
                  try simp only [Act.put, List.setIfInBounds_toArray, List.set_cons_zero, List.set_cons_succ]
                  refine wpAnyH_ready (rs := [5, 20]) (by kernel_rfl) (by simp) ?_
                  refine AllReadyH.cons (o := { dst := some 26, op := Op.load 9 (Operand.tmp 25), type := 9, pos := "l09_policy.go:179", after := #[{ on := 4, ground := Ground.data }], guard := none }) rfl (fun K hK => ?_) (AllReadyH.cons (o := { dst := some 41, op := Op.call { callee := Callee.value (Operand.func 29), args := #[Operand.tmp 40], argTypes := #[70] }, type := 9, pos := "l09_policy.go:179", after := #[{ on := 19, ground := Ground.data }, { on := 15, ground := Ground.chain }], guard := none }) rfl (fun K hK => ?_) AllReadyH.nil)
                  · go_simp
                    refine hK.out _ _ ?_ (fun hHeld => ?_)
                    · first | exact ⟨A2.out.cell 0, A2.out.cell 1, A2.out.cell 2, A2.out.cell 3⟩ | exact ⟨(A2.out.alloc _).cell 0, (A2.out.alloc _).cell 1, (A2.out.alloc _).cell 2, (A2.out.alloc _).cell 3⟩
                    clear hK K
                    try simp only [Act.put, List.setIfInBounds_toArray, List.set_cons_zero, List.set_cons_succ]
                    refine wpAnyH_take (i := 6) (oi := { dst := some 27, op := Op.binOp BinOp.add 9 (Operand.tmp 21) (Operand.tmp 26) 9, type := 9, pos := "l09_policy.go:179", after := #[{ on := 0, ground := Ground.data }, { on := 5, ground := Ground.data }], guard := none }) (v := ?vr145) rfl (by kernel_rfl) (by kernel_rfl) (by kernel_rfl) (fun _ _ _ h => h) (Or.inl ⟨by rfl, ?hyr145⟩) hHeld ?restr145
                    case hyr145 => (intro w hSw; (try dsimp only at hSw); go_simp; first | done | (rw [if_neg (by omega)]; done) | (rw [if_neg (by omega)]; with_reducible rfl) | with_reducible rfl)
                    simp only [Act.put, List.setIfInBounds_toArray, List.set_cons_zero, List.set_cons_succ]
                    refine wpAnyH_take (i := 7) (oi := { dst := some 28, op := Op.binOp BinOp.add 9 (Operand.tmp 27) (Operand.const (Value.string { data := #[32, 119, 104, 111, 32] })) 9, type := 9, pos := "l09_policy.go:179", after := #[{ on := 6, ground := Ground.data }], guard := none }) (v := ?vr146) rfl (by kernel_rfl) (by kernel_rfl) (by kernel_rfl) (fun _ _ _ h => h) (Or.inl ⟨by rfl, ?hyr146⟩) hHeld ?restr146
                    case hyr146 => (intro w hSw; (try dsimp only at hSw); go_simp; first | done | (rw [if_neg (by omega)]; done) | (rw [if_neg (by omega)]; with_reducible rfl) | with_reducible rfl)
                    simp only [Act.put, List.setIfInBounds_toArray, List.set_cons_zero, List.set_cons_succ]
                    refine wpAnyH_take (i := 11) (oi := { dst := some 32, op := Op.binOp BinOp.add 9 (Operand.tmp 28) (Operand.tmp 31) 9, type := 9, pos := "l09_policy.go:179", after := #[{ on := 7, ground := Ground.data }, { on := 10, ground := Ground.data }], guard := none }) (v := ?vr147) rfl (by kernel_rfl) (by kernel_rfl) (by kernel_rfl) (fun _ _ _ h => h) (Or.inl ⟨by rfl, ?hyr147⟩) hHeld ?restr147
                    case hyr147 => (intro w hSw; (try dsimp only at hSw); go_simp; first | done | (rw [if_neg (by omega)]; done) | (rw [if_neg (by omega)]; with_reducible rfl) | with_reducible rfl)
                    simp only [Act.put, List.setIfInBounds_toArray, List.set_cons_zero, List.set_cons_succ]
                    refine wpAnyH_take (i := 12) (oi := { dst := some 33, op := Op.binOp BinOp.add 9 (Operand.tmp 32) (Operand.const (Value.string { data := #[32, 100, 111, 32] })) 9, type := 9, pos := "l09_policy.go:179", after := #[{ on := 11, ground := Ground.data }], guard := none }) (v := ?vr148) rfl (by kernel_rfl) (by kernel_rfl) (by kernel_rfl) (fun _ _ _ h => h) (Or.inl ⟨by rfl, ?hyr148⟩) hHeld ?restr148
                    case hyr148 => (intro w hSw; (try dsimp only at hSw); go_simp; first | done | (rw [if_neg (by omega)]; done) | (rw [if_neg (by omega)]; with_reducible rfl) | with_reducible rfl)
                    simp only [Act.put, List.setIfInBounds_toArray, List.set_cons_zero, List.set_cons_succ]
                    refine wpAnyH_take (i := 16) (oi := { dst := some 37, op := Op.binOp BinOp.add 9 (Operand.tmp 33) (Operand.tmp 36) 9, type := 9, pos := "l09_policy.go:179", after := #[{ on := 12, ground := Ground.data }, { on := 15, ground := Ground.data }], guard := none }) (v := ?vr149) rfl (by kernel_rfl) (by kernel_rfl) (by kernel_rfl) (fun _ _ _ h => h) (Or.inl ⟨by rfl, ?hyr149⟩) hHeld ?restr149
                    case hyr149 => (intro w hSw; (try dsimp only at hSw); go_simp; first | done | (rw [if_neg (by omega)]; done) | (rw [if_neg (by omega)]; with_reducible rfl) | with_reducible rfl)
                    simp only [Act.put, List.setIfInBounds_toArray, List.set_cons_zero, List.set_cons_succ]
                    refine wpAnyH_take (i := 17) (oi := { dst := some 38, op := Op.binOp BinOp.add 9 (Operand.tmp 37) (Operand.const (Value.string { data := #[32, 111, 110, 32] })) 9, type := 9, pos := "l09_policy.go:179", after := #[{ on := 16, ground := Ground.data }], guard := none }) (v := ?vr150) rfl (by kernel_rfl) (by kernel_rfl) (by kernel_rfl) (fun _ _ _ h => h) (Or.inl ⟨by rfl, ?hyr150⟩) hHeld ?restr150
                    case hyr150 => (intro w hSw; (try dsimp only at hSw); go_simp; first | done | (rw [if_neg (by omega)]; done) | (rw [if_neg (by omega)]; with_reducible rfl) | with_reducible rfl)
                    simp only [Act.put, List.setIfInBounds_toArray, List.set_cons_zero, List.set_cons_succ]
                    refine wpAnyH_ready (rs := [20]) (by kernel_rfl) (by simp) ?_
                    refine AllReadyH.cons (o := { dst := some 41, op := Op.call { callee := Callee.value (Operand.func 29), args := #[Operand.tmp 40], argTypes := #[70] }, type := 9, pos := "l09_policy.go:179", after := #[{ on := 19, ground := Ground.data }, { on := 15, ground := Ground.chain }], guard := none }) rfl (fun K hK => ?_) AllReadyH.nil
                    go_simp
                    refine (J3 _ (by first | exact BD.out | exact BA.out _ | exact BX.out _)).out.mono ?_
                    rintro e w5 ⟨⟨q3, rfl, hq3, hz3⟩, hw5⟩
                    obtain rfl := hw5.symm
                    have Q3 := hid hq3
                    clear hq3
                    go_wp2_with fail
                    refine hK.out _ _ ?_ (fun hHeld => ?_)
                    · first | exact ⟨A2.out.cell 0, A2.out.cell 1, A2.out.cell 2, A2.out.cell 3⟩ | exact ⟨(A2.out.alloc _).cell 0, (A2.out.alloc _).cell 1, (A2.out.alloc _).cell 2, (A2.out.alloc _).cell 3⟩
                    clear hK K
                    try simp only [Act.put, List.setIfInBounds_toArray, List.set_cons_zero, List.set_cons_succ]
                    refine wpAnyH_take (i := 21) (oi := { dst := some 42, op := Op.binOp BinOp.add 9 (Operand.tmp 38) (Operand.tmp 41) 9, type := 9, pos := "l09_policy.go:179", after := #[{ on := 17, ground := Ground.data }, { on := 20, ground := Ground.data }], guard := none }) (v := ?vr151) rfl (by kernel_rfl) (by kernel_rfl) (by kernel_rfl) (fun _ _ _ h => h) (Or.inl ⟨by rfl, ?hyr151⟩) hHeld ?restr151
                    case hyr151 => (intro w hSw; (try dsimp only at hSw); go_simp; first | done | (rw [if_neg (by omega)]; done) | (rw [if_neg (by omega)]; with_reducible rfl) | with_reducible rfl)
                    simp only [Act.put, List.setIfInBounds_toArray, List.set_cons_zero, List.set_cons_succ]
                    refine wpAnyH_take (i := 22) (oi := { dst := some 3, op := Op.assign (Operand.tmp 42), type := 9, pos := "l09_policy.go:179", after := #[{ on := 21, ground := Ground.data }, { on := 20, ground := Ground.chain }, { on := 0, ground := Ground.phase }, { on := 1, ground := Ground.phase }, { on := 2, ground := Ground.phase }, { on := 3, ground := Ground.phase }, { on := 4, ground := Ground.phase }, { on := 5, ground := Ground.phase }, { on := 6, ground := Ground.phase }, { on := 7, ground := Ground.phase }, { on := 8, ground := Ground.phase }, { on := 9, ground := Ground.phase }, { on := 10, ground := Ground.phase }, { on := 11, ground := Ground.phase }, { on := 12, ground := Ground.phase }, { on := 13, ground := Ground.phase }, { on := 14, ground := Ground.phase }, { on := 15, ground := Ground.phase }, { on := 16, ground := Ground.phase }, { on := 17, ground := Ground.phase }, { on := 18, ground := Ground.phase }, { on := 19, ground := Ground.phase }, { on := 20, ground := Ground.phase }, { on := 21, ground := Ground.phase }], guard := none }) (v := ?vr152) rfl (by kernel_rfl) (by kernel_rfl) (by kernel_rfl) (fun _ _ _ h => h) (Or.inl ⟨by rfl, ?hyr152⟩) hHeld ?restr152
                    case hyr152 => (intro w hSw; (try dsimp only at hSw); go_simp; first | done | (rw [if_neg (by omega)]; done) | (rw [if_neg (by omega)]; with_reducible rfl) | with_reducible rfl)
                    simp only [Act.put, List.setIfInBounds_toArray, List.set_cons_zero, List.set_cons_succ]
                    refine wpAnyH_done (by kernel_rfl) ?_ _
                    go_wp2
                    go_meet
                    exact ⟨⟨_, rfl, by simp only [ba_app, HL.out, Q1.out, Q2.out, Q3.out]; unfold lnH ew; simp, by simp only [sizeApp]; show t.size + 4 + 5 + q1.size + 4 + q2.size + 4 + q3.size ≤ 30000; omega⟩, by first | exact BD.out | exact BA.out _ | exact BX.out _⟩
                  · go_simp
                    refine (J3 _ (by first | exact BD.out | exact BA.out _ | exact BX.out _)).out.mono ?_
                    rintro e w5 ⟨⟨q3, rfl, hq3, hz3⟩, hw5⟩
                    obtain rfl := hw5.symm
                    have Q3 := hid hq3
                    clear hq3
                    go_wp2_with fail
                    refine hK.out _ _ ?_ (fun hHeld => ?_)
                    · first | exact ⟨A2.out.cell 0, A2.out.cell 1, A2.out.cell 2, A2.out.cell 3⟩ | exact ⟨(A2.out.alloc _).cell 0, (A2.out.alloc _).cell 1, (A2.out.alloc _).cell 2, (A2.out.alloc _).cell 3⟩
                    clear hK K
                    try simp only [Act.put, List.setIfInBounds_toArray, List.set_cons_zero, List.set_cons_succ]
                    refine wpAnyH_ready (rs := [5]) (by kernel_rfl) (by simp) ?_
                    refine AllReadyH.cons (o := { dst := some 26, op := Op.load 9 (Operand.tmp 25), type := 9, pos := "l09_policy.go:179", after := #[{ on := 4, ground := Ground.data }], guard := none }) rfl (fun K hK => ?_) AllReadyH.nil
                    go_simp
                    refine hK.out _ _ ?_ (fun hHeld => ?_)
                    · first | exact ⟨A2.out.cell 0, A2.out.cell 1, A2.out.cell 2, A2.out.cell 3⟩ | exact ⟨(A2.out.alloc _).cell 0, (A2.out.alloc _).cell 1, (A2.out.alloc _).cell 2, (A2.out.alloc _).cell 3⟩
                    clear hK K
                    try simp only [Act.put, List.setIfInBounds_toArray, List.set_cons_zero, List.set_cons_succ]
                    refine wpAnyH_take (i := 6) (oi := { dst := some 27, op := Op.binOp BinOp.add 9 (Operand.tmp 21) (Operand.tmp 26) 9, type := 9, pos := "l09_policy.go:179", after := #[{ on := 0, ground := Ground.data }, { on := 5, ground := Ground.data }], guard := none }) (v := ?vr153) rfl (by kernel_rfl) (by kernel_rfl) (by kernel_rfl) (fun _ _ _ h => h) (Or.inl ⟨by rfl, ?hyr153⟩) hHeld ?restr153
                    case hyr153 => (intro w hSw; (try dsimp only at hSw); go_simp; first | done | (rw [if_neg (by omega)]; done) | (rw [if_neg (by omega)]; with_reducible rfl) | with_reducible rfl)
                    simp only [Act.put, List.setIfInBounds_toArray, List.set_cons_zero, List.set_cons_succ]
                    refine wpAnyH_take (i := 7) (oi := { dst := some 28, op := Op.binOp BinOp.add 9 (Operand.tmp 27) (Operand.const (Value.string { data := #[32, 119, 104, 111, 32] })) 9, type := 9, pos := "l09_policy.go:179", after := #[{ on := 6, ground := Ground.data }], guard := none }) (v := ?vr154) rfl (by kernel_rfl) (by kernel_rfl) (by kernel_rfl) (fun _ _ _ h => h) (Or.inl ⟨by rfl, ?hyr154⟩) hHeld ?restr154
                    case hyr154 => (intro w hSw; (try dsimp only at hSw); go_simp; first | done | (rw [if_neg (by omega)]; done) | (rw [if_neg (by omega)]; with_reducible rfl) | with_reducible rfl)
                    simp only [Act.put, List.setIfInBounds_toArray, List.set_cons_zero, List.set_cons_succ]
                    refine wpAnyH_take (i := 11) (oi := { dst := some 32, op := Op.binOp BinOp.add 9 (Operand.tmp 28) (Operand.tmp 31) 9, type := 9, pos := "l09_policy.go:179", after := #[{ on := 7, ground := Ground.data }, { on := 10, ground := Ground.data }], guard := none }) (v := ?vr155) rfl (by kernel_rfl) (by kernel_rfl) (by kernel_rfl) (fun _ _ _ h => h) (Or.inl ⟨by rfl, ?hyr155⟩) hHeld ?restr155
                    case hyr155 => (intro w hSw; (try dsimp only at hSw); go_simp; first | done | (rw [if_neg (by omega)]; done) | (rw [if_neg (by omega)]; with_reducible rfl) | with_reducible rfl)
                    simp only [Act.put, List.setIfInBounds_toArray, List.set_cons_zero, List.set_cons_succ]
                    refine wpAnyH_take (i := 12) (oi := { dst := some 33, op := Op.binOp BinOp.add 9 (Operand.tmp 32) (Operand.const (Value.string { data := #[32, 100, 111, 32] })) 9, type := 9, pos := "l09_policy.go:179", after := #[{ on := 11, ground := Ground.data }], guard := none }) (v := ?vr156) rfl (by kernel_rfl) (by kernel_rfl) (by kernel_rfl) (fun _ _ _ h => h) (Or.inl ⟨by rfl, ?hyr156⟩) hHeld ?restr156
                    case hyr156 => (intro w hSw; (try dsimp only at hSw); go_simp; first | done | (rw [if_neg (by omega)]; done) | (rw [if_neg (by omega)]; with_reducible rfl) | with_reducible rfl)
                    simp only [Act.put, List.setIfInBounds_toArray, List.set_cons_zero, List.set_cons_succ]
                    refine wpAnyH_take (i := 16) (oi := { dst := some 37, op := Op.binOp BinOp.add 9 (Operand.tmp 33) (Operand.tmp 36) 9, type := 9, pos := "l09_policy.go:179", after := #[{ on := 12, ground := Ground.data }, { on := 15, ground := Ground.data }], guard := none }) (v := ?vr157) rfl (by kernel_rfl) (by kernel_rfl) (by kernel_rfl) (fun _ _ _ h => h) (Or.inl ⟨by rfl, ?hyr157⟩) hHeld ?restr157
                    case hyr157 => (intro w hSw; (try dsimp only at hSw); go_simp; first | done | (rw [if_neg (by omega)]; done) | (rw [if_neg (by omega)]; with_reducible rfl) | with_reducible rfl)
                    simp only [Act.put, List.setIfInBounds_toArray, List.set_cons_zero, List.set_cons_succ]
                    refine wpAnyH_take (i := 17) (oi := { dst := some 38, op := Op.binOp BinOp.add 9 (Operand.tmp 37) (Operand.const (Value.string { data := #[32, 111, 110, 32] })) 9, type := 9, pos := "l09_policy.go:179", after := #[{ on := 16, ground := Ground.data }], guard := none }) (v := ?vr158) rfl (by kernel_rfl) (by kernel_rfl) (by kernel_rfl) (fun _ _ _ h => h) (Or.inl ⟨by rfl, ?hyr158⟩) hHeld ?restr158
                    case hyr158 => (intro w hSw; (try dsimp only at hSw); go_simp; first | done | (rw [if_neg (by omega)]; done) | (rw [if_neg (by omega)]; with_reducible rfl) | with_reducible rfl)
                    simp only [Act.put, List.setIfInBounds_toArray, List.set_cons_zero, List.set_cons_succ]
                    refine wpAnyH_take (i := 21) (oi := { dst := some 42, op := Op.binOp BinOp.add 9 (Operand.tmp 38) (Operand.tmp 41) 9, type := 9, pos := "l09_policy.go:179", after := #[{ on := 17, ground := Ground.data }, { on := 20, ground := Ground.data }], guard := none }) (v := ?vr159) rfl (by kernel_rfl) (by kernel_rfl) (by kernel_rfl) (fun _ _ _ h => h) (Or.inl ⟨by rfl, ?hyr159⟩) hHeld ?restr159
                    case hyr159 => (intro w hSw; (try dsimp only at hSw); go_simp; first | done | (rw [if_neg (by omega)]; done) | (rw [if_neg (by omega)]; with_reducible rfl) | with_reducible rfl)
                    simp only [Act.put, List.setIfInBounds_toArray, List.set_cons_zero, List.set_cons_succ]
                    refine wpAnyH_take (i := 22) (oi := { dst := some 3, op := Op.assign (Operand.tmp 42), type := 9, pos := "l09_policy.go:179", after := #[{ on := 21, ground := Ground.data }, { on := 20, ground := Ground.chain }, { on := 0, ground := Ground.phase }, { on := 1, ground := Ground.phase }, { on := 2, ground := Ground.phase }, { on := 3, ground := Ground.phase }, { on := 4, ground := Ground.phase }, { on := 5, ground := Ground.phase }, { on := 6, ground := Ground.phase }, { on := 7, ground := Ground.phase }, { on := 8, ground := Ground.phase }, { on := 9, ground := Ground.phase }, { on := 10, ground := Ground.phase }, { on := 11, ground := Ground.phase }, { on := 12, ground := Ground.phase }, { on := 13, ground := Ground.phase }, { on := 14, ground := Ground.phase }, { on := 15, ground := Ground.phase }, { on := 16, ground := Ground.phase }, { on := 17, ground := Ground.phase }, { on := 18, ground := Ground.phase }, { on := 19, ground := Ground.phase }, { on := 20, ground := Ground.phase }, { on := 21, ground := Ground.phase }], guard := none }) (v := ?vr160) rfl (by kernel_rfl) (by kernel_rfl) (by kernel_rfl) (fun _ _ _ h => h) (Or.inl ⟨by rfl, ?hyr160⟩) hHeld ?restr160
                    case hyr160 => (intro w hSw; (try dsimp only at hSw); go_simp; first | done | (rw [if_neg (by omega)]; done) | (rw [if_neg (by omega)]; with_reducible rfl) | with_reducible rfl)
                    simp only [Act.put, List.setIfInBounds_toArray, List.set_cons_zero, List.set_cons_succ]
                    refine wpAnyH_done (by kernel_rfl) ?_ _
                    go_wp2
                    go_meet
                    exact ⟨⟨_, rfl, by simp only [ba_app, HL.out, Q1.out, Q2.out, Q3.out]; unfold lnH ew; simp, by simp only [sizeApp]; show t.size + 4 + 5 + q1.size + 4 + q2.size + 4 + q3.size ≤ 30000; omega⟩, by first | exact BD.out | exact BA.out _ | exact BX.out _⟩
              · go_simp
                refine (J2 _ (by first | exact BD.out | exact BA.out _ | exact BX.out _)).out.mono ?_
                rintro e w5 ⟨⟨q2, rfl, hq2, hz2⟩, hw5⟩
                obtain rfl := hw5.symm
                have Q2 := hid hq2
                clear hq2
                go_wp2_with fail
                refine hK.out _ _ ?_ (fun hHeld => ?_)
                · first | exact ⟨A2.out.cell 0, A2.out.cell 1, A2.out.cell 2, A2.out.cell 3⟩ | exact ⟨(A2.out.alloc _).cell 0, (A2.out.alloc _).cell 1, (A2.out.alloc _).cell 2, (A2.out.alloc _).cell 3⟩
                clear hK K
                try simp only [Act.put, List.setIfInBounds_toArray, List.set_cons_zero, List.set_cons_succ]
                refine wpAnyH_ready (rs := [1, 20]) (by kernel_rfl) (by simp) ?_
                refine AllReadyH.cons (o := { dst := some 22, op := Op.buildSlice 70 3 #[(0, Operand.const (Value.string { data := #[] })), (1, Operand.const (Value.string { data := #[97, 108, 108, 111, 119] })), (2, Operand.const (Value.string { data := #[100, 101, 110, 121] }))], type := 70, pos := "l09_policy.go:179", after := #[], guard := none }) rfl (fun K hK => ?_) (AllReadyH.cons (o := { dst := some 41, op := Op.call { callee := Callee.value (Operand.func 29), args := #[Operand.tmp 40], argTypes := #[70] }, type := 9, pos := "l09_policy.go:179", after := #[{ on := 19, ground := Ground.data }, { on := 15, ground := Ground.chain }], guard := none }) rfl (fun K hK => ?_) AllReadyH.nil)
                · go_simp
                  refine hK.out _ _ ?_ (fun hHeld => ?_)
                  · first | exact ⟨A2.out.cell 0, A2.out.cell 1, A2.out.cell 2, A2.out.cell 3⟩ | exact ⟨(A2.out.alloc _).cell 0, (A2.out.alloc _).cell 1, (A2.out.alloc _).cell 2, (A2.out.alloc _).cell 3⟩
                  clear hK K
                  try simp only [Act.put, List.setIfInBounds_toArray, List.set_cons_zero, List.set_cons_succ]
                  refine wpAnyH_take (i := 4) (oi := { dst := some 25, op := Op.indexAddr 70 (Operand.tmp 22) (Operand.tmp 24), type := 0, pos := "l09_policy.go:179", after := #[{ on := 1, ground := Ground.data }, { on := 3, ground := Ground.data }], guard := none }) (v := ?vr161) rfl (by kernel_rfl) (by kernel_rfl) (by kernel_rfl) (fun _ _ _ h => h) (Or.inl ⟨by rfl, ?hyr161⟩) hHeld ?restr161
                  case hyr161 => (intro w hSw; (try dsimp only at hSw); go_simp; first | done | (rw [if_neg (by omega)]; done) | (rw [if_neg (by omega)]; with_reducible rfl) | with_reducible rfl)
                  simp only [Act.put, List.setIfInBounds_toArray, List.set_cons_zero, List.set_cons_succ]
                  refine wpAnyH_ready (rs := [5, 20]) (by kernel_rfl) (by simp) ?_
                  refine AllReadyH.cons (o := { dst := some 26, op := Op.load 9 (Operand.tmp 25), type := 9, pos := "l09_policy.go:179", after := #[{ on := 4, ground := Ground.data }], guard := none }) rfl (fun K hK => ?_) (AllReadyH.cons (o := { dst := some 41, op := Op.call { callee := Callee.value (Operand.func 29), args := #[Operand.tmp 40], argTypes := #[70] }, type := 9, pos := "l09_policy.go:179", after := #[{ on := 19, ground := Ground.data }, { on := 15, ground := Ground.chain }], guard := none }) rfl (fun K hK => ?_) AllReadyH.nil)
                  · go_simp
                    refine hK.out _ _ ?_ (fun hHeld => ?_)
                    · first | exact ⟨A2.out.cell 0, A2.out.cell 1, A2.out.cell 2, A2.out.cell 3⟩ | exact ⟨(A2.out.alloc _).cell 0, (A2.out.alloc _).cell 1, (A2.out.alloc _).cell 2, (A2.out.alloc _).cell 3⟩
                    clear hK K
                    try simp only [Act.put, List.setIfInBounds_toArray, List.set_cons_zero, List.set_cons_succ]
                    refine wpAnyH_take (i := 6) (oi := { dst := some 27, op := Op.binOp BinOp.add 9 (Operand.tmp 21) (Operand.tmp 26) 9, type := 9, pos := "l09_policy.go:179", after := #[{ on := 0, ground := Ground.data }, { on := 5, ground := Ground.data }], guard := none }) (v := ?vr162) rfl (by kernel_rfl) (by kernel_rfl) (by kernel_rfl) (fun _ _ _ h => h) (Or.inl ⟨by rfl, ?hyr162⟩) hHeld ?restr162
                    case hyr162 => (intro w hSw; (try dsimp only at hSw); go_simp; first | done | (rw [if_neg (by omega)]; done) | (rw [if_neg (by omega)]; with_reducible rfl) | with_reducible rfl)
                    simp only [Act.put, List.setIfInBounds_toArray, List.set_cons_zero, List.set_cons_succ]
                    refine wpAnyH_take (i := 7) (oi := { dst := some 28, op := Op.binOp BinOp.add 9 (Operand.tmp 27) (Operand.const (Value.string { data := #[32, 119, 104, 111, 32] })) 9, type := 9, pos := "l09_policy.go:179", after := #[{ on := 6, ground := Ground.data }], guard := none }) (v := ?vr163) rfl (by kernel_rfl) (by kernel_rfl) (by kernel_rfl) (fun _ _ _ h => h) (Or.inl ⟨by rfl, ?hyr163⟩) hHeld ?restr163
                    case hyr163 => (intro w hSw; (try dsimp only at hSw); go_simp; first | done | (rw [if_neg (by omega)]; done) | (rw [if_neg (by omega)]; with_reducible rfl) | with_reducible rfl)
                    simp only [Act.put, List.setIfInBounds_toArray, List.set_cons_zero, List.set_cons_succ]
                    refine wpAnyH_take (i := 11) (oi := { dst := some 32, op := Op.binOp BinOp.add 9 (Operand.tmp 28) (Operand.tmp 31) 9, type := 9, pos := "l09_policy.go:179", after := #[{ on := 7, ground := Ground.data }, { on := 10, ground := Ground.data }], guard := none }) (v := ?vr164) rfl (by kernel_rfl) (by kernel_rfl) (by kernel_rfl) (fun _ _ _ h => h) (Or.inl ⟨by rfl, ?hyr164⟩) hHeld ?restr164
                    case hyr164 => (intro w hSw; (try dsimp only at hSw); go_simp; first | done | (rw [if_neg (by omega)]; done) | (rw [if_neg (by omega)]; with_reducible rfl) | with_reducible rfl)
                    simp only [Act.put, List.setIfInBounds_toArray, List.set_cons_zero, List.set_cons_succ]
                    refine wpAnyH_take (i := 12) (oi := { dst := some 33, op := Op.binOp BinOp.add 9 (Operand.tmp 32) (Operand.const (Value.string { data := #[32, 100, 111, 32] })) 9, type := 9, pos := "l09_policy.go:179", after := #[{ on := 11, ground := Ground.data }], guard := none }) (v := ?vr165) rfl (by kernel_rfl) (by kernel_rfl) (by kernel_rfl) (fun _ _ _ h => h) (Or.inl ⟨by rfl, ?hyr165⟩) hHeld ?restr165
                    case hyr165 => (intro w hSw; (try dsimp only at hSw); go_simp; first | done | (rw [if_neg (by omega)]; done) | (rw [if_neg (by omega)]; with_reducible rfl) | with_reducible rfl)
                    simp only [Act.put, List.setIfInBounds_toArray, List.set_cons_zero, List.set_cons_succ]
                    refine wpAnyH_take (i := 16) (oi := { dst := some 37, op := Op.binOp BinOp.add 9 (Operand.tmp 33) (Operand.tmp 36) 9, type := 9, pos := "l09_policy.go:179", after := #[{ on := 12, ground := Ground.data }, { on := 15, ground := Ground.data }], guard := none }) (v := ?vr166) rfl (by kernel_rfl) (by kernel_rfl) (by kernel_rfl) (fun _ _ _ h => h) (Or.inl ⟨by rfl, ?hyr166⟩) hHeld ?restr166
                    case hyr166 => (intro w hSw; (try dsimp only at hSw); go_simp; first | done | (rw [if_neg (by omega)]; done) | (rw [if_neg (by omega)]; with_reducible rfl) | with_reducible rfl)
                    simp only [Act.put, List.setIfInBounds_toArray, List.set_cons_zero, List.set_cons_succ]
                    refine wpAnyH_take (i := 17) (oi := { dst := some 38, op := Op.binOp BinOp.add 9 (Operand.tmp 37) (Operand.const (Value.string { data := #[32, 111, 110, 32] })) 9, type := 9, pos := "l09_policy.go:179", after := #[{ on := 16, ground := Ground.data }], guard := none }) (v := ?vr167) rfl (by kernel_rfl) (by kernel_rfl) (by kernel_rfl) (fun _ _ _ h => h) (Or.inl ⟨by rfl, ?hyr167⟩) hHeld ?restr167
                    case hyr167 => (intro w hSw; (try dsimp only at hSw); go_simp; first | done | (rw [if_neg (by omega)]; done) | (rw [if_neg (by omega)]; with_reducible rfl) | with_reducible rfl)
                    simp only [Act.put, List.setIfInBounds_toArray, List.set_cons_zero, List.set_cons_succ]
                    refine wpAnyH_ready (rs := [20]) (by kernel_rfl) (by simp) ?_
                    refine AllReadyH.cons (o := { dst := some 41, op := Op.call { callee := Callee.value (Operand.func 29), args := #[Operand.tmp 40], argTypes := #[70] }, type := 9, pos := "l09_policy.go:179", after := #[{ on := 19, ground := Ground.data }, { on := 15, ground := Ground.chain }], guard := none }) rfl (fun K hK => ?_) AllReadyH.nil
                    go_simp
                    refine (J3 _ (by first | exact BD.out | exact BA.out _ | exact BX.out _)).out.mono ?_
                    rintro e w5 ⟨⟨q3, rfl, hq3, hz3⟩, hw5⟩
                    obtain rfl := hw5.symm
                    have Q3 := hid hq3
                    clear hq3
                    go_wp2_with fail
                    refine hK.out _ _ ?_ (fun hHeld => ?_)
                    · first | exact ⟨A2.out.cell 0, A2.out.cell 1, A2.out.cell 2, A2.out.cell 3⟩ | exact ⟨(A2.out.alloc _).cell 0, (A2.out.alloc _).cell 1, (A2.out.alloc _).cell 2, (A2.out.alloc _).cell 3⟩
                    clear hK K
                    try simp only [Act.put, List.setIfInBounds_toArray, List.set_cons_zero, List.set_cons_succ]
                    refine wpAnyH_take (i := 21) (oi := { dst := some 42, op := Op.binOp BinOp.add 9 (Operand.tmp 38) (Operand.tmp 41) 9, type := 9, pos := "l09_policy.go:179", after := #[{ on := 17, ground := Ground.data }, { on := 20, ground := Ground.data }], guard := none }) (v := ?vr168) rfl (by kernel_rfl) (by kernel_rfl) (by kernel_rfl) (fun _ _ _ h => h) (Or.inl ⟨by rfl, ?hyr168⟩) hHeld ?restr168
                    case hyr168 => (intro w hSw; (try dsimp only at hSw); go_simp; first | done | (rw [if_neg (by omega)]; done) | (rw [if_neg (by omega)]; with_reducible rfl) | with_reducible rfl)
                    simp only [Act.put, List.setIfInBounds_toArray, List.set_cons_zero, List.set_cons_succ]
                    refine wpAnyH_take (i := 22) (oi := { dst := some 3, op := Op.assign (Operand.tmp 42), type := 9, pos := "l09_policy.go:179", after := #[{ on := 21, ground := Ground.data }, { on := 20, ground := Ground.chain }, { on := 0, ground := Ground.phase }, { on := 1, ground := Ground.phase }, { on := 2, ground := Ground.phase }, { on := 3, ground := Ground.phase }, { on := 4, ground := Ground.phase }, { on := 5, ground := Ground.phase }, { on := 6, ground := Ground.phase }, { on := 7, ground := Ground.phase }, { on := 8, ground := Ground.phase }, { on := 9, ground := Ground.phase }, { on := 10, ground := Ground.phase }, { on := 11, ground := Ground.phase }, { on := 12, ground := Ground.phase }, { on := 13, ground := Ground.phase }, { on := 14, ground := Ground.phase }, { on := 15, ground := Ground.phase }, { on := 16, ground := Ground.phase }, { on := 17, ground := Ground.phase }, { on := 18, ground := Ground.phase }, { on := 19, ground := Ground.phase }, { on := 20, ground := Ground.phase }, { on := 21, ground := Ground.phase }], guard := none }) (v := ?vr169) rfl (by kernel_rfl) (by kernel_rfl) (by kernel_rfl) (fun _ _ _ h => h) (Or.inl ⟨by rfl, ?hyr169⟩) hHeld ?restr169
                    case hyr169 => (intro w hSw; (try dsimp only at hSw); go_simp; first | done | (rw [if_neg (by omega)]; done) | (rw [if_neg (by omega)]; with_reducible rfl) | with_reducible rfl)
                    simp only [Act.put, List.setIfInBounds_toArray, List.set_cons_zero, List.set_cons_succ]
                    refine wpAnyH_done (by kernel_rfl) ?_ _
                    go_wp2
                    go_meet
                    exact ⟨⟨_, rfl, by simp only [ba_app, HL.out, Q1.out, Q2.out, Q3.out]; unfold lnH ew; simp, by simp only [sizeApp]; show t.size + 4 + 5 + q1.size + 4 + q2.size + 4 + q3.size ≤ 30000; omega⟩, by first | exact BD.out | exact BA.out _ | exact BX.out _⟩
                  · go_simp
                    refine (J3 _ (by first | exact BD.out | exact BA.out _ | exact BX.out _)).out.mono ?_
                    rintro e w5 ⟨⟨q3, rfl, hq3, hz3⟩, hw5⟩
                    obtain rfl := hw5.symm
                    have Q3 := hid hq3
                    clear hq3
                    go_wp2_with fail
                    refine hK.out _ _ ?_ (fun hHeld => ?_)
                    · first | exact ⟨A2.out.cell 0, A2.out.cell 1, A2.out.cell 2, A2.out.cell 3⟩ | exact ⟨(A2.out.alloc _).cell 0, (A2.out.alloc _).cell 1, (A2.out.alloc _).cell 2, (A2.out.alloc _).cell 3⟩
                    clear hK K
                    try simp only [Act.put, List.setIfInBounds_toArray, List.set_cons_zero, List.set_cons_succ]
                    refine wpAnyH_ready (rs := [5]) (by kernel_rfl) (by simp) ?_
                    refine AllReadyH.cons (o := { dst := some 26, op := Op.load 9 (Operand.tmp 25), type := 9, pos := "l09_policy.go:179", after := #[{ on := 4, ground := Ground.data }], guard := none }) rfl (fun K hK => ?_) AllReadyH.nil
                    go_simp
                    refine hK.out _ _ ?_ (fun hHeld => ?_)
                    · first | exact ⟨A2.out.cell 0, A2.out.cell 1, A2.out.cell 2, A2.out.cell 3⟩ | exact ⟨(A2.out.alloc _).cell 0, (A2.out.alloc _).cell 1, (A2.out.alloc _).cell 2, (A2.out.alloc _).cell 3⟩
                    clear hK K
                    try simp only [Act.put, List.setIfInBounds_toArray, List.set_cons_zero, List.set_cons_succ]
                    refine wpAnyH_take (i := 6) (oi := { dst := some 27, op := Op.binOp BinOp.add 9 (Operand.tmp 21) (Operand.tmp 26) 9, type := 9, pos := "l09_policy.go:179", after := #[{ on := 0, ground := Ground.data }, { on := 5, ground := Ground.data }], guard := none }) (v := ?vr170) rfl (by kernel_rfl) (by kernel_rfl) (by kernel_rfl) (fun _ _ _ h => h) (Or.inl ⟨by rfl, ?hyr170⟩) hHeld ?restr170
                    case hyr170 => (intro w hSw; (try dsimp only at hSw); go_simp; first | done | (rw [if_neg (by omega)]; done) | (rw [if_neg (by omega)]; with_reducible rfl) | with_reducible rfl)
                    simp only [Act.put, List.setIfInBounds_toArray, List.set_cons_zero, List.set_cons_succ]
                    refine wpAnyH_take (i := 7) (oi := { dst := some 28, op := Op.binOp BinOp.add 9 (Operand.tmp 27) (Operand.const (Value.string { data := #[32, 119, 104, 111, 32] })) 9, type := 9, pos := "l09_policy.go:179", after := #[{ on := 6, ground := Ground.data }], guard := none }) (v := ?vr171) rfl (by kernel_rfl) (by kernel_rfl) (by kernel_rfl) (fun _ _ _ h => h) (Or.inl ⟨by rfl, ?hyr171⟩) hHeld ?restr171
                    case hyr171 => (intro w hSw; (try dsimp only at hSw); go_simp; first | done | (rw [if_neg (by omega)]; done) | (rw [if_neg (by omega)]; with_reducible rfl) | with_reducible rfl)
                    simp only [Act.put, List.setIfInBounds_toArray, List.set_cons_zero, List.set_cons_succ]
                    refine wpAnyH_take (i := 11) (oi := { dst := some 32, op := Op.binOp BinOp.add 9 (Operand.tmp 28) (Operand.tmp 31) 9, type := 9, pos := "l09_policy.go:179", after := #[{ on := 7, ground := Ground.data }, { on := 10, ground := Ground.data }], guard := none }) (v := ?vr172) rfl (by kernel_rfl) (by kernel_rfl) (by kernel_rfl) (fun _ _ _ h => h) (Or.inl ⟨by rfl, ?hyr172⟩) hHeld ?restr172
                    case hyr172 => (intro w hSw; (try dsimp only at hSw); go_simp; first | done | (rw [if_neg (by omega)]; done) | (rw [if_neg (by omega)]; with_reducible rfl) | with_reducible rfl)
                    simp only [Act.put, List.setIfInBounds_toArray, List.set_cons_zero, List.set_cons_succ]
                    refine wpAnyH_take (i := 12) (oi := { dst := some 33, op := Op.binOp BinOp.add 9 (Operand.tmp 32) (Operand.const (Value.string { data := #[32, 100, 111, 32] })) 9, type := 9, pos := "l09_policy.go:179", after := #[{ on := 11, ground := Ground.data }], guard := none }) (v := ?vr173) rfl (by kernel_rfl) (by kernel_rfl) (by kernel_rfl) (fun _ _ _ h => h) (Or.inl ⟨by rfl, ?hyr173⟩) hHeld ?restr173
                    case hyr173 => (intro w hSw; (try dsimp only at hSw); go_simp; first | done | (rw [if_neg (by omega)]; done) | (rw [if_neg (by omega)]; with_reducible rfl) | with_reducible rfl)
                    simp only [Act.put, List.setIfInBounds_toArray, List.set_cons_zero, List.set_cons_succ]
                    refine wpAnyH_take (i := 16) (oi := { dst := some 37, op := Op.binOp BinOp.add 9 (Operand.tmp 33) (Operand.tmp 36) 9, type := 9, pos := "l09_policy.go:179", after := #[{ on := 12, ground := Ground.data }, { on := 15, ground := Ground.data }], guard := none }) (v := ?vr174) rfl (by kernel_rfl) (by kernel_rfl) (by kernel_rfl) (fun _ _ _ h => h) (Or.inl ⟨by rfl, ?hyr174⟩) hHeld ?restr174
                    case hyr174 => (intro w hSw; (try dsimp only at hSw); go_simp; first | done | (rw [if_neg (by omega)]; done) | (rw [if_neg (by omega)]; with_reducible rfl) | with_reducible rfl)
                    simp only [Act.put, List.setIfInBounds_toArray, List.set_cons_zero, List.set_cons_succ]
                    refine wpAnyH_take (i := 17) (oi := { dst := some 38, op := Op.binOp BinOp.add 9 (Operand.tmp 37) (Operand.const (Value.string { data := #[32, 111, 110, 32] })) 9, type := 9, pos := "l09_policy.go:179", after := #[{ on := 16, ground := Ground.data }], guard := none }) (v := ?vr175) rfl (by kernel_rfl) (by kernel_rfl) (by kernel_rfl) (fun _ _ _ h => h) (Or.inl ⟨by rfl, ?hyr175⟩) hHeld ?restr175
                    case hyr175 => (intro w hSw; (try dsimp only at hSw); go_simp; first | done | (rw [if_neg (by omega)]; done) | (rw [if_neg (by omega)]; with_reducible rfl) | with_reducible rfl)
                    simp only [Act.put, List.setIfInBounds_toArray, List.set_cons_zero, List.set_cons_succ]
                    refine wpAnyH_take (i := 21) (oi := { dst := some 42, op := Op.binOp BinOp.add 9 (Operand.tmp 38) (Operand.tmp 41) 9, type := 9, pos := "l09_policy.go:179", after := #[{ on := 17, ground := Ground.data }, { on := 20, ground := Ground.data }], guard := none }) (v := ?vr176) rfl (by kernel_rfl) (by kernel_rfl) (by kernel_rfl) (fun _ _ _ h => h) (Or.inl ⟨by rfl, ?hyr176⟩) hHeld ?restr176
                    case hyr176 => (intro w hSw; (try dsimp only at hSw); go_simp; first | done | (rw [if_neg (by omega)]; done) | (rw [if_neg (by omega)]; with_reducible rfl) | with_reducible rfl)
                    simp only [Act.put, List.setIfInBounds_toArray, List.set_cons_zero, List.set_cons_succ]
                    refine wpAnyH_take (i := 22) (oi := { dst := some 3, op := Op.assign (Operand.tmp 42), type := 9, pos := "l09_policy.go:179", after := #[{ on := 21, ground := Ground.data }, { on := 20, ground := Ground.chain }, { on := 0, ground := Ground.phase }, { on := 1, ground := Ground.phase }, { on := 2, ground := Ground.phase }, { on := 3, ground := Ground.phase }, { on := 4, ground := Ground.phase }, { on := 5, ground := Ground.phase }, { on := 6, ground := Ground.phase }, { on := 7, ground := Ground.phase }, { on := 8, ground := Ground.phase }, { on := 9, ground := Ground.phase }, { on := 10, ground := Ground.phase }, { on := 11, ground := Ground.phase }, { on := 12, ground := Ground.phase }, { on := 13, ground := Ground.phase }, { on := 14, ground := Ground.phase }, { on := 15, ground := Ground.phase }, { on := 16, ground := Ground.phase }, { on := 17, ground := Ground.phase }, { on := 18, ground := Ground.phase }, { on := 19, ground := Ground.phase }, { on := 20, ground := Ground.phase }, { on := 21, ground := Ground.phase }], guard := none }) (v := ?vr177) rfl (by kernel_rfl) (by kernel_rfl) (by kernel_rfl) (fun _ _ _ h => h) (Or.inl ⟨by rfl, ?hyr177⟩) hHeld ?restr177
                    case hyr177 => (intro w hSw; (try dsimp only at hSw); go_simp; first | done | (rw [if_neg (by omega)]; done) | (rw [if_neg (by omega)]; with_reducible rfl) | with_reducible rfl)
                    simp only [Act.put, List.setIfInBounds_toArray, List.set_cons_zero, List.set_cons_succ]
                    refine wpAnyH_done (by kernel_rfl) ?_ _
                    go_wp2
                    go_meet
                    exact ⟨⟨_, rfl, by simp only [ba_app, HL.out, Q1.out, Q2.out, Q3.out]; unfold lnH ew; simp, by simp only [sizeApp]; show t.size + 4 + 5 + q1.size + 4 + q2.size + 4 + q3.size ≤ 30000; omega⟩, by first | exact BD.out | exact BA.out _ | exact BX.out _⟩
                · go_simp
                  refine (J3 _ (by first | exact BD.out | exact BA.out _ | exact BX.out _)).out.mono ?_
                  rintro e w5 ⟨⟨q3, rfl, hq3, hz3⟩, hw5⟩
                  obtain rfl := hw5.symm
                  have Q3 := hid hq3
                  clear hq3
                  go_wp2_with fail
                  refine hK.out _ _ ?_ (fun hHeld => ?_)
                  · first | exact ⟨A2.out.cell 0, A2.out.cell 1, A2.out.cell 2, A2.out.cell 3⟩ | exact ⟨(A2.out.alloc _).cell 0, (A2.out.alloc _).cell 1, (A2.out.alloc _).cell 2, (A2.out.alloc _).cell 3⟩
                  clear hK K
                  try simp only [Act.put, List.setIfInBounds_toArray, List.set_cons_zero, List.set_cons_succ]
                  refine wpAnyH_ready (rs := [1]) (by kernel_rfl) (by simp) ?_
                  refine AllReadyH.cons (o := { dst := some 22, op := Op.buildSlice 70 3 #[(0, Operand.const (Value.string { data := #[] })), (1, Operand.const (Value.string { data := #[97, 108, 108, 111, 119] })), (2, Operand.const (Value.string { data := #[100, 101, 110, 121] }))], type := 70, pos := "l09_policy.go:179", after := #[], guard := none }) rfl (fun K hK => ?_) AllReadyH.nil
                  go_simp
                  refine hK.out _ _ ?_ (fun hHeld => ?_)
                  · first | exact ⟨A2.out.cell 0, A2.out.cell 1, A2.out.cell 2, A2.out.cell 3⟩ | exact ⟨(A2.out.alloc _).cell 0, (A2.out.alloc _).cell 1, (A2.out.alloc _).cell 2, (A2.out.alloc _).cell 3⟩
                  clear hK K
                  try simp only [Act.put, List.setIfInBounds_toArray, List.set_cons_zero, List.set_cons_succ]
                  refine wpAnyH_take (i := 4) (oi := { dst := some 25, op := Op.indexAddr 70 (Operand.tmp 22) (Operand.tmp 24), type := 0, pos := "l09_policy.go:179", after := #[{ on := 1, ground := Ground.data }, { on := 3, ground := Ground.data }], guard := none }) (v := ?vr178) rfl (by kernel_rfl) (by kernel_rfl) (by kernel_rfl) (fun _ _ _ h => h) (Or.inl ⟨by rfl, ?hyr178⟩) hHeld ?restr178
                  case hyr178 => (intro w hSw; (try dsimp only at hSw); go_simp; first | done | (rw [if_neg (by omega)]; done) | (rw [if_neg (by omega)]; with_reducible rfl) | with_reducible rfl)
                  simp only [Act.put, List.setIfInBounds_toArray, List.set_cons_zero, List.set_cons_succ]
                  refine wpAnyH_ready (rs := [5]) (by kernel_rfl) (by simp) ?_
                  refine AllReadyH.cons (o := { dst := some 26, op := Op.load 9 (Operand.tmp 25), type := 9, pos := "l09_policy.go:179", after := #[{ on := 4, ground := Ground.data }], guard := none }) rfl (fun K hK => ?_) AllReadyH.nil
                  go_simp
                  refine hK.out _ _ ?_ (fun hHeld => ?_)
                  · first | exact ⟨A2.out.cell 0, A2.out.cell 1, A2.out.cell 2, A2.out.cell 3⟩ | exact ⟨(A2.out.alloc _).cell 0, (A2.out.alloc _).cell 1, (A2.out.alloc _).cell 2, (A2.out.alloc _).cell 3⟩
                  clear hK K
                  try simp only [Act.put, List.setIfInBounds_toArray, List.set_cons_zero, List.set_cons_succ]
                  refine wpAnyH_take (i := 6) (oi := { dst := some 27, op := Op.binOp BinOp.add 9 (Operand.tmp 21) (Operand.tmp 26) 9, type := 9, pos := "l09_policy.go:179", after := #[{ on := 0, ground := Ground.data }, { on := 5, ground := Ground.data }], guard := none }) (v := ?vr179) rfl (by kernel_rfl) (by kernel_rfl) (by kernel_rfl) (fun _ _ _ h => h) (Or.inl ⟨by rfl, ?hyr179⟩) hHeld ?restr179
                  case hyr179 => (intro w hSw; (try dsimp only at hSw); go_simp; first | done | (rw [if_neg (by omega)]; done) | (rw [if_neg (by omega)]; with_reducible rfl) | with_reducible rfl)
                  simp only [Act.put, List.setIfInBounds_toArray, List.set_cons_zero, List.set_cons_succ]
                  refine wpAnyH_take (i := 7) (oi := { dst := some 28, op := Op.binOp BinOp.add 9 (Operand.tmp 27) (Operand.const (Value.string { data := #[32, 119, 104, 111, 32] })) 9, type := 9, pos := "l09_policy.go:179", after := #[{ on := 6, ground := Ground.data }], guard := none }) (v := ?vr180) rfl (by kernel_rfl) (by kernel_rfl) (by kernel_rfl) (fun _ _ _ h => h) (Or.inl ⟨by rfl, ?hyr180⟩) hHeld ?restr180
                  case hyr180 => (intro w hSw; (try dsimp only at hSw); go_simp; first | done | (rw [if_neg (by omega)]; done) | (rw [if_neg (by omega)]; with_reducible rfl) | with_reducible rfl)
                  simp only [Act.put, List.setIfInBounds_toArray, List.set_cons_zero, List.set_cons_succ]
                  refine wpAnyH_take (i := 11) (oi := { dst := some 32, op := Op.binOp BinOp.add 9 (Operand.tmp 28) (Operand.tmp 31) 9, type := 9, pos := "l09_policy.go:179", after := #[{ on := 7, ground := Ground.data }, { on := 10, ground := Ground.data }], guard := none }) (v := ?vr181) rfl (by kernel_rfl) (by kernel_rfl) (by kernel_rfl) (fun _ _ _ h => h) (Or.inl ⟨by rfl, ?hyr181⟩) hHeld ?restr181
                  case hyr181 => (intro w hSw; (try dsimp only at hSw); go_simp; first | done | (rw [if_neg (by omega)]; done) | (rw [if_neg (by omega)]; with_reducible rfl) | with_reducible rfl)
                  simp only [Act.put, List.setIfInBounds_toArray, List.set_cons_zero, List.set_cons_succ]
                  refine wpAnyH_take (i := 12) (oi := { dst := some 33, op := Op.binOp BinOp.add 9 (Operand.tmp 32) (Operand.const (Value.string { data := #[32, 100, 111, 32] })) 9, type := 9, pos := "l09_policy.go:179", after := #[{ on := 11, ground := Ground.data }], guard := none }) (v := ?vr182) rfl (by kernel_rfl) (by kernel_rfl) (by kernel_rfl) (fun _ _ _ h => h) (Or.inl ⟨by rfl, ?hyr182⟩) hHeld ?restr182
                  case hyr182 => (intro w hSw; (try dsimp only at hSw); go_simp; first | done | (rw [if_neg (by omega)]; done) | (rw [if_neg (by omega)]; with_reducible rfl) | with_reducible rfl)
                  simp only [Act.put, List.setIfInBounds_toArray, List.set_cons_zero, List.set_cons_succ]
                  refine wpAnyH_take (i := 16) (oi := { dst := some 37, op := Op.binOp BinOp.add 9 (Operand.tmp 33) (Operand.tmp 36) 9, type := 9, pos := "l09_policy.go:179", after := #[{ on := 12, ground := Ground.data }, { on := 15, ground := Ground.data }], guard := none }) (v := ?vr183) rfl (by kernel_rfl) (by kernel_rfl) (by kernel_rfl) (fun _ _ _ h => h) (Or.inl ⟨by rfl, ?hyr183⟩) hHeld ?restr183
                  case hyr183 => (intro w hSw; (try dsimp only at hSw); go_simp; first | done | (rw [if_neg (by omega)]; done) | (rw [if_neg (by omega)]; with_reducible rfl) | with_reducible rfl)
                  simp only [Act.put, List.setIfInBounds_toArray, List.set_cons_zero, List.set_cons_succ]
                  refine wpAnyH_take (i := 17) (oi := { dst := some 38, op := Op.binOp BinOp.add 9 (Operand.tmp 37) (Operand.const (Value.string { data := #[32, 111, 110, 32] })) 9, type := 9, pos := "l09_policy.go:179", after := #[{ on := 16, ground := Ground.data }], guard := none }) (v := ?vr184) rfl (by kernel_rfl) (by kernel_rfl) (by kernel_rfl) (fun _ _ _ h => h) (Or.inl ⟨by rfl, ?hyr184⟩) hHeld ?restr184
                  case hyr184 => (intro w hSw; (try dsimp only at hSw); go_simp; first | done | (rw [if_neg (by omega)]; done) | (rw [if_neg (by omega)]; with_reducible rfl) | with_reducible rfl)
                  simp only [Act.put, List.setIfInBounds_toArray, List.set_cons_zero, List.set_cons_succ]
                  refine wpAnyH_take (i := 21) (oi := { dst := some 42, op := Op.binOp BinOp.add 9 (Operand.tmp 38) (Operand.tmp 41) 9, type := 9, pos := "l09_policy.go:179", after := #[{ on := 17, ground := Ground.data }, { on := 20, ground := Ground.data }], guard := none }) (v := ?vr185) rfl (by kernel_rfl) (by kernel_rfl) (by kernel_rfl) (fun _ _ _ h => h) (Or.inl ⟨by rfl, ?hyr185⟩) hHeld ?restr185
                  case hyr185 => (intro w hSw; (try dsimp only at hSw); go_simp; first | done | (rw [if_neg (by omega)]; done) | (rw [if_neg (by omega)]; with_reducible rfl) | with_reducible rfl)
                  simp only [Act.put, List.setIfInBounds_toArray, List.set_cons_zero, List.set_cons_succ]
                  refine wpAnyH_take (i := 22) (oi := { dst := some 3, op := Op.assign (Operand.tmp 42), type := 9, pos := "l09_policy.go:179", after := #[{ on := 21, ground := Ground.data }, { on := 20, ground := Ground.chain }, { on := 0, ground := Ground.phase }, { on := 1, ground := Ground.phase }, { on := 2, ground := Ground.phase }, { on := 3, ground := Ground.phase }, { on := 4, ground := Ground.phase }, { on := 5, ground := Ground.phase }, { on := 6, ground := Ground.phase }, { on := 7, ground := Ground.phase }, { on := 8, ground := Ground.phase }, { on := 9, ground := Ground.phase }, { on := 10, ground := Ground.phase }, { on := 11, ground := Ground.phase }, { on := 12, ground := Ground.phase }, { on := 13, ground := Ground.phase }, { on := 14, ground := Ground.phase }, { on := 15, ground := Ground.phase }, { on := 16, ground := Ground.phase }, { on := 17, ground := Ground.phase }, { on := 18, ground := Ground.phase }, { on := 19, ground := Ground.phase }, { on := 20, ground := Ground.phase }, { on := 21, ground := Ground.phase }], guard := none }) (v := ?vr186) rfl (by kernel_rfl) (by kernel_rfl) (by kernel_rfl) (fun _ _ _ h => h) (Or.inl ⟨by rfl, ?hyr186⟩) hHeld ?restr186
                  case hyr186 => (intro w hSw; (try dsimp only at hSw); go_simp; first | done | (rw [if_neg (by omega)]; done) | (rw [if_neg (by omega)]; with_reducible rfl) | with_reducible rfl)
                  simp only [Act.put, List.setIfInBounds_toArray, List.set_cons_zero, List.set_cons_succ]
                  refine wpAnyH_done (by kernel_rfl) ?_ _
                  go_wp2
                  go_meet
                  exact ⟨⟨_, rfl, by simp only [ba_app, HL.out, Q1.out, Q2.out, Q3.out]; unfold lnH ew; simp, by simp only [sizeApp]; show t.size + 4 + 5 + q1.size + 4 + q2.size + 4 + q3.size ≤ 30000; omega⟩, by first | exact BD.out | exact BA.out _ | exact BX.out _⟩
          -- @r8end
        case rest =>
          obtain ⟨⟨u, rfl, hu, huz⟩, hbc⟩ := hcut
          have LN2 : Hid (outL R (k + 1) = outL R k ++ lnH ⟨f, ⟨a1, n1, c1, t1⟩, ⟨a2, n2, c2, t2⟩, ⟨a3, n3, c3, t3⟩, ⟨a4, n4, c4, o4⟩⟩ ++ ifsL o4 n4 ++ [10]) := by show _ = _; rw [LN.out]; unfold ln; simp
          generalize outL R k ++ lnH ⟨f, ⟨a1, n1, c1, t1⟩, ⟨a2, n2, c2, t2⟩, ⟨a3, n3, c3, t3⟩, ⟨a4, n4, c4, o4⟩⟩ = PRE at hu LN2
          have HU := hid hu
          have HBc := hid hbc
          clear hu hbc BD BA BX J1 J2 J3
          have y4 := (HBc.out.cell (p := ⟨G, 4, none⟩) A2.out.lt).trans (A2.out.cell 4)
          go_wp2
          go_loopw [3, 6] (fun v i wr => ∃ (x : ByteArray) (j : Nat), j ≤ n4 ∧ v = .string x ∧ i = .int .i64 (j : Int) ∧ x.data.toList = PRE ++ ifsL o4 j ∧ x.size ≤ 30000 + j * 300 ∧ Below W2.heap.size W2 wr) (fun _ i _ => n4 - (intOf i).toNat)
          case atStart => exact ⟨u, 0, Nat.zero_le _, rfl, rfl, by rw [HU.out]; simp [ifsL], by omega, HBc.out⟩
          case round =>
            obtain ⟨x, j, hj, rfl, rfl, hx, hxz, hbk⟩ := hrel
            have HX := hid hx
            have HBk := hid hbk
            clear hx hbk HU HBc y4
            have y4 := (HBk.out.cell (p := ⟨G, 4, none⟩) A2.out.lt).trans (A2.out.cell 4)
            by_cases jlt : j < n4
            · have dj : (j : Int) < (n4 : Int) := by omega
              have j0 : (0 : Int) ≤ (j : Int) := by omega
              rcases (I2.out.cs.below HBk.out).2 with h00 | ⟨b4, off4, e4, hb4, hc4⟩
              · exact absurd h00 (by show ¬ n4 = 0; omega)
              obtain rfl : a4 = some ⟨b4, off4, none⟩ := e4
              obtain ⟨v0, v1, v2⟩ := hc4 j jlt
              have hcn := HL4.out j jlt
              dsimp only at v0 v1 v2
              have HOJ : Hid (ifsL o4 (j + 1) = ifsL o4 j ++ [32] ++ cw (o4 j)) := rfl
              clear hc4
              generalize o4 j = CC at v0 v1 v2 hcn HOJ
              obtain ⟨kd, tx, tm⟩ := CC
              dsimp only at v0 v1 v2
              by_cases k1 : kd = 1
              · subst k1
                have Bn : Hid (Below W2.heap.size W2 ((wr.alloc (.cells #[.int .i64 1, .string tx, .int .i64 tm] 83)).alloc (.cells #[.string ⟨#[]⟩, .string ⟨#[112, 114, 101, 102, 105, 120]⟩, .string ⟨#[98, 101, 102, 111, 114, 101]⟩, .string ⟨#[97, 102, 116, 101, 114]⟩, .string ⟨#[102, 114, 111, 109]⟩] 9))) := balCn (balCn HBk.out _) _
                have xz : tx.size ≤ 200 := ((cnP_w (.inl rfl)).1 hcn).1.2.1
                have E : Hid ((x ++ ⟨#[32]⟩ ++ ⟨#[112, 114, 101, 102, 105, 120]⟩ ++ ⟨#[32]⟩ ++ tx).data.toList = PRE ++ (ifsL o4 j ++ [32] ++ cw ⟨1, tx, tm⟩)) := by show _ = _; simp only [ba_app, HX.out]; unfold cw kw cv; simp
                have Z : Hid ((x ++ ⟨#[32]⟩ ++ ⟨#[112, 114, 101, 102, 105, 120]⟩ ++ ⟨#[32]⟩ ++ tx).size ≤ 30000 + (j + 1) * 300) := by show _ ≤ _; simp only [sizeApp]; show x.size + 1 + 6 + 1 + tx.size ≤ _; omega
                clear hcn
                go_wp2
                go_roundw
                case rel => exact ⟨_, j + 1, by omega, rfl, by go_num, by rw [E.out, ← HOJ.out], Z.out, Bn.out⟩
                case measure => simp [intOf]; omega
              by_cases k4 : kd = 4
              · subst k4
                have Bn : Hid (Below W2.heap.size W2 ((wr.alloc (.cells #[.int .i64 4, .string tx, .int .i64 tm] 83)).alloc (.cells #[.string ⟨#[]⟩, .string ⟨#[112, 114, 101, 102, 105, 120]⟩, .string ⟨#[98, 101, 102, 111, 114, 101]⟩, .string ⟨#[97, 102, 116, 101, 114]⟩, .string ⟨#[102, 114, 111, 109]⟩] 9))) := balCn (balCn HBk.out _) _
                have xz : tx.size ≤ 200 := ((cnP_w (.inr rfl)).1 hcn).1.2.1
                have E : Hid ((x ++ ⟨#[32]⟩ ++ ⟨#[102, 114, 111, 109]⟩ ++ ⟨#[32]⟩ ++ tx).data.toList = PRE ++ (ifsL o4 j ++ [32] ++ cw ⟨4, tx, tm⟩)) := by show _ = _; simp only [ba_app, HX.out]; unfold cw kw cv; simp
                have Z : Hid ((x ++ ⟨#[32]⟩ ++ ⟨#[102, 114, 111, 109]⟩ ++ ⟨#[32]⟩ ++ tx).size ≤ 30000 + (j + 1) * 300) := by show _ ≤ _; simp only [sizeApp]; show x.size + 1 + 4 + 1 + tx.size ≤ _; omega
                clear hcn
                go_wp2
                go_roundw
                case rel => exact ⟨_, j + 1, by omega, rfl, by go_num, by rw [E.out, ← HOJ.out], Z.out, Bn.out⟩
                case measure => simp [intOf]; omega
              by_cases k2 : kd = 2
              · subst k2
                have Bn : Hid (Below W2.heap.size W2 ((wr.alloc (.cells #[.int .i64 2, .string tx, .int .i64 tm] 83)).alloc (.cells #[.string ⟨#[]⟩, .string ⟨#[112, 114, 101, 102, 105, 120]⟩, .string ⟨#[98, 101, 102, 111, 114, 101]⟩, .string ⟨#[97, 102, 116, 101, 114]⟩, .string ⟨#[102, 114, 111, 109]⟩] 9))) := balCn (balCn HBk.out _) _
                obtain ⟨tx0, tm0, tm1⟩ := (cnP_t (.inl rfl)).1 hcn
                obtain ⟨tn, rfl⟩ := Int.eq_ofNat_of_zero_le tm0
                clear hcn tx0
                go_wp2_with fail
                refine (sDec tn (by omega) _).mono ?_
                rintro e w5 ⟨⟨dt, rfl, hdt, hdz⟩, hb5⟩
                have HD := hid hdt
                have B5 := hid (Bn.out.trans (hb5.mono Bn.out.size))
                clear hdt hb5 Bn
                have E : Hid ((x ++ ⟨#[32]⟩ ++ ⟨#[98, 101, 102, 111, 114, 101]⟩ ++ ⟨#[32]⟩ ++ dt).data.toList = PRE ++ (ifsL o4 j ++ [32] ++ cw ⟨2, tx, (tn : Int)⟩)) := by show _ = _; simp only [ba_app, HX.out, HD.out]; unfold cw kw cv; simp
                have Z : Hid ((x ++ ⟨#[32]⟩ ++ ⟨#[98, 101, 102, 111, 114, 101]⟩ ++ ⟨#[32]⟩ ++ dt).size ≤ 30000 + (j + 1) * 300) := by show _ ≤ _; simp only [sizeApp]; show x.size + 1 + 6 + 1 + dt.size ≤ _; omega
                go_wp2
                go_roundw
                case rel => exact ⟨_, j + 1, by omega, rfl, by go_num, by rw [E.out, ← HOJ.out], Z.out, B5.out⟩
                case measure => simp [intOf]; omega
              by_cases k3 : kd = 3
              · subst k3
                have Bn : Hid (Below W2.heap.size W2 ((wr.alloc (.cells #[.int .i64 3, .string tx, .int .i64 tm] 83)).alloc (.cells #[.string ⟨#[]⟩, .string ⟨#[112, 114, 101, 102, 105, 120]⟩, .string ⟨#[98, 101, 102, 111, 114, 101]⟩, .string ⟨#[97, 102, 116, 101, 114]⟩, .string ⟨#[102, 114, 111, 109]⟩] 9))) := balCn (balCn HBk.out _) _
                obtain ⟨tx0, tm0, tm1⟩ := (cnP_t (.inr rfl)).1 hcn
                obtain ⟨tn, rfl⟩ := Int.eq_ofNat_of_zero_le tm0
                clear hcn tx0
                go_wp2_with fail
                refine (sDec tn (by omega) _).mono ?_
                rintro e w5 ⟨⟨dt, rfl, hdt, hdz⟩, hb5⟩
                have HD := hid hdt
                have B5 := hid (Bn.out.trans (hb5.mono Bn.out.size))
                clear hdt hb5 Bn
                have E : Hid ((x ++ ⟨#[32]⟩ ++ ⟨#[97, 102, 116, 101, 114]⟩ ++ ⟨#[32]⟩ ++ dt).data.toList = PRE ++ (ifsL o4 j ++ [32] ++ cw ⟨3, tx, (tn : Int)⟩)) := by show _ = _; simp only [ba_app, HX.out, HD.out]; unfold cw kw cv; simp
                have Z : Hid ((x ++ ⟨#[32]⟩ ++ ⟨#[97, 102, 116, 101, 114]⟩ ++ ⟨#[32]⟩ ++ dt).size ≤ 30000 + (j + 1) * 300) := by show _ ≤ _; simp only [sizeApp]; show x.size + 1 + 5 + 1 + dt.size ≤ _; omega
                go_wp2
                go_roundw
                case rel => exact ⟨_, j + 1, by omega, rfl, by go_num, by rw [E.out, ← HOJ.out], Z.out, B5.out⟩
                case measure => simp [intOf]; omega
              exact absurd hcn (cnP_o k1 k2 k3 k4)
            · have dj : ¬ (j : Int) < (n4 : Int) := by omega
              have ej : j = n4 := by omega
              have E : Hid ((x ++ ⟨#[10]⟩).data.toList = outL R (k + 1)) := by
                show _ = _
                rw [ba_app, HX.out, LN2.out, ej]
              have Bw := hid (B2.out.trans (HBk.out.mono B2.out.size))
              by_cases big : 10000 < x.size + 1
              · have db : (10000 : Int) < (x.size : Int) + 1 := by omega
                have N : Hid (wrV m R = []) := wrV_no fun hh => by
                  have h1 := outL_mono R (show k + 1 ≤ m by omega)
                  rw [← E.out, baLen, sizeApp] at h1
                  have h2 : (⟨#[10]⟩ : ByteArray).size = 1 := rfl
                  omega
                go_wp2
                go_ret
                exact ⟨⟨⟨#[]⟩, rfl, by rw [N.out]⟩, Bw.out⟩
              · have db : ¬ (10000 : Int) < (x.size : Int) + 1 := by omega
                have Z : Hid ((x ++ ⟨#[10]⟩).size ≤ 10000) := by show _ ≤ _; rw [sizeApp]; show x.size + 1 ≤ _; omega
                go_wp2
                go_roundw
                case rel => exact ⟨_, k + 1, by omega, rfl, by go_num, E.out, Z.out, Bw.out⟩
                case measure => simp [intOf]; omega
      · have d3 : ¬ (k : Int) < (m : Int) := by omega
        have ek : k = m := by omega
        have E : Hid (t.data.toList = wrV m R) := by
          show _ = _
          have hl2 := HL.out
          rw [ek] at hl2
          rw [hl2, wrV_ok ⟨HP.out, by rw [← hl2, baLen]; exact hts⟩]
        go_wp2
        go_ret
        exact ⟨⟨t, rfl, E.out⟩, HB.out⟩
  · have V0 : plV m R = 1 := by unfold plV; rw [pb_f hp]; rfl
    rw [V0] at K0
    have N := hid (wrV_no (m := m) (R := R) (fun hh => hp hh.1))
    go_enter Tryz.func8, Tryz.ntmps8
    go_wp2_with fail
    refine K0.out.mono ?_
    rintro e w1 ⟨rfl, hb1⟩
    go_wp2
    go_ret
    exact ⟨⟨⟨#[]⟩, rfl, by rw [N.out]⟩, hb1⟩
end Go.Proofs.YtmjolkagkeonfaaGreatDoor
