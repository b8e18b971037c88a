import Derived.Test.YtkcjigelenofhaaGreatDoorIOf
import Derived.Test.YtkcjigelenofhaaGreatDoorT1
import Derived.Test.YtkcjigelenofhaaGreatDoorG10
import Derived.Test.YtkcjigelenofhaaGreatDoorG3
namespace Go.Proofs.YtkcjigelenofhaaGreatDoor
open Go.RowKit
def pfP (s t : ByteArray) : Prop := t.size ≤ s.size ∧ s.extract 0 t.size = t
set_option maxRecDepth 20000 in
set_option maxHeartbeats 1000000 in
theorem iHasP0 (s t : ByteArray) (ht : t.size ≤ 1048576) (w : World) :
 Calls Tryz.prog 121 #[.string s, .string t] w fun e w' => e = .returned (.bool (pb (pfP s t))) ∧ w' = w := by
 by_cases h : t.size ≤ s.size
 · have i0 : ((t.size : Int) ≤ (s.size : Int)) := by omega
   have i1 : (0 : Int) ≤ (t.size : Int) := by omega
   by_cases hb : s.extract 0 t.size = t
   · have E : Hid (pb (pfP s t) = true) := pb_t ⟨h, hb⟩
     have b0 : ((s.extract 0 t.size).toList == t.toList) = true := by rw [ba_beqE]; exact decide_eq_true hb
     generalize s.extract 0 t.size = X at b0
     go_enter Tryz.func121, Tryz.ntmps121
     go_wp2
     go_ret
     exact ⟨by rw [E.out]; rfl, rfl⟩
   · have E : Hid (pb (pfP s t) = false) := pb_f fun q => hb q.2
     have b0 : ((s.extract 0 t.size).toList == t.toList) = false := by rw [ba_beqE]; exact decide_eq_false hb
     clear hb
     go_enter Tryz.func121, Tryz.ntmps121
     go_wp2
     go_ret
     exact ⟨by rw [E.out]; rfl, rfl⟩
 · have E : Hid (pb (pfP s t) = false) := pb_f fun q => h q.1
   have i0 : ¬ t.size ≤ s.size := h
   go_enter Tryz.func121, Tryz.ntmps121
   go_wp2
   go_ret
   exact ⟨by rw [E.out]; rfl, rfl⟩
set_option maxRecDepth 20000 in
theorem iHasP (s t : ByteArray) (ht : t.size ≤ 1048576) (w : World) :
 Calls Tryz.prog 99 #[.string s, .string t] w fun e w' => e = .returned (.bool (pb (pfP s t))) ∧ w' = w := by
 go_enter Tryz.func99, Tryz.ntmps99
 go_wp2_with fail
 refine (iHasP0 s t ht _).mono ?_
 rintro e w1 ⟨rfl, hw⟩
 obtain rfl := hw.symm
 go_wp2
 go_ret
 exact ⟨rfl, rfl⟩
theorem ptP_iff (s : ByteArray) : ptP s ↔ pfP s ⟨#[47]⟩ ∧ s.size ≤ 1000 := by
 unfold ptP pfP
 constructor
 · rintro ⟨h, h1, h2⟩
   refine ⟨⟨h, ?_⟩, h1⟩
   refine ba_extS ?_
   rw [ext_takeS]
   have : s.data.toList = s[0]'h :: s.data.toList.drop 1 := List.drop_eq_getElem_cons (l := s.data.toList) (i := 0) (by simp; omega)
   rw [this, h2]
   rfl
 · rintro ⟨⟨h, h1⟩, h2⟩
   have h' : 1 ≤ s.size := h
   refine ⟨h', h2, ?_⟩
   have q := congrArg (fun b : ByteArray => b.data.toList[0]?) h1
   simp only [] at q
   rw [ext_takeS, List.getElem?_take, if_pos (by decide), ba_atS s 0 h'] at q
   exact Option.some.inj q
set_option maxRecDepth 20000 in
set_option maxHeartbeats 1000000 in
theorem iPath (s : ByteArray) (w : World) :
 Calls Tryz.prog 72 #[.string s] w fun e w' => e = .returned (.bool (pb (ptP s))) ∧ w' = w := by
 have K := fun wx => hid (iHasP s ⟨#[47]⟩ (by decide) wx)
 by_cases h : pfP s ⟨#[47]⟩
 · rw [pb_t h] at K
   by_cases h2 : s.size ≤ 1000
   · have E : Hid (pb (ptP s) = true) := pb_t ((ptP_iff s).2 ⟨h, h2⟩)
     have d2 : (s.size : Int) ≤ 1000 := by omega
     go_enter Tryz.func72, Tryz.ntmps72
     go_wp2_with fail
     refine (K _).out.mono ?_
     rintro e w1 ⟨rfl, hw⟩
     obtain rfl := hw.symm
     go_wp2
     go_ret
     exact ⟨by rw [E.out]; rfl, rfl⟩
   · have E : Hid (pb (ptP s) = false) := pb_f fun q => h2 ((ptP_iff s).1 q).2
     have d2 : decide ((s.size : Int) ≤ 1000) = false := by simp; omega
     go_enter Tryz.func72, Tryz.ntmps72
     go_wp2_with fail
     refine (K _).out.mono ?_
     rintro e w1 ⟨rfl, hw⟩
     obtain rfl := hw.symm
     go_wp2
     go_ret
     exact ⟨by rw [E.out]; rfl, rfl⟩
 · rw [pb_f h] at K
   have E : Hid (pb (ptP s) = false) := pb_f fun q => h ((ptP_iff s).1 q).1
   go_enter Tryz.func72, Tryz.ntmps72
   go_wp2_with fail
   refine (K _).out.mono ?_
   rintro e w1 ⟨rfl, hw⟩
   obtain rfl := hw.symm
   go_wp2
   go_ret
   exact ⟨by rw [E.out]; rfl, rfl⟩
set_option maxRecDepth 20000 in
set_option maxHeartbeats 1000000 in
theorem iQy (nm vl : ByteArray) (w : World) :
 Calls Tryz.prog 75 #[.agg #[.string nm, .string vl]] w fun e w' => e = .returned (.bool (pb (qyP ⟨nm, vl⟩))) ∧ Below w.heap.size w w' := by
 have HB : Hid (Below w.heap.size w (w.alloc (.cells #[.string nm, .string vl] 66))) := (Below.refl _ _).alloc (Nat.le_refl _) _
 by_cases h1 : 1 ≤ nm.size
 · have d1 : (1 : Int) ≤ (nm.size : Int) := by omega
   by_cases h2 : nm.size ≤ 100
   · have d2 : (nm.size : Int) ≤ 100 := by omega
     by_cases h3 : vl.size ≤ 1000
     · have d3 : (vl.size : Int) ≤ 1000 := by omega
       have E : Hid (pb (qyP ⟨nm, vl⟩) = true) := pb_t ⟨h1, h2, h3⟩
       go_enter Tryz.func75, Tryz.ntmps75
       go_wp2
       go_ret
       exact ⟨by rw [E.out]; rfl, HB.out⟩
     · have d3 : ¬ (vl.size : Int) ≤ 1000 := by omega
       have E : Hid (pb (qyP ⟨nm, vl⟩) = false) := pb_f fun q => h3 q.2.2
       go_enter Tryz.func75, Tryz.ntmps75
       go_wp2
       go_ret
       exact ⟨by rw [E.out]; rfl, HB.out⟩
   · have d2 : ¬ (nm.size : Int) ≤ 100 := by omega
     have E : Hid (pb (qyP ⟨nm, vl⟩) = false) := pb_f fun q => h2 q.2.1
     go_enter Tryz.func75, Tryz.ntmps75
     go_wp2
     go_ret
     exact ⟨by rw [E.out]; rfl, HB.out⟩
 · have d1 : ¬ (1 : Int) ≤ (nm.size : Int) := by omega
   have E : Hid (pb (qyP ⟨nm, vl⟩) = false) := pb_f fun q => h1 q.1
   go_enter Tryz.func75, Tryz.ntmps75
   go_wp2
   go_ret
   exact ⟨by rw [E.out]; rfl, HB.out⟩
theorem hnP_iff (s : ByteArray) : hnP s ↔ ofP 1 60 nmC s ∧ s ≠ lenB := ⟨fun h => ⟨⟨h.1, h.2.1, h.2.2.2⟩, h.2.2.1⟩, fun h => ⟨h.1.1, h.1.2.1, h.2, h.1.2.2⟩⟩
theorem hvP_iff (s : ByteArray) : hvP s ↔ ofP 0 1000 vlC s ∧ ∀ h : 0 < s.size, s[0]'h ≠ 32 ∧ s[s.size - 1]'(by omega) ≠ 32 := ⟨fun h => ⟨⟨Nat.zero_le _, h.1, h.2.2⟩, h.2.1⟩, fun h => ⟨h.1.2.1, h.2, h.1.2.2⟩⟩
set_option maxRecDepth 20000 in
set_option maxHeartbeats 2000000 in
theorem iHd (nm vl : ByteArray) (hv : vl.size ≤ 1048576) (w : World) :
 Calls Tryz.prog 76 #[.agg #[.string nm, .string vl]] w fun e w' => e = .returned (.bool (pb (hdP ⟨nm, vl⟩))) ∧ Below w.heap.size w w' := by
 have K1 := fun wx => hid (iOfH 1 60 1 60 rfl rfl nm wx)
 have J0 := Jn.box w 66 #[.string nm, .string vl]
 obtain ⟨W0, hW0⟩ : ∃ W, W = w.alloc (.cells #[.string nm, .string vl] 66) := ⟨_, rfl⟩
 rw [← hW0] at J0
 by_cases h1 : ofP 1 60 nmC nm
 · rw [pb_t h1] at K1
   by_cases h2 : nm = lenB
   · have E : Hid (pb (hdP ⟨nm, vl⟩) = false) := pb_f fun q => ((hnP_iff nm).1 q.1).2 h2
     have b2 : (nm.toList == [108, 101, 110, 103, 116, 104]) = true := by rw [← lenB_list, ba_beqE]; exact decide_eq_true h2
     clear h1 h2
     go_enter Tryz.func76, Tryz.ntmps76
     go_wp2_with fail
     rw [← hW0]
     clear hW0
     refine (K1 _).out.mono ?_
     rintro e w1 ⟨rfl, hb⟩
     have J1 := Jn.next hb J0
     have x0 : w1.cell? ⟨w.heap.size, 0, none⟩ = some (.string nm) := J1.out.1.cell 0
     clear hb J0
     go_wp2
     go_ret
     exact ⟨by rw [E.out]; rfl, J1.out.2⟩
   · have b2 : (nm.toList == [108, 101, 110, 103, 116, 104]) = false := by rw [← lenB_list, ba_beqE]; exact decide_eq_false h2
     have K2 := fun wx => hid (iOfV 0 1000 0 1000 rfl rfl vl wx)
     by_cases h3 : ofP 0 1000 vlC vl
     · rw [pb_t h3] at K2
       have K3 := fun wx => hid (iTrimS vl (by omega) wx)
       have HE : ∀ u : ByteArray, Hid ((u = vl ↔ ∀ h : 0 < vl.size, vl[0]'h ≠ 32 ∧ vl[vl.size - 1]'(by omega) ≠ 32) → (u.toList == vl.toList) = pb (hdP ⟨nm, vl⟩)) := fun u hu => by
        rw [ba_beqE]
        by_cases q : u = vl
        · rw [decide_eq_true q, pb_t ⟨(hnP_iff nm).2 ⟨h1, h2⟩, (hvP_iff vl).2 ⟨h3, hu.1 q⟩⟩]
        · rw [decide_eq_false q, pb_f fun h => q (hu.2 ((hvP_iff vl).1 h.2).2)]
       clear h1 h2 h3
       go_enter Tryz.func76, Tryz.ntmps76
       go_wp2_with fail
       rw [← hW0]
       clear hW0
       refine (K1 _).out.mono ?_
       rintro e w1 ⟨rfl, hb⟩
       have J1 := Jn.next hb J0
       have x0 : w1.cell? ⟨w.heap.size, 0, none⟩ = some (.string nm) := J1.out.1.cell 0
       have x1 : w1.cell? ⟨w.heap.size, 1, none⟩ = some (.string vl) := J1.out.1.cell 1
       clear hb J0
       go_upto_region 3 with fail
       go_region_held3 (fun wx => wx.cell? ⟨w.heap.size, 1, none⟩ = some (.string vl))
        (first | exact J4.out.1.cell 1 | exact J3.out.1.cell 1 | exact x1)
        (first
          | (go_at_call 70
             refine (K2 _).out.mono ?_
             rintro e w3 ⟨rfl, hb3⟩
             have J3 := Jn.next hb3 (Jn.drew J1))
          | (go_at_call 103
             refine (K3 _).out.mono ?_
             rintro e w4 ⟨⟨u, rfl, hu⟩, nd, rfl⟩
             have J4 := Jn.drewN J3 nd
             have HU := hid ((HE u).out hu)
             clear hu))
       rw [HU.out]
       go_wp2
       go_ret
       exact ⟨rfl, J4.out.2⟩
     · have E : Hid (pb (hdP ⟨nm, vl⟩) = false) := pb_f fun q => h3 ((hvP_iff vl).1 q.2).1
       rw [pb_f h3] at K2
       clear h1 h2 h3
       go_enter Tryz.func76, Tryz.ntmps76
       go_wp2_with fail
       rw [← hW0]
       clear hW0
       refine (K1 _).out.mono ?_
       rintro e w1 ⟨rfl, hb⟩
       have J1 := Jn.next hb J0
       have x0 : w1.cell? ⟨w.heap.size, 0, none⟩ = some (.string nm) := J1.out.1.cell 0
       have x1 : w1.cell? ⟨w.heap.size, 1, none⟩ = some (.string vl) := J1.out.1.cell 1
       clear hb J0
       go_upto_region 3 with fail
       -- @hand
       refine wp_region_held_drew (S := fun wx => wx.cell? ⟨w.heap.size, 1, none⟩ = some (.string vl)) (by kernel_rfl) ?_ (fun hHeld => ?_)
       · exact x1
       refine wpAnyH_take (i := 0) (oi := { dst := some 12, op := Op.fieldAddr 66 (Operand.tmp 1) 1, type := 0, pos := "l10_request.go:191", after := #[], guard := none }) (v := ?v1x0) rfl (by kernel_rfl) (by kernel_rfl) (by kernel_rfl) (fun _ _ _ h => h) (Or.inl ⟨by rfl, ?hy1x0⟩) hHeld ?rest1x0
       case hy1x0 => (intro w hSw; (try dsimp only at hSw); go_simp; try with_reducible rfl)
       simp only [Act.put, List.setIfInBounds_toArray, List.set_cons_zero, List.set_cons_succ]
       refine wpAnyH_take (i := 1) (oi := { dst := some 13, op := Op.load 9 (Operand.tmp 12), type := 9, pos := "l10_request.go:191", after := #[{ on := 0, ground := Ground.data }], guard := none }) (v := ?v1x1) rfl (by kernel_rfl) (by kernel_rfl) (by kernel_rfl) (fun _ _ _ h => h) (Or.inl ⟨by rfl, ?hy1x1⟩) hHeld ?rest1x1
       case hy1x1 => (intro w hSw; (try dsimp only at hSw); go_simp; try with_reducible rfl)
       simp only [Act.put, List.setIfInBounds_toArray, List.set_cons_zero, List.set_cons_succ]
       refine wpAnyH_ready (rs := [2]) (by kernel_rfl) (by simp) ?_
       refine AllReadyH.cons (o := { dst := some 14, op := Op.call { callee := Callee.value (Operand.func 70), args := #[Operand.tmp 13, Operand.const (Value.int IntKind.i64 0), Operand.const (Value.int IntKind.i64 1000), Operand.func 102], argTypes := #[9, 3, 3, 102] }, type := 4, pos := "l10_request.go:191", after := #[{ on := 1, ground := Ground.data }], guard := none }) rfl (fun K hK => ?_) AllReadyH.nil
       go_simp
       refine (K2 _).out.mono ?_
       rintro e w3 ⟨rfl, hb3⟩
       have J3 := Jn.next hb3 (Jn.drew J1)
       clear hb3
       go_wp2_with fail
       refine hK.out _ _ ?_ (fun hHeld => ?_)
       · exact J3.out.1.cell 1
       clear hK K
       try simp only [Act.put, List.setIfInBounds_toArray, List.set_cons_zero, List.set_cons_succ]
       refine wpAnyH_take (i := 3) (oi := { dst := some 15, op := Op.move (Operand.tmp 14), type := 4, pos := "l10_request.go:191", after := #[{ on := 2, ground := Ground.data }, { on := 2, ground := Ground.chain }], guard := none }) (v := ?v1x3) rfl (by kernel_rfl) (by kernel_rfl) (by kernel_rfl) (fun _ _ _ h => h) (Or.inl ⟨by rfl, ?hy1x3⟩) hHeld ?rest1x3
       case hy1x3 => (intro w hSw; (try dsimp only at hSw); go_simp; try with_reducible rfl)
       simp only [Act.put, List.setIfInBounds_toArray, List.set_cons_zero, List.set_cons_succ]
       refine wpAnyH_take (i := 4) (oi := { dst := some 16, op := Op.fieldAddr 66 (Operand.tmp 1) 1, type := 0, pos := "l10_request.go:191", after := #[{ on := 3, ground := Ground.guard }], guard := some (3, true) }) (v := undef) rfl (by kernel_rfl) (by kernel_rfl) (by kernel_rfl) (fun _ _ _ h => h) (Or.inr ⟨by rfl, rfl⟩) hHeld ?_
       simp only [Act.put, List.setIfInBounds_toArray, List.set_cons_zero, List.set_cons_succ]
       refine wpAnyH_take (i := 5) (oi := { dst := some 17, op := Op.load 9 (Operand.tmp 16), type := 9, pos := "l10_request.go:191", after := #[{ on := 4, ground := Ground.data }, { on := 3, ground := Ground.guard }], guard := some (3, true) }) (v := undef) rfl (by kernel_rfl) (by kernel_rfl) (by kernel_rfl) (fun _ _ _ h => h) (Or.inr ⟨by rfl, rfl⟩) hHeld ?_
       simp only [Act.put, List.setIfInBounds_toArray, List.set_cons_zero, List.set_cons_succ]
       refine wpAnyH_take (i := 6) (oi := { dst := some 18, op := Op.call { callee := Callee.value (Operand.func 103), args := #[Operand.tmp 17, Operand.const (Value.string { data := #[32] })], argTypes := #[9, 9] }, type := 9, pos := "l10_request.go:191", after := #[{ on := 5, ground := Ground.data }, { on := 3, ground := Ground.chain }, { on := 3, ground := Ground.guard }], guard := some (3, true) }) (v := undef) rfl (by kernel_rfl) (by kernel_rfl) (by kernel_rfl) (fun _ _ _ h => h) (Or.inr ⟨by rfl, rfl⟩) hHeld ?_
       simp only [Act.put, List.setIfInBounds_toArray, List.set_cons_zero, List.set_cons_succ]
       refine wpAnyH_take (i := 7) (oi := { dst := some 19, op := Op.fieldAddr 66 (Operand.tmp 1) 1, type := 0, pos := "l10_request.go:191", after := #[{ on := 3, ground := Ground.guard }], guard := some (3, true) }) (v := undef) rfl (by kernel_rfl) (by kernel_rfl) (by kernel_rfl) (fun _ _ _ h => h) (Or.inr ⟨by rfl, rfl⟩) hHeld ?_
       simp only [Act.put, List.setIfInBounds_toArray, List.set_cons_zero, List.set_cons_succ]
       refine wpAnyH_take (i := 8) (oi := { dst := some 20, op := Op.load 9 (Operand.tmp 19), type := 9, pos := "l10_request.go:191", after := #[{ on := 7, ground := Ground.data }, { on := 3, ground := Ground.guard }], guard := some (3, true) }) (v := undef) rfl (by kernel_rfl) (by kernel_rfl) (by kernel_rfl) (fun _ _ _ h => h) (Or.inr ⟨by rfl, rfl⟩) hHeld ?_
       simp only [Act.put, List.setIfInBounds_toArray, List.set_cons_zero, List.set_cons_succ]
       refine wpAnyH_take (i := 9) (oi := { dst := some 21, op := Op.binOp BinOp.eql 9 (Operand.tmp 18) (Operand.tmp 20) 9, type := 4, pos := "l10_request.go:191", after := #[{ on := 6, ground := Ground.data }, { on := 8, ground := Ground.data }, { on := 3, ground := Ground.guard }], guard := some (3, true) }) (v := undef) rfl (by kernel_rfl) (by kernel_rfl) (by kernel_rfl) (fun _ _ _ h => h) (Or.inr ⟨by rfl, rfl⟩) hHeld ?_
       simp only [Act.put, List.setIfInBounds_toArray, List.set_cons_zero, List.set_cons_succ]
       refine wpAnyH_take (i := 10) (oi := { dst := some 22, op := Op.pick (Operand.tmp 15) (Operand.tmp 21) (Operand.const (Value.bool false)), type := 4, pos := "l10_request.go:191", after := #[{ on := 3, ground := Ground.data }, { on := 9, ground := Ground.data }], guard := none }) (v := ?v1x10) rfl (by kernel_rfl) (by kernel_rfl) (by kernel_rfl) (fun _ _ _ h => h) (Or.inl ⟨by rfl, ?hy1x10⟩) hHeld ?rest1x10
       case hy1x10 => (intro w hSw; (try dsimp only at hSw); go_simp; try with_reducible rfl)
       simp only [Act.put, List.setIfInBounds_toArray, List.set_cons_zero, List.set_cons_succ]
       refine wpAnyH_take (i := 11) (oi := { dst := some 2, op := Op.assign (Operand.tmp 22), type := 4, pos := "l10_request.go:191", after := #[{ on := 10, ground := Ground.data }, { on := 6, ground := Ground.chain }, { on := 0, ground := Ground.phase }, { on := 1, ground := Ground.phase }, { on := 2, ground := Ground.phase }, { on := 3, ground := Ground.phase }, { on := 4, ground := Ground.phase }, { on := 5, ground := Ground.phase }, { on := 6, ground := Ground.phase }, { on := 7, ground := Ground.phase }, { on := 8, ground := Ground.phase }, { on := 9, ground := Ground.phase }, { on := 10, ground := Ground.phase }], guard := none }) (v := ?v1x11) rfl (by kernel_rfl) (by kernel_rfl) (by kernel_rfl) (fun _ _ _ h => h) (Or.inl ⟨by rfl, ?hy1x11⟩) hHeld ?rest1x11
       case hy1x11 => (intro w hSw; (try dsimp only at hSw); go_simp; try with_reducible rfl)
       simp only [Act.put, List.setIfInBounds_toArray, List.set_cons_zero, List.set_cons_succ]
       refine wpAnyH_done (by kernel_rfl) ?_ _
       go_wp2
       go_ret
       exact ⟨by rw [E.out]; rfl, J3.out.2⟩
       -- @done
 · have E : Hid (pb (hdP ⟨nm, vl⟩) = false) := pb_f fun q => h1 ((hnP_iff nm).1 q.1).1
   rw [pb_f h1] at K1
   clear h1
   go_enter Tryz.func76, Tryz.ntmps76
   go_wp2_with fail
   rw [← hW0]
   clear hW0
   refine (K1 _).out.mono ?_
   rintro e w1 ⟨rfl, hb⟩
   have J1 := Jn.next hb J0
   clear hb J0
   go_wp2
   go_ret
   exact ⟨by rw [E.out]; rfl, J1.out.2⟩
end Go.Proofs.YtkcjigelenofhaaGreatDoor
namespace Go.Proofs.YtkcjigelenofhaaGreatDoor
open Go.RowKit
set_option maxRecDepth 20000 in
set_option maxHeartbeats 2000000 in
theorem iPairsQ (a : Option Addr) (n cap : Nat) (o : Nat → Hp) (hn : n ≤ 1048576) (hs : ∀ i, i < n → (o i).nm.size ≤ 1048576 ∧ (o i).vl.size ≤ 1048576) (w : World) (h : Hps w a n cap o) :
 Calls Tryz.prog 74 #[.slice a n cap, .func (.func 75) #[] #[]] w fun e w' => e = .returned (.bool (pb (dfP n o ∧ ∀ i, i < n → qyP (o i)))) ∧ Below w.heap.size w w' := by
 have HH := hid h
 have HS := hid hs
 clear h hs
 by_cases h30 : n ≤ 30
 case neg =>
  have E : Hid (pb (dfP n o ∧ ∀ i, i < n → qyP (o i)) = false) := pb_f fun q => h30 q.1.1
  have d0 : (30 : Int) < (n : Int) := by omega
  go_enter Tryz.func74, Tryz.ntmps74
  go_wp2
  go_ret
  exact ⟨by rw [E.out]; rfl, Below.refl _ _⟩
 have d0 : ¬ (30 : Int) < (n : Int) := by omega
 go_enter Tryz.func74, Tryz.ntmps74
 go_wp2_with fail
 go_loopw [12] (fun q wr => ∃ k : Nat, k ≤ n ∧ q = .int .i64 k ∧ (∀ i, i < k → qyP (o i)) ∧ Below w.heap.size w wr) (fun q _ => n - (intOf q).toNat)
 case atStart => exact ⟨0, Nat.zero_le _, rfl, fun i hi => absurd hi (Nat.not_lt_zero _), Below.refl _ _⟩
 case round =>
  obtain ⟨k, hk, rfl, hA, hB⟩ := hrel
  have HA := hid hA
  have HB := hid hB
  clear hB hA
  by_cases hlt : k < n
  · have hlt' : (k : Int) < (n : Int) := by omega
    have k0 : (0 : Int) ≤ (k : Int) := by omega
    rcases (HH.out.below HB.out).2 with h00 | ⟨b, off, rfl, hbl, hc⟩
    · omega
    obtain ⟨c0, c1⟩ := hc k hlt
    have s1 := (HS.out k hlt).2
    have EV : Hid (o k = ⟨(o k).nm, (o k).vl⟩) := rfl
    obtain ⟨X0, hX0⟩ : ∃ v, v = (o k).nm := ⟨_, rfl⟩
    obtain ⟨X1, hX1⟩ : ∃ v, v = (o k).vl := ⟨_, rfl⟩
    rw [← hX0, ← hX1] at EV
    rw [← hX0] at c0
    rw [← hX1] at c1 s1
    clear hc hX0 hX1
    have K := fun wx => hid (iQy X0 X1 wx)
    by_cases hf : qyP (o k)
    · rw [pb_t (by rw [← EV.out]; exact hf)] at K
      have N : Hid (∀ i, i < k + 1 → qyP (o i)) := fun i hi => by
       by_cases e : i = k
       · subst e; exact hf
       · exact HA.out i (by omega)
      clear hf
      go_wp2_with fail
      refine (K _).out.mono ?_
      rintro e w2 ⟨rfl, hb2⟩
      have B2 : Hid (Below w.heap.size w w2) := (HB.out.alloc HB.out.size _).trans (hb2.mono (Nat.le_trans HB.out.size (by simp)))
      clear hb2 HB c0 c1
      go_wp2
      go_roundw
      case rel => exact ⟨k + 1, by omega, by go_num, N.out, B2.out⟩
      case measure => simp [intOf]; omega
    · rw [pb_f (by rw [← EV.out]; exact hf)] at K
      have E : Hid (pb (dfP n o ∧ ∀ i, i < n → qyP (o i)) = false) := pb_f fun q => hf (q.2 k hlt)
      clear hf
      go_wp2_with fail
      refine (K _).out.mono ?_
      rintro e w2 ⟨rfl, hb2⟩
      have B2 : Hid (Below w.heap.size w w2) := (HB.out.alloc HB.out.size _).trans (hb2.mono (Nat.le_trans HB.out.size (by simp)))
      clear hb2 HB c0 c1
      go_wp2
      go_ret
      exact ⟨by rw [E.out]; rfl, B2.out⟩
  · have hkn : k = n := by omega
    subst hkn
    have KP := hid (iPlaces a k cap o hn (fun i hi => (HS.out i hi).1) wr (HH.out.below HB.out))
    have E : Hid (((Maps.size (plD o k) : Int) == (k : Int)) = pb (dfP k o ∧ ∀ i, i < k → qyP (o i))) := by
     show _ = _
     by_cases q : Maps.size (plD o k) = k
     · rw [pb_t ⟨⟨h30, (plD_size o k).1 q⟩, HA.out⟩]
       simp [q]
     · rw [pb_f fun h => q ((plD_size o k).2 h.1.2)]
       simp
       omega
    generalize hZ : Maps.size (plD o k) = Z at E
    have HZ := hid hZ
    clear hZ
    go_wp2_with fail
    refine KP.out.mono ?_
    rintro e w2 ⟨b, rfl, hM, hb, hb2⟩
    have B2 : Hid (Below w.heap.size w w2) := HB.out.trans (hb2.mono HB.out.size)
    clear hb2 HB hb
    have hln := hM.len Tryz.underlying116 3
    rw [HZ.out] at hln
    clear hM
    go_wp2
    go_ret
    exact ⟨by rw [← E.out]; rfl, B2.out⟩
set_option maxRecDepth 20000 in
set_option maxHeartbeats 2000000 in
theorem iPairsH (a : Option Addr) (n cap : Nat) (o : Nat → Hp) (hn : n ≤ 1048576) (hs : ∀ i, i < n → (o i).nm.size ≤ 1048576 ∧ (o i).vl.size ≤ 1048576) (w : World) (h : Hps w a n cap o) :
 Calls Tryz.prog 74 #[.slice a n cap, .func (.func 76) #[] #[]] w fun e w' => e = .returned (.bool (pb (dfP n o ∧ ∀ i, i < n → hdP (o i)))) ∧ Below w.heap.size w w' := by
 have HH := hid h
 have HS := hid hs
 clear h hs
 by_cases h30 : n ≤ 30
 case neg =>
  have E : Hid (pb (dfP n o ∧ ∀ i, i < n → hdP (o i)) = false) := pb_f fun q => h30 q.1.1
  have d0 : (30 : Int) < (n : Int) := by omega
  go_enter Tryz.func74, Tryz.ntmps74
  go_wp2
  go_ret
  exact ⟨by rw [E.out]; rfl, Below.refl _ _⟩
 have d0 : ¬ (30 : Int) < (n : Int) := by omega
 go_enter Tryz.func74, Tryz.ntmps74
 go_wp2_with fail
 go_loopw [12] (fun q wr => ∃ k : Nat, k ≤ n ∧ q = .int .i64 k ∧ (∀ i, i < k → hdP (o i)) ∧ Below w.heap.size w wr) (fun q _ => n - (intOf q).toNat)
 case atStart => exact ⟨0, Nat.zero_le _, rfl, fun i hi => absurd hi (Nat.not_lt_zero _), Below.refl _ _⟩
 case round =>
  obtain ⟨k, hk, rfl, hA, hB⟩ := hrel
  have HA := hid hA
  have HB := hid hB
  clear hB hA
  by_cases hlt : k < n
  · have hlt' : (k : Int) < (n : Int) := by omega
    have k0 : (0 : Int) ≤ (k : Int) := by omega
    rcases (HH.out.below HB.out).2 with h00 | ⟨b, off, rfl, hbl, hc⟩
    · omega
    obtain ⟨c0, c1⟩ := hc k hlt
    have s1 := (HS.out k hlt).2
    have EV : Hid (o k = ⟨(o k).nm, (o k).vl⟩) := rfl
    obtain ⟨X0, hX0⟩ : ∃ v, v = (o k).nm := ⟨_, rfl⟩
    obtain ⟨X1, hX1⟩ : ∃ v, v = (o k).vl := ⟨_, rfl⟩
    rw [← hX0, ← hX1] at EV
    rw [← hX0] at c0
    rw [← hX1] at c1 s1
    clear hc hX0 hX1
    have K := fun wx => hid (iHd X0 X1 s1 wx)
    by_cases hf : hdP (o k)
    · rw [pb_t (by rw [← EV.out]; exact hf)] at K
      have N : Hid (∀ i, i < k + 1 → hdP (o i)) := fun i hi => by
       by_cases e : i = k
       · subst e; exact hf
       · exact HA.out i (by omega)
      clear hf
      go_wp2_with fail
      refine (K _).out.mono ?_
      rintro e w2 ⟨rfl, hb2⟩
      have B2 : Hid (Below w.heap.size w w2) := (HB.out.alloc HB.out.size _).trans (hb2.mono (Nat.le_trans HB.out.size (by simp)))
      clear hb2 HB c0 c1
      go_wp2
      go_roundw
      case rel => exact ⟨k + 1, by omega, by go_num, N.out, B2.out⟩
      case measure => simp [intOf]; omega
    · rw [pb_f (by rw [← EV.out]; exact hf)] at K
      have E : Hid (pb (dfP n o ∧ ∀ i, i < n → hdP (o i)) = false) := pb_f fun q => hf (q.2 k hlt)
      clear hf
      go_wp2_with fail
      refine (K _).out.mono ?_
      rintro e w2 ⟨rfl, hb2⟩
      have B2 : Hid (Below w.heap.size w w2) := (HB.out.alloc HB.out.size _).trans (hb2.mono (Nat.le_trans HB.out.size (by simp)))
      clear hb2 HB c0 c1
      go_wp2
      go_ret
      exact ⟨by rw [E.out]; rfl, B2.out⟩
  · have hkn : k = n := by omega
    subst hkn
    have KP := hid (iPlaces a k cap o hn (fun i hi => (HS.out i hi).1) wr (HH.out.below HB.out))
    have E : Hid (((Maps.size (plD o k) : Int) == (k : Int)) = pb (dfP k o ∧ ∀ i, i < k → hdP (o i))) := by
     show _ = _
     by_cases q : Maps.size (plD o k) = k
     · rw [pb_t ⟨⟨h30, (plD_size o k).1 q⟩, HA.out⟩]
       simp [q]
     · rw [pb_f fun h => q ((plD_size o k).2 h.1.2)]
       simp
       omega
    generalize hZ : Maps.size (plD o k) = Z at E
    have HZ := hid hZ
    clear hZ
    go_wp2_with fail
    refine KP.out.mono ?_
    rintro e w2 ⟨b, rfl, hM, hb, hb2⟩
    have B2 : Hid (Below w.heap.size w w2) := HB.out.trans (hb2.mono HB.out.size)
    clear hb2 HB hb
    have hln := hM.len Tryz.underlying116 3
    rw [HZ.out] at hln
    clear hM
    go_wp2
    go_ret
    exact ⟨by rw [← E.out]; rfl, B2.out⟩
set_option maxRecDepth 20000 in
set_option maxHeartbeats 4000000 in
theorem iRqF (r : Rq) (hb : RqB r 1048576) (w : World) (h : RqIn w r) :
 Calls Tryz.prog 38 #[r.v] w fun e w' => e = .returned (.int .i64 (rqV r)) ∧ Below w.heap.size w w' := by
 have HV : Hid (∀ q : Bool, q = pb (rqP r) → rqV r = if q then 0 else 1) := fun q hq => by rw [hq]; rfl
 have E : Hid (rqP r ↔ mtP r.mt ∧ ptP r.pt ∧ r.bd.size ≤ 100000 ∧ (dfP r.qs.n r.qs.o ∧ ∀ i, i < r.qs.n → qyP (r.qs.o i)) ∧ (dfP r.hs.n r.hs.o ∧ ∀ i, i < r.hs.n → hdP (r.hs.o i))) := by
  show _ ↔ _
  unfold rqP
  constructor
  · rintro ⟨a, b, c, d, e, f, g⟩; exact ⟨a, b, e, ⟨c, f⟩, d, g⟩
  · rintro ⟨a, b, e, ⟨c, f⟩, d, g⟩; exact ⟨a, b, c, d, e, f, g⟩
 have MT : Hid (mtP r.mt ↔ ofP 1 10 mtC r.mt) := Iff.rfl
 obtain ⟨mt, pt, ⟨a1, n1, c1, o1⟩, ⟨a2, n2, c2, o2⟩, bd⟩ := r
 dsimp only at E MT
 have H1 := h.qs
 have H2 := h.hs
 have HB1 := hb.qs
 have HB2 := hb.hs
 dsimp only at H1 H2
 have J0 := Jn.box w 25 #[.string mt, .string pt, .slice a1 n1 c1, .slice a2 n2 c2, .string bd]
 obtain ⟨W0, hW0⟩ : ∃ W, W = w.alloc (.cells #[.string mt, .string pt, .slice a1 n1 c1, .slice a2 n2 c2, .string bd] 25) := ⟨_, rfl⟩
 rw [← hW0] at J0
 have K1 := fun wx => hid (iOfC 1 10 1 10 rfl rfl mt wx)
 have K2 := fun wx => hid (iPath pt wx)
 have K3 := fun wx => hid (iTooLong bd wx)
 have K4 := fun wx hx => hid (iPairsQ a1 n1 c1 o1 HB1.1 HB1.2 wx hx)
 have K5 := fun wx hx => hid (iPairsH a2 n2 c2 o2 HB2.1 HB2.2 wx hx)
 have HQ := hid H1
 have HX := hid H2
 clear h hb H1 H2 HB1 HB2
 show Calls Tryz.prog 38 #[.agg #[.string mt, .string pt, .slice a1 n1 c1, .slice a2 n2 c2, .string bd]] w _
 by_cases q1 : ofP 1 10 mtC mt
 case neg =>
  have N := hid (rqV_f fun q => q1 (MT.out.1 (E.out.1 q).1))
  rw [pb_f q1] at K1
  clear q1
  go_enter Tryz.func38, Tryz.ntmps38
  go_wp2_with fail
  rw [← hW0]
  clear hW0
  refine (K1 _).out.mono ?_
  rintro e w1 ⟨rfl, hb1⟩
  have J1 := Jn.next hb1 J0
  clear hb1 J0
  go_wp2
  go_ret
  exact ⟨by rw [N.out]; rfl, J1.out.2⟩
 rw [pb_t q1] at K1
 by_cases q2 : ptP pt
 case neg =>
  have N := hid (rqV_f fun q => q2 (E.out.1 q).2.1)
  rw [pb_f q2] at K2
  clear q1 q2
  go_enter Tryz.func38, Tryz.ntmps38
  go_wp2_with fail
  rw [← hW0]
  clear hW0
  refine (K1 _).out.mono ?_
  rintro e w1 ⟨rfl, hb1⟩
  have J1 := Jn.next hb1 J0
  have x1 : w1.cell? ⟨w.heap.size, 1, none⟩ = some (.string pt) := J1.out.1.cell 1
  clear hb1 J0
  go_wp2_with fail
  refine (K2 _).out.mono ?_
  rintro e w2 ⟨rfl, hw⟩
  obtain rfl := hw.symm
  go_wp2
  go_ret
  exact ⟨by rw [N.out]; rfl, J1.out.2⟩
 rw [pb_t q2] at K2
 by_cases q3 : bd.size ≤ 100000
 case neg =>
  have N := hid (rqV_f fun q => q3 (E.out.1 q).2.2.1)
  rw [decide_eq_true (show (100000 : Int) < (bd.size : Int) by omega)] at K3
  clear q1 q2 q3
  go_enter Tryz.func38, Tryz.ntmps38
  go_wp2_with fail
  rw [← hW0]
  clear hW0
  refine (K1 _).out.mono ?_
  rintro e w1 ⟨rfl, hb1⟩
  have J1 := Jn.next hb1 J0
  have x1 : w1.cell? ⟨w.heap.size, 1, none⟩ = some (.string pt) := J1.out.1.cell 1
  have x4 : w1.cell? ⟨w.heap.size, 4, none⟩ = some (.string bd) := J1.out.1.cell 4
  clear hb1 J0
  go_wp2_with fail
  refine (K2 _).out.mono ?_
  rintro e w2 ⟨rfl, hw⟩
  obtain rfl := hw.symm
  go_wp2_with fail
  refine (K3 _).out.mono ?_
  rintro e w2 ⟨rfl, hw⟩
  obtain rfl := hw.symm
  go_wp2
  go_ret
  exact ⟨by rw [N.out]; rfl, J1.out.2⟩
 rw [decide_eq_false (show ¬ (100000 : Int) < (bd.size : Int) by omega)] at K3
 by_cases q4 : dfP n1 o1 ∧ ∀ i, i < n1 → qyP (o1 i)
 case neg =>
  have N := hid (rqV_f fun q => q4 (E.out.1 q).2.2.2.1)
  rw [pb_f q4] at K4
  clear q1 q2 q3 q4
  go_enter Tryz.func38, Tryz.ntmps38
  go_wp2_with fail
  rw [← hW0]
  clear hW0
  refine (K1 _).out.mono ?_
  rintro e w1 ⟨rfl, hb1⟩
  have J1 := Jn.next hb1 J0
  have x1 : w1.cell? ⟨w.heap.size, 1, none⟩ = some (.string pt) := J1.out.1.cell 1
  have x4 : w1.cell? ⟨w.heap.size, 4, none⟩ = some (.string bd) := J1.out.1.cell 4
  have x2 : w1.cell? ⟨w.heap.size, 2, none⟩ = some (.slice a1 n1 c1) := J1.out.1.cell 2
  clear hb1 J0
  go_wp2_with fail
  refine (K2 _).out.mono ?_
  rintro e w2 ⟨rfl, hw⟩
  obtain rfl := hw.symm
  go_wp2_with fail
  refine (K3 _).out.mono ?_
  rintro e w2 ⟨rfl, hw⟩
  obtain rfl := hw.symm
  go_wp2_with fail
  refine (K4 _ (HQ.out.below J1.out.2)).out.mono ?_
  rintro e w2 ⟨rfl, hb2⟩
  have J2 := Jn.next hb2 J1
  clear hb2 x1 x4 x2 J1
  go_wp2
  go_ret
  exact ⟨by rw [N.out]; rfl, J2.out.2⟩
 rw [pb_t q4] at K4
 have N : Hid (rqV ⟨mt, pt, ⟨a1, n1, c1, o1⟩, ⟨a2, n2, c2, o2⟩, bd⟩ = if pb (dfP n2 o2 ∧ ∀ i, i < n2 → hdP (o2 i)) then 0 else 1) := HV.out _ (pb_congr ⟨fun q => E.out.2 ⟨MT.out.2 q1, q2, q3, q4, q⟩, fun q => (E.out.1 q).2.2.2.2⟩)
 clear q1 q2 q3 q4
 generalize pb (dfP n2 o2 ∧ ∀ i, i < n2 → hdP (o2 i)) = V at N K5
 go_enter Tryz.func38, Tryz.ntmps38
 go_wp2_with fail
 rw [← hW0]
 clear hW0
 refine (K1 _).out.mono ?_
 rintro e w1 ⟨rfl, hb1⟩
 have J1 := Jn.next hb1 J0
 have x1 : w1.cell? ⟨w.heap.size, 1, none⟩ = some (.string pt) := J1.out.1.cell 1
 have x4 : w1.cell? ⟨w.heap.size, 4, none⟩ = some (.string bd) := J1.out.1.cell 4
 have x2 : w1.cell? ⟨w.heap.size, 2, none⟩ = some (.slice a1 n1 c1) := J1.out.1.cell 2
 clear hb1 J0
 go_wp2_with fail
 refine (K2 _).out.mono ?_
 rintro e w2 ⟨rfl, hw⟩
 obtain rfl := hw.symm
 go_wp2_with fail
 refine (K3 _).out.mono ?_
 rintro e w2 ⟨rfl, hw⟩
 obtain rfl := hw.symm
 go_wp2_with fail
 refine (K4 _ (HQ.out.below J1.out.2)).out.mono ?_
 rintro e w2 ⟨rfl, hb2⟩
 have J2 := Jn.next hb2 J1
 clear hb2 x1 x4 x2 J1
 have x3 : w2.cell? ⟨w.heap.size, 3, none⟩ = some (.slice a2 n2 c2) := J2.out.1.cell 3
 go_wp2_with fail
 refine (K5 _ (HX.out.below J2.out.2)).out.mono ?_
 rintro e w3 ⟨rfl, hb3⟩
 have J3 := Jn.next hb3 J2
 clear hb3 x3 J2
 cases V
 all_goals
  go_wp2
  go_ret
  exact ⟨by rw [N.out]; rfl, J3.out.2⟩
end Go.Proofs.YtkcjigelenofhaaGreatDoor
