import Derived.Test.YtokjfffcciddhaaGreatDoorSplC
import Derived.Test.YtokjfffcciddhaaGreatDoorIPol4
namespace Go.Proofs.YtokjfffcciddhaaGreatDoor
open Go.RowKit
/-! The program's line reader. -/
/-- a fault thrown, told whole -/
def ThrownAt (e : Ending) (c l : Int) : Prop := e = .panicked [{ v := .iface 94 (.agg #[.int .i64 c, .int .i64 l]), recovered := false }]
/-- a reader b of the words ws, k of which are taken; they lie at g -/
structure Rdr (W0 w : World) (b g : Nat) (l : Int) (ws : List ByteArray) (k : Nat) : Prop where
  bw : Below W0.heap.size W0 w
  hb : W0.heap.size ≤ b
  bg : b ≠ g
  kn : k ≤ ws.length
  sz : ws.length ≤ 1048576 ∧ ∀ x ∈ ws, x.size ≤ 1048576
  row : ∃ A, RowAt w b 125 #[.int .i64 l, .slice A (ws.length - k : Nat) (ws.length - k : Nat)] ∧ (k < ws.length → A = some ⟨g, k, none⟩)
  wd : RowAt w g 9 (ws.map Value.string).toArray
theorem Rdr.below {W0 w w' : World} {b g : Nat} {l : Int} {ws : List ByteArray} {k : Nat} (h : Rdr W0 w b g l ws k) (hb : Below w.heap.size w w') : Rdr W0 w' b g l ws k := by
  obtain ⟨A, r1, r2⟩ := h.row
  exact ⟨h.bw.trans (hb.mono h.bw.size), h.hb, h.bg, h.kn, h.sz, ⟨A, r1.below hb r1.lt, r2⟩, h.wd.below hb h.wd.lt⟩
theorem Rdr.drew {W0 w : World} {b g : Nat} {l : Int} {ws : List ByteArray} {k : Nat} (h : Rdr W0 w b g l ws k) : Rdr W0 w.drew b g l ws k := by
  obtain ⟨A, r1, r2⟩ := h.row
  exact ⟨h.bw.drew, h.hb, h.bg, h.kn, h.sz, ⟨A, r1.drew, r2⟩, h.wd.drew⟩
theorem Rdr.word {W0 w : World} {b g : Nat} {l : Int} {ws : List ByteArray} {k : Nat} (h : Rdr W0 w b g l ws k) (hk : k < ws.length) : w.cell? ⟨g, k, none⟩ = some (.string (atB ws k)) := by
  rw [h.wd.cell k]
  rw [List.getElem?_toArray, List.getElem?_map, atB_get hk]
  rfl
set_option maxRecDepth 20000 in
theorem iFail (W0 : World) (b g : Nat) (l : Int) (ws : List ByteArray) (k : Nat) (w : World) (h : Rdr W0 w b g l ws k) :
    Calls Tryz.prog 98 #[.pointer (some ⟨b, 0, none⟩)] w fun e w' => ThrownAt e 3 l ∧ w' = w := by
  obtain ⟨A, r1, _⟩ := h.row
  have c0 := r1.cell 0
  clear h r1
  go_enter Tryz.func98, Tryz.ntmps98
  go_wp2
  exact ⟨rfl, rfl, rfl⟩
set_option maxRecDepth 20000 in
set_option maxHeartbeats 1000000 in
theorem iTakeW_no (W0 : World) (b g : Nat) (l : Int) (ws : List ByteArray) (w : World) (h : Rdr W0 w b g l ws ws.length) :
    Calls Tryz.prog 86 #[.pointer (some ⟨b, 0, none⟩)] w fun e w' => ThrownAt e 3 l ∧ w' = w := by
  have K := hid (iFail W0 b g l ws ws.length w h)
  obtain ⟨A, r1, _⟩ := h.row
  rw [Nat.sub_self] at r1
  have c1 := r1.cell 1
  clear h r1
  go_enter Tryz.func86, Tryz.ntmps86
  go_wp2_with fail
  refine K.out.mono ?_
  rintro e w2 ⟨hT, rfl⟩
  unfold ThrownAt at hT
  subst hT
  go_wp2
  exact ⟨rfl, rfl, rfl⟩
set_option maxRecDepth 20000 in
set_option maxHeartbeats 1000000 in
theorem iTakeW (W0 : World) (b g : Nat) (l : Int) (ws : List ByteArray) (k : Nat) (hk : k < ws.length) (w : World) (h : Rdr W0 w b g l ws k) :
    Calls Tryz.prog 86 #[.pointer (some ⟨b, 0, none⟩)] w fun e w' => e = .returned (.string (atB ws k)) ∧ Rdr W0 w' b g l ws (k + 1) ∧ w.grownBy w' (some b) := by
  have HH := hid h
  obtain ⟨A, r1, r2⟩ := h.row
  obtain rfl := r2 hk
  have cw := h.word hk
  obtain ⟨m, hm⟩ : ∃ m, ws.length - k = m + 1 := ⟨ws.length - k - 1, by omega⟩
  rw [hm] at r1
  have HM := hid hm
  have R1 := hid r1
  have c1 := r1.cell 1
  have f1 := r1.free 1
  obtain ⟨t, ht⟩ : ∃ t, t = atB ws k := ⟨_, rfl⟩
  rw [← ht] at cw
  have HT := hid ht
  have FIN : Hid (∀ A', (k + 1 < ws.length → A' = some ⟨g, k + 1, none⟩) → Rdr W0 (w.setCell ⟨b, 1, none⟩ (.slice A' m m)) b g l ws (k + 1) ∧ w.grownBy (w.setCell ⟨b, 1, none⟩ (.slice A' m m)) (some b)) := fun A' hA => by
    have e : ws.length - (k + 1) = m := by have := HM.out; omega
    exact ⟨⟨HH.out.bw.setCell HH.out.hb _, HH.out.hb, HH.out.bg, hk, HH.out.sz, ⟨A', by rw [e]; exact R1.out.set 1 _, hA⟩, HH.out.wd.other _ _ (fun e => HH.out.bg e.symm)⟩, grown_set⟩
  have hsz := hid HH.out.sz.1
  clear h r1 r2 hm ht
  rw [← HT.out]
  by_cases h0 : m = 0
  · subst h0
    have F := FIN.out
    go_enter Tryz.func86, Tryz.ntmps86
    go_wp2
    go_ret
    exact ⟨rfl, F _ (fun hh => by have := HM.out; omega)⟩
  · have d0 : ¬ (m : Int) + 1 = 0 := by omega
    have d1 : ¬ m + 1 = 1 := by omega
    have d2 : (1 : Int) ≤ (m : Int) + 1 := by omega
    go_enter Tryz.func86, Tryz.ntmps86
    go_wp2
    go_ret
    exact ⟨rfl, FIN.out _ (fun _ => rfl)⟩
theorem eqW_t {b : ByteArray} {l : List UInt8} (h : isW b l) : (b.toList == l) = true := by
  rw [ByteArray.toList_eq]
  exact beq_iff_eq.2 h
theorem eqW_f {b : ByteArray} {l : List UInt8} (h : ¬ isW b l) : (b.toList == l) = false := by
  rw [ByteArray.toList_eq]
  exact beq_eq_false_iff_ne.2 h
set_option maxRecDepth 20000 in
set_option maxHeartbeats 1000000 in
theorem iEffO (t : ByteArray) (w : World) :
    Calls Tryz.prog 85 #[.string t] w fun e w' => e = .returned (.int .i64 (efV t)) ∧ w' = w := by
  by_cases h1 : isW t kAllow
  · have q1 : (t.toList == [97, 108, 108, 111, 119]) = true := eqW_t h1
    have E : Hid (efV t = 1) := by show _ = _; unfold efV; rw [if_pos h1]
    go_enter Tryz.func85, Tryz.ntmps85
    go_wp2
    go_ret
    exact ⟨by rw [E.out]; rfl, rfl⟩
  · have q1 : (t.toList == [97, 108, 108, 111, 119]) = false := eqW_f h1
    by_cases h2 : isW t kDeny
    · have q2 : (t.toList == [100, 101, 110, 121]) = true := eqW_t h2
      have E : Hid (efV t = 2) := by show _ = _; unfold efV; rw [if_neg h1, if_pos h2]
      go_enter Tryz.func85, Tryz.ntmps85
      go_wp2
      go_ret
      exact ⟨by rw [E.out]; rfl, rfl⟩
    · have q2 : (t.toList == [100, 101, 110, 121]) = false := eqW_f h2
      have E : Hid (efV t = 0) := by show _ = _; unfold efV; rw [if_neg h1, if_neg h2]
      go_enter Tryz.func85, Tryz.ntmps85
      go_wp2
      go_ret
      exact ⟨by rw [E.out]; rfl, rfl⟩
end Go.Proofs.YtokjfffcciddhaaGreatDoor
