import Derived.Test.YtkcjigelenofhaaGreatDoorDraw
import Derived.OpenShut
import Derived.Test.YtkcjigelenofhaaGreatDoorPut
import Derived.Lib.ConvBytes
import Derived.Laws.IdiomStrings
namespace Go.Proofs.YtkcjigelenofhaaGreatDoor
open Go.RowKit
set_option maxRecDepth 20000 in
set_option maxHeartbeats 1000000 in
theorem source_all (w : World) (a : Option Addr) (len cap : Nat) (hc : CodeOk w a len) (hlc : len ≤ cap) :
 Calls Tryz.prog 31 #[.slice a len cap] w fun e w' => e = .returned (.pointer (some ⟨w.heap.size, 0, none⟩)) ∧ Src w w' w.heap.size a len cap 0 ∧ Below w.heap.size w w' := by
 have hl := hc.1
 by_cases h12 : 12 < len / 16
 · have d0 : decide ((12 : Int) < (len : Int) / 16) = true := by simp; omega
   go_enter Tryz.func31, Tryz.ntmps31
   go_wp2
   go_ret
   exact ⟨rfl, ⟨⟨12, Blk.made w _ _, by omega, by omega⟩, hc, hlc, (Below.refl _ _).alloc (Nat.le_refl _) _, Nat.le_refl _⟩, (Below.refl _ _).alloc (Nat.le_refl _) _⟩
 · have d0 : decide ((12 : Int) < (len : Int) / 16) = false := by simp; omega
   go_enter Tryz.func31, Tryz.ntmps31
   go_wp2
   go_ret
   exact ⟨rfl, ⟨⟨(len : Int) / 16, Blk.made w _ _, by omega, by omega⟩, hc, hlc, (Below.refl _ _).alloc (Nat.le_refl _) _, Nat.le_refl _⟩, (Below.refl _ _).alloc (Nat.le_refl _) _⟩
end Go.Proofs.YtkcjigelenofhaaGreatDoor
namespace Go.Proofs.YtkcjigelenofhaaGreatDoor
open Go.RowKit
def turned (t : ByteArray) (k : Nat) (x : UInt8) : List UInt8 := t.data.toList.set k x
set_option maxRecDepth 20000 in
set_option maxHeartbeats 2000000 in
theorem lwTurn_all (t : ByteArray) (at' by' : Nat) (hs : t.size ≤ 1048576) (h0 : 0 < t.size) (ha : at' ≤ 1000000) (hb : by' < 256) (w : World) :
 Calls Tryz.prog 12 #[.string t, .int .i64 at', .int .i64 by'] w fun e w' => (∃ (k : Nat) (d : UInt8), ∃ h : k < t.size, d ≠ t[k] ∧ e = .returned (.string ⟨(turned t k d).toArray⟩)) ∧ Below w.heap.size w w' := by
 have d0 : ((t.size : Int) == 0) = false := beq_eq_false_iff_ne.2 (by omega)
 obtain ⟨C, hC⟩ : ∃ C, C = grownCap w t.size 0 5 := ⟨_, rfl⟩
 obtain ⟨W1, hW1⟩ : ∃ W1, W1 = Lib.bytesWorld w 5 t := ⟨_, rfl⟩
 have hcv : (convert 9 22 (.string t)).run Tryz.prog w = .ok (.slice (some ⟨w.heap.size, 0, none⟩) t.size C) W1 := by
  rw [hC, hW1]; exact Lib.run_convert_string_bytes w 9 22 5 t Tryz.underlying9 Tryz.underlying22 Tryz.underlying5
 have hbel : Below w.heap.size w W1 := by
  rw [hW1]; exact ⟨rfl, rfl, rfl, by rw [Lib.bytesWorld_size]; omega, fun j hj => Lib.bytesWorld_at_old w _ t j hj⟩
 have hcell : ∀ j, j < t.size → W1.cell? ⟨w.heap.size, j, none⟩ = some (.int .u8 (t.data.toList.getD j 0).toNat) := by
  intro j hj; rw [hW1]; exact Lib.bytesWorld_cell w _ t j hj
 have hfree : ∀ j, j < t.size → W1.frozen? ⟨w.heap.size, j, none⟩ = false := by
  intro j hj
  rw [hW1]
  have := Lib.bytesWorld_at_new w 5 t
  have hz : t.size ≤ (Lib.bytesCells w 5 t).size := by simp [Lib.bytesCells]
  simp [World.frozen?, this]; omega
 clear hC hW1
 have hk : at' % t.size < t.size := Nat.mod_lt _ h0
 obtain ⟨k, hkk⟩ : ∃ k, k = at' % t.size := ⟨_, rfl⟩
 rw [← hkk] at hk
 have hget : ∀ j (hj : j < t.size), W1.cell? ⟨w.heap.size, j, none⟩ = some (.int .u8 t[j].toNat) := by
  intro j hj
  rw [hcell j hj, List.getD_eq_getElem?_getD, List.getElem?_eq_getElem (by simpa using hj)]; rfl
 have e1 := hget k hk
 have f1 := hfree k hk
 obtain ⟨x, hx⟩ : ∃ x, x = 1 + by' % 255 := ⟨_, rfl⟩
 obtain ⟨d, hd⟩ : ∃ d, d = t[k] ^^^ UInt8.ofNat x := ⟨_, rfl⟩
 have hxx : (UInt8.ofNat x).toNat = x := by simp; omega
 have hdn : d.toNat = t[k].toNat ^^^ x := by rw [hd, UInt8.toNat_xor, hxx]
 have hne : d ≠ t[k] := by
  intro h
  have h2 : t[k].toNat ^^^ x = t[k].toNat := by rw [← hdn, h]
  have h3 : x = 0 := by
   have := congrArg (fun y => t[k].toNat ^^^ y) h2
   simpa [← Nat.xor_assoc] using this
  omega
 have hbx : bits .xor .u8 ((t[k].toNat : Nat) : Int) (1 + (by' : Int) % 255) = (d.toNat : Int) := by
  rw [show (1 + (by' : Int) % 255) = (x : Int) by omega, u8_xor_nat _ _ t[k].toNat_lt (by omega), hdn]
 have hlen : (turned t k d).length = t.size := by simp [turned]
 have hback : (convert 22 9 (.slice (some ⟨w.heap.size, 0, none⟩) t.size C)).run Tryz.prog (W1.setCell ⟨w.heap.size, k, none⟩ (.int .u8 (d.toNat : Int))) = .ok (.string ⟨(turned t k d).toArray⟩) (W1.setCell ⟨w.heap.size, k, none⟩ (.int .u8 (d.toNat : Int))) := by
  have := run_convert_bytes_back (P := Tryz.prog) (W1.setCell ⟨w.heap.size, k, none⟩ (.int .u8 (d.toNat : Int))) 22 9 5 ⟨w.heap.size, 0, none⟩ C (turned t k d) Tryz.underlying22 Tryz.underlying5 Tryz.underlying9 (by
   intro j hj
   have hadd : (⟨w.heap.size, 0, none⟩ : Addr).add j = ⟨w.heap.size, j, none⟩ := by unfold Addr.add; split <;> simp_all
   rw [hadd]
   by_cases hjk : j = k
   · subst hjk
     rw [World.cell?_setCell_same (h := e1)]
     simp [turned]
   · rw [World.cell?_setCell_other (h := by intro h; exact hjk (Addr.mk.inj h).2.1.symm), hget j (by omega)]
     simp only [turned]
     rw [List.getElem_set_ne (by omega)]; rfl)
  rw [hlen] at this
  exact this
 have i1 : (k : Int) < (t.size : Int) := by omega
 have hmod : (at' : Int) % (t.size : Int) = (k : Int) := by rw [hkk]; simp
 have HNE := hid hne
 clear hcell hfree hget hdn hd hxx hx hkk hne hlen
 go_enter Tryz.func12, Tryz.ntmps12
 go_wp2
 go_ret
 exact ⟨⟨k, d, hk, HNE.out, rfl⟩, hbel.setCell (Nat.le_refl _) _⟩
end Go.Proofs.YtkcjigelenofhaaGreatDoor
