import Derived.Test.YtgoplcjjoiiagaaGreatDoorS3
namespace Go.Proofs.YtgoplcjjoiiagaaGreatDoor
open Go.RowKit
/-! The specification's l10First. -/
theorem Tryz.infoHpF : (Tryz.prog.info? 54).map (fun i => (i.zero, i.size, i.bytes)) = some (some hz2, 2, 32) := by kernel_rfl
theorem ext_end (s : ByteArray) (i : Nat) : (s.extract i s.size).data.toList = s.data.toList.drop i := by
  rw [ext_mid, List.take_of_length_le (by rw [baLen]; exact Nat.le_refl _)]
theorem OwnHp.setRow {w : World} {base b : Nat} {v : Value} {L : List Hp} (h : OwnHp w base v L) (hb : b < base) (c : Array Value) : OwnHp (w.setRow b c) base v L := by
  refine ⟨h.1, ?_⟩
  rcases h.2 with h2 | ⟨g, cap, cur, e1, e2, e3, e4⟩
  · exact .inl h2
  · exact .inr ⟨g, cap, cur, e1, e2, by rw [setRow_other w b g c (by omega)]; exact e3, e4⟩
theorem unO_all (s : ByteArray) : ∃ b t z, unO s = .agg #[.bool b, .string t, .int .i64 z] ∧ ((b = false ∧ unL s.data.toList = none) ∨ (b = true ∧ ∃ l, unL s.data.toList = some l ∧ t = ofL l ∧ (ofL l).size ≤ 100000)) := by
  have e : unL s.data.toList = unV s := by unfold unL; rw [← ofL_of (b := s) rfl]
  rw [e]
  cases h : unV s with
  | none => exact ⟨_, _, _, unO_none h, .inl ⟨rfl, rfl⟩⟩
  | some l => exact ⟨true, ofL l, _, unO_some h, .inr ⟨rfl, l, rfl, rfl, by rw [ofL_size]; exact unV_len h⟩⟩
/-- what l10First answers -/
def AnsF (t : List UInt8) (w : World) (e : Ending) (w' : World) : Prop :=
  ∃ (m p : ByteArray) (v : Value) (L : List Hp) (b : Bool), e = .returned (.tuple #[.agg #[.string m, .string p, v, .slice none 0 0, .string ⟨#[]⟩], .bool b]) ∧ OwnHp w' w.heap.size v L ∧ Below w.heap.size w w' ∧ (b = true → fstO t = some (m, p, L)) ∧ (b = false → fstO t = none)
theorem OwnHp.setCell {w : World} {base : Nat} {v : Value} {L : List Hp} (h : OwnHp w base v L) (a : Addr) (x : Value) (hb : a.block < base) : OwnHp (w.setCell a x) base v L := by
  refine ⟨h.1, ?_⟩
  rcases h.2 with h2 | ⟨g, cap, cur, e1, e2, e3, e4⟩
  · exact .inl h2
  · exact .inr ⟨g, cap, cur, e1, e2, (show RowAt w g _ cur from e3).other a x (by omega), e4⟩
end Go.Proofs.YtgoplcjjoiiagaaGreatDoor
