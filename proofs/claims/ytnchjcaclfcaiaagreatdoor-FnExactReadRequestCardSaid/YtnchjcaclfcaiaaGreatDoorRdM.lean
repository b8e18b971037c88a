import Derived.Test.YtnchjcaclfcaiaaGreatDoorCanM
import Derived.Test.YtnchjcaclfcaiaaGreatDoorSUnEsc
import Derived.Test.YtnchjcaclfcaiaaGreatDoorCutP
namespace Go.Proofs.YtnchjcaclfcaiaaGreatDoor
open Go.RowKit
/-! Requests read: mathematics. -/
def unL (l : List UInt8) : Option (List UInt8) := unV (ofL l)
theorem unV_len {s : ByteArray} {b : List UInt8} (h : unV s = some b) : b.length ≤ 100000 := by
  unfold unV at h
  split at h
  · rename_i hc
    cases h
    have h1 := (esc_len (dec s.data.toList)).1
    rw [hc.2, baLen] at h1
    omega
  · cases h
def qyO : List (List UInt8) → Option (List Hp)
  | [] => some []
  | p :: r => match cutP [61] p with
    | none => none
    | some (n, v) => match unL n with
      | none => none
      | some n' => match unL v with
        | none => none
        | some v' => (qyO r).map fun M => (⟨ofL n', ofL v'⟩ : Hp) :: M
theorem qyO_none1 {p : List UInt8} {r : List (List UInt8)} (h : cutP [61] p = none) : qyO (p :: r) = none := by unfold qyO; rw [h]
theorem qyO_none2 {p n v : List UInt8} {r : List (List UInt8)} (h : cutP [61] p = some (n, v)) (h1 : unL n = none) : qyO (p :: r) = none := by unfold qyO; rw [h]; dsimp only; rw [h1]
theorem qyO_none3 {p n v n' : List UInt8} {r : List (List UInt8)} (h : cutP [61] p = some (n, v)) (h1 : unL n = some n') (h2 : unL v = none) : qyO (p :: r) = none := by unfold qyO; rw [h]; dsimp only; rw [h1]; dsimp only; rw [h2]
theorem qyO_some {p n v n' v' : List UInt8} {r : List (List UInt8)} (h : cutP [61] p = some (n, v)) (h1 : unL n = some n') (h2 : unL v = some v') : qyO (p :: r) = (qyO r).map fun M => (⟨ofL n', ofL v'⟩ : Hp) :: M := by
  conv => lhs; unfold qyO
  rw [h]; dsimp only; rw [h1]; dsimp only; rw [h2]
def mkRq (m p : ByteArray) (L H : List Hp) (b : ByteArray) : Rq := ⟨m, p, ⟨none, L.length, L.length, hAt L⟩, ⟨none, H.length, H.length, hAt H⟩, b⟩
open Classical in
noncomputable def finO (m : ByteArray) (a : List UInt8) (q : Option (List Hp)) : Option (ByteArray × ByteArray × List Hp) := match q with
  | none => none
  | some L => match unL a with
    | none => none
    | some p => if rqP (mkRq m (ofL p) L [] ⟨#[]⟩) then some (m, ofL p, L) else none
noncomputable def fstO (t : List UInt8) : Option (ByteArray × ByteArray × List Hp) := match cutP [32] t with
  | none => none
  | some (m, rest) => match cutP [63] rest with
    | none => finO (ofL m) rest (some [])
    | some (a, b) => finO (ofL m) a (qyO (splA 38 [] b))
theorem fstO_none {t : List UInt8} (h : cutP [32] t = none) : fstO t = none := by unfold fstO; rw [h]
theorem fstO_plain {t m rest : List UInt8} (h : cutP [32] t = some (m, rest)) (h1 : cutP [63] rest = none) : fstO t = finO (ofL m) rest (some []) := by unfold fstO; rw [h]; dsimp only; rw [h1]
theorem fstO_query {t m rest a b : List UInt8} (h : cutP [32] t = some (m, rest)) (h1 : cutP [63] rest = some (a, b)) : fstO t = finO (ofL m) a (qyO (splA 38 [] b)) := by unfold fstO; rw [h]; dsimp only; rw [h1]
theorem finO_none1 (m : ByteArray) (a : List UInt8) : finO m a none = none := rfl
theorem finO_none2 (m : ByteArray) {a : List UInt8} (L : List Hp) (h : unL a = none) : finO m a (some L) = none := by unfold finO; dsimp only; rw [h]
theorem finO_no (m : ByteArray) {a p : List UInt8} (L : List Hp) (h : unL a = some p) (hr : ¬ rqP (mkRq m (ofL p) L [] ⟨#[]⟩)) : finO m a (some L) = none := by unfold finO; dsimp only; rw [h]; dsimp only; rw [if_neg hr]
theorem finO_yes (m : ByteArray) {a p : List UInt8} (L : List Hp) (h : unL a = some p) (hr : rqP (mkRq m (ofL p) L [] ⟨#[]⟩)) : finO m a (some L) = some (m, ofL p, L) := by unfold finO; dsimp only; rw [h]; dsimp only; rw [if_pos hr]
/-- rightness hangs on what is read alone -/
theorem rqP_mk {mt pt bd : ByteArray} {a1 a2 : Option Addr} {c1 c2 : Nat} {L H : List Hp} : rqP ⟨mt, pt, ⟨a1, L.length, c1, hAt L⟩, ⟨a2, H.length, c2, hAt H⟩, bd⟩ ↔ rqP (mkRq mt pt L H bd) := Iff.rfl
theorem OwnHp.hps {w : World} {base : Nat} {v : Value} {L : List Hp} (h : OwnHp w base v L) : ∃ a cap, v = .slice a L.length cap ∧ Hps w a L.length cap (hAt L) := by
  by_cases h0 : 0 < L.length
  · obtain ⟨g, cap, rfl, hb, hl, hc, hx⟩ := h.shape h0
    exact ⟨_, cap, rfl, hc, .inr ⟨g, 0, rfl, hl, fun k hk => by rw [Nat.zero_add]; exact hx k hk⟩⟩
  · rcases h.2 with ⟨h1, h2⟩ | ⟨g, cap, cur, h1, _⟩
    · exact ⟨none, 0, by rw [h1, h2], by rw [h2]; exact Nat.le_refl _, .inl h2⟩
    · exact ⟨_, cap, h1, by omega, .inl (by omega)⟩
theorem OwnHp.nil (w : World) (base : Nat) : OwnHp w base (.slice none 0 0) [] := ⟨rfl, .inl ⟨rfl, rfl⟩⟩
theorem append_hp1 {P : Program} (base : Nat) (wr : World) {ops : Array Oper} {rest : List Oper} {op : Oper} {a : Act} {Q : Exit → Act → World → Prop} (hgd : op.guard = none) (s x : Operand) (t : TypeId)
    (ho : op.op = .call { callee := .builtin .append, args := #[s, x], argTypes := #[t, t] })
    (ht : P.underlying t = some (.slice 54)) (hinfo : (P.info? 54).map (fun i => (i.zero, i.size, i.bytes)) = some (some hz2, 2, 32))
    (v : Value) (L : List Hp) (n y : ByteArray) (hs : a.eval s = v) (hown : OwnHp wr base v L) (hsz : base ≤ wr.heap.size)
    (hx : a.eval x = .slice (some ⟨wr.heap.size, 0, none⟩) 1 1) (hlen : L.length + 1 ≤ 1048576)
    (h : ∀ v' w', OwnHp w' base v' (L ++ [⟨n, y⟩]) → wr.grownBy w' v.ownBlock → wpList P ops Q rest (a.put op.dst v') w') :
    wpList P ops Q (op :: rest) a (wr.alloc (.cells #[.string n, .string y] 54)) := by
  have R := RowAt.new wr 54 #[.string n, .string y]
  refine append_hps base _ hgd s x t ho ht hinfo v L hs (World.ownsRow.alloc hown _) (by simp; omega) wr.heap.size 0 1 1 [⟨n, y⟩] hx rfl (fun k hk => ?_) hlen fun v' w' h1 h2 => h v' w' h1 (grown_trans (World.grownBy_alloc wr _ _) h2)
  have e : k = 0 := by omega
  subst e
  exact ⟨R.cell 0, R.cell 1⟩
theorem row_grown {w w' : World} {b : Nat} {t : TypeId} {c : Array Value} {r : Option Nat} (h : RowAt w b t c) (hg : w.grownBy w' r) (hne : some b ≠ r) : RowAt w' b t c := (hg.block b h.lt hne).trans h
theorem strs_grown {w w' : World} {g n c : Nat} {ts : Nat → ByteArray} {r : Option Nat} (h : Strs w (some ⟨g, 0, none⟩) n c ts) (hg : w.grownBy w' r) (hne : some g ≠ r) : Strs w' (some ⟨g, 0, none⟩) n c ts := by
  refine ⟨h.1, ?_⟩
  rcases h.2 with h0 | ⟨b, off, e, h1, h2⟩
  · exact .inl h0
  · cases e
    refine .inr ⟨g, 0, rfl, Nat.lt_of_lt_of_le h1 hg.size, fun i hi => ?_⟩
    rw [← h2 i hi]
    show w'.cell? ⟨g, _, none⟩ = w.cell? ⟨g, _, none⟩
    simp only [World.cell?, hg.block g h1 hne]
theorem OwnHp.apart {w : World} {base b : Nat} {v : Value} {L : List Hp} (h : OwnHp w base v L) (hb : b < base) : some b ≠ v.ownBlock := fun e => by
  have := (World.ownsRow.lt h b e.symm).1
  omega
end Go.Proofs.YtnchjcaclfcaiaaGreatDoor
