import Derived.Test.YtcfahbcpfjhajaaGreatDoorS2
import Derived.Test.YtcfahbcpfjhajaaGreatDoorPb
import Derived.Test.YtcfahbcpfjhajaaGreatDoorStrOwn
import Derived.Test.YtcfahbcpfjhajaaGreatDoorCanM
import Derived.Test.YtcfahbcpfjhajaaGreatDoorE1
namespace Go.Proofs.YtcfahbcpfjhajaaGreatDoor
open Go.RowKit
/-! Texts asked for their front, read as numbers, cut at a byte: the specification's. -/
theorem eqL (a b : ByteArray) : (a.toList == b.toList) = decide (a = b) := by
  have e : ∀ x : ByteArray, x.toList = x.data.toList := fun x => by rw [ByteArray.toList_eq]
  rw [e, e]
  by_cases h : a = b
  · subst h; simp
  · rw [decide_eq_false h]
    simp only [beq_eq_false_iff_ne]
    exact fun hh => h (ba_extL hh)
def bgP (s h : ByteArray) : Prop := h.data.toList <+: s.data.toList
theorem ext_take (s : ByteArray) (k : Nat) : (s.extract 0 k).data.toList = s.data.toList.take k := by
  rw [ByteArray.data_extract]; simp
theorem bgP_iff (s h : ByteArray) : bgP s h ↔ h.size ≤ s.size ∧ s.extract 0 h.size = h := by
  unfold bgP
  constructor
  · rintro ⟨r, e⟩
    have hl := congrArg List.length e
    rw [List.length_append, baLen, baLen] at hl
    refine ⟨by omega, ba_extL ?_⟩
    rw [ext_take, ← e, List.take_append_of_le_length (by rw [baLen]; exact Nat.le_refl _), List.take_of_length_le (by rw [baLen]; exact Nat.le_refl _)]
  · rintro ⟨h1, h2⟩
    have := congrArg (fun b : ByteArray => b.data.toList) h2
    rw [ext_take] at this
    rw [← this]
    exact List.take_prefix _ _
set_option maxRecDepth 20000 in
set_option maxHeartbeats 1000000 in
theorem sBegins (s h : ByteArray) (_hs : s.size ≤ 1048576) (_hh : h.size ≤ 1048576) (w : World) :
    Calls Tryz.prog 49 #[.string s, .string h] w fun e w' => e = .returned (.bool (pb (bgP s h))) ∧ w' = w := by
  have B := hid (bgP_iff s h)
  by_cases h1 : h.size ≤ s.size
  · have d1 : (h.size : Int) ≤ (s.size : Int) := by omega
    by_cases h2 : s.extract 0 h.size = h
    · have E : Hid (pb (bgP s h) = true) := pb_t (B.out.2 ⟨h1, h2⟩)
      have b2 : ((s.extract 0 h.size).toList == h.toList) = true := (eqL _ _).trans (decide_eq_true h2)
      clear h2 B
      go_enter Tryz.func49, Tryz.ntmps49
      go_wp2
      go_ret
      exact ⟨by rw [E.out]; rfl, rfl⟩
    · have E : Hid (pb (bgP s h) = false) := pb_f fun hb => h2 (B.out.1 hb).2
      have b2 : ((s.extract 0 h.size).toList == h.toList) = false := (eqL _ _).trans (decide_eq_false h2)
      clear h2 B
      go_enter Tryz.func49, Tryz.ntmps49
      go_wp2
      go_ret
      exact ⟨by rw [E.out]; rfl, rfl⟩
  · have d1 : ¬ (h.size : Int) ≤ (s.size : Int) := by omega
    have E : Hid (pb (bgP s h) = false) := pb_f fun hb => h1 (B.out.1 hb).1
    clear B
    go_enter Tryz.func49, Tryz.ntmps49
    go_wp2
    go_ret
    exact ⟨by rw [E.out]; rfl, rfl⟩
/-! Numbers read. -/
end Go.Proofs.YtcfahbcpfjhajaaGreatDoor
namespace Go.Proofs.YtcfahbcpfjhajaaGreatDoor
open Go.RowKit
/-! A text cut at the first place of another; at every byte of a kind: the specification's l01Index, l01Split. -/
/-! Cut at every byte of a kind. -/
end Go.Proofs.YtcfahbcpfjhajaaGreatDoor
namespace Go.Proofs.YtcfahbcpfjhajaaGreatDoor
open Go.RowKit
/-! Requests read: mathematics. -/
def mkRq (m p : ByteArray) (L H : List Hp) (b : ByteArray) : Rq := ⟨m, p, ⟨none, L.length, L.length, hAt L⟩, ⟨none, H.length, H.length, hAt H⟩, b⟩
theorem OwnHp.hps {w : World} {base : Nat} {v : Value} {L : List Hp} (h : OwnHp w base v L) : ∃ a cap, v = .slice a L.length cap ∧ Hps w a L.length cap (hAt L) := by
  by_cases h0 : 0 < L.length
  · obtain ⟨g, cap, rfl, hb, hl, hc, hx⟩ := h.shape h0
    exact ⟨_, cap, rfl, hc, .inr ⟨g, 0, rfl, hl, fun k hk => by rw [Nat.zero_add]; exact hx k hk⟩⟩
  · rcases h.2 with ⟨h1, h2⟩ | ⟨g, cap, cur, h1, _⟩
    · exact ⟨none, 0, by rw [h1, h2], by rw [h2]; exact Nat.le_refl _, .inl h2⟩
    · exact ⟨_, cap, h1, by omega, .inl (by omega)⟩
theorem OwnHp.nil (w : World) (base : Nat) : OwnHp w base (.slice none 0 0) [] := ⟨rfl, .inl ⟨rfl, rfl⟩⟩
theorem append_hp1 {P : Program} (base : Nat) (wr : World) {ops : Array Oper} {rest : List Oper} {op : Oper} {a : Act} {Q : Exit → Act → World → Prop} (hgd : op.guard = none) (s x : Operand) (t : TypeId)
    (ho : op.op = .call { callee := .builtin .append, args := #[s, x], argTypes := #[t, t] })
    (ht : P.underlying t = some (.slice 66)) (hinfo : (P.info? 66).map (fun i => (i.zero, i.size, i.bytes)) = some (some hz2, 2, 32))
    (v : Value) (L : List Hp) (n y : ByteArray) (hs : a.eval s = v) (hown : OwnHp wr base v L) (hsz : base ≤ wr.heap.size)
    (hx : a.eval x = .slice (some ⟨wr.heap.size, 0, none⟩) 1 1) (hlen : L.length + 1 ≤ 1048576)
    (h : ∀ v' w', OwnHp w' base v' (L ++ [⟨n, y⟩]) → wr.grownBy w' v.ownBlock → wpList P ops Q rest (a.put op.dst v') w') :
    wpList P ops Q (op :: rest) a (wr.alloc (.cells #[.string n, .string y] 66)) := by
  have R := RowAt.new wr 66 #[.string n, .string y]
  refine append_hps base _ hgd s x t ho ht hinfo v L hs (World.ownsRow.alloc hown _) (by simp; omega) wr.heap.size 0 1 1 [⟨n, y⟩] hx rfl (fun k hk => ?_) hlen fun v' w' h1 h2 => h v' w' h1 (grown_trans (World.grownBy_alloc wr _ _) h2)
  have e : k = 0 := by omega
  subst e
  exact ⟨R.cell 0, R.cell 1⟩
theorem row_grown {w w' : World} {b : Nat} {t : TypeId} {c : Array Value} {r : Option Nat} (h : RowAt w b t c) (hg : w.grownBy w' r) (hne : some b ≠ r) : RowAt w' b t c := (hg.block b h.lt hne).trans h
theorem OwnHp.apart {w : World} {base b : Nat} {v : Value} {L : List Hp} (h : OwnHp w base v L) (hb : b < base) : some b ≠ v.ownBlock := fun e => by
  have := (World.ownsRow.lt h b e.symm).1
  omega
end Go.Proofs.YtcfahbcpfjhajaaGreatDoor
