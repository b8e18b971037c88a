import Derived.Test.YtgoplcjjoiiagaaGreatDoorS2
import Derived.Test.YtgoplcjjoiiagaaGreatDoorPb
import Derived.Test.YtgoplcjjoiiagaaGreatDoorStrOwn
import Derived.Test.YtgoplcjjoiiagaaGreatDoorCanM
import Derived.Test.YtgoplcjjoiiagaaGreatDoorE1
namespace Go.Proofs.YtgoplcjjoiiagaaGreatDoor
open Go.RowKit
/-! Texts asked for their front, read as numbers, cut at a byte: the specification's. -/
theorem eqL (a b : ByteArray) : (a.toList == b.toList) = decide (a = b) := by
  have e : ∀ x : ByteArray, x.toList = x.data.toList := fun x => by rw [ByteArray.toList_eq]
  rw [e, e]
  by_cases h : a = b
  · subst h; simp
  · rw [decide_eq_false h]
    simp only [beq_eq_false_iff_ne]
    exact fun hh => h (ba_extL hh)
theorem ext_mid (s : ByteArray) (i k : Nat) : (s.extract i k).data.toList = (s.data.toList.take k).drop i := by
  rw [ByteArray.data_extract]; simp [List.drop_take]
/-! Numbers read. -/
def dgC (c : UInt8) : Prop := 48 ≤ c.toNat ∧ c.toNat ≤ 57
def numL (l : List UInt8) : Nat := l.foldl (fun n c => n * 10 + (c.toNat - 48)) 0
theorem numL_snoc (l : List UInt8) (c : UInt8) : numL (l ++ [c]) = numL l * 10 + (c.toNat - 48) := by simp [numL]
theorem decDigits_dg (n : Nat) : ∀ c ∈ Lib.decDigits n, dgC c := by
  induction n using Nat.strongRecOn with
  | _ n ih =>
    intro c hc
    by_cases h : n < 10
    · rw [Lib.decDigits_one h] at hc
      rw [List.mem_singleton.1 hc]
      unfold dgC
      rw [UInt8.toNat_ofNat']
      omega
    · rw [Lib.decDigits, dif_neg h] at hc
      rcases List.mem_append.1 hc with hc | hc
      · exact ih (n / 10) (by omega) c hc
      · rw [List.mem_singleton.1 hc]
        unfold dgC
        rw [UInt8.toNat_ofNat']
        omega
theorem numL_dec (n : Nat) : numL (Lib.decDigits n) = n := by
  induction n using Nat.strongRecOn with
  | _ n ih =>
    by_cases h : n < 10
    · rw [Lib.decDigits_one h]
      unfold numL
      simp only [List.foldl_cons, List.foldl_nil]
      rw [UInt8.toNat_ofNat']
      omega
    · rw [Lib.decDigits, dif_neg h, numL_snoc, ih (n / 10) (by omega), UInt8.toNat_ofNat']
      omega
theorem decDigits_pos (n : Nat) : 1 ≤ (Lib.decDigits n).length := by
  by_cases h : n < 10
  · rw [Lib.decDigits_one h]; simp
  · rw [Lib.decDigits, dif_neg h]; simp
end Go.Proofs.YtgoplcjjoiiagaaGreatDoor
namespace Go.Proofs.YtgoplcjjoiiagaaGreatDoor
open Go.RowKit
/-! A text cut at the first place of another; at every byte of a kind: the specification's l01Index, l01Split. -/
def cutP (p : List UInt8) : List UInt8 → Option (List UInt8 × List UInt8)
  | [] => if p.isPrefixOf [] then some ([], []) else none
  | x :: r => if p.isPrefixOf (x :: r) then some ([], (x :: r).drop p.length) else (cutP p r).map fun q => (x :: q.1, q.2)
theorem cutP_hit {p l : List UInt8} (h : p <+: l) : cutP p l = some ([], l.drop p.length) := by
  have hb : p.isPrefixOf l = true := by simpa using h
  cases l with
  | nil => unfold cutP; rw [if_pos hb]; simp
  | cons x r => unfold cutP; rw [if_pos hb]
theorem cutP_miss {p r : List UInt8} {x : UInt8} (h : ¬ p <+: x :: r) : cutP p (x :: r) = (cutP p r).map fun q => (x :: q.1, q.2) := by
  have hb : p.isPrefixOf (x :: r) = false := by
    cases hq : p.isPrefixOf (x :: r) with
    | false => rfl
    | true => exact absurd (by simpa using hq) h
  conv => lhs; unfold cutP
  rw [hb]
  rfl
theorem cutP_none {p : List UInt8} : ∀ {l : List UInt8}, (∀ j, j ≤ l.length → ¬ p <+: l.drop j) → cutP p l = none
  | [], h => by
    have := h 0 (Nat.zero_le _)
    unfold cutP
    rw [if_neg]
    intro hb
    exact this (by simpa using hb)
  | x :: r, h => by
    have h0 := h 0 (Nat.zero_le _)
    rw [List.drop_zero] at h0
    rw [cutP_miss h0, cutP_none fun j hj => by have := h (j + 1) (by simpa using hj); simpa using this]
    rfl
theorem cutP_parts {p a b : List UInt8} : ∀ {l : List UInt8}, cutP p l = some (a, b) → l = a ++ p ++ b := by
  intro l
  induction l generalizing a with
  | nil =>
    intro h
    unfold cutP at h
    split at h
    · rename_i hp
      have : p = [] := by simpa using hp
      cases h
      rw [this]; rfl
    · cases h
  | cons x r ih =>
    intro h
    by_cases hp : p <+: x :: r
    · rw [cutP_hit hp] at h
      cases h
      obtain ⟨t, ht⟩ := hp
      rw [← ht]; simp
    · rw [cutP_miss hp] at h
      cases e : cutP p r with
      | none => rw [e] at h; cases h
      | some q =>
        rw [e] at h
        obtain ⟨a', b'⟩ := q
        simp at h
        obtain ⟨rfl, rfl⟩ := h
        rw [ih e]; rfl
/-! Cut at every byte of a kind. -/
def splA (c : UInt8) : List UInt8 → List UInt8 → List (List UInt8)
  | cur, [] => [cur]
  | cur, x :: r => if x = c then cur :: splA c [] r else splA c (cur ++ [x]) r
theorem splA_len (c : UInt8) : ∀ (l cur : List UInt8), 1 ≤ (splA c cur l).length ∧ (splA c cur l).length ≤ l.length + 1
  | [], cur => by simp [splA]
  | x :: r, cur => by
    unfold splA
    split
    · have := splA_len c r []; simp; omega
    · have := splA_len c r (cur ++ [x]); simp; omega
end Go.Proofs.YtgoplcjjoiiagaaGreatDoor
namespace Go.Proofs.YtgoplcjjoiiagaaGreatDoor
open Go.RowKit
/-! Requests read: mathematics. -/
def unL (l : List UInt8) : Option (List UInt8) := unV (ofL l)
theorem unV_len {s : ByteArray} {b : List UInt8} (h : unV s = some b) : b.length ≤ 100000 := by
  unfold unV at h
  split at h
  · rename_i hc
    cases h
    have h1 := (esc_len (dec s.data.toList)).1
    rw [hc.2, baLen] at h1
    omega
  · cases h
def qyO : List (List UInt8) → Option (List Hp)
  | [] => some []
  | p :: r => match cutP [61] p with
    | none => none
    | some (n, v) => match unL n with
      | none => none
      | some n' => match unL v with
        | none => none
        | some v' => (qyO r).map fun M => (⟨ofL n', ofL v'⟩ : Hp) :: M
theorem qyO_none1 {p : List UInt8} {r : List (List UInt8)} (h : cutP [61] p = none) : qyO (p :: r) = none := by unfold qyO; rw [h]
theorem qyO_none2 {p n v : List UInt8} {r : List (List UInt8)} (h : cutP [61] p = some (n, v)) (h1 : unL n = none) : qyO (p :: r) = none := by unfold qyO; rw [h]; dsimp only; rw [h1]
theorem qyO_none3 {p n v n' : List UInt8} {r : List (List UInt8)} (h : cutP [61] p = some (n, v)) (h1 : unL n = some n') (h2 : unL v = none) : qyO (p :: r) = none := by unfold qyO; rw [h]; dsimp only; rw [h1]; dsimp only; rw [h2]
theorem qyO_some {p n v n' v' : List UInt8} {r : List (List UInt8)} (h : cutP [61] p = some (n, v)) (h1 : unL n = some n') (h2 : unL v = some v') : qyO (p :: r) = (qyO r).map fun M => (⟨ofL n', ofL v'⟩ : Hp) :: M := by
  conv => lhs; unfold qyO
  rw [h]; dsimp only; rw [h1]; dsimp only; rw [h2]
def mkRq (m p : ByteArray) (L H : List Hp) (b : ByteArray) : Rq := ⟨m, p, ⟨none, L.length, L.length, hAt L⟩, ⟨none, H.length, H.length, hAt H⟩, b⟩
open Classical in
noncomputable def finO (m : ByteArray) (a : List UInt8) (q : Option (List Hp)) : Option (ByteArray × ByteArray × List Hp) := match q with
  | none => none
  | some L => match unL a with
    | none => none
    | some p => if rqP (mkRq m (ofL p) L [] ⟨#[]⟩) then some (m, ofL p, L) else none
noncomputable def fstO (t : List UInt8) : Option (ByteArray × ByteArray × List Hp) := match cutP [32] t with
  | none => none
  | some (m, rest) => match cutP [63] rest with
    | none => finO (ofL m) rest (some [])
    | some (a, b) => finO (ofL m) a (qyO (splA 38 [] b))
theorem fstO_none {t : List UInt8} (h : cutP [32] t = none) : fstO t = none := by unfold fstO; rw [h]
theorem fstO_plain {t m rest : List UInt8} (h : cutP [32] t = some (m, rest)) (h1 : cutP [63] rest = none) : fstO t = finO (ofL m) rest (some []) := by unfold fstO; rw [h]; dsimp only; rw [h1]
theorem fstO_query {t m rest a b : List UInt8} (h : cutP [32] t = some (m, rest)) (h1 : cutP [63] rest = some (a, b)) : fstO t = finO (ofL m) a (qyO (splA 38 [] b)) := by unfold fstO; rw [h]; dsimp only; rw [h1]
theorem finO_none2 (m : ByteArray) {a : List UInt8} (L : List Hp) (h : unL a = none) : finO m a (some L) = none := by unfold finO; dsimp only; rw [h]
theorem finO_no (m : ByteArray) {a p : List UInt8} (L : List Hp) (h : unL a = some p) (hr : ¬ rqP (mkRq m (ofL p) L [] ⟨#[]⟩)) : finO m a (some L) = none := by unfold finO; dsimp only; rw [h]; dsimp only; rw [if_neg hr]
theorem finO_yes (m : ByteArray) {a p : List UInt8} (L : List Hp) (h : unL a = some p) (hr : rqP (mkRq m (ofL p) L [] ⟨#[]⟩)) : finO m a (some L) = some (m, ofL p, L) := by unfold finO; dsimp only; rw [h]; dsimp only; rw [if_pos hr]
theorem OwnHp.hps {w : World} {base : Nat} {v : Value} {L : List Hp} (h : OwnHp w base v L) : ∃ a cap, v = .slice a L.length cap ∧ Hps w a L.length cap (hAt L) := by
  by_cases h0 : 0 < L.length
  · obtain ⟨g, cap, rfl, hb, hl, hc, hx⟩ := h.shape h0
    exact ⟨_, cap, rfl, hc, .inr ⟨g, 0, rfl, hl, fun k hk => by rw [Nat.zero_add]; exact hx k hk⟩⟩
  · rcases h.2 with ⟨h1, h2⟩ | ⟨g, cap, cur, h1, _⟩
    · exact ⟨none, 0, by rw [h1, h2], by rw [h2]; exact Nat.le_refl _, .inl h2⟩
    · exact ⟨_, cap, h1, by omega, .inl (by omega)⟩
theorem OwnHp.nil (w : World) (base : Nat) : OwnHp w base (.slice none 0 0) [] := ⟨rfl, .inl ⟨rfl, rfl⟩⟩
theorem append_hp1 {P : Program} (base : Nat) (wr : World) {ops : Array Oper} {rest : List Oper} {op : Oper} {a : Act} {Q : Exit → Act → World → Prop} (hgd : op.guard = none) (s x : Operand) (t : TypeId)
    (ho : op.op = .call { callee := .builtin .append, args := #[s, x], argTypes := #[t, t] })
    (ht : P.underlying t = some (.slice 54)) (hinfo : (P.info? 54).map (fun i => (i.zero, i.size, i.bytes)) = some (some hz2, 2, 32))
    (v : Value) (L : List Hp) (n y : ByteArray) (hs : a.eval s = v) (hown : OwnHp wr base v L) (hsz : base ≤ wr.heap.size)
    (hx : a.eval x = .slice (some ⟨wr.heap.size, 0, none⟩) 1 1) (hlen : L.length + 1 ≤ 1048576)
    (h : ∀ v' w', OwnHp w' base v' (L ++ [⟨n, y⟩]) → wr.grownBy w' v.ownBlock → wpList P ops Q rest (a.put op.dst v') w') :
    wpList P ops Q (op :: rest) a (wr.alloc (.cells #[.string n, .string y] 54)) := by
  have R := RowAt.new wr 54 #[.string n, .string y]
  refine append_hps base _ hgd s x t ho ht hinfo v L hs (World.ownsRow.alloc hown _) (by simp; omega) wr.heap.size 0 1 1 [⟨n, y⟩] hx rfl (fun k hk => ?_) hlen fun v' w' h1 h2 => h v' w' h1 (grown_trans (World.grownBy_alloc wr _ _) h2)
  have e : k = 0 := by omega
  subst e
  exact ⟨R.cell 0, R.cell 1⟩
theorem row_grown {w w' : World} {b : Nat} {t : TypeId} {c : Array Value} {r : Option Nat} (h : RowAt w b t c) (hg : w.grownBy w' r) (hne : some b ≠ r) : RowAt w' b t c := (hg.block b h.lt hne).trans h
theorem OwnHp.apart {w : World} {base b : Nat} {v : Value} {L : List Hp} (h : OwnHp w base v L) (hb : b < base) : some b ≠ v.ownBlock := fun e => by
  have := (World.ownsRow.lt h b e.symm).1
  omega
end Go.Proofs.YtgoplcjjoiiagaaGreatDoor
