import Derived.Test.YtepdodifgkejjaaGreatDoorBase
import Derived.RegionTactic
import Derived.Test.YtepdodifgkejjaaGreatDoorG3
import Derived.Test.YtepdodifgkejjaaGreatDoorG2
import Derived.Test.YtepdodifgkejjaaGreatDoorG7
import Derived.Test.YtepdodifgkejjaaGreatDoorG4
import Derived.Deep.AppendLies
import Derived.Test.YtepdodifgkejjaaGreatDoorG6
namespace Go.Proofs.YtepdodifgkejjaaGreatDoor
open Go.RowKit
/-! A region that draws its order, by an invariant: each operation is looked at once, whatever has come up ahead of it. -/
theorem count_set : ∀ {l : List Bool} {i : Nat}, l[i]? = some false → (l.set i true).countP (fun b => !b) + 1 = l.countP (fun b => !b)
  | [], i, h => by simp at h
  | b :: l, 0, h => by simp at h; subst h; simp
  | b :: l, i + 1, h => by
    have := count_set (l := l) (i := i) (by simpa using h)
    cases b <;> simp [List.set_cons_succ] at this ⊢ <;> omega
section
variable {P : Program} {md : Region.Mode} {ops : Array Oper} {Q : Exit → Act → World → Prop}
theorem listed_false {l : Array Bool} {i : Nat} (h : l.getD i true = false) : l.toList[i]? = some false := by
  obtain ⟨l⟩ := l
  rcases Nat.lt_or_ge i l.length with hi | hi
  · simp [Array.getD, hi] at h ⊢; exact h
  · simp [Array.getD, Nat.not_lt.2 hi] at h
theorem wpAny_inv (I : Array Bool → Act → World → Prop)
    (step : ∀ l a w, I l a w → ∀ i ∈ Region.ready md ops l, wpOp P ops Q i (I (l.setIfInBounds i true)) a w)
    (fin : ∀ l a w, I l a w → Region.ready md ops l = [] → Q .normal a w) :
    ∀ (fuel : Nat) (l : Array Bool) (a : Act) (w : World), l.toList.countP (fun b => !b) ≤ fuel → I l a w → wpAny P md ops Q fuel l a w
  | 0, l, a, w, hc, h => by
    have hr : Region.ready md ops l = [] := by
      cases e : Region.ready md ops l with
      | nil => rfl
      | cons i rs =>
        have hi : i ∈ Region.ready md ops l := by rw [e]; simp
        have := count_set (listed_false (mem_ready.1 hi).1)
        omega
    exact ⟨hr, fin l a w h hr⟩
  | fuel + 1, l, a, w, hc, h => by
    refine ⟨fin l a w h, fun i hi => wpOp_mono (fun a' w' h' => wpAny_inv I step fin fuel _ a' w' ?_ h') (step l a w h i hi)⟩
    have := count_set (listed_false (mem_ready.1 hi).1)
    rw [Array.toList_setIfInBounds]
    omega
/-- no operation waits for one behind it -/
def topoB (ops : Array Oper) : Bool := (List.range ops.size).all fun i => ((ops[i]?).map (·.after.all fun e => decide (e.on < i))).getD true
theorem ready_all (hT : topoB ops = true) {l : Array Bool} (hs : l.size = ops.size) (hr : Region.ready md ops l = []) : ∀ i, i < l.size → l.getD i false = true := by
  intro i
  induction i using Nat.strongRecOn with
  | ind i ih =>
    intro hi
    cases e : l.getD i false with
    | true => rfl
    | false =>
      exfalso
      have h0 : l.getD i true = false := by
        simp [Array.getD, hi] at e ⊢; exact e
      have hio : i < ops.size := by omega
      obtain ⟨o, ho⟩ : ∃ o, ops[i]? = some o := ⟨ops[i], by simp [hio]⟩
      have : i ∈ Region.ready md ops l := mem_ready.2 ⟨h0, o, ho, fun e he _ => ih e.on (by
        have := List.all_eq_true.1 hT i (List.mem_range.2 hio)
        rw [ho] at this
        simp only [Option.map_some, Option.getD_some, Array.all_eq_true] at this
        obtain ⟨k, hk, rfl⟩ := Array.getElem_of_mem he
        simpa using this k hk) (by
        have := List.all_eq_true.1 hT i (List.mem_range.2 hio)
        rw [ho] at this
        simp only [Option.map_some, Option.getD_some, Array.all_eq_true] at this
        obtain ⟨k, hk, rfl⟩ := Array.getElem_of_mem he
        have := this k hk
        simp at this
        omega)⟩
      rw [hr] at this
      cases this
/-- what has come up has all that it waits for behind it -/
def Closed (ops : Array Oper) (l : Array Bool) : Prop := ∀ i o, ops[i]? = some o → l.getD i false = true → ∀ e ∈ o.after, Region.binds .any e = true → l.getD e.on false = true
theorem getD_set_mono {l : Array Bool} {i j : Nat} (h : l.getD j false = true) : (l.setIfInBounds i true).getD j false = true := by
  obtain ⟨l⟩ := l
  simp only [Array.getD_eq_getD_getElem?, List.setIfInBounds_toArray, List.getElem?_toArray] at h ⊢
  rw [List.getElem?_set]
  split
  · rename_i e; subst e
    split
    · rfl
    · rename_i hl; simp [List.getElem?_eq_none (Nat.not_lt.1 hl)] at h
  · exact h
theorem Closed.next {l : Array Bool} (h : Closed ops l) {i : Nat} {o : Oper} (ho : ops[i]? = some o) (h1 : ∀ e ∈ o.after, Region.binds .any e = true → l.getD e.on false = true) : Closed ops (l.setIfInBounds i true) := by
  intro k ok hk hl e he hb
  by_cases hki : k = i
  · subst hki
    rw [ho] at hk; cases hk
    exact getD_set_mono (h1 e he hb)
  · refine getD_set_mono (h k ok hk ?_ e he hb)
    obtain ⟨l⟩ := l
    simp only [Array.getD_eq_getD_getElem?, List.setIfInBounds_toArray, List.getElem?_toArray] at hl ⊢
    rw [List.getElem?_set_ne (Ne.symm hki)] at hl
    exact hl
theorem wp_region_inv {id : Nat} {a : Act} {w : World} (I : Array Bool → Act → World → Prop) (hm : P.follows .mixedOrders = true) (hT : topoB ops = true)
    (hsz : ∀ l a w, I l a w → l.size = ops.size)
    (step : ∀ l a w, Closed ops l → I l a w → ∀ i, l.getD i true = false → ∀ o, ops[i]? = some o → (∀ e ∈ o.after, Region.binds .any e = true → l.getD e.on false = true) → wpOp P ops Q i (I (l.setIfInBounds i true)) a w)
    (fin : ∀ l a w, I l a w → (∀ i, i < l.size → l.getD i false = true) → Q .normal a w)
    (h : I (Array.replicate ops.size false) a w.drew) : (Code.region id ops true).wp P Q a w := by
  refine wp_region_any hm (wpAny_inv (fun l a w => Closed ops l ∧ I l a w) (fun l a w hI i hi => ?_) (fun l a w hI hr => fin l a w hI.2 (ready_all hT (hsz l a w hI.2) hr)) ops.size _ a _ ?_ ⟨?_, h⟩)
  · obtain ⟨h0, o, ho, h1⟩ := mem_ready.1 hi
    exact wpOp_mono (fun _ _ h => ⟨hI.1.next ho h1, h⟩) (step l a w hI.1 hI.2 i h0 o ho h1)
  · simp [List.countP_replicate]
  · intro k ok hk hl
    rcases Nat.lt_or_ge k ops.size with hlt | hge
    · simp [Array.getD, hlt] at hl
    · simp [Array.getD, Nat.not_lt.2 hge] at hl
end
end Go.Proofs.YtepdodifgkejjaaGreatDoor
namespace Go.Proofs.YtepdodifgkejjaaGreatDoor
open Go.RowKit
/-! Texts asked for their front, read as numbers, cut at a byte: the specification's. -/
theorem eqL (a b : ByteArray) : (a.toList == b.toList) = decide (a = b) := by
  have e : ∀ x : ByteArray, x.toList = x.data.toList := fun x => by rw [ByteArray.toList_eq]
  rw [e, e]
  by_cases h : a = b
  · subst h; simp
  · rw [decide_eq_false h]
    simp only [beq_eq_false_iff_ne]
    exact fun hh => h (ba_extL hh)
def bgP (s h : ByteArray) : Prop := h.data.toList <+: s.data.toList
theorem ext_take (s : ByteArray) (k : Nat) : (s.extract 0 k).data.toList = s.data.toList.take k := by
  rw [ByteArray.data_extract]; simp
theorem ext_mid (s : ByteArray) (i k : Nat) : (s.extract i k).data.toList = (s.data.toList.take k).drop i := by
  rw [ByteArray.data_extract]; simp [List.drop_take]
theorem bgP_iff (s h : ByteArray) : bgP s h ↔ h.size ≤ s.size ∧ s.extract 0 h.size = h := by
  unfold bgP
  constructor
  · rintro ⟨r, e⟩
    have hl := congrArg List.length e
    rw [List.length_append, baLen, baLen] at hl
    refine ⟨by omega, ba_extL ?_⟩
    rw [ext_take, ← e, List.take_append_of_le_length (by rw [baLen]; exact Nat.le_refl _), List.take_of_length_le (by rw [baLen]; exact Nat.le_refl _)]
  · rintro ⟨h1, h2⟩
    have := congrArg (fun b : ByteArray => b.data.toList) h2
    rw [ext_take] at this
    rw [← this]
    exact List.take_prefix _ _
set_option maxRecDepth 20000 in
set_option maxHeartbeats 1000000 in
theorem sBegins (s h : ByteArray) (_hs : s.size ≤ 1048576) (_hh : h.size ≤ 1048576) (w : World) :
    Calls Tryz.prog 49 #[.string s, .string h] w fun e w' => e = .returned (.bool (pb (bgP s h))) ∧ w' = w := by
  have B := hid (bgP_iff s h)
  by_cases h1 : h.size ≤ s.size
  · have d1 : (h.size : Int) ≤ (s.size : Int) := by omega
    by_cases h2 : s.extract 0 h.size = h
    · have E : Hid (pb (bgP s h) = true) := pb_t (B.out.2 ⟨h1, h2⟩)
      have b2 : ((s.extract 0 h.size).toList == h.toList) = true := (eqL _ _).trans (decide_eq_true h2)
      clear h2 B
      go_enter Tryz.func49, Tryz.ntmps49
      go_wp2
      go_ret
      exact ⟨by rw [E.out]; rfl, rfl⟩
    · have E : Hid (pb (bgP s h) = false) := pb_f fun hb => h2 (B.out.1 hb).2
      have b2 : ((s.extract 0 h.size).toList == h.toList) = false := (eqL _ _).trans (decide_eq_false h2)
      clear h2 B
      go_enter Tryz.func49, Tryz.ntmps49
      go_wp2
      go_ret
      exact ⟨by rw [E.out]; rfl, rfl⟩
  · have d1 : ¬ (h.size : Int) ≤ (s.size : Int) := by omega
    have E : Hid (pb (bgP s h) = false) := pb_f fun hb => h1 (B.out.1 hb).1
    clear B
    go_enter Tryz.func49, Tryz.ntmps49
    go_wp2
    go_ret
    exact ⟨by rw [E.out]; rfl, rfl⟩
/-! Numbers read. -/
def dgC (c : UInt8) : Prop := 48 ≤ c.toNat ∧ c.toNat ≤ 57
def numL (l : List UInt8) : Nat := l.foldl (fun n c => n * 10 + (c.toNat - 48)) 0
theorem numL_snoc (l : List UInt8) (c : UInt8) : numL (l ++ [c]) = numL l * 10 + (c.toNat - 48) := by simp [numL]
theorem decDigits_dg (n : Nat) : ∀ c ∈ Lib.decDigits n, dgC c := by
  induction n using Nat.strongRecOn with
  | _ n ih =>
    intro c hc
    by_cases h : n < 10
    · rw [Lib.decDigits_one h] at hc
      rw [List.mem_singleton.1 hc]
      unfold dgC
      rw [UInt8.toNat_ofNat']
      omega
    · rw [Lib.decDigits, dif_neg h] at hc
      rcases List.mem_append.1 hc with hc | hc
      · exact ih (n / 10) (by omega) c hc
      · rw [List.mem_singleton.1 hc]
        unfold dgC
        rw [UInt8.toNat_ofNat']
        omega
theorem numL_dec (n : Nat) : numL (Lib.decDigits n) = n := by
  induction n using Nat.strongRecOn with
  | _ n ih =>
    by_cases h : n < 10
    · rw [Lib.decDigits_one h]
      unfold numL
      simp only [List.foldl_cons, List.foldl_nil]
      rw [UInt8.toNat_ofNat']
      omega
    · rw [Lib.decDigits, dif_neg h, numL_snoc, ih (n / 10) (by omega), UInt8.toNat_ofNat']
      omega
theorem decDigits_pos (n : Nat) : 1 ≤ (Lib.decDigits n).length := by
  by_cases h : n < 10
  · rw [Lib.decDigits_one h]; simp
  · rw [Lib.decDigits, dif_neg h]; simp
def tmP (s : ByteArray) : Prop := ∃ n, n ≤ 4102444800 ∧ s.data.toList = Lib.decDigits n
end Go.Proofs.YtepdodifgkejjaaGreatDoor
namespace Go.Proofs.YtepdodifgkejjaaGreatDoor
open Go.RowKit
/-! A text cut at the first place of another; at every byte of a kind: the specification's l01Index, l01Split. -/
/-! Cut at every byte of a kind. -/
def splA (c : UInt8) : List UInt8 → List UInt8 → List (List UInt8)
  | cur, [] => [cur]
  | cur, x :: r => if x = c then cur :: splA c [] r else splA c (cur ++ [x]) r
def splB (c : UInt8) (s : ByteArray) : List ByteArray := (splA c [] s.data.toList).map ofL
theorem splA_len (c : UInt8) : ∀ (l cur : List UInt8), 1 ≤ (splA c cur l).length ∧ (splA c cur l).length ≤ l.length + 1
  | [], cur => by simp [splA]
  | x :: r, cur => by
    unfold splA
    split
    · have := splA_len c r []; simp; omega
    · have := splA_len c r (cur ++ [x]); simp; omega
end Go.Proofs.YtepdodifgkejjaaGreatDoor
namespace Go.Proofs.YtepdodifgkejjaaGreatDoor
open Go.RowKit
/-! Requests read: mathematics. -/
def mkRq (m p : ByteArray) (L H : List Hp) (b : ByteArray) : Rq := ⟨m, p, ⟨none, L.length, L.length, hAt L⟩, ⟨none, H.length, H.length, hAt H⟩, b⟩
theorem OwnHp.hps {w : World} {base : Nat} {v : Value} {L : List Hp} (h : OwnHp w base v L) : ∃ a cap, v = .slice a L.length cap ∧ Hps w a L.length cap (hAt L) := by
  by_cases h0 : 0 < L.length
  · obtain ⟨g, cap, rfl, hb, hl, hc, hx⟩ := h.shape h0
    exact ⟨_, cap, rfl, hc, .inr ⟨g, 0, rfl, hl, fun k hk => by rw [Nat.zero_add]; exact hx k hk⟩⟩
  · rcases h.2 with ⟨h1, h2⟩ | ⟨g, cap, cur, h1, _⟩
    · exact ⟨none, 0, by rw [h1, h2], by rw [h2]; exact Nat.le_refl _, .inl h2⟩
    · exact ⟨_, cap, h1, by omega, .inl (by omega)⟩
theorem OwnHp.nil (w : World) (base : Nat) : OwnHp w base (.slice none 0 0) [] := ⟨rfl, .inl ⟨rfl, rfl⟩⟩
theorem append_hp1 {P : Program} (base : Nat) (wr : World) {ops : Array Oper} {rest : List Oper} {op : Oper} {a : Act} {Q : Exit → Act → World → Prop} (hgd : op.guard = none) (s x : Operand) (t : TypeId)
    (ho : op.op = .call { callee := .builtin .append, args := #[s, x], argTypes := #[t, t] })
    (ht : P.underlying t = some (.slice 66)) (hinfo : (P.info? 66).map (fun i => (i.zero, i.size, i.bytes)) = some (some hz2, 2, 32))
    (v : Value) (L : List Hp) (n y : ByteArray) (hs : a.eval s = v) (hown : OwnHp wr base v L) (hsz : base ≤ wr.heap.size)
    (hx : a.eval x = .slice (some ⟨wr.heap.size, 0, none⟩) 1 1) (hlen : L.length + 1 ≤ 1048576)
    (h : ∀ v' w', OwnHp w' base v' (L ++ [⟨n, y⟩]) → wr.grownBy w' v.ownBlock → wpList P ops Q rest (a.put op.dst v') w') :
    wpList P ops Q (op :: rest) a (wr.alloc (.cells #[.string n, .string y] 66)) := by
  have R := RowAt.new wr 66 #[.string n, .string y]
  refine append_hps base _ hgd s x t ho ht hinfo v L hs (World.ownsRow.alloc hown _) (by simp; omega) wr.heap.size 0 1 1 [⟨n, y⟩] hx rfl (fun k hk => ?_) hlen fun v' w' h1 h2 => h v' w' h1 (grown_trans (World.grownBy_alloc wr _ _) h2)
  have e : k = 0 := by omega
  subst e
  exact ⟨R.cell 0, R.cell 1⟩
theorem row_grown {w w' : World} {b : Nat} {t : TypeId} {c : Array Value} {r : Option Nat} (h : RowAt w b t c) (hg : w.grownBy w' r) (hne : some b ≠ r) : RowAt w' b t c := (hg.block b h.lt hne).trans h
theorem OwnHp.apart {w : World} {base b : Nat} {v : Value} {L : List Hp} (h : OwnHp w base v L) (hb : b < base) : some b ≠ v.ownBlock := fun e => by
  have := (World.ownsRow.lt h b e.symm).1
  omega
end Go.Proofs.YtepdodifgkejjaaGreatDoor
namespace Go.Proofs.YtepdodifgkejjaaGreatDoor
open Go.RowKit
/-! What the regions of signing want. -/
theorem Tryz.infoHpG : (Tryz.prog.info? 66).map (fun i => (i.zero, i.size, i.bytes)) = some (some hz2, 2, 32) := by kernel_rfl
def selS (b : Bool) (v o : Value) : Value := cond b v o
theorem step_append_hps {P : Program} (base : Nat) (w : World) {ops : Array Oper} {op : Oper} {a : Act} {K : Act → World → Prop} {Q : Exit → Act → World → Prop} {E : Prop} (hgd : op.guard = none) (s x : Operand) (t : TypeId)
    (ho : op.op = .call { callee := .builtin .append, args := #[s, x], argTypes := #[t, t] })
    (ht : P.underlying t = some (.slice 66)) (hinfo : (P.info? 66).map (fun i => (i.zero, i.size, i.bytes)) = some (some hz2, 2, 32))
    (v : Value) (L : List Hp) (M : List Hp) (hM : 0 < M.length) (hs : a.eval s = v) (hown : OwnHp w base v L) (hsz : base ≤ w.heap.size)
    (b : Nat) (hbox : RowAt w b 66 (hpL M).toArray) (m : Nat) (hm : M.length = m) (hx : a.eval x = .slice (some ⟨b, 0, none⟩) m m) (hlen : L.length + M.length ≤ 1048576)
    (h : ∀ g cap w', OwnHp w' base (.slice (some ⟨g, 0, none⟩) (L.length + m) cap) (L ++ M) → w.grownBy w' v.ownBlock → (v.ownBlock = some g ∨ g = w.heap.size) → K (a.put op.dst (.slice (some ⟨g, 0, none⟩) (L.length + m) cap)) w') :
    if Region.wanted op (yielded ops a.tmps) = true then Oper.wp P op a w K Q else E := by
  subst hm
  obtain ⟨i0, hi, hz0, hz1, hz2⟩ := info_parts hinfo
  refine step_append_lies _ hgd s x t ho base 66 i0 _ 2 32 ht hi hz0 hz1 hz2 rfl (by decide) v L.length (hpL L) hs hown ⟨b, 0, none⟩ M.length M.length (hpL M) hx (hpL_len M) ?_ ?_ hM ?_ ?_ hsz w.heap.size rfl ?_
  · intro j u hj
    have hadd : (⟨b, 0, none⟩ : Addr).add j = ⟨b, j, none⟩ := by unfold Addr.add; split <;> simp_all
    rw [hadd, hbox.cell]
    simpa using hj
  · intro u hu
    unfold hpL at hu
    obtain ⟨p, _, hp⟩ := List.mem_flatMap.1 hu
    simp at hp
    rcases hp with rfl | rfl <;> rfl
  · unfold maxLen; omega
  · omega
  · intro g cap w' h1 h2 h3 _
    exact h g cap w' (by unfold OwnHp; rw [hpL_app, List.length_append]; exact h1) h2 h3
theorem apartG {w : World} {BH g3 : Nat} {vH vL : Value} {LH : List Hp} (h : OwnHp w BH vH LH) (hap : vH.ownBlock = none ∨ vH.ownBlock ≠ vL.ownBlock) (hl : vL.ownBlock = some g3 ∨ g3 = w.heap.size) : vH.ownBlock = none ∨ vH.ownBlock ≠ some g3 := by
  rcases hap with h0 | h0
  · exact .inl h0
  · refine .inr fun e => ?_
    rcases hl with h1 | h1
    · exact h0 (e.trans h1.symm)
    · have := (World.ownsRow.lt h g3 e).2
      omega
theorem OwnHp.neRowS {w : World} {B X : Nat} {v : Value} {L : List Hp} {t : TypeId} {cs : Array Value} (h : OwnHp w B v L) (hr : RowAt w X t cs) (ht : t ≠ 66) : some X ≠ v.ownBlock := fun e => by
  rcases h.2 with ⟨rfl, _⟩ | ⟨g, cap, cur, rfl, _, hg, _⟩
  · simp [Value.ownBlock] at e
  · simp [Value.ownBlock] at e
    subst e
    have := Option.some.inj (Eq.trans (Eq.symm hr) hg)
    injection this with _ h2
    exact ht h2
theorem grown_setCellS (w : World) (b k : Nat) (v : Value) : w.grownBy (w.setCell ⟨b, k, none⟩ v) (some b) :=
  ⟨rfl, rfl, rfl, by simp, fun j _ hj => heap_setCell_other w ⟨b, k, none⟩ j v (fun e => hj (by rw [e]))⟩
theorem OwnHp.setCellS {w : World} {B b k : Nat} {v u : Value} {L : List Hp} (h : OwnHp w B v L) (hne : some b ≠ v.ownBlock) : OwnHp (w.setCell ⟨b, k, none⟩ u) B v L :=
  World.ownsRow.kept h (grown_setCellS w b k u) (.inr (Ne.symm hne))
theorem OwnHp.setRowS {w : World} {B b : Nat} {v : Value} {L : List Hp} (h : OwnHp w B v L) (hne : some b ≠ v.ownBlock) (cs : Array Value) : OwnHp (w.setRow b cs) B v L :=
  World.ownsRow.kept h (row := some b) ⟨rfl, rfl, rfl, by simp [World.setRow], fun j _ hr => setRow_other w b j cs (fun e => hr (by rw [e]))⟩ (.inr (Ne.symm hne))
theorem RowAt.nxS {X w1 : World} {b : Nat} {t : TypeId} {c : Array Value} (hb : Below X.heap.size X w1) (h : RowAt X b t c) : RowAt w1 b t c := h.below hb h.lt
end Go.Proofs.YtepdodifgkejjaaGreatDoor
namespace Go.Proofs.YtepdodifgkejjaaGreatDoor
open Go.RowKit
/-! wp_region_inv for regions some of whose edges bind one order alone (late stores). -/
section
variable {P : Program} {ops : Array Oper} {Q : Exit → Act → World → Prop}
def topoG (ops : Array Oper) : Bool := (List.range ops.size).all fun i => ((ops[i]?).map (·.after.all fun e => !(Region.binds .any e) || decide (e.on < i))).getD true
theorem ready_allG (hT : topoG ops = true) {l : Array Bool} (hs : l.size = ops.size) (hr : Region.ready .any ops l = []) : ∀ i, i < l.size → l.getD i false = true := by
  intro i
  induction i using Nat.strongRecOn with
  | ind i ih =>
    intro hi
    cases e : l.getD i false with
    | true => rfl
    | false =>
      exfalso
      have h0 : l.getD i true = false := by
        simp [Array.getD, hi] at e ⊢; exact e
      have hio : i < ops.size := by omega
      obtain ⟨o, ho⟩ : ∃ o, ops[i]? = some o := ⟨ops[i], by simp [hio]⟩
      have : i ∈ Region.ready .any ops l := mem_ready.2 ⟨h0, o, ho, fun e he hb => by
        have h9 : e.on < i := by
          have := List.all_eq_true.1 hT i (List.mem_range.2 hio)
          rw [ho] at this
          simp only [Option.map_some, Option.getD_some, Array.all_eq_true] at this
          obtain ⟨k, hk, rfl⟩ := Array.getElem_of_mem he
          have := this k hk
          rw [hb] at this
          simpa using this
        exact ih e.on h9 (by omega)⟩
      rw [hr] at this
      cases this
theorem wp_region_invG {id : Nat} {a : Act} {w : World} (I : Array Bool → Act → World → Prop) (hm : P.follows .mixedOrders = true) (hT : topoG ops = true)
    (hsz : ∀ l a w, I l a w → l.size = ops.size)
    (step : ∀ l a w, Closed ops l → I l a w → ∀ i, l.getD i true = false → ∀ o, ops[i]? = some o → (∀ e ∈ o.after, Region.binds .any e = true → l.getD e.on false = true) → wpOp P ops Q i (I (l.setIfInBounds i true)) a w)
    (fin : ∀ l a w, I l a w → (∀ i, i < l.size → l.getD i false = true) → Q .normal a w)
    (h : I (Array.replicate ops.size false) a w.drew) : (Code.region id ops true).wp P Q a w := by
  refine wp_region_any hm (wpAny_inv (fun l a w => Closed ops l ∧ I l a w) (fun l a w hI i hi => ?_) (fun l a w hI hr => fin l a w hI.2 (ready_allG hT (hsz l a w hI.2) hr)) ops.size _ a _ ?_ ⟨?_, h⟩)
  · obtain ⟨h0, o, ho, h1⟩ := mem_ready.1 hi
    exact wpOp_mono (fun _ _ h => ⟨hI.1.next ho h1, h⟩) (step l a w hI.1 hI.2 i h0 o ho h1)
  · simp [List.countP_replicate]
  · intro k ok hk hl
    rcases Nat.lt_or_ge k ops.size with hlt | hge
    · simp [Array.getD, hlt] at hl
    · simp [Array.getD, Nat.not_lt.2 hge] at hl
end
end Go.Proofs.YtepdodifgkejjaaGreatDoor
namespace Go.Proofs.YtepdodifgkejjaaGreatDoor
open Go.RowKit
/-! What a closed array of Bools says (for anyreg.py's short form). -/
section
variable {ops : Array Oper} {l : Array Bool} {o : Oper} {j : Nat}
def edgeB (o : Oper) (j : Nat) : Bool := o.after.toList.any fun e => e.on == j && Region.binds .any e
theorem clO (h1 : ∀ e ∈ o.after, Region.binds .any e = true → l.getD e.on false = true) (h : edgeB o j = true) : l.getD j false = true := by
  unfold edgeB at h
  obtain ⟨e, he, hb⟩ := List.any_eq_true.1 h
  rw [Bool.and_eq_true, beq_iff_eq] at hb
  have := h1 e (by simpa using he) hb.2
  rw [hb.1] at this
  exact this
theorem clP (hC : Closed ops l) (k : Nat) (ho : ops[k]? = some o) (hk : l.getD k false = true) (h : edgeB o j = true) : l.getD j false = true := clO (hC k o ho hk) h
theorem clN (hC : Closed ops l) (k : Nat) (ho : ops[k]? = some o) (hj : l.getD j false = false) (h : edgeB o j = true) : l.getD k false = false := by
  cases e : l.getD k false with
  | false => rfl
  | true =>
    have := clP hC k ho e h
    rw [hj] at this
    cases this
/-- a word on each of some numbers -/
def AllL (p : Nat → Prop) : List Nat → Prop
  | [] => True
  | k :: r => p k ∧ AllL p r
/-- a way: (k, j): number k waits for number j -/
def wayN (ops : Array Oper) (from0 : Nat) : List Nat → List (Nat × Nat) → Bool
  | _, [] => true
  | known, (k, j) :: r => (known.contains j || j == from0) && (match ops[k]? with | some o => edgeB o j | none => false) && wayN ops from0 (k :: known) r
theorem wayN_all (hC : Closed ops l) {i : Nat} (h0 : l.getD i false = false) : ∀ (ps : List (Nat × Nat)) (known : List Nat), (∀ k ∈ known, l.getD k false = false) → wayN ops i known ps = true → AllL (fun k => l.getD k false = false) (ps.map (·.1))
  | [], _, _, _ => trivial
  | (k, j) :: r, known, hk, h => by
    unfold wayN at h
    rw [Bool.and_eq_true, Bool.and_eq_true, Bool.or_eq_true] at h
    obtain ⟨⟨h1, h2⟩, h3⟩ := h
    have hj : l.getD j false = false := by
      rcases h1 with h1 | h1
      · exact hk j (by simpa using h1)
      · rw [beq_iff_eq] at h1; rw [h1]; exact h0
    have hkf : l.getD k false = false := by
      cases ho : ops[k]? with
      | none => rw [ho] at h2; cases h2
      | some o => rw [ho] at h2; exact clN hC k ho hj h2
    exact ⟨hkf, wayN_all hC h0 r (k :: known) (fun q hq => by
      rcases List.mem_cons.1 hq with e | e
      · rw [e]; exact hkf
      · exact hk q e) h3⟩
/-- a way upwards: (j, k): number k, that has come up, waited for number j -/
def wayP (ops : Array Oper) (o : Oper) : List Nat → List (Nat × Option Nat) → Bool
  | _, [] => true
  | known, (j, none) :: r => edgeB o j && wayP ops o (j :: known) r
  | known, (j, some k) :: r => known.contains k && (match ops[k]? with | some q => edgeB q j | none => false) && wayP ops o (j :: known) r
theorem wayP_all (hC : Closed ops l) (h1 : ∀ e ∈ o.after, Region.binds .any e = true → l.getD e.on false = true) : ∀ (ps : List (Nat × Option Nat)) (known : List Nat), (∀ k ∈ known, l.getD k false = true) → wayP ops o known ps = true → AllL (fun k => l.getD k false = true) (ps.map (·.1))
  | [], _, _, _ => trivial
  | (j, none) :: r, known, hk, h => by
    unfold wayP at h
    rw [Bool.and_eq_true] at h
    have hj := clO h1 h.1
    exact ⟨hj, wayP_all hC h1 r (j :: known) (fun q hq => by
      rcases List.mem_cons.1 hq with e | e
      · rw [e]; exact hj
      · exact hk q e) h.2⟩
  | (j, some k) :: r, known, hk, h => by
    unfold wayP at h
    rw [Bool.and_eq_true, Bool.and_eq_true] at h
    obtain ⟨⟨h2, h3⟩, h4⟩ := h
    have hj : l.getD j false = true := by
      cases ho : ops[k]? with
      | none => rw [ho] at h3; cases h3
      | some q => rw [ho] at h3; exact clP hC k ho (hk k (by simpa using h2)) h3
    exact ⟨hj, wayP_all hC h1 r (j :: known) (fun q hq => by
      rcases List.mem_cons.1 hq with e | e
      · rw [e]; exact hj
      · exact hk q e) h4⟩
theorem allT (h : ∀ i, i < l.size → l.getD i false = true) : ∀ (ks : List Nat), ks.all (fun k => decide (k < l.size)) = true → AllL (fun k => l.getD k false = true) ks
  | [], _ => trivial
  | k :: r, hk => by
    rw [List.all_cons, Bool.and_eq_true] at hk
    exact ⟨h k (of_decide_eq_true hk.1), allT h r hk.2⟩
theorem nk {p : Nat → Prop} : ∀ k ∈ ([] : List Nat), p k := fun _ h => by cases h
end
end Go.Proofs.YtepdodifgkejjaaGreatDoor
namespace Go.Proofs.YtepdodifgkejjaaGreatDoor
open Go.RowKit
theorem selS_t (v o : Value) : selS true v o = v := rfl
theorem selS_f (v o : Value) : selS false v o = o := rfl
end Go.Proofs.YtepdodifgkejjaaGreatDoor
namespace Go.Proofs.YtepdodifgkejjaaGreatDoor
open Go.RowKit
/-! What signing a request gives (by gensign.py). -/
def sgH (r : Rq) : List Hp := hpList r.hs.o r.hs.n
noncomputable def sgQ1 (r : Rq) (id : ByteArray) (nw ls : Int) (ts : Nat → ByteArray) (m : Nat) : List Hp := hpList r.qs.o r.qs.n ++ [(⟨⟨#[120, 45, 105, 100]⟩, id⟩ : Hp), ⟨⟨#[120, 45, 102, 114, 111, 109]⟩, ofL (Lib.decDigits nw.toNat)⟩, ⟨⟨#[120, 45, 108, 97, 115, 116, 115]⟩, ofL (Lib.decDigits ls.toNat)⟩, ⟨⟨#[120, 45, 115, 105, 103, 110, 101, 100]⟩, ofL (jn ts m)⟩]
noncomputable def sgR1 (r : Rq) (id : ByteArray) (nw ls : Int) (ts : Nat → ByteArray) (m : Nat) : Rq := mkRq r.mt r.pt (sgQ1 r id nw ls ts m) (sgH r) r.bd
noncomputable def sgQ2 (r : Rq) (id sec : ByteArray) (nw ls : Int) (ts : Nat → ByteArray) (m : Nat) : List Hp := sgQ1 r id nw ls ts m ++ [(⟨⟨#[120, 45, 115, 117, 109]⟩, ofL (Lib.decDigits (sgS (sgR1 r id nw ls ts m) sec ts m).toNat)⟩ : Hp)]
noncomputable def sgR2 (r : Rq) (id sec : ByteArray) (nw ls : Int) (ts : Nat → ByteArray) (m : Nat) : Rq := mkRq r.mt r.pt (sgQ2 r id sec nw ls ts m) (sgH r) r.bd
def sgOk0 (r : Rq) (id sec : ByteArray) (nw ls : Int) (ts : Nat → ByteArray) (m : Nat) : Prop := rqP r ∧ idP id ∧ 1 ≤ sec.size ∧ sec.size ≤ 100 ∧ 0 ≤ nw ∧ nw ≤ 4102444800 ∧ 0 ≤ ls ∧ ls ≤ 4102444800 ∧ m ≤ 10 ∧ sgnP r.hs.n r.hs.o ts m
def sgOk (r : Rq) (id sec : ByteArray) (nw ls : Int) (ts : Nat → ByteArray) (m : Nat) : Prop := sgOk0 r id sec nw ls ts m ∧ (∀ i, i < r.qs.n → ¬ bgP (r.qs.o i).nm ⟨#[120, 45]⟩) ∧ rqP (sgR1 r id nw ls ts m) ∧ rqP (sgR2 r id sec nw ls ts m)
def AnsSg (w : World) (r : Rq) (id sec : ByteArray) (nw ls : Int) (ts : Nat → ByteArray) (m : Nat) (e : Ending) (w' : World) : Prop :=
  Below w.heap.size w w' ∧ ((sgOk r id sec nw ls ts m ∧ ∃ (a1 : Option Addr) (c1 : Nat) (a2 : Option Addr) (c2 B1 B2 : Nat), e = .returned (.agg #[.string r.mt, .string r.pt, .slice a1 (sgQ2 r id sec nw ls ts m).length c1, .slice a2 (sgH r).length c2, .string r.bd]) ∧ OwnHp w' B1 (.slice a1 (sgQ2 r id sec nw ls ts m).length c1) (sgQ2 r id sec nw ls ts m) ∧ OwnHp w' B2 (.slice a2 (sgH r).length c2) (sgH r) ∧ w.heap.size ≤ B1 ∧ w.heap.size ≤ B2 ∧ ((Value.slice a2 (sgH r).length c2).ownBlock = none ∨ (Value.slice a2 (sgH r).length c2).ownBlock ≠ (Value.slice a1 (sgQ2 r id sec nw ls ts m).length c1).ownBlock)) ∨ (¬ sgOk r id sec nw ls ts m ∧ e = .returned (.agg #[.string ⟨#[]⟩, .string ⟨#[]⟩, .slice none 0 0, .slice none 0 0, .string ⟨#[]⟩])))
theorem sgn_sz {r : Rq} (hr : rqP r) {ts : Nat → ByteArray} {m : Nat} (h : sgnP r.hs.n r.hs.o ts m) (i : Nat) (hi : i < m) : (ts i).size ≤ 60 := by
  obtain ⟨k, hk, e⟩ := (h.1 i hi).1
  rw [← e]
  exact (hr.2.2.2.2.2.2 k hk).1.2.1
theorem jn_sz (ts : Nat → ByteArray) : ∀ m, (∀ i, i < m → (ts i).size ≤ 60) → (jn ts m).length ≤ m * 61
  | 0, _ => by unfold jn jl; simp [Lib.join]
  | 1, h => by rw [jn_one]; have := h 0 (by omega); simp; omega
  | m + 2, h => by
    rw [jn_next ts (m + 1) (by omega)]
    have ih := jn_sz ts (m + 1) (fun i hi => h i (by omega))
    have h1 := h (m + 1) (by omega)
    have e : (ts (m + 1)).data.toList.length = (ts (m + 1)).size := by simp
    simp only [List.length_append, List.length_cons, List.length_nil]
    omega
theorem rqP_mkS {mt pt bd : ByteArray} {a a' : Option Addr} {c c' : Nat} {Q H : List Hp} : rqP ⟨mt, pt, ⟨a, Q.length, c, hAt Q⟩, ⟨a', H.length, c', hAt H⟩, bd⟩ ↔ rqP (mkRq mt pt Q H bd) := Iff.rfl
theorem rqV_mkS {mt pt bd : ByteArray} {a a' : Option Addr} {c c' : Nat} {Q H : List Hp} : rqV ⟨mt, pt, ⟨a, Q.length, c, hAt Q⟩, ⟨a', H.length, c', hAt H⟩, bd⟩ = rqV (mkRq mt pt Q H bd) := rfl
theorem sgQ1_sz {r : Rq} {id sec : ByteArray} {nw ls : Int} {ts : Nat → ByteArray} {m : Nat} (h : sgOk0 r id sec nw ls ts m) : ∀ x ∈ sgQ1 r id nw ls ts m, x.nm.size ≤ 1000 ∧ x.vl.size ≤ 1000 := by
  intro x hx
  unfold sgQ1 at hx
  rcases List.mem_append.1 hx with h1 | h1
  · obtain ⟨i, hi, rfl⟩ := hpList_mem h1
    have := h.1.2.2.2.2.2.1 i hi
    exact ⟨Nat.le_trans this.2.1 (by omega), this.2.2⟩
  · have d1 := dec_len nw.toNat (by have := h.2.2.2.2.2.1; omega)
    have d2 := dec_len ls.toNat (by have := h.2.2.2.2.2.2.2.1; omega)
    have d3 : (ofL (jn ts m)).size ≤ 1000 := by
      rw [ofL_size]
      have := jn_sz ts m (sgn_sz h.1 h.2.2.2.2.2.2.2.2.2)
      have := h.2.2.2.2.2.2.2.2.1
      omega
    have d0 : id.size ≤ 1000 := Nat.le_trans h.2.1.2.1 (by omega)
    simp only [List.mem_cons, List.not_mem_nil, or_false] at h1
    rcases h1 with rfl | rfl | rfl | rfl
    · exact ⟨by show (4 : Nat) ≤ 1000; omega, d0⟩
    · exact ⟨by show (6 : Nat) ≤ 1000; omega, by show (ofL _).size ≤ 1000; omega⟩
    · exact ⟨by show (7 : Nat) ≤ 1000; omega, by show (ofL _).size ≤ 1000; omega⟩
    · exact ⟨by show (8 : Nat) ≤ 1000; omega, d3⟩
theorem sgH_sz {r : Rq} (h : rqP r) : ∀ x ∈ sgH r, x.nm.size ≤ 1000 ∧ x.vl.size ≤ 1000 := by
  intro x hx
  obtain ⟨i, hi, rfl⟩ := hpList_mem hx
  have := h.2.2.2.2.2.2 i hi
  exact ⟨Nat.le_trans this.1.2.1 (by omega), this.2.1⟩
end Go.Proofs.YtepdodifgkejjaaGreatDoor
namespace Go.Proofs.YtepdodifgkejjaaGreatDoor
open Go.RowKit
/-! What checking a signed request gives. -/
def ckV (r : Rq) (k : Nat) : ByteArray := (r.qs.o (r.qs.n - 5 + k)).vl
def ckNm : Nat → ByteArray
  | 0 => ⟨#[120, 45, 105, 100]⟩
  | 1 => ⟨#[120, 45, 102, 114, 111, 109]⟩
  | 2 => ⟨#[120, 45, 108, 97, 115, 116, 115]⟩
  | 3 => ⟨#[120, 45, 115, 105, 103, 110, 101, 100]⟩
  | _ => ⟨#[120, 45, 115, 117, 109]⟩
def tAt (L : List ByteArray) (i : Nat) : ByteArray := L.getD i ⟨#[]⟩
def sgT (s : ByteArray) : List ByteArray := if s.size = 0 then [] else splB 44 s
def smP (s : ByteArray) : Prop := ∃ n, n < 2147483647 ∧ s.data.toList = Lib.decDigits n
/-- the names: none kept ahead of the five -/
def ckO (r : Rq) (i : Nat) : Prop := if i < r.qs.n - 5 then ¬ bgP (r.qs.o i).nm ⟨#[120, 45]⟩ else (r.qs.o i).nm = ckNm (i - (r.qs.n - 5))
def ckS (r : Rq) : List ByteArray := sgT (ckV r 3)
def ckP (r : Rq) : Prop := rqP r ∧ 5 ≤ r.qs.n ∧ (∀ i, i < r.qs.n → ckO r i) ∧ idP (ckV r 0) ∧ tmP (ckV r 1) ∧ tmP (ckV r 2) ∧ sgnP r.hs.n r.hs.o (tAt (ckS r)) (ckS r).length ∧ smP (ckV r 4)
def ckB (r : Rq) : Rq := ⟨r.mt, r.pt, ⟨r.qs.ad, r.qs.n - 1, r.qs.cap, r.qs.o⟩, r.hs, r.bd⟩
/-- the first key of an Id among the first k -/
def fstK (ks : Nat → Ak) (x : ByteArray) : Nat → Option Nat
  | 0 => none
  | k + 1 => match fstK ks x k with
    | some i => some i
    | none => if (ks k).id = x then some k else none
theorem fstK_some {ks : Nat → Ak} {x : ByteArray} : ∀ {k i : Nat}, fstK ks x k = some i → i < k ∧ (ks i).id = x ∧ ∀ j, j < i → (ks j).id ≠ x
  | 0, i, h => by cases h
  | k + 1, i, h => by
    unfold fstK at h
    cases e : fstK ks x k with
    | some j => rw [e] at h; cases h; have := fstK_some e; exact ⟨by omega, this.2⟩
    | none =>
      rw [e] at h
      dsimp only at h
      split at h
      · cases h
        refine ⟨by omega, by assumption, fun j hj q => ?_⟩
        have : ∀ k', fstK ks x k' = none → ∀ j, j < k' → (ks j).id ≠ x := by
          intro k'
          induction k' with
          | zero => intro _ j hj; omega
          | succ k' ih =>
            intro hn j hj
            unfold fstK at hn
            cases e' : fstK ks x k' with
            | some v => rw [e'] at hn; cases hn
            | none =>
              rw [e'] at hn
              dsimp only at hn
              split at hn
              · cases hn
              · rename_i hne
                by_cases q : j = k'
                · rw [q]; exact hne
                · exact ih e' j (by omega)
        exact this _ e j hj q
      · cases h
theorem fstK_none {ks : Nat → Ak} {x : ByteArray} : ∀ {k : Nat}, (∀ j, j < k → (ks j).id ≠ x) → fstK ks x k = none
  | 0, _ => rfl
  | k + 1, h => by
    unfold fstK
    rw [fstK_none fun j hj => h j (by omega)]
    exact if_neg (h k (by omega))
theorem fstK_first {ks : Nat → Ak} {x : ByteArray} {n i : Nat} (hi : i < n) (h0 : ∀ j, j < i → (ks j).id ≠ x) (h1 : (ks i).id = x) : fstK ks x n = some i := by
  induction n with
  | zero => omega
  | succ n ih =>
    unfold fstK
    by_cases e : i = n
    · subst e
      rw [fstK_none h0]
      exact if_pos h1
    · rw [ih (by omega)]
def scQ (s : ByteArray) : Prop := 1 ≤ s.size ∧ s.size ≤ 100
def smQ (r : Rq) (sec : ByteArray) : Prop := scQ sec ∧ sgS (ckB r) sec (tAt (ckS r)) (ckS r).length = (numL (ckV r 4).data.toList : Int)
def lateQ (r : Rq) (now : Int) : Prop := (numL (ckV r 1).data.toList : Int) ≤ now ∧ now ≤ (numL (ckV r 1).data.toList : Int) + (numL (ckV r 2).data.toList : Int)
noncomputable def ckR (r : Rq) (n : Nat) (ks : Nat → Ak) (now : Int) : Int × ByteArray :=
  if pb (ckP r ∧ n ≤ 100) then
    match fstK ks (ckV r 0) n with
    | none => (5, ⟨#[]⟩)
    | some i => if pb (smQ r (ks i).sec) then (if pb (lateQ r now) then (0, ckV r 0) else (13, ⟨#[]⟩)) else (12, ⟨#[]⟩)
  else (1, ⟨#[]⟩)
section
variable {r : Rq} {n : Nat} {ks : Nat → Ak} {now : Int}
theorem ckR_1 (h : ¬ (ckP r ∧ n ≤ 100)) : ckR r n ks now = (1, ⟨#[]⟩) := by unfold ckR; rw [pb_f h]; rfl
theorem ckR_5 (h : ckP r ∧ n ≤ 100) (h1 : fstK ks (ckV r 0) n = none) : ckR r n ks now = (5, ⟨#[]⟩) := by unfold ckR; rw [pb_t h, h1]; rfl
theorem ckR_12 (h : ckP r ∧ n ≤ 100) {i : Nat} (h1 : fstK ks (ckV r 0) n = some i) (h2 : ¬ smQ r (ks i).sec) : ckR r n ks now = (12, ⟨#[]⟩) := by unfold ckR; rw [pb_t h, h1]; dsimp only; rw [pb_f h2]; rfl
theorem ckR_13 (h : ckP r ∧ n ≤ 100) {i : Nat} (h1 : fstK ks (ckV r 0) n = some i) (h2 : smQ r (ks i).sec) (h3 : ¬ lateQ r now) : ckR r n ks now = (13, ⟨#[]⟩) := by unfold ckR; rw [pb_t h, h1]; dsimp only; rw [pb_t h2, pb_f h3]; rfl
theorem ckR_0 (h : ckP r ∧ n ≤ 100) {i : Nat} (h1 : fstK ks (ckV r 0) n = some i) (h2 : smQ r (ks i).sec) (h3 : lateQ r now) : ckR r n ks now = (0, ckV r 0) := by unfold ckR; rw [pb_t h, h1]; dsimp only; rw [pb_t h2, pb_t h3]; rfl
end
theorem sgT_len (s : ByteArray) : (sgT s).length ≤ s.size + 1 := by
  unfold sgT
  split
  · simp
  · unfold splB
    rw [List.length_map]
    have := (splA_len 44 s.data.toList []).2
    have e : s.data.toList.length = s.size := by simp
    omega
theorem rqP_bare {r : Rq} (h : rqP r) : rqP (ckB r) := by
  obtain ⟨h1, h2, h3, h4, h5, h6, h7⟩ := h
  exact ⟨h1, h2, ⟨Nat.le_trans (Nat.sub_le _ _) h3.1, fun i hi k hk => h3.2 i (Nat.lt_of_lt_of_le hi (Nat.sub_le _ _)) k hk⟩, h4, h5, fun i hi => h6 i (Nat.lt_of_lt_of_le hi (Nat.sub_le _ _)), h7⟩
end Go.Proofs.YtepdodifgkejjaaGreatDoor
