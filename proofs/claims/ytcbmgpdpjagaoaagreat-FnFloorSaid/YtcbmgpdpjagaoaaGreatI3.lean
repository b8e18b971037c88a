import Derived.Test.YtcbmgpdpjagaoaaGreatI2
import Derived.Test.YtcbmgpdpjagaoaaGreatG2
import Derived.Test.YtcbmgpdpjagaoaaGreatI1
import Derived.Deep.RegionHeld3
import Derived.Deep.AppendLies
import Derived.Deep.Onto
namespace Go.Proofs.YtcbmgpdpjagaoaaGreat
open Go.RowKit
def hdOk (s f : Int) (m : Nat) : Prop := s ≤ 4611686018427387904 ∧ 0 ≤ f ∧ f ≤ s ∧ m ≤ 20
def tabTo (s : Int) (R : Nat → Rn) (k : Nat) : Prop := (∀ i, i < k → runOk (R i).n (R i).o) ∧ cntR R k ≤ 1000 ∧ (sqA R k).Nodup ∧ ∀ v ∈ sqA R k, v ≤ s
def frTo (s : Int) (A : List Int) (o0 : Nat → En) (i : Nat) : Prop := ∀ j, j < i → (o0 j).sq ≤ s ∧ ∀ v ∈ A, v < (o0 j).sq
def tabOk (s f : Int) (n0 : Nat) (o0 : Nat → En) (m : Nat) (R : Nat → Rn) : Prop :=
 hdOk s f m ∧ runOk n0 o0 ∧ tabTo s R m ∧ cntR R m + n0 ≤ 1000 ∧ frTo s (sqA R m) o0 n0
open Classical in
noncomputable def tabV (s f : Int) (n0 : Nat) (o0 : Nat → En) (m : Nat) (R : Nat → Rn) : Int := if tabOk s f n0 o0 m R then 0 else 1
theorem tabV_ok {s f : Int} {n0 : Nat} {o0 : Nat → En} {m : Nat} {R : Nat → Rn} (h : tabOk s f n0 o0 m R) : tabV s f n0 o0 m R = 0 := by unfold tabV; rw [if_pos h]
theorem tabV_no {s f : Int} {n0 : Nat} {o0 : Nat → En} {m : Nat} {R : Nat → Rn} (h : ¬ tabOk s f n0 o0 m R) : tabV s f n0 o0 m R = 1 := by unfold tabV; rw [if_neg h]
theorem sqA_sub {R : Nat → Rn} {j k : Nat} (h : j ≤ k) : ∃ l, sqA R k = sqA R j ++ l := by
 induction k with
 | zero => exact ⟨[], by rw [Nat.le_zero.mp h]; simp⟩
 | succ k ih =>
  rcases Nat.lt_or_ge j (k + 1) with h1 | h1
  · obtain ⟨l, hl⟩ := ih (by omega)
    exact ⟨l ++ sqL (R k).o (R k).n, by show sqA R k ++ _ = _; rw [hl, List.append_assoc]⟩
  · exact ⟨[], by rw [show j = k + 1 by omega]; simp⟩
theorem tabTo_mono {s : Int} {R : Nat → Rn} {j k : Nat} (h : tabTo s R k) (hj : j ≤ k) : tabTo s R j := by
 obtain ⟨h1, h2, h3, h4⟩ := h; obtain ⟨l, hl⟩ := sqA_sub (R := R) hj; refine ⟨fun i hi => h1 i (by omega), Nat.le_trans (cntR_mono R hj) h2, ?_, fun v hv => h4 v (by rw [hl]; exact List.mem_append_left _ hv)⟩; rw [hl] at h3; exact (List.nodup_append.1 h3).1
theorem tab_no {s f : Int} {n0 : Nat} {o0 : Nat → En} {m : Nat} {R : Nat → Rn} {k : Nat} (hk : k ≤ m) (h : ¬ tabTo s R k) : tabV s f n0 o0 m R = 1 := tabV_no fun q => h (tabTo_mono q.2.2.1 hk)
theorem sqL_take {o : Nat → En} {j n : Nat} (h : j ≤ n) : ∃ l, sqL o n = sqL o j ++ l := by
 induction n with
 | zero => exact ⟨[], by rw [Nat.le_zero.mp h]; simp⟩
 | succ n ih =>
  rcases Nat.lt_or_ge j (n + 1) with h1 | h1
  · obtain ⟨l, hl⟩ := ih (by omega)
    exact ⟨l ++ [(o n).sq], by rw [sqL_succ, hl, List.append_assoc]⟩
  · exact ⟨[], by rw [show j = n + 1 by omega]; simp⟩
def partTo (s : Int) (R : Nat → Rn) (k j : Nat) : Prop := (sqA R k ++ sqL (R k).o j).Nodup ∧ ∀ v ∈ sqA R k ++ sqL (R k).o j, v ≤ s
theorem partTo_zero {s : Int} {R : Nat → Rn} {k : Nat} (h : tabTo s R k) : partTo s R k 0 := by
 unfold partTo; rw [show sqL (R k).o 0 = [] from rfl, List.append_nil]; exact ⟨h.2.2.1, h.2.2.2⟩
theorem partTo_succ {s : Int} {R : Nat → Rn} {k j : Nat} (h : partTo s R k j) (h1 : ((R k).o j).sq ≤ s) (h2 : ((R k).o j).sq ∉ sqA R k ++ sqL (R k).o j) : partTo s R k (j + 1) := by
 unfold partTo; rw [sqL_succ, ← List.append_assoc]; refine ⟨List.nodup_append.2 ⟨h.1, by simp, fun a ha b hb e => ?_⟩, fun v hv => ?_⟩
 · simp at hb; subst hb; subst e; exact h2 ha
 · rcases List.mem_append.1 hv with q | q
   · exact h.2 v q
   · simp at q; subst q; exact h1
theorem part_no {s : Int} {R : Nat → Rn} {k j : Nat} (hj : j < (R k).n) (h : s < ((R k).o j).sq ∨ ((R k).o j).sq ∈ sqA R k ++ sqL (R k).o j) : ¬ tabTo s R (k + 1) := fun q => by
 obtain ⟨_, _, q3, q4⟩ := q; obtain ⟨l, hl⟩ := sqL_take (o := (R k).o) (show j + 1 ≤ (R k).n by omega); have e : sqA R (k + 1) = (sqA R k ++ sqL (R k).o j) ++ ([((R k).o j).sq] ++ l) := by show sqA R k ++ _ = _; rw [hl, sqL_succ]; simp
 rw [e] at q3 q4
 rcases h with h | h
 · have := q4 _ (List.mem_append_right _ (List.mem_append_left _ (List.mem_singleton.2 rfl))); omega
 · exact (List.nodup_append.1 q3).2.2 _ h _ (List.mem_append_left _ (List.mem_singleton.2 rfl)) rfl
theorem tabTo_succ {s : Int} {R : Nat → Rn} {k : Nat} (h : tabTo s R k) (h1 : runOk (R k).n (R k).o) (h2 : cntR R (k + 1) ≤ 1000) (h3 : partTo s R k (R k).n) : tabTo s R (k + 1) :=
 ⟨fun i hi => by
  by_cases e : i = k
  · subst e; exact h1
  · exact h.1 i (by omega), h2, h3.1, h3.2⟩
def lastOk (l : List Int) (s : Int) : Prop := l.length = 0 ∨ l.getD (l.length - 1) 0 ≤ s
theorem last_all {l : List Int} {s : Int} (h : rise l) : lastOk l s ↔ ∀ v ∈ l, v ≤ s := by
 have hp := rise_pw.1 h; rw [List.pairwise_iff_getElem] at hp
 constructor
 · rintro (h0 | h0) v hv
   · rw [List.length_eq_zero_iff.1 h0] at hv; cases hv
   · obtain ⟨i, hi, rfl⟩ := List.getElem_of_mem hv
     have hl : l.length - 1 < l.length := by omega
     rw [List.getD_eq_getElem?_getD, List.getElem?_eq_getElem hl] at h0
     by_cases e : i = l.length - 1
     · subst e; exact h0
     · have := hp i (l.length - 1) hi hl (by omega)
       simp at h0; omega
 · intro h
   by_cases h0 : l.length = 0
   · exact .inl h0
   · right
     have hl : l.length - 1 < l.length := by omega
     rw [List.getD_eq_getElem?_getD, List.getElem?_eq_getElem hl]; exact h _ (List.getElem_mem hl)
theorem tab_iff (s : Int) (R : Nat → Rn) (m : Nat) (o0 : Nat → En) (n0 : Nat) (h0 : (sqL o0 n0).Nodup) :
 (rise (sortI (sqA R m) ++ sortI (sqL o0 n0)) ∧ lastOk (sortI (sqA R m) ++ sortI (sqL o0 n0)) s) ↔ ((sqA R m).Nodup ∧ ∀ v ∈ sqA R m, v ≤ s) ∧ frTo s (sqA R m) o0 n0 := by
 have hA : ∀ v, v ∈ sortI (sqA R m) ↔ v ∈ sqA R m := fun v => (sortI_perm _).mem_iff; have hB : ∀ v, v ∈ sortI (sqL o0 n0) ↔ v ∈ sqL o0 n0 := fun v => (sortI_perm _).mem_iff
 constructor
 · rintro ⟨h1, h2⟩
   have hl := (last_all h1).1 h2; have hp := List.pairwise_append.1 (rise_pw.1 h1); refine ⟨⟨(rise_sortI _).1 (rise_pw.2 hp.1), fun v hv => hl v (List.mem_append_left _ ((hA v).2 hv))⟩, fun j hj => ?_⟩; have hm : (o0 j).sq ∈ sqL o0 n0 := mem_sqL.2 ⟨j, hj, rfl⟩; exact ⟨hl _ (List.mem_append_right _ ((hB _).2 hm)), fun v hv => hp.2.2 v ((hA v).2 hv) _ ((hB _).2 hm)⟩
 · rintro ⟨⟨h1, h2⟩, h3⟩
   have hr : rise (sortI (sqA R m) ++ sortI (sqL o0 n0)) := by
    rw [rise_pw, List.pairwise_append]; refine ⟨rise_pw.1 ((rise_sortI _).2 h1), rise_pw.1 ((rise_sortI _).2 h0), fun a ha b hb => ?_⟩; obtain ⟨j, hj, rfl⟩ := mem_sqL.1 ((hB b).1 hb); exact (h3 j hj).2 a ((hA a).1 ha)
   refine ⟨hr, (last_all hr).2 fun v hv => ?_⟩
   rcases List.mem_append.1 hv with q | q
   · exact h2 v ((hA v).1 q)
   · obtain ⟨j, hj, rfl⟩ := mem_sqL.1 ((hB v).1 q)
     exact (h3 j hj).1
end Go.Proofs.YtcbmgpdpjagaoaaGreat
namespace Go.Proofs.YtcbmgpdpjagaoaaGreat
open Go.RowKit
def rnTo (R : Nat → Rn) (G : Nat → Nat) (k p : Nat) : Value := if p < k then .slice (some ⟨G p, 0, none⟩) (R p).n (R p).n else .slice none 0 0
def mkR (R : Nat → Rn) (G : Nat → Nat) (k : Nat) : Rn := ⟨some ⟨G k, 0, none⟩, (R k).n, (R k).n, (R k).o⟩
theorem Tryz.infoRn : (Tryz.prog.info? 25).map (fun i => (i.zero, i.size, i.bytes)) = some (some (.agg #[.slice none 0 0]), 1, 24) := by kernel_rfl
end Go.Proofs.YtcbmgpdpjagaoaaGreat
namespace Go.Proofs.YtcbmgpdpjagaoaaGreat
open Go.RowKit
def MkT (w : World) (n0 : Nat) (o0 : Nat → En) (m : Nat) (R : Nat → Rn) (g gr : Nat) (G : Nat → Nat) : Prop :=
 FRow w g 46 (n0 * 4) (enF o0) ∧ FRow w gr 25 m (rnTo R G m) ∧ ∀ k, k < m → FRow w (G k) 46 ((R k).n * 4) (enF (R k).o)
theorem MkT.below {w w' : World} {n0 : Nat} {o0 : Nat → En} {m : Nat} {R : Nat → Rn} {g gr : Nat} {G : Nat → Nat} (h : MkT w n0 o0 m R g gr G) (hb : Below w.heap.size w w') : MkT w' n0 o0 m R g gr G :=
 ⟨h.1.below hb h.1.lt, h.2.1.below hb h.2.1.lt, fun k hk => (h.2.2 k hk).below hb (h.2.2 k hk).lt⟩
theorem MkT.ens {w : World} {n0 : Nat} {o0 : Nat → En} {m : Nat} {R : Nat → Rn} {g gr : Nat} {G : Nat → Nat} (h : MkT w n0 o0 m R g gr G) : Ens w (some ⟨g, 0, none⟩) n0 n0 o0 := Ens.of_row h.1
theorem MkT.rns {w : World} {n0 : Nat} {o0 : Nat → En} {m : Nat} {R : Nat → Rn} {g gr : Nat} {G : Nat → Nat} (h : MkT w n0 o0 m R g gr G) : Rns w (some ⟨gr, 0, none⟩) m m (mkR R G) :=
 ⟨Nat.le_refl _, .inr ⟨gr, 0, rfl, h.2.1.lt, fun k hk => by
  have := h.2.1.cell hk; rw [show rnTo R G m k = .slice (some ⟨G k, 0, none⟩) (R k).n (R k).n by unfold rnTo; rw [if_pos hk]] at this
  rw [Nat.zero_add]; exact this⟩, fun k hk => Ens.of_row (h.2.2 k hk)⟩
end Go.Proofs.YtcbmgpdpjagaoaaGreat
namespace Go.Proofs.YtcbmgpdpjagaoaaGreat
open Go.RowKit
def oIAll0 : Oper := { dst := some 5, op := Op.move (Operand.tmp 0), type := 26, pos := "l08_runs.go:171", after := #[], guard := none }
def oIAll1 : Oper := { dst := some 7, op := Op.load 25 (Operand.tmp 3), type := 25, pos := "l08_runs.go:171", after := #[], guard := none }
def oIAll2 : Oper := { dst := some 4, op := Op.assign (Operand.tmp 9), type := 26, pos := "l08_runs.go:171", after := #[{ on := 4, ground := Ground.data }, { on := 4, ground := Ground.chain }, { on := 0, ground := Ground.phase }, { on := 1, ground := Ground.phase }, { on := 2, ground := Ground.phase }, { on := 3, ground := Ground.phase }, { on := 4, ground := Ground.phase }], guard := none }
theorem sAIAll {α : Type} (l : List α) (i : Nat) (a : α) : l.toArray.setIfInBounds i a = (l.set i a).toArray := by simp
theorem sBIAll {α : Type} (x a : α) (l : List α) : (x :: l).set 0 a = a :: l := rfl
theorem sCIAll {α : Type} (x a : α) (l : List α) (i : Nat) : (x :: l).set (i + 1) a = x :: l.set i a := rfl
def rnV (r : Rn) : Value := .slice r.ad r.n r.cap
def OwnRn (w : World) (base : Nat) (v : Value) (L : List Rn) : Prop := w.ownsRow base 25 1 v L.length (L.map rnV)
theorem OwnRn.nx {X w1 : World} {base : Nat} {v : Value} {L : List Rn} (hb : Below X.heap.size X w1) (h : OwnRn X base v L) : OwnRn w1 base v L :=
 World.ownsRow.kept h (below_grown hb none) (by cases v.ownBlock <;> simp)
def rnL (R : Nat → Rn) (m : Nat) : List Rn := (List.range m).map R
theorem rnL_len (R : Nat → Rn) (m : Nat) : (rnL R m).length = m := by simp [rnL]
theorem rnV_one (L : List Rn) : ∀ u ∈ L.map rnV, u.oneCell' = true := by intro u hu; obtain ⟨r, _, rfl⟩ := List.mem_map.1 hu; rfl
theorem step_append_rn {P : Program} (base : Nat) (w : World) {ops : Array Oper} {o : Oper} {a : Act} {K : Act → World → Prop} {Q : Exit → Act → World → Prop} {E : Prop} (hgd : o.guard = none) (s x : Operand) (t : TypeId)
 (ho : o.op = .call { callee := .builtin .append, args := #[s, x], argTypes := #[t, t] })
 (e : TypeId) (ht : P.underlying t = some (.slice e)) (hinfo : (P.info? e).map (fun i => (i.zero, i.size, i.bytes)) = some (some (.agg #[.slice none 0 0]), 1, 24))
 (v : Value) (L : List Rn) (r : Rn) (hs : a.eval s = v) (hown : w.ownsRow base e 1 v L.length (L.map rnV)) (hsz : base ≤ w.heap.size)
 (b : Nat) (hbox : RA w b e #[rnV r]) (hx : a.eval x = .slice (some ⟨b, 0, none⟩) 1 1) (hlen : L.length + 1 ≤ 1048577)
 (h : ∀ g cap w', w'.ownsRow base e 1 (.slice (some ⟨g, 0, none⟩) (L.length + 1) cap) (L ++ [r]).length ((L ++ [r]).map rnV) → w.grownBy w' v.ownBlock → K (a.put o.dst (.slice (some ⟨g, 0, none⟩) (L.length + 1) cap)) w') :
 if Region.wanted o (yielded ops a.tmps) = true then Oper.wp P o a w K Q else E := by
 obtain ⟨i0, hi, hz0, hz1, hz2⟩ := info_parts hinfo; refine step_append_lies _ hgd s x t ho base e i0 (.agg #[.slice none 0 0]) 1 24 ht hi hz0 hz1 hz2 rfl (by decide) v L.length _ hs hown ⟨b, 0, none⟩ 1 1 [rnV r] hx rfl ?_ ?_ (by decide) ?_ ?_ hsz w.heap.size rfl ?_
 · have := World.news_of_block (show w.heap[b]? = some (.cells #[rnV r] e (0, 0)) from hbox); simpa using this
 · intro u hu; simp at hu; subst hu; rfl
 · unfold maxLen; omega
 · omega
 · intro g cap w' h1 h2 h3 h4
   exact h g cap w' (by simpa using h1) h2
def RnA (w : World) (ar : Option Addr) (m cap : Nat) (R : Nat → Rn) : Prop := (ar = none ∧ m = 0 ∧ cap = 0) ∨ ∃ g, ar = some ⟨g, 0, none⟩ ∧ g < w.heap.size ∧ ∀ k, k < m → w.cell? ⟨g, k, none⟩ = some (rnV (R k))
theorem RnA.below {w w' : World} {ar : Option Addr} {m cap : Nat} {R : Nat → Rn} {B : Nat} (h : RnA w ar m cap R) (hb : Below B w w') (hB : w.heap.size ≤ B := by exact Nat.le_refl _) : RnA w' ar m cap R := by
 rcases h with h | ⟨g, rfl, hg, hc⟩
 · exact .inl h
 · exact .inr ⟨g, rfl, Nat.lt_of_lt_of_le hg hb.size, fun k hk => (hb.cell (p := ⟨g, k, none⟩) (Nat.lt_of_lt_of_le hg hB)).trans (hc k hk)⟩
set_option maxRecDepth 20000 in
set_option maxHeartbeats 2000000 in
theorem iCloneR (g m cap : Nat) (R : Nat → Rn) (hm : m ≤ 1048576) (w : World) (hg : g < w.heap.size) (h : ∀ k, k < m → w.cell? ⟨g, k, none⟩ = some (rnV (R k))) :
 Calls Tryz.prog 52 #[.slice (some ⟨g, 0, none⟩) m cap] w fun e w' => ∃ v, e = .returned v ∧ OwnRn w' w.heap.size v (rnL R m) ∧ Below w.heap.size w w' := by
 obtain ⟨i0, hi, hz0, hz1, hz2⟩ := info_parts Tryz.infoRn; have O0 : Hid ((w.alloc (.cells #[] 25)).ownsRow w.heap.size 25 1 (.slice (some ⟨w.heap.size, 0, none⟩) 0 0) 0 []) := World.ownsRow_made w #[] 0 (Nat.le_refl _) (by decide) rfl; have B0 : Hid (Below w.heap.size w (w.alloc (.cells #[] 25))) := balEn (Below.refl _ _) _
 have N0 : Hid (∀ (j : Nat) (u : Value), ((rnL R m).map rnV)[j]? = some u → (w.alloc (.cells #[] 25)).cell? ((⟨g, 0, none⟩ : Addr).add j) = some u) := fun j u hj => by
  have hjl : j < m := by
   rcases Nat.lt_or_ge j m with h1 | h1
   · exact h1
   · rw [List.getElem?_eq_none (by simp [rnL_len]; exact h1)] at hj; cases hj
  have hadd : (⟨g, 0, none⟩ : Addr).add j = ⟨g, j, none⟩ := by unfold Addr.add; split <;> simp_all
  rw [hadd, B0.out.cell (p := ⟨g, j, none⟩) hg, h j hjl]
  simpa [rnL, hjl] using hj
 have L0 : Hid (((rnL R m).map rnV).length = m * 1) := by show _ = _; simp [rnL_len]
 have S0 : Hid (w.heap.size ≤ (w.alloc (.cells #[] 25)).heap.size) := by show _ ≤ _; rw [size_al]; omega
 have M0 : Hid (0 + m ≤ maxLen ∧ (0 + m) * 24 ≤ 140737488355328) := by constructor; (unfold maxLen; omega); omega
 have hnil : ∀ w : World, (binOp .eql 26 (.slice (some ⟨g, 0, none⟩) m cap) (.slice none 0 0)).run Tryz.prog w = .ok (.bool false) w := fun _ => rfl; clear h
 go_enter Tryz.func52, Tryz.ntmps52
 go_wp2_with (refine wpList_append_own _ (by rfl) (.tmp 5) (.tmp 6) 26 (by rfl) w.heap.size 25 i0 (.agg #[.slice none 0 0]) 1 24 Tryz.underlying26 hi hz0 hz1 hz2 rfl (by decide) _ 0 [] (by rfl) O0.out ⟨g, 0, none⟩ m cap ((rnL R m).map rnV) (by rfl) L0.out N0.out (rnV_one _) M0.out.1 M0.out.2 S0.out ?_; intro v' w6 hown hgr hnn)
 go_ret
 refine ⟨_, rfl, ?_, B0.out.grown hgr S0.out fun k hk => (World.ownsRow.lt O0.out k hk).1⟩; unfold OwnRn; rw [rnL_len]
 simpa using hown
set_option maxRecDepth 20000 in
theorem iCloneN (w : World) :
 Calls Tryz.prog 52 #[.slice none 0 0] w fun e w' => e = .returned (.slice none 0 0) ∧ w' = w := by
 have hnil : ∀ w : World, (binOp .eql 26 (.slice none 0 0) (.slice none 0 0)).run Tryz.prog w = .ok (.bool true) w := fun _ => rfl
 go_enter Tryz.func52, Tryz.ntmps52
 go_wp2
 go_ret
 exact ⟨rfl, rfl⟩
set_option maxRecDepth 20000 in
theorem iCloneG (ar : Option Addr) (m cap : Nat) (R : Nat → Rn) (hm : m ≤ 1048576) (w : World) (h : RnA w ar m cap R) :
 Calls Tryz.prog 52 #[.slice ar m cap] w fun e w' => ∃ v, e = .returned v ∧ OwnRn w' w.heap.size v (rnL R m) ∧ Below w.heap.size w w' := by
 rcases h with ⟨rfl, rfl, rfl⟩ | ⟨g, rfl, hg, hc⟩
 · refine (iCloneN w).mono ?_
   rintro e w' ⟨rfl, rfl⟩
   exact ⟨_, rfl, ⟨rfl, .inl ⟨rfl, rfl⟩⟩, Below.refl _ _⟩
 · exact iCloneR g m cap R hm w hg hc
def snoc (R : Nat → Rn) (m : Nat) (r : Rn) (k : Nat) : Rn := if k < m then R k else r
theorem rnL_snoc (R : Nat → Rn) (m : Nat) (r : Rn) : rnL R m ++ [r] = rnL (snoc R m r) (m + 1) := by
 apply List.ext_getElem?
 intro j; simp only [rnL]
 by_cases h : j < m
 · rw [List.getElem?_append_left (by simpa using h)]
   simp [h, show j < m + 1 by omega, snoc]
 · by_cases e : j = m
   · subst e; rw [List.getElem?_append_right (by simp)]; simp [snoc]
   · rw [List.getElem?_eq_none (by simp; omega), List.getElem?_eq_none (by simp; omega)]
set_option maxRecDepth 20000 in
set_option maxHeartbeats 4000000 in
theorem iAllRunsG (ar : Option Addr) (m cap : Nat) (R : Nat → Rn) (r : Rn) (hm : m ≤ 1048576) (w : World) (h : RnA w ar m cap R) :
 Calls Tryz.prog 28 #[.slice ar m cap, .agg #[rnV r]] w fun e w' => ∃ v, e = .returned v ∧ OwnRn w' w.heap.size v (rnL (snoc R m r) (m + 1)) ∧ Below w.heap.size w w' := by
 obtain ⟨W0, hW0⟩ : ∃ W, W = w.alloc (.cells #[rnV r] 25) := ⟨_, rfl⟩; have hJ : RA W0 w.heap.size 25 #[rnV r] := by rw [hW0]; exact RA.new _ _ _
 have B0 : Hid (Below w.heap.size w W0) := by rw [hW0]; exact balEn (Below.refl _ _) _
 have KC := fun wx (hb : Below w.heap.size w wx) => hid (iCloneG ar m cap R hm wx (h.below hb)); have HLn : Hid ((rnL R m).length + 1 ≤ 1048577) := by show _ ≤ _; rw [rnL_len]; omega
 have HSn := hid (rnL_snoc R m r); have x0 := hJ.cell 0
 generalize rnL R m = L at KC HLn HSn
 generalize rnL (snoc R m r) (m + 1) = L2 at HSn ⊢
 clear h
 go_enter Tryz.func28, Tryz.ntmps28
 go_wp2_with fail
 rw [← hW0]; clear hW0; refine wp_region_held_drew (S := fun wx => wx.cell? ⟨w.heap.size, 0, none⟩ = some (rnV r)) (by kernel_rfl) ?_ (fun hHeld => ?_)
 · exact hJ.cell 0
 refine wpAnyH_take (i := 0) (oi := oIAll0) (v := ?vc0) rfl (by kernel_rfl) (by kernel_rfl) (by kernel_rfl) (fun _ _ _ h => h) (Or.inl ⟨by rfl, ?hyc0⟩) hHeld ?restc0
 case hyc0 => (unfold oIAll0; intro w hSw; (try dsimp only at hSw); go_simp; try with_reducible rfl)
 simp only [oIAll0, Act.put, sAIAll, sBIAll, sCIAll]; refine wpAnyH_take (i := 2) (oi := oIAll1) (v := ?vc2) rfl (by kernel_rfl) (by kernel_rfl) (by kernel_rfl) (fun _ _ _ h => h) (Or.inl ⟨by rfl, ?hyc2⟩) hHeld ?restc2
 case hyc2 => (unfold oIAll1; intro w hSw; (try dsimp only at hSw); go_simp; try with_reducible rfl)
 simp only [oIAll1, Act.put, sAIAll, sBIAll, sCIAll]; refine wpAnyH_ready (rs := [1, 3]) (by kernel_rfl) (by simp) ?_
 refine AllReadyH.cons (o := { dst := some 6, op := Op.call { callee := Callee.value (Operand.func 52), args := #[Operand.tmp 5], argTypes := #[26] }, type := 26, pos := "l08_runs.go:171", after := #[{ on := 0, ground := Ground.data }], guard := none }) rfl (fun K hK => ?_) (AllReadyH.cons (o := { dst := some 8, op := Op.buildSlice 26 1 #[(0, Operand.tmp 7)], type := 26, pos := "l08_runs.go:171", after := #[{ on := 2, ground := Ground.data }], guard := none }) rfl (fun K hK => ?_) AllReadyH.nil)
 · go_simp
   refine (KC _ B0.out.drew).out.mono ?_
   rintro e w1 ⟨v, rfl, hO, hb1⟩
   have hJ1 := RA.nx hb1 hJ.drew; have BW := hid (B0.out.drew.trans (hb1.mono B0.out.size)); have s1 : W0.heap.size ≤ w1.heap.size := hb1.size
   go_wp2_with fail
   refine hK.out _ _ ?_ (fun hHeld => ?_)
   · exact hJ1.cell 0
   clear hK K
   try simp only [Act.put, sAIAll, sBIAll, sCIAll]
   refine wpAnyH_ready (rs := [3]) (by kernel_rfl) (by simp) ?_
   refine AllReadyH.cons (o := { dst := some 8, op := Op.buildSlice 26 1 #[(0, Operand.tmp 7)], type := 26, pos := "l08_runs.go:171", after := #[{ on := 2, ground := Ground.data }], guard := none }) rfl (fun K hK => ?_) AllReadyH.nil
   go_simp
   refine hK.out _ _ ?_ (fun hHeld => ?_)
   · exact (hJ1.alloc _).cell 0
   clear hK K
   try simp only [Act.put, sAIAll, sBIAll, sCIAll]
   refine wpAnyH_ready (rs := [4]) (by kernel_rfl) (by simp) ?_
   refine AllReadyH.cons (o := { dst := some 9, op := Op.call { callee := Callee.builtin Builtin.append, args := #[Operand.tmp 6, Operand.tmp 8], argTypes := #[26, 26] }, type := 26, pos := "l08_runs.go:171", after := #[{ on := 1, ground := Ground.data }, { on := 3, ground := Ground.data }, { on := 1, ground := Ground.chain }], guard := none }) rfl (fun K hK => ?_) AllReadyH.nil
   refine step_append_rn W0.heap.size _ (by rfl) _ _ 26 (by rfl) 25 Tryz.underlying26 Tryz.infoRn _ L r (by rfl) (World.ownsRow.alloc hO _) (by rw [size_al]; omega) w1.heap.size (RA.new w1 _ _) (by rfl) HLn.out ?_; intro g9 c9 w9 hO9 hg9; have gne : ∀ k, v.ownBlock = some k → W0.heap.size ≤ k := fun k hk => (World.ownsRow.lt hO k hk).1
   have hJ9 : RA w9 w.heap.size 25 #[rnV r] := by
    refine (hg9.block w.heap.size (by rw [size_al]; have := hJ1.lt; omega) fun e => ?_).trans (hJ1.alloc _); have := gne _ e.symm; have := hJ.lt
    omega
   refine hK.out _ _ ?_ (fun hHeld => ?_)
   · exact hJ9.cell 0
   clear hK K
   try simp only [Act.put, sAIAll, sBIAll, sCIAll]
   refine wpAnyH_take (i := 5) (oi := oIAll2) (v := ?va5) rfl (by kernel_rfl) (by kernel_rfl) (by kernel_rfl) (fun _ _ _ h => h) (Or.inl ⟨by rfl, ?hya5⟩) hHeld ?resta5
   case hya5 => (unfold oIAll2; intro w hSw; (try dsimp only at hSw); go_simp; try with_reducible rfl)
   simp only [oIAll2, Act.put, sAIAll, sBIAll, sCIAll]; refine wpAnyH_done (by kernel_rfl) ?_ _
   go_wp2
   go_ret
   refine ⟨_, rfl, ?_, (BW.out.alloc BW.out.size _).grown hg9 (by rw [size_al]; have := BW.out.size; omega) fun k hk => Nat.le_trans B0.out.size (gne k hk)⟩; unfold OwnRn; rw [← HSn.out]
   simpa using World.ownsRow.mono hO9 B0.out.size
 · go_simp
   refine hK.out _ _ ?_ (fun hHeld => ?_)
   · exact (hJ.alloc _).cell 0
   clear hK K
   try simp only [Act.put, sAIAll, sBIAll, sCIAll]
   refine wpAnyH_ready (rs := [1]) (by kernel_rfl) (by simp) ?_
   refine AllReadyH.cons (o := { dst := some 6, op := Op.call { callee := Callee.value (Operand.func 52), args := #[Operand.tmp 5], argTypes := #[26] }, type := 26, pos := "l08_runs.go:171", after := #[{ on := 0, ground := Ground.data }], guard := none }) rfl (fun K hK => ?_) AllReadyH.nil
   go_simp
   have BB : Below w.heap.size w (W0.alloc (.cells #[rnV r] 25)).drew := (B0.out.alloc B0.out.size _).drew; refine (KC _ BB).out.mono ?_
   rintro e w1 ⟨v, rfl, hO, hb1⟩
   have hJ1 := RA.nx hb1 (hJ.alloc (.cells #[rnV r] 25)).drew; have hX1 := RA.nx hb1 (RA.new W0 25 #[rnV r]).drew; have BW := hid (BB.trans (hb1.mono BB.size)); have s1 : W0.heap.size ≤ w1.heap.size := Nat.le_trans (by show _ ≤ (W0.alloc _).heap.size; rw [size_al]; omega) hb1.size; have hO' := World.ownsRow.mono hO (show W0.heap.size ≤ (W0.alloc (.cells #[rnV r] 25)).drew.heap.size by show _ ≤ (W0.alloc _).heap.size; rw [size_al]; omega)
   go_wp2_with fail
   refine hK.out _ _ ?_ (fun hHeld => ?_)
   · exact hJ1.cell 0
   clear hK K
   try simp only [Act.put, sAIAll, sBIAll, sCIAll]
   refine wpAnyH_ready (rs := [4]) (by kernel_rfl) (by simp) ?_
   refine AllReadyH.cons (o := { dst := some 9, op := Op.call { callee := Callee.builtin Builtin.append, args := #[Operand.tmp 6, Operand.tmp 8], argTypes := #[26, 26] }, type := 26, pos := "l08_runs.go:171", after := #[{ on := 1, ground := Ground.data }, { on := 3, ground := Ground.data }, { on := 1, ground := Ground.chain }], guard := none }) rfl (fun K hK => ?_) AllReadyH.nil
   refine step_append_rn W0.heap.size _ (by rfl) _ _ 26 (by rfl) 25 Tryz.underlying26 Tryz.infoRn _ L r (by rfl) hO' s1 W0.heap.size hX1 (by rfl) HLn.out ?_; intro g9 c9 w9 hO9 hg9; have gne : ∀ k, v.ownBlock = some k → W0.heap.size ≤ k := fun k hk => (World.ownsRow.lt hO' k hk).1
   have hJ9 : RA w9 w.heap.size 25 #[rnV r] := by
    refine (hg9.block w.heap.size hJ1.lt fun e => ?_).trans hJ1; have := gne _ e.symm; have := hJ.lt
    omega
   refine hK.out _ _ ?_ (fun hHeld => ?_)
   · exact hJ9.cell 0
   clear hK K
   try simp only [Act.put, sAIAll, sBIAll, sCIAll]
   refine wpAnyH_take (i := 5) (oi := oIAll2) (v := ?vb5) rfl (by kernel_rfl) (by kernel_rfl) (by kernel_rfl) (fun _ _ _ h => h) (Or.inl ⟨by rfl, ?hyb5⟩) hHeld ?restb5
   case hyb5 => (unfold oIAll2; intro w hSw; (try dsimp only at hSw); go_simp; try with_reducible rfl)
   simp only [oIAll2, Act.put, sAIAll, sBIAll, sCIAll]; refine wpAnyH_done (by kernel_rfl) ?_ _
   go_wp2
   go_ret
   refine ⟨_, rfl, ?_, BW.out.grown hg9 BW.out.size fun k hk => Nat.le_trans B0.out.size (gne k hk)⟩; unfold OwnRn; rw [← HSn.out]
   simpa using World.ownsRow.mono hO9 B0.out.size
end Go.Proofs.YtcbmgpdpjagaoaaGreat
