import Derived.Test.YtokjfffcciddhaaGreatDoorSRp3
import Derived.Test.YtokjfffcciddhaaGreatDoorClF2
import Derived.Test.YtokjfffcciddhaaGreatDoorSBk2
import Derived.Test.YtokjfffcciddhaaGreatDoorIBk2
import Derived.Test.YtokjfffcciddhaaGreatDoorQJ
import Derived.Maps.OwnSet
import Derived.Maps.Views
import Derived.Deep.QuietTactic
namespace Go.Proofs.YtokjfffcciddhaaGreatDoor
open Go.RowKit
set_option linter.unusedVariables false
/-! A world's configuration; what both sides ask of it. -/
structure Wc where
  a : Option Addr
  n : Nat
  cap : Nat
  x : Nat → Int
  y : Nat → Int
  k : Int
  m : Int
  g : Int
  u : Int
  ka : Option Addr
  kn : Nat
  kc : Nat
  ko : Nat → Ak
  po : ByteArray
  ma : ByteArray
  ni : Int
  kp : Bool
  q : Int
  ra : Option Addr
  rn : Nat
  rc : Nat
  ro : Nat → Lr
  va : Option Addr
  vn : Nat
  vc : Nat
  vo : Nat → Ve
structure WcIn (w : World) (c : Wc) : Prop where
  nd : Prs w c.a c.n c.cap c.x c.y
  ks : Aks w c.ka c.kn c.kc c.ko
  rs : Lrs w c.ra c.rn c.rc c.ro
  vs : Ves w c.va c.vn c.vc c.vo
theorem WcIn.below {w w' : World} {c : Wc} (h : WcIn w c) (hb : Below w.heap.size w w') : WcIn w' c := ⟨h.nd.below hb, h.ks.below hb, h.rs.below hb, h.vs.below hb⟩
structure WcB (c : Wc) : Prop where
  n : c.n ≤ 1048576
  kn : c.kn ≤ 1048576
  ks : ∀ i, i < c.kn → (c.ko i).id.size ≤ 1048576 ∧ (c.ko i).sec.size ≤ 1048576
  po : c.po.size ≤ 1048576
  ma : c.ma.size ≤ 1048576
  rn : c.rn ≤ 1048576
  rs : ∀ i, i < c.rn → (c.ro i).px.size ≤ 1048576
  vn : c.vn ≤ 1048576
  vs : ∀ i, i < c.vn → (c.vo i).ky.size ≤ 1048576 ∧ (c.vo i).dt.size ≤ 1048576
  bt : byN c.vo c.vn ≤ 1073741824
def maP (k : ByteArray) : Prop := 1 ≤ k.size ∧ k.size ≤ 200
def idP2 (o : Nat → Ak) (n : Nat) : Prop := ∀ i, i < n → ∀ k, k < i → (o i).id ≠ (o k).id
def wfP (c : Wc) : Prop := clF c.n c.x c.y c.k c.m c.g c.u = 0 ∧ bkV c.ni c.q c.rn c.ro c.vn c.vo = 0 ∧ c.vn = 0 ∧ c.kp = true ∧ (polO c.po).1 = 0 ∧ maP c.ma ∧ c.kn ≤ 100 ∧ idP2 c.ko c.kn
noncomputable def wfV (c : Wc) : Int := if pb (wfP c) then 0 else 1
theorem wfV_0 {c : Wc} (h : wfP c) : wfV c = 0 := by unfold wfV; rw [pb_t h, if_pos rfl]
theorem wfV_1 {c : Wc} (h : ¬ wfP c) : wfV c = 1 := by unfold wfV; rw [pb_f h]; rfl
/-! Ids that differ: a map of them. -/
def kA (o : Nat → Ak) (k : Nat) : Lit := .string (o k).id.data.toList
def akD (o : Nat → Ak) : Nat → DataW Unit
  | 0 => .map []
  | k + 1 => (akD o k).put (kA o k) (.lit (.int .i64 (k : Int)))
theorem kA_key (o : Nat → Ak) (k : Nat) : WideAt.IsKeyLit (kA o k) := trivial
theorem akD_tidy (o : Nat → Ak) : ∀ n, Maps.Tidy (akD o n)
  | 0 => Maps.tidy_empty
  | n + 1 => (akD_tidy o n).put (kA_key o n) _
theorem kA_inj {o : Nat → Ak} {i k : Nat} : kA o i = kA o k ↔ (o i).id = (o k).id := by
  unfold kA
  constructor
  · intro h
    have h2 : (o i).id.data.toList = (o k).id.data.toList := by injection h
    cases hi : (o i).id
    cases hk : (o k).id
    rw [hi, hk] at h2
    congr 1
    exact Array.toList_inj.1 h2
  · intro h; rw [h]
theorem akD_has (o : Nat → Ak) (x : Lit) : ∀ n, Maps.has (akD o n) x = true ↔ ∃ i, i < n ∧ kA o i = x
  | 0 => by simp [akD, Maps.has]
  | n + 1 => by
    by_cases h : x = kA o n
    · subst h
      exact ⟨fun _ => ⟨n, by omega, rfl⟩, fun _ => Maps.has_put_same (akD_tidy o n).isMap (kA_key o n) _⟩
    · show Maps.has ((akD o n).put (kA o n) _) x = true ↔ _
      rw [Maps.has_put_other h, akD_has o x n]
      constructor
      · rintro ⟨i, hi, e⟩; exact ⟨i, by omega, e⟩
      · rintro ⟨i, hi, e⟩
        rcases Nat.lt_or_ge i n with h1 | h1
        · exact ⟨i, h1, e⟩
        · have : i = n := by omega
          subst this
          exact absurd e.symm h
theorem akD_size_le (o : Nat → Ak) : ∀ n, Maps.size (akD o n) ≤ n
  | 0 => Nat.le_refl _
  | n + 1 => by
    have h := akD_size_le o n
    show Maps.size ((akD o n).put (kA o n) _) ≤ _
    rw [Maps.size_put (akD_tidy o n)]
    split <;> omega
theorem akD_size (o : Nat → Ak) : ∀ n, Maps.size (akD o n) = n ↔ idP2 o n
  | 0 => ⟨fun _ i hi => absurd hi (Nat.not_lt_zero _), fun _ => rfl⟩
  | n + 1 => by
    have ih := akD_size o n
    have hl := akD_size_le o n
    have e : Maps.size (akD o (n + 1)) = if Maps.has (akD o n) (kA o n) then Maps.size (akD o n) else Maps.size (akD o n) + 1 := Maps.size_put (akD_tidy o n) _
    rw [e]
    by_cases hh : Maps.has (akD o n) (kA o n) = true
    · rw [if_pos hh]
      obtain ⟨i, hi, q⟩ := (akD_has o _ n).1 hh
      exact ⟨fun h => absurd h (by omega), fun h => absurd (kA_inj.1 q).symm (h n (by omega) i hi)⟩
    · rw [if_neg hh]
      constructor
      · intro h i hi k hk
        rcases Nat.lt_or_ge i n with h1 | h1
        · exact ih.1 (by omega) i h1 k hk
        · have : i = n := by omega
          subst this
          exact fun q => hh ((akD_has o _ i).2 ⟨k, hk, kA_inj.2 q.symm⟩)
      · intro h
        have := ih.2 fun i hi k hk => h i (by omega) k hk
        omega
theorem wf64A (n : Int) (h0 : 0 ≤ n) (h1 : n ≤ 9223372036854775807) : (Lit.int .i64 n).wf = true := by
  have a : IntKind.i64.min = -9223372036854775808 := rfl
  have b : IntKind.i64.max = 9223372036854775807 := rfl
  show (decide (IntKind.i64.min ≤ n) && decide (n ≤ IntKind.i64.max)) = true
  rw [a, b]
  simp
  omega
theorem lawSA : Maps.Keyed Tryz.prog 9 := Maps.string_keyed Tryz.underlying9
theorem mkMapA (w : World) : (Instr.makeMap 97 none).run Tryz.prog w = .ok (.map (some w.heap.size)) (w.alloc (.map #[] 0)) := by
  simp [Instr.makeMap]
set_option maxRecDepth 20000 in
set_option maxHeartbeats 2000000 in
theorem iKeysD (a : Option Addr) (n cap : Nat) (o : Nat → Ak) (hn : n ≤ 1048576) (hs : ∀ i, i < n → (o i).id.size ≤ 1048576 ∧ (o i).sec.size ≤ 1048576) (w : World) (h : Aks w a n cap o) :
    Calls Tryz.prog 23 #[.slice a n cap] w fun e w' => e = .returned (.bool (pb (n ≤ 100 ∧ idP2 o n))) ∧ Below w.heap.size w w' := by
  by_cases h100 : n ≤ 100
  case neg =>
    have d0 : (100 : Int) < (n : Int) := by omega
    have E : Hid (pb (n ≤ 100 ∧ idP2 o n) = false) := pb_f fun q => h100 q.1
    clear h hs
    go_enter Tryz.func23, Tryz.ntmps23
    go_wp2
    go_ret
    exact ⟨by rw [E.out]; rfl, Below.refl _ _⟩
  have d0 : ¬ (100 : Int) < (n : Int) := by omega
  have HH := hid h
  have HS := hid hs
  clear h hs
  have hmk := fun wx => mkMapA wx
  go_enter Tryz.func23, Tryz.ntmps23
  go_wp2_with fail
  go_loopw [12] (fun q wr => ∃ k : Nat, k ≤ n ∧ q = .int .i64 k ∧ wr.ownsMap Tryz.prog 9 (plainElem Tryz.prog 3) w.heap.size k (akD o k) ∧ Below w.heap.size w wr) (fun q _ => n - (intOf q).toNat)
  case atStart => exact ⟨0, Nat.zero_le _, rfl, World.ownsMap_made w _ _ _, (Below.refl _ _).alloc (Nat.le_refl _) _⟩
  case round =>
    obtain ⟨k, hk, rfl, hM, hB⟩ := hrel
    have HM := hid hM
    have HB := hid hB
    clear hB hM hmk
    by_cases hlt : k < n
    · have hlt' : (k : Int) < (n : Int) := by omega
      have k0 : (0 : Int) ≤ (k : Int) := by omega
      rcases (HH.out.below HB.out).2 with h00 | ⟨b, off, rfl, hbl, hc⟩
      · omega
      obtain ⟨c0, c1⟩ := hc k hlt
      have hsz := (HS.out k hlt).1
      have HKY : Hid (keyOf Tryz.prog 9 (.string (o k).id) = some (kA o k)) := WideMaps.keyOf_string_mk Tryz.underlying9 (by unfold maxLen; omega)
      have HEL : Hid (plainElem (H := Unit) Tryz.prog 3 (.int .i64 (k : Int)) = some (.lit (.int .i64 (k : Int)), [])) := plainElem_int Tryz.underlying3 (wf64A _ (by omega) (by omega))
      obtain ⟨X0, hX0⟩ : ∃ v, v = (o k).id := ⟨_, rfl⟩
      obtain ⟨X1, hX1⟩ : ∃ v, v = (o k).sec := ⟨_, rfl⟩
      rw [← hX0] at c0 HKY hsz
      rw [← hX1] at c1
      clear hc hX0 hX1
      go_wp2_with (first | (refine wpList_mapUpdate_own (H := Unit) _ rfl (.tmp 17) (.tmp 19) (.tmp 20) 97 rfl 9 3 lawSA Tryz.underlying97 (plainElem Tryz.prog 3) w.heap.size k (akD o k) rfl (HM.out.alloc _) (by unfold maxLen; omega) (.string X0) (.int .i64 (k : Int)) (kA o k) rfl rfl HKY.out _ _ HEL.out ?_) | go_in)
      intro w2 hM2 hg2
      have M2 := hid hM2
      have B2 : Hid (Below w.heap.size w w2) := (HB.out.alloc HB.out.size _).grown hg2 (Nat.le_trans HB.out.size (by simp)) (by intro j hj; cases hj; exact Nat.le_refl _)
      clear hM2 hg2 HM HB c0 c1
      go_wp2
      go_roundw
      case rel => exact ⟨k + 1, by omega, by go_num, M2.out, B2.out⟩
      case measure => simp [intOf]; omega
    · have hkn : k = n := by omega
      subst hkn
      have LM := HM.out.len Tryz.underlying97 3
      obtain ⟨S, hS⟩ : ∃ S, S = Maps.size (akD o k) := ⟨_, rfl⟩
      have hSl : S ≤ k := by rw [hS]; exact akD_size_le o k
      have EB : Hid (((S : Int) == (k : Int)) = pb (k ≤ 100 ∧ idP2 o k)) := by
        show _ = _
        by_cases q : idP2 o k
        · rw [pb_t ⟨h100, q⟩, beq_iff_eq]
          rw [hS, (akD_size o k).2 q]
        · rw [pb_f (fun z => q z.2), beq_eq_false_iff_ne]
          intro e
          refine q ((akD_size o k).1 ?_)
          rw [← hS]; omega
      rw [← hS] at LM
      clear hS
      go_wp2
      go_ret
      exact ⟨by rw [← EB.out]; rfl, HB.out⟩
end Go.Proofs.YtokjfffcciddhaaGreatDoor
namespace Go.Proofs.YtokjfffcciddhaaGreatDoor
open Go.RowKit
set_option linter.unusedVariables false
/-! WorldFault: the specification's, the program's. -/
theorem fldP (x0 x1 x2 : Value) (w : World) : (Instr.field 57 (.agg #[x0, x1, x2]) 0).run Tryz.prog w = .ok x0 w := by kernel_rfl
set_option maxRecDepth 20000 in
theorem sMaK (k : ByteArray) (w : World) : Calls Tryz.prog 15 #[.string k] w fun e w' => e = .returned (.bool (pb (maP k))) ∧ w' = w := by
  by_cases h1 : 1 ≤ k.size
  · have d1 : (1 : Int) ≤ (k.size : Int) := by omega
    by_cases h2 : k.size ≤ 200
    · have d2 : (k.size : Int) ≤ 200 := by omega
      have E : Hid (pb (maP k) = true) := pb_t ⟨h1, h2⟩
      go_enter Tryz.func15, Tryz.ntmps15
      go_wp2
      go_ret
      exact ⟨by rw [E.out]; rfl, rfl⟩
    · have d2 : ¬ (k.size : Int) ≤ 200 := by omega
      have d3 : decide ((k.size : Int) ≤ 200) = false := decide_eq_false d2
      have E : Hid (pb (maP k) = false) := pb_f fun q => h2 q.2
      go_enter Tryz.func15, Tryz.ntmps15
      go_wp2
      go_ret
      exact ⟨by rw [E.out]; rfl, rfl⟩
  · have d1 : ¬ (1 : Int) ≤ (k.size : Int) := by omega
    have d3 : decide ((1 : Int) ≤ (k.size : Int)) = false := decide_eq_false d1
    have E : Hid (pb (maP k) = false) := pb_f fun q => h1 q.1
    go_enter Tryz.func15, Tryz.ntmps15
    go_wp2
    go_ret
    exact ⟨by rw [E.out]; rfl, rfl⟩
set_option maxRecDepth 20000 in
theorem iMaK (k : ByteArray) (w : World) : Calls Tryz.prog 22 #[.string k] w fun e w' => e = .returned (.bool (pb (maP k))) ∧ w' = w := by
  by_cases h1 : 1 ≤ k.size
  · have d1 : (1 : Int) ≤ (k.size : Int) := by omega
    by_cases h2 : k.size ≤ 200
    · have d2 : (k.size : Int) ≤ 200 := by omega
      have E : Hid (pb (maP k) = true) := pb_t ⟨h1, h2⟩
      go_enter Tryz.func22, Tryz.ntmps22
      go_wp2
      go_ret
      exact ⟨by rw [E.out]; rfl, rfl⟩
    · have d2 : ¬ (k.size : Int) ≤ 200 := by omega
      have d3 : decide ((k.size : Int) ≤ 200) = false := decide_eq_false d2
      have E : Hid (pb (maP k) = false) := pb_f fun q => h2 q.2
      go_enter Tryz.func22, Tryz.ntmps22
      go_wp2
      go_ret
      exact ⟨by rw [E.out]; rfl, rfl⟩
  · have d1 : ¬ (1 : Int) ≤ (k.size : Int) := by omega
    have d3 : decide ((1 : Int) ≤ (k.size : Int)) = false := decide_eq_false d1
    have E : Hid (pb (maP k) = false) := pb_f fun q => h1 q.1
    go_enter Tryz.func22, Tryz.ntmps22
    go_wp2
    go_ret
    exact ⟨by rw [E.out]; rfl, rfl⟩
def ekP (c : Wc) : Prop := bkV c.ni c.q c.rn c.ro c.vn c.vo = 0 ∧ c.vn = 0 ∧ c.kp = true
set_option maxRecDepth 20000 in
set_option maxHeartbeats 2000000 in
theorem iEmK (c : Wc) (hB : WcB c) (w : World) (h : WcIn w c) :
    Calls Tryz.prog 20 #[.agg #[.int .i64 c.ni, .bool c.kp, .int .i64 c.q, .slice c.ra c.rn c.rc, .slice c.va c.vn c.vc]] w fun e w' => e = .returned (.bool (pb (ekP c))) ∧ Below w.heap.size w w' := by
  obtain ⟨W1, hW1⟩ : ∃ W, W = w.alloc (.cells #[.int .i64 c.ni, .bool c.kp, .int .i64 c.q, .slice c.ra c.rn c.rc, .slice c.va c.vn c.vc] 44) := ⟨_, rfl⟩
  have B1 : Hid (Below w.heap.size w W1) := by rw [hW1]; exact (Below.refl _ _).alloc (Nat.le_refl _) _
  have R1 : Hid (RowAt W1 w.heap.size 44 #[.int .i64 c.ni, .bool c.kp, .int .i64 c.q, .slice c.ra c.rn c.rc, .slice c.va c.vn c.vc]) := by rw [hW1]; exact RowAt.new _ _ _
  have h1 := h.below B1.out
  have K := hid (iBkF c.ni c.kp c.q c.ra c.rn c.rc c.ro c.va c.vn c.vc c.vo hB.rn hB.rs hB.vn hB.vs hB.bt W1 h1.rs h1.vs)
  obtain ⟨F, hF⟩ : ∃ F, F = bkV c.ni c.q c.rn c.ro c.vn c.vo := ⟨_, rfl⟩
  rw [← hF] at K
  have EK : Hid (pb (ekP c) = (decide (F = 0) && decide (c.vn = 0) && c.kp)) := by
    show _ = _
    by_cases q : ekP c
    · rw [pb_t q]
      obtain ⟨q1, q2, q3⟩ := q
      rw [← hF] at q1
      simp [q1, q2, q3]
    · rw [pb_f q]
      unfold ekP at q
      rw [← hF] at q
      cases hk : c.kp with
      | false => simp
      | true =>
        rw [hk] at q
        by_cases e1 : F = 0
        · by_cases e2 : c.vn = 0
          · exact absurd ⟨e1, e2, rfl⟩ q
          · simp [e2]
        · simp [e1]
  have hvn := hB.vn
  clear h h1 hB hF
  obtain ⟨ca, cn, ccap, cx, cy, ck, cm, cg, cu, ka, kn, kc, ko, po, ma, ni, kp, q, ra, rn, rc, ro, va, vn, vc, vo⟩ := c
  dsimp only at K R1 hW1 EK hvn ⊢
  have r0 := R1.out.cell 0
  have r1 := R1.out.cell 1
  have r2 := R1.out.cell 2
  have r3 := R1.out.cell 3
  have r4 := R1.out.cell 4
  go_enter Tryz.func20, Tryz.ntmps20
  go_upto_region 1 with fail
  rw [← hW1]
  clear hW1
  go_wp2_with fail
  refine K.out.mono ?_
  rintro e w2 ⟨rfl, hb2⟩
  have R2 := hid (R1.out.below hb2 R1.out.lt)
  have B2 := hid (B1.out.trans (hb2.mono B1.out.size))
  clear hb2 K r0 r1 r2 r3 r4
  have r1 := R2.out.cell 1
  have r4 := R2.out.cell 4
  by_cases h0 : F = 0
  · subst h0
    by_cases h1 : vn = 0
    · subst h1
      cases kp with
      | true =>
        go_wp2
        go_ret
        exact ⟨by rw [EK.out]; rfl, B2.out⟩
      | false =>
        go_wp2
        go_ret
        exact ⟨by rw [EK.out]; rfl, B2.out⟩
    · have d1 : ¬ (vn : Int) = 0 := by omega
      have d2 : ((vn : Int) == 0) = false := beq_eq_false_iff_ne.2 d1
      have E2 : Hid (pb (ekP ⟨ca, cn, ccap, cx, cy, ck, cm, cg, cu, ka, kn, kc, ko, po, ma, ni, kp, q, ra, rn, rc, ro, va, vn, vc, vo⟩) = false) := by show _ = _; rw [EK.out]; simp [h1]
      go_wp2
      go_ret
      exact ⟨by rw [E2.out]; rfl, B2.out⟩
  · have d0 : (F == 0) = false := beq_eq_false_iff_ne.2 h0
    have E2 : Hid (pb (ekP ⟨ca, cn, ccap, cx, cy, ck, cm, cg, cu, ka, kn, kc, ko, po, ma, ni, kp, q, ra, rn, rc, ro, va, vn, vc, vo⟩) = false) := by show _ = _; rw [EK.out]; simp [h0]
    go_wp2
    go_ret
    exact ⟨by rw [E2.out]; rfl, B2.out⟩
set_option maxRecDepth 20000 in
set_option maxHeartbeats 8000000 in
theorem iWf (c : Wc) (hB : WcB c) (w : World) (hv : RdV w) (h : WcIn w c) :
    Calls Tryz.prog 7 #[.agg #[.slice c.a c.n c.cap, .int .i64 c.k, .int .i64 c.m, .int .i64 c.g, .int .i64 c.u, .slice c.ka c.kn c.kc, .string c.po, .string c.ma, .int .i64 c.ni, .bool c.kp, .int .i64 c.q, .slice c.ra c.rn c.rc, .slice c.va c.vn c.vc]] w fun e w' => e = .returned (.int .i64 (wfV c)) ∧ Below w.heap.size w w' := by
  obtain ⟨W1, hW1⟩ : ∃ W, W = w.alloc (.cells #[.slice c.a c.n c.cap, .int .i64 c.k, .int .i64 c.m, .int .i64 c.g, .int .i64 c.u, .slice c.ka c.kn c.kc, .string c.po, .string c.ma, .int .i64 c.ni, .bool c.kp, .int .i64 c.q, .slice c.ra c.rn c.rc, .slice c.va c.vn c.vc] 46) := ⟨_, rfl⟩
  have B1 : Hid (Below w.heap.size w W1) := by rw [hW1]; exact (Below.refl _ _).alloc (Nat.le_refl _) _
  have R1 : Hid (RowAt W1 w.heap.size 46 #[.slice c.a c.n c.cap, .int .i64 c.k, .int .i64 c.m, .int .i64 c.g, .int .i64 c.u, .slice c.ka c.kn c.kc, .string c.po, .string c.ma, .int .i64 c.ni, .bool c.kp, .int .i64 c.q, .slice c.ra c.rn c.rc, .slice c.va c.vn c.vc]) := by rw [hW1]; exact RowAt.new _ _ _
  have hfl := fldP
  have KC : ∀ wx, Below w.heap.size w wx → _ := fun wx hb => hid (iClF c.a c.n c.cap c.x c.y c.k c.m c.g c.u hB.n wx (h.below hb).nd)
  unfold ccv at KC
  have KB : ∀ wx, Below w.heap.size w wx → _ := fun wx hb => hid (iEmK c hB wx (h.below hb))
  have KP : ∀ wx, Below w.heap.size w wx → _ := fun wx hb => hid (iReadP c.po hB.po wx (hv.below hb))
  have KM : ∀ wx, _ := fun wx => hid (iMaK c.ma wx)
  have KK : ∀ wx, Below w.heap.size w wx → _ := fun wx hb => hid (iKeysD c.ka c.kn c.kc c.ko hB.kn hB.ks wx (h.below hb).ks)
  obtain ⟨F1, hF1⟩ : ∃ F, F = clF c.n c.x c.y c.k c.m c.g c.u := ⟨_, rfl⟩
  obtain ⟨b2, hb2⟩ : ∃ b, b = pb (ekP c) := ⟨_, rfl⟩
  obtain ⟨b4, hb4⟩ : ∃ b, b = pb (maP c.ma) := ⟨_, rfl⟩
  obtain ⟨b5, hb5⟩ : ∃ b, b = pb (c.kn ≤ 100 ∧ idP2 c.ko c.kn) := ⟨_, rfl⟩
  rw [← hF1] at KC
  rw [← hb2] at KB
  rw [← hb4] at KM
  rw [← hb5] at KK
  have W0 : Hid (F1 = 0 → b2 = true → (polO c.po).1 = 0 → b4 = true → b5 = true → wfV c = 0) := fun q1 q2 q3 q4 q5 => by
    rw [hF1] at q1; rw [hb2] at q2; rw [hb4] at q4; rw [hb5] at q5
    have e2 := pb_iff.1 q2
    have e4 := pb_iff.1 q4
    have e5 := pb_iff.1 q5
    exact wfV_0 ⟨q1, e2.1, e2.2.1, e2.2.2, q3, e4, e5.1, e5.2⟩
  have V1 : Hid (¬ F1 = 0 ∨ b2 = false ∨ ¬ (polO c.po).1 = 0 ∨ b4 = false ∨ b5 = false → wfV c = 1) := fun q => wfV_1 fun z => by
    obtain ⟨z1, z2, z3, z4, z5, z6, z7, z8⟩ := z
    rcases q with q | q | q | q | q
    · exact q (hF1.trans z1)
    · rw [hb2, pb_t ⟨z2, z3, z4⟩] at q; cases q
    · exact q z5
    · rw [hb4, pb_t z6] at q; cases q
    · rw [hb5, pb_t ⟨z7, z8⟩] at q; cases q
  obtain ⟨V, hV⟩ : ∃ V, V = wfV c := ⟨_, rfl⟩
  rw [← hV] at W0 V1 ⊢
  have BS := hid B1.out.size
  clear h hv hB hF1 hb2 hb4 hb5 hV
  obtain ⟨ca, cn, ccap, cx, cy, ck, cm, cg, cu, ka, kn, kc, ko, po, ma, ni, kp, q, ra, rn, rc, ro, va, vn, vc, vo⟩ := c
  dsimp only at KC KB KP KM KK R1 hW1 W0 V1 ⊢
  have r0 := R1.out.cell 0
  have r1 := R1.out.cell 1
  have r2 := R1.out.cell 2
  have r3 := R1.out.cell 3
  have r4 := R1.out.cell 4
  go_enter Tryz.func7, Tryz.ntmps7
  go_upto_region 1 with fail
  rw [← hW1]
  clear hW1
  go_wp2_with fail
  refine (KC W1 B1.out).out.mono ?_
  rintro e w2 ⟨rfl, hb⟩
  have R2 := hid (R1.out.below hb R1.out.lt)
  have B2 := hid (B1.out.trans (hb.mono B1.out.size))
  clear hb KC r0 r1 r2 r3 r4 R1 B1
  by_cases h0 : F1 = 0
  case neg =>
    have d0 : (F1 == 0) = false := beq_eq_false_iff_ne.2 h0
    have E := hid (V1.out (.inl h0))
    go_wp2
    go_ret
    exact ⟨by rw [E.out]; rfl, B2.out⟩
  subst h0
  have r8 := R2.out.cell 8
  have r9 := R2.out.cell 9
  have r10 := R2.out.cell 10
  have r11 := R2.out.cell 11
  have r12 := R2.out.cell 12
  go_wp2_with fail
  refine (KB w2 B2.out).out.mono ?_
  rintro e w3 ⟨rfl, hb⟩
  have R3 := hid (R2.out.below hb R2.out.lt)
  have B3 := hid (B2.out.trans (hb.mono B2.out.size))
  clear hb KB r8 r9 r10 r11 r12 R2 B2
  cases b2 with
  | false =>
    have E := hid (V1.out (.inr (.inl rfl)))
    go_wp2
    go_ret
    exact ⟨by rw [E.out]; rfl, B3.out⟩
  | true =>
    have r6 := R3.out.cell 6
    go_wp2_with fail
    refine (KP w3 B3.out).out.mono ?_
    rintro e w4 ⟨v4, rfl, _, hb⟩
    have R4 := hid (R3.out.below hb R3.out.lt)
    have B4 := hid (B3.out.trans (hb.mono B3.out.size))
    obtain ⟨F2, hF2⟩ : ∃ F, F = (polO po).1 := ⟨_, rfl⟩
    obtain ⟨F3, hF3⟩ : ∃ F, F = (polO po).2.1 := ⟨_, rfl⟩
    rw [← hF2] at W0 V1 ⊢
    rw [← hF3]
    clear hb KP r6 R3 B3 hF2 hF3
    by_cases h0 : F2 = 0
    case neg =>
      have d0 : (F2 == 0) = false := beq_eq_false_iff_ne.2 h0
      have E := hid (V1.out (.inr (.inr (.inl h0))))
      go_wp2
      go_ret
      exact ⟨by rw [E.out]; rfl, B4.out⟩
    subst h0
    have r7 := R4.out.cell 7
    go_wp2_with fail
    refine (KM w4).out.mono ?_
    rintro e w5 ⟨rfl, hw5⟩
    obtain rfl := hw5.symm
    clear hw5 KM r7
    cases b4 with
    | false =>
      have E := hid (V1.out (.inr (.inr (.inr (.inl rfl)))))
      go_wp2
      go_ret
      exact ⟨by rw [E.out]; rfl, B4.out⟩
    | true =>
      have r5 := R4.out.cell 5
      go_wp2_with fail
      refine (KK w4 B4.out).out.mono ?_
      rintro e w6 ⟨rfl, hb⟩
      have B6 := hid (B4.out.trans (hb.mono B4.out.size))
      clear hb KK r5
      cases b5 with
      | false =>
        have E := hid (V1.out (.inr (.inr (.inr (.inr rfl)))))
        go_wp2
        go_ret
        exact ⟨by rw [E.out]; rfl, B6.out⟩
      | true =>
        have E := hid (W0.out (by first | trivial | rfl) (by first | trivial | rfl) (by first | trivial | rfl) (by first | trivial | rfl) (by first | trivial | rfl))
        go_wp2
        go_ret
        exact ⟨by rw [E.out]; rfl, B6.out⟩
set_option maxRecDepth 20000 in
set_option maxHeartbeats 8000000 in
theorem sWf (c : Wc) (hB : WcB c) (w : World) (h : WcIn w c) :
    Calls Tryz.prog 5 #[.agg #[.slice c.a c.n c.cap, .int .i64 c.k, .int .i64 c.m, .int .i64 c.g, .int .i64 c.u, .slice c.ka c.kn c.kc, .string c.po, .string c.ma, .int .i64 c.ni, .bool c.kp, .int .i64 c.q, .slice c.ra c.rn c.rc, .slice c.va c.vn c.vc]] w fun e w' => e = .returned (.int .i64 (wfV c)) ∧ Below w.heap.size w w' := by
  obtain ⟨W1, hW1⟩ : ∃ W, W = w.alloc (.cells #[.slice c.a c.n c.cap, .int .i64 c.k, .int .i64 c.m, .int .i64 c.g, .int .i64 c.u, .slice c.ka c.kn c.kc, .string c.po, .string c.ma, .int .i64 c.ni, .bool c.kp, .int .i64 c.q, .slice c.ra c.rn c.rc, .slice c.va c.vn c.vc] 46) := ⟨_, rfl⟩
  have B1 : Hid (Below w.heap.size w W1) := by rw [hW1]; exact (Below.refl _ _).alloc (Nat.le_refl _) _
  have R1 : Hid (RowAt W1 w.heap.size 46 #[.slice c.a c.n c.cap, .int .i64 c.k, .int .i64 c.m, .int .i64 c.g, .int .i64 c.u, .slice c.ka c.kn c.kc, .string c.po, .string c.ma, .int .i64 c.ni, .bool c.kp, .int .i64 c.q, .slice c.ra c.rn c.rc, .slice c.va c.vn c.vc]) := by rw [hW1]; exact RowAt.new _ _ _
  have hfl := fldP
  have KC : ∀ wx, Below w.heap.size w wx → _ := fun wx hb => hid (sClF c.a c.n c.cap c.x c.y c.k c.m c.g c.u hB.n wx (h.below hb).nd)
  unfold ccv at KC
  have KB : ∀ wx, Below w.heap.size w wx → _ := fun wx hb => hid (sBkF c.ni c.kp c.q c.ra c.rn c.rc c.ro c.va c.vn c.vc c.vo hB.rn hB.rs hB.vn hB.vs hB.bt wx (h.below hb).rs (h.below hb).vs)
  have KP : ∀ wx, _ := fun wx => hid (sReadP c.po hB.po wx)
  have KM : ∀ wx, _ := fun wx => hid (sMaK c.ma wx)
  have HKS : Hid (∀ wx, Below w.heap.size w wx → Aks wx c.ka c.kn c.kc c.ko) := fun wx hb => (h.below hb).ks
  obtain ⟨F1, hF1⟩ : ∃ F, F = clF c.n c.x c.y c.k c.m c.g c.u := ⟨_, rfl⟩
  obtain ⟨F2, hF2⟩ : ∃ F, F = bkV c.ni c.q c.rn c.ro c.vn c.vo := ⟨_, rfl⟩
  obtain ⟨b4, hb4⟩ : ∃ b, b = pb (maP c.ma) := ⟨_, rfl⟩
  rw [← hF1] at KC
  rw [← hF2] at KB
  rw [← hb4] at KM
  have W0 : Hid (F1 = 0 → F2 = 0 → c.vn = 0 → c.kp = true → (polO c.po).1 = 0 → b4 = true → c.kn ≤ 100 → idP2 c.ko c.kn → wfV c = 0) := fun q1 q2 q3 q4 q5 q6 q7 q8 => by
    rw [hF1] at q1; rw [hF2] at q2; rw [hb4] at q6
    exact wfV_0 ⟨q1, q2, q3, q4, q5, pb_iff.1 q6, q7, q8⟩
  have V1 : Hid (¬ F1 = 0 ∨ ¬ F2 = 0 ∨ ¬ c.vn = 0 ∨ c.kp = false ∨ ¬ (polO c.po).1 = 0 ∨ b4 = false ∨ ¬ c.kn ≤ 100 ∨ ¬ idP2 c.ko c.kn → wfV c = 1) := fun q => wfV_1 fun z => by
    obtain ⟨z1, z2, z3, z4, z5, z6, z7, z8⟩ := z
    rcases q with q | q | q | q | q | q | q | q
    · exact q (hF1.trans z1)
    · exact q (hF2.trans z2)
    · exact q z3
    · rw [z4] at q; cases q
    · exact q z5
    · rw [hb4, pb_t z6] at q; cases q
    · exact q z7
    · exact q z8
  obtain ⟨V, hV⟩ : ∃ V, V = wfV c := ⟨_, rfl⟩
  rw [← hV] at W0 V1 ⊢
  have hknb := hB.kn
  have hvnb := hB.vn
  clear h hB hF1 hF2 hb4 hV
  obtain ⟨ca, cn, ccap, cx, cy, ck, cm, cg, cu, ka, kn, kc, ko, po, ma, ni, kp, q, ra, rn, rc, ro, va, vn, vc, vo⟩ := c
  dsimp only at KC KB KP KM HKS R1 hW1 W0 V1 hknb hvnb ⊢
  have r0 := R1.out.cell 0
  have r1 := R1.out.cell 1
  have r2 := R1.out.cell 2
  have r3 := R1.out.cell 3
  have r4 := R1.out.cell 4
  go_enter Tryz.func5, Tryz.ntmps5
  go_upto_region 1 with fail
  rw [← hW1]
  clear hW1
  go_wp2_with fail
  refine (KC W1 B1.out).out.mono ?_
  rintro e w2 ⟨rfl, hb⟩
  have R2 := hid (R1.out.below hb R1.out.lt)
  have B2 := hid (B1.out.trans (hb.mono B1.out.size))
  clear hb KC r0 r1 r2 r3 r4 R1 B1
  by_cases h0 : F1 = 0
  case neg =>
    have d0 : (F1 == 0) = false := beq_eq_false_iff_ne.2 h0
    have E := hid (V1.out (.inl h0))
    go_wp2
    go_ret
    exact ⟨by rw [E.out]; rfl, B2.out⟩
  subst h0
  have r8 := R2.out.cell 8
  have r9 := R2.out.cell 9
  have r10 := R2.out.cell 10
  have r11 := R2.out.cell 11
  have r12 := R2.out.cell 12
  go_wp2_with fail
  refine (KB w2 B2.out).out.mono ?_
  rintro e w3 ⟨rfl, hb⟩
  have R3 := hid (R2.out.below hb R2.out.lt)
  have B3 := hid (B2.out.trans (hb.mono B2.out.size))
  clear hb KB r8 r9 r10 r11 r12 R2 B2
  by_cases h0 : F2 = 0
  case neg =>
    have d0 : (F2 == 0) = false := beq_eq_false_iff_ne.2 h0
    have E := hid (V1.out (.inr (.inl h0)))
    go_wp2
    go_ret
    exact ⟨by rw [E.out]; rfl, B3.out⟩
  subst h0
  have r9 := R3.out.cell 9
  have r12 := R3.out.cell 12
  by_cases h0 : vn = 0
  case neg =>
    have d0 : (0 : Int) < (vn : Int) := by omega
    have E := hid (V1.out (.inr (.inr (.inl h0))))
    go_wp2
    go_ret
    exact ⟨by rw [E.out]; rfl, B3.out⟩
  subst h0
  cases kp with
  | false =>
    have E := hid (V1.out (.inr (.inr (.inr (.inl rfl)))))
    go_wp2
    go_ret
    exact ⟨by rw [E.out]; rfl, B3.out⟩
  | true =>
    have r6 := R3.out.cell 6
    go_wp2_with fail
    refine (KP w3).out.mono ?_
    rintro e w4 ⟨v4, rfl, _, hb⟩
    have R4 := hid (R3.out.below hb R3.out.lt)
    have B4 := hid (B3.out.trans (hb.mono B3.out.size))
    obtain ⟨F3, hF3⟩ : ∃ F, F = (polO po).1 := ⟨_, rfl⟩
    obtain ⟨F4, hF4⟩ : ∃ F, F = (polO po).2.1 := ⟨_, rfl⟩
    rw [← hF3] at W0 V1 ⊢
    rw [← hF4]
    clear hb KP r6 r9 r12 R3 B3 hF3 hF4
    by_cases h0 : F3 = 0
    case neg =>
      have d0 : (F3 == 0) = false := beq_eq_false_iff_ne.2 h0
      have E := hid (V1.out (.inr (.inr (.inr (.inr (.inl h0))))))
      go_wp2
      go_ret
      exact ⟨by rw [E.out]; rfl, B4.out⟩
    subst h0
    have r7 := R4.out.cell 7
    have r5 := R4.out.cell 5
    go_wp2_with fail
    refine (KM w4).out.mono ?_
    rintro e w5 ⟨rfl, hw5⟩
    obtain rfl := hw5.symm
    clear hw5 KM r7
    cases b4 with
    | false =>
      have E := hid (V1.out (.inr (.inr (.inr (.inr (.inr (.inl rfl)))))))
      go_wp2
      go_ret
      exact ⟨by rw [E.out]; rfl, B4.out⟩
    | true =>
      by_cases h100 : kn ≤ 100
      case neg =>
        have d0 : (100 : Int) < (kn : Int) := by omega
        have E := hid (V1.out (.inr (.inr (.inr (.inr (.inr (.inr (.inl h100))))))))
        go_wp2
        go_ret
        exact ⟨by rw [E.out]; rfl, B4.out⟩
      have d0 : ¬ (100 : Int) < (kn : Int) := by omega
      have KS := hid (HKS.out w4 B4.out)
      go_wp2_with fail
      go_loopw [3] (fun v3 wr => ∃ i : Nat, i ≤ kn ∧ v3 = .int .i64 (i : Int) ∧ idP2 ko i ∧ wr.heap = w4.heap ∧ Below w.heap.size w wr) (fun v3 _ => kn - (intOf v3).toNat)
      case atStart => exact ⟨0, Nat.zero_le _, rfl, fun i hi => absurd hi (Nat.not_lt_zero _), rfl, B4.out⟩
      case round =>
        rename World => wo
        obtain ⟨i, hi, rfl, hid2, hh, hB⟩ := hrel
        have ID := hid hid2
        have HH := hid hh
        have HB := hid hB
        have CO : Hid (∀ a, wo.cell? a = w4.cell? a) := fun a => by unfold World.cell?; rw [hh]
        clear hid2 hh hB
        have s5 : wo.cell? ⟨w.heap.size, 5, none⟩ = some (.slice ka kn kc) := (CO.out _).trans r5
        by_cases hlt : i < kn
        · have hlt' : (i : Int) < (kn : Int) := by omega
          have i0 : (0 : Int) ≤ (i : Int) := by omega
          rcases KS.out.2 with h00 | ⟨b, off, rfl, hbl, hc⟩
          · omega
          have HC := hid hc
          clear hc
          go_wp2_with fail
          go_loopw [4] (fun v4 wr => ∃ k : Nat, k ≤ i ∧ v4 = .int .i64 (k : Int) ∧ (∀ a, a < k → (ko i).id ≠ (ko a).id) ∧ wr.heap = w4.heap ∧ Below w.heap.size w wr) (fun v4 _ => i - (intOf v4).toNat)
          case atStart => exact ⟨0, Nat.zero_le _, rfl, fun a ha => absurd ha (Nat.not_lt_zero _), HH.out, HB.out⟩
          case round =>
            obtain ⟨k, hk, rfl, hne, hh, hB⟩ := hrel
            have NE := hid hne
            have HH2 := hid hh
            have HB2 := hid hB
            have CR : Hid (∀ a, wr.cell? a = w4.cell? a) := fun a => by unfold World.cell?; rw [hh]
            clear hne hh hB
            by_cases hki : k < i
            · have hki' : (k : Int) < (i : Int) := by omega
              have k0 : (0 : Int) ≤ (k : Int) := by omega
              have hkn' : (k : Int) < (kn : Int) := by omega
              obtain ⟨x, hx⟩ : ∃ x, x = (ko i).id := ⟨_, rfl⟩
              obtain ⟨y, hy⟩ : ∃ y, y = (ko k).id := ⟨_, rfl⟩
              have cx : wr.cell? ⟨b, off + i * 2, none⟩ = some (.string x) := by rw [hx]; exact (CR.out _).trans (HC.out i hlt).1
              have cy : wr.cell? ⟨b, off + k * 2, none⟩ = some (.string y) := by rw [hy]; exact (CR.out _).trans (HC.out k (by omega)).1
              have t5 : wr.cell? ⟨w.heap.size, 5, none⟩ = some (.slice (some ⟨b, off, none⟩) kn kc) := (CR.out _).trans r5
              have HXY : Hid (x = (ko i).id ∧ y = (ko k).id) := ⟨hx, hy⟩
              clear hx hy
              by_cases q : x = y
              · have q1 : (x.toList == y.toList) = true := (eqL _ _).trans (decide_eq_true q)
                have E := hid (V1.out (.inr (.inr (.inr (.inr (.inr (.inr (.inr fun zz => zz i hlt k hki (by rw [← HXY.out.1, ← HXY.out.2]; exact q)))))))))
                have B5 : Hid (∀ z, Below w.heap.size w (wr.drewN z)) := fun z => below_drewN' HB2.out z
                clear q
                go_upto_region 9 with fail
                go_quiet (fail)
                go_wp2
                go_ret
                exact ⟨by rw [E.out]; rfl, B5.out _⟩
              · have q1 : (x.toList == y.toList) = false := (eqL _ _).trans (decide_eq_false q)
                have N2 : Hid (∀ a, a < k + 1 → (ko i).id ≠ (ko a).id) := fun a ha => by
                  by_cases e : a = k
                  · subst e; rw [← HXY.out.1, ← HXY.out.2]; exact q
                  · exact NE.out a (by omega)
                have B5 : Hid (∀ z, Below w.heap.size w (wr.drewN z)) := fun z => below_drewN' HB2.out z
                clear q
                go_upto_region 9 with fail
                go_quiet (fail)
                go_wp2
                go_roundw
                case rel => exact ⟨k + 1, by omega, by go_num, N2.out, HH2.out, B5.out _⟩
                case measure => simp [intOf]; omega
            · have hki' : ¬ (k : Int) < (i : Int) := by omega
              have I2 : Hid (idP2 ko (i + 1)) := fun a ha k' hk' => by
                by_cases e : a = i
                · subst e; exact NE.out k' (by omega)
                · exact ID.out a (by omega) k' hk'
              go_wp2
              go_roundw
              case rel => exact ⟨i + 1, by omega, by go_num, I2.out, HH2.out, HB2.out⟩
              case measure => simp [intOf]; omega
        · have hlt' : ¬ (i : Int) < (kn : Int) := by omega
          have ei : i = kn := by omega
          have E := hid (W0.out (by first | trivial | rfl) (by first | trivial | rfl) (by first | trivial | rfl) (by first | trivial | rfl) (by first | trivial | rfl) (by first | trivial | rfl) h100 (by rw [← ei]; exact ID.out))
          clear ei
          go_wp2
          go_ret
          exact ⟨by rw [E.out]; rfl, HB.out⟩
end Go.Proofs.YtokjfffcciddhaaGreatDoor
