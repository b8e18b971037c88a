import Derived.Test.YtekdphfifdfmbaaSScn
import Derived.Test.YtekdphfifdfmbaaSMg
namespace Go.Proofs.Ytekdphfifdfmbaa
open Go.RowKit
set_option linter.unusedVariables false
/-! Tables under way: what an operation does, and how a table lies there. -/
structure TOp where
  kd : Int
  ky : ByteArray
  tx : ByteArray
  sq : Int
  til : ByteArray
  lm : Int
/-- a slice of operations that is read -/
def Tops (w : World) (a : Option Addr) (n cap : Nat) (o : Nat → TOp) : Prop :=
  n ≤ cap ∧ (n = 0 ∨ ∃ b off, a = some ⟨b, off, none⟩ ∧ b < w.heap.size ∧ ∀ k, k < n → w.cell? ⟨b, off + k * 6, none⟩ = some (.int .i64 (o k).kd) ∧ w.cell? ⟨b, off + k * 6 + 1, none⟩ = some (.string (o k).ky) ∧ w.cell? ⟨b, off + k * 6 + 2, none⟩ = some (.string (o k).tx) ∧ w.cell? ⟨b, off + k * 6 + 3, none⟩ = some (.int .i64 (o k).sq) ∧ w.cell? ⟨b, off + k * 6 + 4, none⟩ = some (.string (o k).til) ∧ w.cell? ⟨b, off + k * 6 + 5, none⟩ = some (.int .i64 (o k).lm))
theorem Tops.below {w w' : World} {a : Option Addr} {n cap : Nat} {o : Nat → TOp} (h : Tops w a n cap o) (hb : Below w.heap.size w w') : Tops w' a n cap o := by
  refine ⟨h.1, ?_⟩
  rcases h.2 with h0 | ⟨b, off, rfl, h1, h2⟩
  · exact Or.inl h0
  · refine Or.inr ⟨b, off, rfl, Nat.lt_of_lt_of_le h1 hb.size, fun k hk => ?_⟩
    obtain ⟨c0, c1, c2, c3, c4, c5⟩ := h2 k hk
    exact ⟨(hb.cell (p := ⟨b, _, none⟩) h1).trans c0, (hb.cell (p := ⟨b, _, none⟩) h1).trans c1, (hb.cell (p := ⟨b, _, none⟩) h1).trans c2, (hb.cell (p := ⟨b, _, none⟩) h1).trans c3, (hb.cell (p := ⟨b, _, none⟩) h1).trans c4, (hb.cell (p := ⟨b, _, none⟩) h1).trans c5⟩
structure Tt where
  sq : Int
  fl : Int
  fr : List En
  rs : List (List En)
structure Ot where
  cd : Int
  tx : ByteArray
  en : List En
def Tt.all (t : Tt) : List En := t.fr ++ t.rs.flatten
structure TOk (t : Tt) : Prop where
  q0 : 0 ≤ t.sq
  q1 : t.sq ≤ 4611686018427387904
  cnt : t.all.length ≤ 1000
  m : t.rs.length ≤ 20
  fit : ∀ e ∈ t.all, e.ky.size ≤ 1048576 ∧ e.tx.size ≤ 1048576 ∧ 1 ≤ e.sq ∧ e.sq ≤ t.sq
  uni : ∀ e e', e ∈ t.all → e' ∈ t.all → e.sq = e'.sq → e = e'
/-- B is A in order -/
def SrtOf (A B : List En) : Prop := ∃ S, Sd (enA A) A.length S ∧ B = S.map Prod.fst
def FndOf (A : List En) (k : ByteArray) (q : Int) (x : En) : Prop := ∃ bo, IsB (fun e => e ∈ A) k q bo ∧ x = fndE bo
theorem SrtOf.mem {A B : List En} (h : SrtOf A B) (e : En) : e ∈ B ↔ e ∈ A := by
  obtain ⟨S, hS, rfl⟩ := h
  rw [List.mem_map]
  constructor
  · rintro ⟨x, hx, rfl⟩
    obtain ⟨j, hj, rfl⟩ := (hS.mem x).1 hx
    exact List.mem_of_getElem? (enA_get hj)
  · intro he
    obtain ⟨j, hj, rfl⟩ := List.mem_iff_getElem.1 he
    refine ⟨(enA A j, j), (hS.mem _).2 ⟨j, hj, rfl⟩, ?_⟩
    have := enA_get hj
    rw [List.getElem?_eq_getElem hj] at this
    exact (Option.some.inj this).symm
theorem SrtOf.len {A B : List En} (h : SrtOf A B) : B.length = A.length := by
  obtain ⟨S, hS, rfl⟩ := h
  rw [List.length_map, hS.len]
theorem srt_ex (A : List En) : ∃ B, SrtOf A B := by
  obtain ⟨S, hS⟩ := sd_ex (enA A) A.length
  exact ⟨_, S, hS, rfl⟩
theorem SrtOf.uniq {A B B' : List En} (h : SrtOf A B) (h' : SrtOf A B') : B = B' := by
  obtain ⟨S, hS, rfl⟩ := h
  obtain ⟨S', hS', rfl⟩ := h'
  rw [hS.uniq hS']
/-- the entry that an operation puts -/
def newE (t : Tt) (o : TOp) : En := ⟨o.ky, t.sq + 1, o.kd == 2, if o.kd = 2 then ⟨#[]⟩ else o.tx⟩
/-- what an operation does -/
inductive Stp (t : Tt) (o : TOp) : Tt → Ot → Prop
  | key : (o.kd = 1 ∨ o.kd = 2) → ¬ (1 ≤ o.ky.size ∧ o.ky.size ≤ 200) → Stp t o t ⟨1, ⟨#[]⟩, []⟩
  | big : o.kd = 1 → (1 ≤ o.ky.size ∧ o.ky.size ≤ 200) → 100000 < o.tx.size → Stp t o t ⟨2, ⟨#[]⟩, []⟩
  | full : (o.kd = 1 ∨ o.kd = 2) → (1 ≤ o.ky.size ∧ o.ky.size ≤ 200) → ¬ (o.kd = 1 ∧ 100000 < o.tx.size) → (t.all.length = 1000 ∨ t.sq = 4611686018427387904) → Stp t o t ⟨7, ⟨#[]⟩, []⟩
  | put (B : List En) : (o.kd = 1 ∨ o.kd = 2) → (1 ≤ o.ky.size ∧ o.ky.size ≤ 200) → ¬ (o.kd = 1 ∧ 100000 < o.tx.size) → ¬ (t.all.length = 1000 ∨ t.sq = 4611686018427387904) → SrtOf (t.fr ++ [newE t o]) B → Stp t o ⟨t.sq + 1, t.fl, B, t.rs⟩ ⟨0, ⟨#[]⟩, []⟩
  | flush0 : o.kd = 3 → t.fr = [] → Stp t o t ⟨0, ⟨#[]⟩, []⟩
  | flushF : o.kd = 3 → t.fr ≠ [] → t.rs.length = 20 → Stp t o t ⟨7, ⟨#[]⟩, []⟩
  | flush : o.kd = 3 → t.fr ≠ [] → t.rs.length ≠ 20 → Stp t o ⟨t.sq, t.fl, [], t.rs ++ [t.fr]⟩ ⟨0, ⟨#[]⟩, []⟩
  | compF : o.kd = 4 → (o.sq < t.fl ∨ t.sq < o.sq) → Stp t o t ⟨1, ⟨#[]⟩, []⟩
  | comp0 (B : List En) : o.kd = 4 → ¬ (o.sq < t.fl ∨ t.sq < o.sq) → SrtOf t.rs.flatten B → mgS o.sq none B = [] → Stp t o ⟨t.sq, o.sq, t.fr, []⟩ ⟨0, ⟨#[]⟩, []⟩
  | comp (B : List En) : o.kd = 4 → ¬ (o.sq < t.fl ∨ t.sq < o.sq) → SrtOf t.rs.flatten B → mgS o.sq none B ≠ [] → Stp t o ⟨t.sq, o.sq, t.fr, [mgS o.sq none B]⟩ ⟨0, ⟨#[]⟩, []⟩
  | late : (o.kd = 5 ∨ o.kd = 6) → o.sq < t.fl → Stp t o t ⟨13, ⟨#[]⟩, []⟩
  | ahead : (o.kd = 5 ∨ o.kd = 6) → ¬ o.sq < t.fl → t.sq < o.sq → Stp t o t ⟨1, ⟨#[]⟩, []⟩
  | scan (L : List En) (fe : ByteArray → En) : o.kd = 6 → ¬ o.sq < t.fl → ¬ t.sq < o.sq → SrtOf t.all L → (∀ k, FndOf t.all k o.sq (fe k)) → Stp t o t ⟨0, ⟨#[]⟩, scN o.lm fe L o.ky o.til L.length⟩
  | get (x : En) : o.kd = 5 → ¬ o.sq < t.fl → ¬ t.sq < o.sq → FndOf t.all o.ky o.sq x → Stp t o t ⟨if x.sq = 0 then 5 else 0, x.tx, []⟩
  | other : o.kd ≠ 1 → o.kd ≠ 2 → o.kd ≠ 3 → o.kd ≠ 4 → o.kd ≠ 5 → o.kd ≠ 6 → Stp t o t ⟨1, ⟨#[]⟩, []⟩
theorem mgS_sub (fl : Int) : ∀ (es : List En) (p : Option En), (mgS fl p es).Sublist es
  | [], p => by simp [mgS]
  | e :: r, p => by
    unfold mgS
    split
    · rw [List.nil_append]; exact (mgS_sub fl r _).cons e
    · exact (mgS_sub fl r _).cons_cons e
theorem isB_ex (A : List En) (k : ByteArray) (q : Int) : ∃ bo, IsB (fun e => e ∈ A) k q bo := by
  induction A with
  | nil => exact ⟨none, .inl ⟨rfl, fun e he => by cases he⟩⟩
  | cons x r ih =>
    obtain ⟨bo, hb⟩ := ih
    have mem : ∀ e, e ∈ x :: r ↔ e = x ∨ e ∈ r := fun e => List.mem_cons
    by_cases hm : mtE k q x
    · rcases hb with ⟨h1, h2⟩ | ⟨y, h1, h2, h3, h4⟩
      · refine ⟨some x, .inr ⟨x, rfl, by simp, hm, fun e he hme => ?_⟩⟩
        rcases (mem e).1 he with rfl | he
        · exact Int.le_refl _
        · exact absurd hme (h2 e he)
      · by_cases l : y.sq ≤ x.sq
        · refine ⟨some x, .inr ⟨x, rfl, by simp, hm, fun e he hme => ?_⟩⟩
          rcases (mem e).1 he with rfl | he
          · exact Int.le_refl _
          · have := h4 e he hme; omega
        · refine ⟨some y, .inr ⟨y, rfl, by simp [h2], h3, fun e he hme => ?_⟩⟩
          rcases (mem e).1 he with rfl | he
          · omega
          · exact h4 e he hme
    · exact ⟨bo, hb.cg (fun e he => by simp [he]) (fun e he hme => by rcases (mem e).1 he with rfl | he; exact absurd hme hm; exact he)⟩
theorem fe_ex {t : Tt} (h : TOk t) (q : Int) : ∃ fe : ByteArray → En, (∀ k, FndOf t.all k q (fe k)) ∧ ∀ k x, FndOf t.all k q x → x = fe k := by
  refine ⟨fun k => fndE (isB_ex t.all k q).choose, fun k => ⟨_, (isB_ex t.all k q).choose_spec, rfl⟩, fun k x hx => ?_⟩
  obtain ⟨bo, hb, rfl⟩ := hx
  rw [hb.uniq h.uni (isB_ex t.all k q).choose_spec]
theorem Stp.ok {t t' : Tt} {o : TOp} {u : Ot} (h : TOk t) (hs : Stp t o t' u) : TOk t' := by
  cases hs with
  | put B hk h1 h2 h3 hB =>
    have mem : ∀ e, e ∈ (⟨t.sq + 1, t.fl, B, t.rs⟩ : Tt).all ↔ e ∈ t.all ∨ e = newE t o := fun e => by
      unfold Tt.all
      simp only [List.mem_append, hB.mem, List.mem_singleton]
      constructor
      · rintro ((a | a) | a)
        · exact .inl (.inl a)
        · exact .inr a
        · exact .inl (.inr a)
      · rintro ((a | a) | a)
        · exact .inl (.inl a)
        · exact .inr a
        · exact .inl (.inr a)
    have len : (⟨t.sq + 1, t.fl, B, t.rs⟩ : Tt).all.length = t.all.length + 1 := by unfold Tt.all; simp only [List.length_append, hB.len, List.length_singleton]; omega
    have n1 := fun q => h3 (.inl q)
    have n2 := fun q => h3 (.inr q)
    have c := h.cnt
    have q1 := h.q1
    have q0 := h.q0
    have nsz : (newE t o).ky.size ≤ 1048576 ∧ (newE t o).tx.size ≤ 1048576 := by
      unfold newE
      dsimp only
      refine ⟨by omega, ?_⟩
      by_cases e : o.kd = 2
      · rw [if_pos e]; decide
      · rw [if_neg e]
        rcases hk with k1 | k1
        · have := fun q => h2 ⟨k1, q⟩; omega
        · exact absurd k1 e
    refine ⟨by show 0 ≤ t.sq + 1; omega, by show t.sq + 1 ≤ _; omega, by rw [len]; omega, h.m, fun e he => ?_, fun e e' he he' q => ?_⟩
    · rcases (mem e).1 he with he | rfl
      · have := h.fit e he; refine ⟨this.1, this.2.1, this.2.2.1, ?_⟩; show e.sq ≤ t.sq + 1; omega
      · exact ⟨nsz.1, nsz.2, by show 1 ≤ t.sq + 1; omega, Int.le_refl _⟩
    · rcases (mem e).1 he with he | rfl
      · rcases (mem e').1 he' with he' | rfl
        · exact h.uni e e' he he' q
        · have := h.fit e he
          have : e.sq = t.sq + 1 := q
          omega
      · rcases (mem e').1 he' with he' | rfl
        · have := h.fit e' he'
          have : t.sq + 1 = e'.sq := q
          omega
        · rfl
  | flush hk h1 h2 =>
    have mem : ∀ e, e ∈ (⟨t.sq, t.fl, [], t.rs ++ [t.fr]⟩ : Tt).all ↔ e ∈ t.all := fun e => by
      unfold Tt.all
      simp only [List.flatten_append, List.flatten_cons, List.flatten_nil, List.append_nil, List.nil_append, List.mem_append]
      exact Or.comm
    have len : (⟨t.sq, t.fl, [], t.rs ++ [t.fr]⟩ : Tt).all.length = t.all.length := by
      unfold Tt.all
      simp only [List.flatten_append, List.flatten_cons, List.flatten_nil, List.append_nil, List.nil_append, List.length_append]
      omega
    have := h.m
    exact ⟨h.q0, h.q1, by rw [len]; exact h.cnt, by show (t.rs ++ [t.fr]).length ≤ 20; rw [List.length_append]; show _ + 1 ≤ _; omega, fun e he => h.fit e ((mem e).1 he), fun e e' he he' q => h.uni e e' ((mem e).1 he) ((mem e').1 he') q⟩
  | comp0 B hk h1 h2 h3 =>
    have mem : ∀ e, e ∈ (⟨t.sq, o.sq, t.fr, []⟩ : Tt).all → e ∈ t.all := fun e he => by
      unfold Tt.all at he ⊢
      rw [List.flatten_nil, List.append_nil] at he
      exact List.mem_append_left _ he
    refine ⟨h.q0, h.q1, Nat.le_trans ?_ h.cnt, Nat.zero_le _, fun e he => h.fit e (mem e he), fun e e' he he' q => h.uni e e' (mem e he) (mem e' he') q⟩
    unfold Tt.all
    rw [List.flatten_nil, List.append_nil, List.length_append]
    exact Nat.le_add_right _ _
  | comp B hk h1 h2 h3 =>
    have sub := mgS_sub o.sq B none
    have mem : ∀ e, e ∈ (⟨t.sq, o.sq, t.fr, [mgS o.sq none B]⟩ : Tt).all → e ∈ t.all := fun e he => by
      unfold Tt.all at he ⊢
      simp only [List.flatten_cons, List.flatten_nil, List.append_nil, List.mem_append] at he ⊢
      rcases he with he | he
      · exact .inl he
      · exact .inr ((h2.mem e).1 (sub.subset he))
    refine ⟨h.q0, h.q1, Nat.le_trans ?_ h.cnt, (by decide : 1 ≤ 20), fun e he => h.fit e (mem e he), fun e e' he he' q => h.uni e e' (mem e he) (mem e' he') q⟩
    unfold Tt.all
    simp only [List.flatten_cons, List.flatten_nil, List.append_nil, List.length_append]
    have := sub.length_le
    rw [h2.len] at this
    omega
  | _ => exact h
/-- operations one after another -/
inductive Rns8 (o : Nat → TOp) (t0 : Tt) : Nat → Tt → List Ot → Prop
  | zero : Rns8 o t0 0 t0 []
  | next {i : Nat} {t t' : Tt} {us : List Ot} {u : Ot} : Rns8 o t0 i t us → Stp t (o i) t' u → Rns8 o t0 (i + 1) t' (us ++ [u])
theorem Rns8.ok {o : Nat → TOp} {t0 t : Tt} {i : Nat} {us : List Ot} (h0 : TOk t0) (h : Rns8 o t0 i t us) : TOk t := by
  induction h with
  | zero => exact h0
  | next _ hs ih => exact hs.ok ih
theorem Rns8.len {o : Nat → TOp} {t0 t : Tt} {i : Nat} {us : List Ot} (h : Rns8 o t0 i t us) : us.length = i := by
  induction h with
  | zero => rfl
  | next _ hs ih => rw [List.length_append, ih]; rfl
end Go.Proofs.Ytekdphfifdfmbaa
