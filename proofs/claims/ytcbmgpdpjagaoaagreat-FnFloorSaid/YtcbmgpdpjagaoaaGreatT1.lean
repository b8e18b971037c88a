import Derived.Test.YtcbmgpdpjagaoaaGreatSScn
import Derived.Test.YtcbmgpdpjagaoaaGreatSMg
import Derived.Test.YtcbmgpdpjagaoaaGreatS2
namespace Go.Proofs.YtcbmgpdpjagaoaaGreat
open Go.RowKit
set_option linter.unusedVariables false
structure TOp where
 kd : Int
 ky : ByteArray
 tx : ByteArray
 sq : Int
 til : ByteArray
 lm : Int
def Tops (w : World) (a : Option Addr) (n cap : Nat) (o : Nat → TOp) : Prop :=
 n ≤ cap ∧ (n = 0 ∨ ∃ b off, a = some ⟨b, off, none⟩ ∧ b < w.heap.size ∧ ∀ k, k < n → w.cell? ⟨b, off + k * 6, none⟩ = some (.int .i64 (o k).kd) ∧ w.cell? ⟨b, off + k * 6 + 1, none⟩ = some (.string (o k).ky) ∧ w.cell? ⟨b, off + k * 6 + 2, none⟩ = some (.string (o k).tx) ∧ w.cell? ⟨b, off + k * 6 + 3, none⟩ = some (.int .i64 (o k).sq) ∧ w.cell? ⟨b, off + k * 6 + 4, none⟩ = some (.string (o k).til) ∧ w.cell? ⟨b, off + k * 6 + 5, none⟩ = some (.int .i64 (o k).lm))
theorem Tops.below {w w' : World} {a : Option Addr} {n cap : Nat} {o : Nat → TOp} (h : Tops w a n cap o) (hb : Below w.heap.size w w') : Tops w' a n cap o := by
 refine ⟨h.1, ?_⟩
 rcases h.2 with h0 | ⟨b, off, rfl, h1, h2⟩
 · exact Or.inl h0
 · refine Or.inr ⟨b, off, rfl, Nat.lt_of_lt_of_le h1 hb.size, fun k hk => ?_⟩
   obtain ⟨c0, c1, c2, c3, c4, c5⟩ := h2 k hk; exact ⟨(hb.cell (p := ⟨b, _, none⟩) h1).trans c0, (hb.cell (p := ⟨b, _, none⟩) h1).trans c1, (hb.cell (p := ⟨b, _, none⟩) h1).trans c2, (hb.cell (p := ⟨b, _, none⟩) h1).trans c3, (hb.cell (p := ⟨b, _, none⟩) h1).trans c4, (hb.cell (p := ⟨b, _, none⟩) h1).trans c5⟩
structure Tt where
 sq : Int
 fl : Int
 fr : List En
 rs : List (List En)
structure Ot where
 cd : Int
 tx : ByteArray
 en : List En
def Tt.all (t : Tt) : List En := t.fr ++ t.rs.flatten
structure TOk (t : Tt) : Prop where
 q0 : 0 ≤ t.sq
 q1 : t.sq ≤ 4611686018427387904
 cnt : t.all.length ≤ 1000
 m : t.rs.length ≤ 20
 fit : ∀ e ∈ t.all, e.ky.size ≤ 1048576 ∧ e.tx.size ≤ 1048576 ∧ 1 ≤ e.sq ∧ e.sq ≤ t.sq
 uni : ∀ e e', e ∈ t.all → e' ∈ t.all → e.sq = e'.sq → e = e'
def SrtOf (A B : List En) : Prop := ∃ S, Sd (enA A) A.length S ∧ B = S.map Prod.fst
def FndOf (A : List En) (k : ByteArray) (q : Int) (x : En) : Prop := ∃ bo, IsB (fun e => e ∈ A) k q bo ∧ x = fndE bo
theorem SrtOf.mem {A B : List En} (h : SrtOf A B) (e : En) : e ∈ B ↔ e ∈ A := by
 obtain ⟨S, hS, rfl⟩ := h; rw [List.mem_map]
 constructor
 · rintro ⟨x, hx, rfl⟩
   obtain ⟨j, hj, rfl⟩ := (hS.mem x).1 hx; exact List.mem_of_getElem? (enA_get hj)
 · intro he
   obtain ⟨j, hj, rfl⟩ := List.mem_iff_getElem.1 he; refine ⟨(enA A j, j), (hS.mem _).2 ⟨j, hj, rfl⟩, ?_⟩; have := enA_get hj; rw [List.getElem?_eq_getElem hj] at this; exact (Option.some.inj this).symm
theorem SrtOf.len {A B : List En} (h : SrtOf A B) : B.length = A.length := by
 obtain ⟨S, hS, rfl⟩ := h; rw [List.length_map, hS.len]
theorem srt_ex (A : List En) : ∃ B, SrtOf A B := by
 obtain ⟨S, hS⟩ := sd_ex (enA A) A.length; exact ⟨_, S, hS, rfl⟩
theorem SrtOf.uniq {A B B' : List En} (h : SrtOf A B) (h' : SrtOf A B') : B = B' := by
 obtain ⟨S, hS, rfl⟩ := h; obtain ⟨S', hS', rfl⟩ := h'; rw [hS.uniq hS']
def newE (t : Tt) (o : TOp) : En := ⟨o.ky, t.sq + 1, o.kd == 2, if o.kd = 2 then ⟨#[]⟩ else o.tx⟩
inductive Stp (t : Tt) (o : TOp) : Tt → Ot → Prop
 | key : (o.kd = 1 ∨ o.kd = 2) → ¬ (1 ≤ o.ky.size ∧ o.ky.size ≤ 200) → Stp t o t ⟨1, ⟨#[]⟩, []⟩
 | big : o.kd = 1 → (1 ≤ o.ky.size ∧ o.ky.size ≤ 200) → 100000 < o.tx.size → Stp t o t ⟨2, ⟨#[]⟩, []⟩
 | full : (o.kd = 1 ∨ o.kd = 2) → (1 ≤ o.ky.size ∧ o.ky.size ≤ 200) → ¬ (o.kd = 1 ∧ 100000 < o.tx.size) → (t.all.length = 1000 ∨ t.sq = 4611686018427387904) → Stp t o t ⟨7, ⟨#[]⟩, []⟩
 | put (B : List En) : (o.kd = 1 ∨ o.kd = 2) → (1 ≤ o.ky.size ∧ o.ky.size ≤ 200) → ¬ (o.kd = 1 ∧ 100000 < o.tx.size) → ¬ (t.all.length = 1000 ∨ t.sq = 4611686018427387904) → SrtOf (t.fr ++ [newE t o]) B → Stp t o ⟨t.sq + 1, t.fl, B, t.rs⟩ ⟨0, ⟨#[]⟩, []⟩
 | flush0 : o.kd = 3 → t.fr = [] → Stp t o t ⟨0, ⟨#[]⟩, []⟩
 | flushF : o.kd = 3 → t.fr ≠ [] → t.rs.length = 20 → Stp t o t ⟨7, ⟨#[]⟩, []⟩
 | flush : o.kd = 3 → t.fr ≠ [] → t.rs.length ≠ 20 → Stp t o ⟨t.sq, t.fl, [], t.rs ++ [t.fr]⟩ ⟨0, ⟨#[]⟩, []⟩
 | compF : o.kd = 4 → (o.sq < t.fl ∨ t.sq < o.sq) → Stp t o t ⟨1, ⟨#[]⟩, []⟩
 | comp0 (B : List En) : o.kd = 4 → ¬ (o.sq < t.fl ∨ t.sq < o.sq) → SrtOf t.rs.flatten B → mgS o.sq none B = [] → Stp t o ⟨t.sq, o.sq, t.fr, []⟩ ⟨0, ⟨#[]⟩, []⟩
 | comp (B : List En) : o.kd = 4 → ¬ (o.sq < t.fl ∨ t.sq < o.sq) → SrtOf t.rs.flatten B → mgS o.sq none B ≠ [] → Stp t o ⟨t.sq, o.sq, t.fr, [mgS o.sq none B]⟩ ⟨0, ⟨#[]⟩, []⟩
 | late : (o.kd = 5 ∨ o.kd = 6) → o.sq < t.fl → Stp t o t ⟨13, ⟨#[]⟩, []⟩
 | ahead : (o.kd = 5 ∨ o.kd = 6) → ¬ o.sq < t.fl → t.sq < o.sq → Stp t o t ⟨1, ⟨#[]⟩, []⟩
 | scan (L : List En) (fe : ByteArray → En) : o.kd = 6 → ¬ o.sq < t.fl → ¬ t.sq < o.sq → SrtOf t.all L → (∀ k, FndOf t.all k o.sq (fe k)) → Stp t o t ⟨0, ⟨#[]⟩, scN o.lm fe L o.ky o.til L.length⟩
 | get (x : En) : o.kd = 5 → ¬ o.sq < t.fl → ¬ t.sq < o.sq → FndOf t.all o.ky o.sq x → Stp t o t ⟨if x.sq = 0 then 5 else 0, x.tx, []⟩
 | other : o.kd ≠ 1 → o.kd ≠ 2 → o.kd ≠ 3 → o.kd ≠ 4 → o.kd ≠ 5 → o.kd ≠ 6 → Stp t o t ⟨1, ⟨#[]⟩, []⟩
theorem mgS_sub (fl : Int) : ∀ (es : List En) (p : Option En), (mgS fl p es).Sublist es
 | [], p => by simp [mgS]
 | e :: r, p => by
  unfold mgS
  split
  · rw [List.nil_append]; exact (mgS_sub fl r _).cons e
  · exact (mgS_sub fl r _).cons_cons e
theorem isB_ex (A : List En) (k : ByteArray) (q : Int) : ∃ bo, IsB (fun e => e ∈ A) k q bo := by
 induction A with
 | nil => exact ⟨none, .inl ⟨rfl, fun e he => by cases he⟩⟩
 | cons x r ih =>
  obtain ⟨bo, hb⟩ := ih; have mem : ∀ e, e ∈ x :: r ↔ e = x ∨ e ∈ r := fun e => List.mem_cons
  by_cases hm : mtE k q x
  · rcases hb with ⟨h1, h2⟩ | ⟨y, h1, h2, h3, h4⟩
    · refine ⟨some x, .inr ⟨x, rfl, by simp, hm, fun e he hme => ?_⟩⟩
      rcases (mem e).1 he with rfl | he
      · exact Int.le_refl _
      · exact absurd hme (h2 e he)
    · by_cases l : y.sq ≤ x.sq
      · refine ⟨some x, .inr ⟨x, rfl, by simp, hm, fun e he hme => ?_⟩⟩
        rcases (mem e).1 he with rfl | he
        · exact Int.le_refl _
        · have := h4 e he hme; omega
      · refine ⟨some y, .inr ⟨y, rfl, by simp [h2], h3, fun e he hme => ?_⟩⟩
        rcases (mem e).1 he with rfl | he
        · omega
        · exact h4 e he hme
  · exact ⟨bo, hb.cg (fun e he => by simp [he]) (fun e he hme => by rcases (mem e).1 he with rfl | he; exact absurd hme hm; exact he)⟩
theorem fe_ex {t : Tt} (h : TOk t) (q : Int) : ∃ fe : ByteArray → En, (∀ k, FndOf t.all k q (fe k)) ∧ ∀ k x, FndOf t.all k q x → x = fe k := by
 refine ⟨fun k => fndE (isB_ex t.all k q).choose, fun k => ⟨_, (isB_ex t.all k q).choose_spec, rfl⟩, fun k x hx => ?_⟩; obtain ⟨bo, hb, rfl⟩ := hx; rw [hb.uniq h.uni (isB_ex t.all k q).choose_spec]
theorem Stp.ok {t t' : Tt} {o : TOp} {u : Ot} (h : TOk t) (hs : Stp t o t' u) : TOk t' := by
 cases hs with
 | put B hk h1 h2 h3 hB =>
  have mem : ∀ e, e ∈ (⟨t.sq + 1, t.fl, B, t.rs⟩ : Tt).all ↔ e ∈ t.all ∨ e = newE t o := fun e => by
   unfold Tt.all; simp only [List.mem_append, hB.mem, List.mem_singleton]
   constructor
   · rintro ((a | a) | a)
     · exact .inl (.inl a)
     · exact .inr a
     · exact .inl (.inr a)
   · rintro ((a | a) | a)
     · exact .inl (.inl a)
     · exact .inr a
     · exact .inl (.inr a)
  have len : (⟨t.sq + 1, t.fl, B, t.rs⟩ : Tt).all.length = t.all.length + 1 := by unfold Tt.all; simp only [List.length_append, hB.len, List.length_singleton]; omega
  have n1 := fun q => h3 (.inl q); have n2 := fun q => h3 (.inr q); have c := h.cnt; have q1 := h.q1; have q0 := h.q0
  have nsz : (newE t o).ky.size ≤ 1048576 ∧ (newE t o).tx.size ≤ 1048576 := by
   unfold newE; dsimp only; refine ⟨by omega, ?_⟩
   by_cases e : o.kd = 2
   · rw [if_pos e]; decide
   · rw [if_neg e]
     rcases hk with k1 | k1
     · have := fun q => h2 ⟨k1, q⟩; omega
     · exact absurd k1 e
  refine ⟨by show 0 ≤ t.sq + 1; omega, by show t.sq + 1 ≤ _; omega, by rw [len]; omega, h.m, fun e he => ?_, fun e e' he he' q => ?_⟩
  · rcases (mem e).1 he with he | rfl
    · have := h.fit e he; refine ⟨this.1, this.2.1, this.2.2.1, ?_⟩; show e.sq ≤ t.sq + 1; omega
    · exact ⟨nsz.1, nsz.2, by show 1 ≤ t.sq + 1; omega, Int.le_refl _⟩
  · rcases (mem e).1 he with he | rfl
    · rcases (mem e').1 he' with he' | rfl
      · exact h.uni e e' he he' q
      · have := h.fit e he
        have : e.sq = t.sq + 1 := q
        omega
    · rcases (mem e').1 he' with he' | rfl
      · have := h.fit e' he'
        have : t.sq + 1 = e'.sq := q
        omega
      · rfl
 | flush hk h1 h2 =>
  have mem : ∀ e, e ∈ (⟨t.sq, t.fl, [], t.rs ++ [t.fr]⟩ : Tt).all ↔ e ∈ t.all := fun e => by
   unfold Tt.all; simp only [List.flatten_append, List.flatten_cons, List.flatten_nil, List.append_nil, List.nil_append, List.mem_append]; exact Or.comm
  have len : (⟨t.sq, t.fl, [], t.rs ++ [t.fr]⟩ : Tt).all.length = t.all.length := by
   unfold Tt.all; simp only [List.flatten_append, List.flatten_cons, List.flatten_nil, List.append_nil, List.nil_append, List.length_append]
   omega
  have := h.m; exact ⟨h.q0, h.q1, by rw [len]; exact h.cnt, by show (t.rs ++ [t.fr]).length ≤ 20; rw [List.length_append]; show _ + 1 ≤ _; omega, fun e he => h.fit e ((mem e).1 he), fun e e' he he' q => h.uni e e' ((mem e).1 he) ((mem e').1 he') q⟩
 | comp0 B hk h1 h2 h3 =>
  have mem : ∀ e, e ∈ (⟨t.sq, o.sq, t.fr, []⟩ : Tt).all → e ∈ t.all := fun e he => by
   unfold Tt.all at he ⊢; rw [List.flatten_nil, List.append_nil] at he; exact List.mem_append_left _ he
  refine ⟨h.q0, h.q1, Nat.le_trans ?_ h.cnt, Nat.zero_le _, fun e he => h.fit e (mem e he), fun e e' he he' q => h.uni e e' (mem e he) (mem e' he') q⟩; unfold Tt.all; rw [List.flatten_nil, List.append_nil, List.length_append]; exact Nat.le_add_right _ _
 | comp B hk h1 h2 h3 =>
  have sub := mgS_sub o.sq B none
  have mem : ∀ e, e ∈ (⟨t.sq, o.sq, t.fr, [mgS o.sq none B]⟩ : Tt).all → e ∈ t.all := fun e he => by
   unfold Tt.all at he ⊢; simp only [List.flatten_cons, List.flatten_nil, List.append_nil, List.mem_append] at he ⊢
   rcases he with he | he
   · exact .inl he
   · exact .inr ((h2.mem e).1 (sub.subset he))
  refine ⟨h.q0, h.q1, Nat.le_trans ?_ h.cnt, (by decide : 1 ≤ 20), fun e he => h.fit e (mem e he), fun e e' he he' q => h.uni e e' (mem e he) (mem e' he') q⟩; unfold Tt.all; simp only [List.flatten_cons, List.flatten_nil, List.append_nil, List.length_append]; have := sub.length_le; rw [h2.len] at this
  omega
 | _ => exact h
inductive Rns8 (o : Nat → TOp) (t0 : Tt) : Nat → Tt → List Ot → Prop
 | zero : Rns8 o t0 0 t0 []
 | next {i : Nat} {t t' : Tt} {us : List Ot} {u : Ot} : Rns8 o t0 i t us → Stp t (o i) t' u → Rns8 o t0 (i + 1) t' (us ++ [u])
theorem Rns8.ok {o : Nat → TOp} {t0 t : Tt} {i : Nat} {us : List Ot} (h0 : TOk t0) (h : Rns8 o t0 i t us) : TOk t := by
 induction h with
 | zero => exact h0
 | next _ hs ih => exact hs.ok ih
theorem Rns8.len {o : Nat → TOp} {t0 t : Tt} {i : Nat} {us : List Ot} (h : Rns8 o t0 i t us) : us.length = i := by
 induction h with
 | zero => rfl
 | next _ hs ih => rw [List.length_append, ih]; rfl
end Go.Proofs.YtcbmgpdpjagaoaaGreat
namespace Go.Proofs.YtcbmgpdpjagaoaaGreat
open Go.RowKit
set_option linter.unusedVariables false
theorem row_ne {W : World} {g b : Nat} {t t' : TypeId} {cs cs' : Array Value} (h : RA W g t cs) (h' : RA W b t' cs') (ht : t ≠ t') : g ≠ b := fun e => by
 subst e; have := h.symm.trans h'
 injection this with this
 injection this with _ this
 exact ht this
theorem or_keep {w w' : World} {base k n : Nat} {t : TypeId} {v : Value} {cs : List Value} (h : w.ownsRow base t k v n cs) (hk : ∀ g cur, v.ownBlock = some g → RA w g t cur → RA w' g t cur) : w'.ownsRow base t k v n cs := by
 refine ⟨h.1, ?_⟩
 rcases h.2 with h0 | ⟨g, cap, cur, he, hb, hr, r⟩
 · exact .inl h0
 · exact .inr ⟨g, cap, cur, he, hb, hk g cur (by rw [he]; rfl) hr, r⟩
theorem or_row {w : World} {base k n : Nat} {t : TypeId} {v : Value} {cs : List Value} (h : w.ownsRow base t k v n cs) {g : Nat} (hg : v.ownBlock = some g) : base ≤ g ∧ g < w.heap.size ∧ ∃ cur, RA w g t cur := by
 rcases h.2 with ⟨rfl, _⟩ | ⟨g', cap, cur, rfl, hb, hr, r⟩
 · cases hg
 · have e : g' = g := Option.some.inj hg
   subst e; exact ⟨hb, (show RA w g' t cur from hr).lt, cur, hr⟩
theorem or_slice {w : World} {base k n : Nat} {t : TypeId} {v : Value} {cs : List Value} (h : w.ownsRow base t k v n cs) : ∃ a c, v = .slice a n c := by
 rcases h.2 with ⟨h0, h1⟩ | ⟨g, cap, cur, he, _⟩
 · exact ⟨_, _, by rw [h0, h1]⟩
 · exact ⟨_, _, he⟩
def ouL (O : List (Ot × Value)) : List Value := O.flatMap fun p => [.int .i64 p.1.cd, .string p.1.tx, p.2]
theorem ouL_app (A B : List (Ot × Value)) : ouL (A ++ B) = ouL A ++ ouL B := by simp [ouL]
structure RtI (w W : World) (X b rb base : Nat) (t : Tt) (vF vR : Value) (Q : List (Value × List En)) (vO : Value) (O : List (Ot × Value)) : Prop where
 res : RA W X 35 #[.int .i64 0, .int .i64 0, .slice none 0 0, .slice none 0 0, .slice none 0 0]
 tb : RA W b 28 #[.int .i64 t.sq, .int .i64 t.fl, vF, vR]
 rr : RA W rb 35 #[.int .i64 0, .int .i64 0, .slice none 0 0, .slice none 0 0, vO]
 fr : OwnEn W base vF t.fr
 rs : W.ownsRow base 25 1 vR Q.length (Q.map Prod.fst)
 ru : ∀ p ∈ Q, OwnEn W base p.1 p.2
 ap : ∀ p ∈ Q, ∀ g, p.1.ownBlock = some g → vF.ownBlock ≠ some g
 eq : Q.map Prod.snd = t.rs
 ou : W.ownsRow base 41 3 vO O.length (ouL O)
 oe : ∀ p ∈ O, OwnEn W base p.2 p.1.en
 oa : ∀ p ∈ O, ∀ g, p.2.ownBlock = some g → vF.ownBlock ≠ some g
 bl : Below w.heap.size w W
 sz : base ≤ W.heap.size
 nx : w.heap.size ≤ X ∧ w.heap.size ≤ b ∧ w.heap.size ≤ rb ∧ w.heap.size ≤ base ∧ X ≠ rb
theorem RtI.keep {w W W' : World} {X b rb base : Nat} {t : Tt} {vF vR : Value} {Q : List (Value × List En)} {vO : Value} {O : List (Ot × Value)} (h : RtI w W X b rb base t vF vR Q vO O) (hk : ∀ g ty cs, RA W g ty cs → RA W' g ty cs) (hb : Below w.heap.size w W') (hs : base ≤ W'.heap.size) : RtI w W' X b rb base t vF vR Q vO O :=
 ⟨hk _ _ _ h.res, hk _ _ _ h.tb, hk _ _ _ h.rr, h.fr.keep fun g cs _ r => hk _ _ _ r, or_keep h.rs fun g cs _ r => hk _ _ _ r, fun p hp => (h.ru p hp).keep fun g cs _ r => hk _ _ _ r, h.ap, h.eq, or_keep h.ou fun g cs _ r => hk _ _ _ r, fun p hp => (h.oe p hp).keep fun g cs _ r => hk _ _ _ r, h.oa, hb, hs, h.nx⟩
theorem RtI.below {w W W' : World} {X b rb base : Nat} {t : Tt} {vF vR : Value} {Q : List (Value × List En)} {vO : Value} {O : List (Ot × Value)} (h : RtI w W X b rb base t vF vR Q vO O) (hb : Below W.heap.size W W') : RtI w W' X b rb base t vF vR Q vO O :=
 h.keep (fun g ty cs r => r.below hb r.lt) (h.bl.trans (hb.mono h.bl.size)) (Nat.le_trans h.sz hb.size)
theorem RtI.num {w W : World} {X b rb base : Nat} {t : Tt} {vF vR : Value} {Q : List (Value × List En)} {vO : Value} {O : List (Ot × Value)} (h : RtI w W X b rb base t vF vR Q vO O) (t' : Tt) (hf : t'.fr = t.fr) (hr : t'.rs = t.rs) (i : Nat) (v : Value) (he : (#[.int .i64 t.sq, .int .i64 t.fl, vF, vR] : Array Value).setIfInBounds i v = #[.int .i64 t'.sq, .int .i64 t'.fl, vF, vR]) : RtI w (W.setCell ⟨b, i, none⟩ v) X b rb base t' vF vR Q vO O := by
 have ok : ∀ {g ty cs}, RA W g ty cs → ty ≠ 28 → RA (W.setCell ⟨b, i, none⟩ v) g ty cs := fun {g ty cs} r hn => r.other _ _ (row_ne r h.tb hn); refine ⟨ok h.res (by decide), ?_, ok h.rr (by decide), ?_, or_keep h.rs fun g cs _ r => ok r (by decide), fun p hp => (h.ru p hp).keep fun g cs _ r => ok r (by decide), h.ap, by rw [hr]; exact h.eq, or_keep h.ou fun g cs _ r => ok r (by decide), fun p hp => (h.oe p hp).keep fun g cs _ r => ok r (by decide), h.oa, h.bl.setCell (by show w.heap.size ≤ b; exact h.nx.2.1) _, Nat.le_trans h.sz grown_set.size, h.nx⟩
 · have := h.tb.set i v
   rw [he] at this; exact this
 · rw [hf]; exact h.fr.keep fun g cs _ r => ok r (by decide)
theorem RtI.fresh {w W W1 W2 : World} {X b rb base : Nat} {t : Tt} {vF vR : Value} {Q : List (Value × List En)} {vO : Value} {O : List (Ot × Value)} (h : RtI w W X b rb base t vF vR Q vO O) (hg : W.grownBy W1 vF.ownBlock) (hb : Below W1.heap.size W1 W2) {v' : Value} {B : List En} (hO : OwnEn W2 W1.heap.size v' B) : RtI w (W2.setCell ⟨b, 2, none⟩ v') X b rb base ⟨t.sq, t.fl, B, t.rs⟩ v' vR Q vO O := by
 have k1 : ∀ {g ty cs}, RA W g ty cs → vF.ownBlock ≠ some g → RA W1 g ty cs := fun {g ty cs} r hn => (hg.block g r.lt (fun e => hn e.symm)).trans r
 have ne : ∀ {g ty cs}, RA W g ty cs → ty ≠ 46 → vF.ownBlock ≠ some g := fun {g ty cs} r hn e => by
  obtain ⟨_, _, cs', r'⟩ := h.fr.row e; exact row_ne r r' hn rfl
 have k2 : ∀ {g ty cs}, RA W g ty cs → vF.ownBlock ≠ some g → RA W2 g ty cs := fun {g ty cs} r hn => (k1 r hn).below hb (k1 r hn).lt; have tb2 := k2 h.tb (ne h.tb (by decide)); have k3 : ∀ {g ty cs}, RA W g ty cs → vF.ownBlock ≠ some g → ty ≠ 28 → RA (W2.setCell ⟨b, 2, none⟩ v') g ty cs := fun {g ty cs} r hn ht => (k2 r hn).other _ _ (row_ne (k2 r hn) tb2 ht); have new : ∀ g, v'.ownBlock = some g → W1.heap.size ≤ g := fun g e => (hO.row e).1; have b1 : Below w.heap.size w W1 := h.bl.grown hg h.bl.size (fun g e => by have := (h.fr.row e).1; have := h.nx.2.2.2.1; omega); have b2 := b1.trans (hb.mono b1.size); refine ⟨k3 h.res (ne h.res (by decide)) (by decide), ?_, k3 h.rr (ne h.rr (by decide)) (by decide), ?_, or_keep h.rs fun g cs e r => k3 r (ne r (by decide)) (by decide), fun p hp => (h.ru p hp).keep fun g cs e r => k3 r (h.ap p hp g e) (by decide), ?_, h.eq, or_keep h.ou fun g cs e r => k3 r (ne r (by decide)) (by decide), fun p hp => (h.oe p hp).keep fun g cs e r => k3 r (h.oa p hp g e) (by decide), ?_, b2.setCell (by show w.heap.size ≤ b; exact h.nx.2.1) _, Nat.le_trans h.sz (Nat.le_trans hg.size (Nat.le_trans hb.size grown_set.size)), h.nx⟩
 · exact tb2.set 2 v'
 · refine OwnEn.baseUp (hO.keep fun g cs e r => r.other _ _ (row_ne r tb2 (by decide))) (Nat.le_trans h.sz hg.size)
 · intro p hp g e e2
   have a1 := ((h.ru p hp).row e).2.1; have a2 := new g e2; have := hg.size
   omega
 · intro p hp g e e2
   have a1 := ((h.oe p hp).row e).2.1; have a2 := new g e2; have := hg.size
   omega
theorem RtI.run {w W W1 : World} {X b rb base : Nat} {t : Tt} {vF vR : Value} {Q : List (Value × List En)} {vO : Value} {O : List (Ot × Value)} (h : RtI w W X b rb base t vF vR Q vO O) (hg : W.grownBy W1 vR.ownBlock) {v' : Value} {p : Value × List En} (hp : OwnEn W base p.1 p.2) (hr : W1.ownsRow base 25 1 v' (Q ++ [p]).length ((Q ++ [p]).map Prod.fst)) {vF' : Value} {F' : List En} (hF : OwnEn W base vF' F') (hx : ∀ q ∈ Q ++ [p], ∀ g, q.1.ownBlock = some g → vF'.ownBlock ≠ some g) (hy : ∀ q ∈ O, ∀ g, q.2.ownBlock = some g → vF'.ownBlock ≠ some g) {W3 : World} (h3 : ∀ g ty cs, RA (W1.setCell ⟨b, 3, none⟩ v') g ty cs → ty ≠ 28 → RA W3 g ty cs) (h4 : RA W3 b 28 #[.int .i64 t.sq, .int .i64 t.fl, vF', v']) (h5 : Below w.heap.size w W3) (h6 : base ≤ W3.heap.size) : RtI w W3 X b rb base ⟨t.sq, t.fl, F', t.rs ++ [p.2]⟩ vF' v' (Q ++ [p]) vO O := by
 have ne : ∀ {g ty cs}, RA W g ty cs → ty ≠ 25 → vR.ownBlock ≠ some g := fun {g ty cs} r hn e => by
  obtain ⟨_, _, cs', r'⟩ := or_row h.rs e; exact row_ne r r' hn rfl
 have k1 : ∀ {g ty cs}, RA W g ty cs → ty ≠ 25 → RA W1 g ty cs := fun {g ty cs} r hn => (hg.block g r.lt (fun e => ne r hn e.symm)).trans r; have tb1 := k1 h.tb (by decide); have k2 : ∀ {g ty cs}, RA W1 g ty cs → ty ≠ 28 → RA W3 g ty cs := fun {g ty cs} r hn => h3 g ty cs (r.other _ _ (row_ne r tb1 hn)) hn; refine ⟨k2 (k1 h.res (by decide)) (by decide), h4, k2 (k1 h.rr (by decide)) (by decide), hF.keep fun g cs _ r => k2 (k1 r (by decide)) (by decide), or_keep hr fun g cs _ r => k2 r (by decide), fun q hq => ?_, hx, ?_, or_keep h.ou fun g cs _ r => k2 (k1 r (by decide)) (by decide), fun q hq => (h.oe q hq).keep fun g cs _ r => k2 (k1 r (by decide)) (by decide), hy, h5, h6, h.nx⟩
 · rcases List.mem_append.1 hq with hq | hq
   · exact (h.ru q hq).keep fun g cs _ r => k2 (k1 r (by decide)) (by decide)
   · rw [List.mem_singleton] at hq
     subst hq; exact hp.keep fun g cs _ r => k2 (k1 r (by decide)) (by decide)
 · rw [List.map_append, h.eq]; rfl
theorem RtI.empt {w W : World} {X b rb base : Nat} {t : Tt} {vF vR : Value} {Q : List (Value × List En)} {vO : Value} {O : List (Ot × Value)} (h : RtI w W X b rb base t vF vR Q vO O) : RtI w ((W.alloc (.cells #[] 25)).setCell ⟨b, 3, none⟩ (.slice (some ⟨W.heap.size, 0, none⟩) 0 0)) X b rb base ⟨t.sq, t.fl, t.fr, []⟩ vF (.slice (some ⟨W.heap.size, 0, none⟩) 0 0) [] vO O := by
 have h1 := h.below ((Below.refl W.heap.size W).alloc (Nat.le_refl _) (.cells #[] 25)); have ok : ∀ {g ty cs}, RA (W.alloc (.cells #[] 25)) g ty cs → ty ≠ 28 → RA ((W.alloc (.cells #[] 25)).setCell ⟨b, 3, none⟩ (.slice (some ⟨W.heap.size, 0, none⟩) 0 0)) g ty cs := fun {g ty cs} r hn => r.other _ _ (row_ne r h1.tb hn); refine ⟨ok h1.res (by decide), h1.tb.set 3 _, ok h1.rr (by decide), h1.fr.keep fun g cs _ r => ok r (by decide), ?_, (fun p hp => by cases hp), (fun p hp => by cases hp), rfl, or_keep h1.ou fun g cs _ r => ok r (by decide), fun p hp => (h1.oe p hp).keep fun g cs _ r => ok r (by decide), h.oa, h1.bl.setCell (by show w.heap.size ≤ b; exact h.nx.2.1) _, Nat.le_trans h1.sz grown_set.size, h.nx⟩; exact or_keep (World.ownsRow_made W #[] 0 h.sz (by decide) rfl) fun g cs _ r => ok r (by decide)
theorem RtI.out {w W W1 : World} {X b rb base : Nat} {t : Tt} {vF vR : Value} {Q : List (Value × List En)} {vO : Value} {O : List (Ot × Value)} (h : RtI w W X b rb base t vF vR Q vO O) (hg : W.grownBy W1 vO.ownBlock) {v' : Value} {p : Ot × Value} (hp : OwnEn W base p.2 p.1.en) (hx : ∀ g, p.2.ownBlock = some g → vF.ownBlock ≠ some g) (hr : W1.ownsRow base 41 3 v' (O ++ [p]).length (ouL (O ++ [p]))) : RtI w (W1.setCell ⟨rb, 4, none⟩ v') X b rb base t vF vR Q v' (O ++ [p]) := by
 have ne : ∀ {g ty cs}, RA W g ty cs → ty ≠ 41 → vO.ownBlock ≠ some g := fun {g ty cs} r hn e => by
  obtain ⟨_, _, cs', r'⟩ := or_row h.ou e; exact row_ne r r' hn rfl
 have k1 : ∀ {g ty cs}, RA W g ty cs → ty ≠ 41 → RA W1 g ty cs := fun {g ty cs} r hn => (hg.block g r.lt (fun e => ne r hn e.symm)).trans r; have rr1 := k1 h.rr (by decide); have k2 : ∀ {g ty cs}, RA W1 g ty cs → g ≠ rb → RA (W1.setCell ⟨rb, 4, none⟩ v') g ty cs := fun {g ty cs} r hn => r.other _ _ hn; have k3 : ∀ {g ty cs}, RA W g ty cs → ty ≠ 41 → ty ≠ 35 → RA (W1.setCell ⟨rb, 4, none⟩ v') g ty cs := fun {g ty cs} r h1 h2 => k2 (k1 r h1) (row_ne (k1 r h1) rr1 h2); have b1 : Below w.heap.size w W1 := h.bl.grown hg h.bl.size (fun g e => by have := (or_row h.ou e).1; have := h.nx.2.2.2.1; omega); refine ⟨k2 (k1 h.res (by decide)) h.nx.2.2.2.2, k3 h.tb (by decide) (by decide), rr1.set 4 v', h.fr.keep fun g cs _ r => k3 r (by decide) (by decide), or_keep h.rs fun g cs _ r => k3 r (by decide) (by decide), fun q hq => (h.ru q hq).keep fun g cs _ r => k3 r (by decide) (by decide), h.ap, h.eq, or_keep hr fun g cs _ r => k2 r (row_ne r rr1 (by decide)), fun q hq => ?_, fun q hq => ?_, b1.setCell (by show w.heap.size ≤ rb; exact h.nx.2.2.1) _, Nat.le_trans h.sz (Nat.le_trans hg.size grown_set.size), h.nx⟩
 · rcases List.mem_append.1 hq with hq | hq
   · exact (h.oe q hq).keep fun g cs _ r => k3 r (by decide) (by decide)
   · rw [List.mem_singleton] at hq
     subst hq; exact hp.keep fun g cs _ r => k3 r (by decide) (by decide)
 · rcases List.mem_append.1 hq with hq | hq
   · exact h.oa q hq
   · rw [List.mem_singleton] at hq
     subst hq; exact hx
def rnOf (p : Value × List En) : Rn := match p.1 with
 | .slice a n c => ⟨a, n, c, enA p.2⟩
 | _ => ⟨none, 0, 0, enA p.2⟩
theorem range_enA (L : List En) : (List.range L.length).map (enA L) = L := by
 apply List.ext_getElem?
 intro i
 by_cases hi : i < L.length
 · rw [List.getElem?_map, List.getElem?_range hi, enA_get hi]; rfl
 · rw [List.getElem?_eq_none (by simp; omega), List.getElem?_eq_none (by omega)]
theorem OwnEn.rnOf {w : World} {base : Nat} {p : Value × List En} (h : OwnEn w base p.1 p.2) : p.1 = .slice (rnOf p).ad (rnOf p).n (rnOf p).cap ∧ (rnOf p).n = p.2.length ∧ (rnOf p).o = enA p.2 ∧ Ens w (rnOf p).ad (rnOf p).n (rnOf p).cap (rnOf p).o ∧ ((rnOf p).ad = none → (rnOf p).cap = 0) := by
 obtain ⟨v, L⟩ := p; obtain ⟨a, c, hv⟩ := h.slice; have hv' : v = .slice a L.length c := hv; subst hv'; refine ⟨rfl, rfl, rfl, h.ens.2, fun e => ?_⟩; have e' : a = none := e; subst e'
 rcases h.2 with ⟨h0, h1⟩ | ⟨g, cap, cur, he, _⟩
 · have h0' : Value.slice none L.length c = .slice none 0 0 := h0
   injection h0' with _ _ h3
 · cases he
theorem rs_rns {w : World} {base : Nat} {v : Value} {Q : List (Value × List En)} (h : w.ownsRow base 25 1 v Q.length (Q.map Prod.fst)) (hu : ∀ p ∈ Q, OwnEn w base p.1 p.2) : ∃ a cap, v = .slice a Q.length cap ∧ Rns w a Q.length cap (fun k => rnOf (Q.getD k (.slice none 0 0, []))) ∧ (∀ k, k < Q.length → (rnOf (Q.getD k (.slice none 0 0, []))).ad = none → (rnOf (Q.getD k (.slice none 0 0, []))).cap = 0) ∧ (a = none → cap = 0) := by
 have get : ∀ k, k < Q.length → ∃ p ∈ Q, Q.getD k (.slice none 0 0, []) = p ∧ Q[k]? = some p := fun k hk => ⟨Q[k], List.getElem_mem hk, by rw [List.getD_eq_getElem?_getD, List.getElem?_eq_getElem hk]; rfl, List.getElem?_eq_getElem hk⟩
 have hE : ∀ k, k < Q.length → Ens w (rnOf (Q.getD k (.slice none 0 0, []))).ad (rnOf (Q.getD k (.slice none 0 0, []))).n (rnOf (Q.getD k (.slice none 0 0, []))).cap (rnOf (Q.getD k (.slice none 0 0, []))).o := fun k hk => by
  obtain ⟨p, hp, e, _⟩ := get k hk; rw [e]; exact (hu p hp).rnOf.2.2.2.1
 have hN : ∀ k, k < Q.length → (rnOf (Q.getD k (.slice none 0 0, []))).ad = none → (rnOf (Q.getD k (.slice none 0 0, []))).cap = 0 := fun k hk => by
  obtain ⟨p, hp, e, _⟩ := get k hk; rw [e]; exact (hu p hp).rnOf.2.2.2.2
 rcases h.2 with ⟨h1, h2⟩ | ⟨g, cap, cur, he, hb, hr, hnc, hm, hsz2, htk⟩
 · exact ⟨none, 0, by rw [h1, h2], ⟨by omega, .inl h2, hE⟩, hN, fun _ => rfl⟩
 · subst he
   refine ⟨some ⟨g, 0, none⟩, cap, rfl, ⟨hnc, .inr ⟨g, 0, rfl, (show RA w g _ cur from hr).lt, fun k hk => ?_⟩, hE⟩, hN, fun e => by cases e⟩; obtain ⟨p, hp, e, e2⟩ := get k hk; have e1 : (Q.map Prod.fst)[k]? = some p.1 := by rw [List.getElem?_map, e2]; rfl
   have := World.ownsRow.cells h rfl k p.1 e1; have hadd : (⟨g, 0, none⟩ : Addr).add k = ⟨g, k, none⟩ := by unfold Addr.add; split <;> simp_all
   rw [hadd] at this; rw [Nat.zero_add, this]
   show some p.1 = some (.slice (rnOf (Q.getD k (.slice none 0 0, []))).ad (rnOf (Q.getD k (.slice none 0 0, []))).n (rnOf (Q.getD k (.slice none 0 0, []))).cap)
   rw [e]; exact congrArg some (hu p hp).rnOf.1
theorem allE_Q (Q : List (Value × List En)) (hu : ∀ p ∈ Q, (rnOf p).n = p.2.length ∧ (rnOf p).o = enA p.2) : ∀ m, m ≤ Q.length → allE (fun k => rnOf (Q.getD k (.slice none 0 0, []))) m = ((Q.take m).map Prod.snd).flatten
 | 0, _ => rfl
 | m + 1, h => by
  have ih := allE_Q Q hu m (by omega); have e : Q.take (m + 1) = Q.take m ++ [Q[m]'(by omega)] := by rw [List.take_add_one, List.getElem?_eq_getElem (by omega)]; rfl
  have g : Q.getD m (.slice none 0 0, []) = Q[m]'(by omega) := by rw [List.getD_eq_getElem?_getD, List.getElem?_eq_getElem (by omega)]; rfl
  obtain ⟨h1, h2⟩ := hu (Q[m]'(by omega)) (List.getElem_mem _)
  show allE _ m ++ (List.range (rnOf (Q.getD m (.slice none 0 0, []))).n).map (rnOf (Q.getD m (.slice none 0 0, []))).o = _
  rw [ih, e, g, h1, h2, range_enA, List.map_append, List.flatten_append]
  simp
theorem RtI.rd {w W : World} {X b rb base : Nat} {t : Tt} {vF vR : Value} {Q : List (Value × List En)} {vO : Value} {O : List (Ot × Value)} (h : RtI w W X b rb base t vF vR Q vO O) : ∃ a0 c0 a cap R, vF = .slice a0 t.fr.length c0 ∧ vR = .slice a t.rs.length cap ∧ Ens W a0 t.fr.length c0 (enA t.fr) ∧ Rns W a t.rs.length cap R ∧ (a0 = none → c0 = 0) ∧ (∀ k, k < t.rs.length → (R k).ad = none → (R k).cap = 0) ∧ allTb t.fr.length (enA t.fr) R t.rs.length = t.all ∧ allE R t.rs.length = t.rs.flatten ∧ cntR R t.rs.length = t.rs.flatten.length := by
 obtain ⟨a0, c0, hv⟩ := h.fr.slice; obtain ⟨a, cap, hr, hN, hz, _⟩ := rs_rns h.rs h.ru; have hl : t.rs.length = Q.length := by rw [← h.eq, List.length_map]
 have e := allE_Q Q (fun p hp => ⟨(h.ru p hp).rnOf.2.1, (h.ru p hp).rnOf.2.2.1⟩) Q.length (Nat.le_refl _); rw [List.take_length, h.eq] at e; refine ⟨a0, c0, a, cap, _, hv, by rw [hl]; exact hr, ?_, by rw [hl]; exact hN, ?_, by rw [hl]; exact hz, ?_, by rw [hl]; exact e, ?_⟩
 · have := h.fr
   rw [hv] at this; exact this.ens.2
 · intro q
   subst q
   rcases h.fr.2 with ⟨h0, h1⟩ | ⟨g, cap', cur, he, _⟩
   · rw [hv] at h0; injection h0 with _ _ h3
   · rw [hv] at he; cases he
 · unfold allTb Tt.all
   rw [range_enA, hl, e]
 · rw [hl, ← allE_len, e]
end Go.Proofs.YtcbmgpdpjagaoaaGreat
namespace Go.Proofs.YtcbmgpdpjagaoaaGreat
open Go.RowKit
set_option linter.unusedVariables false
theorem Tryz.infoRn8 : (Tryz.prog.info? 25).map (fun i => (i.zero, i.size, i.bytes)) = some (some (.agg #[.slice none 0 0]), 1, 24) := by kernel_rfl
theorem Tryz.infoOu8 : (Tryz.prog.info? 41).map (fun i => (i.zero, i.size, i.bytes)) = some (some (.agg #[.int .i64 0, .string ⟨#[]⟩, .slice none 0 0]), 3, 48) := by kernel_rfl
theorem append_run {ops : Array Oper} {rest : List Oper} {o : Oper} {a : Act} {Q' : Exit → Act → World → Prop} (base : Nat) (wr : World) (hgd : o.guard = none) (s x : Operand)
 (ho : o.op = .call { callee := .builtin .append, args := #[s, x], argTypes := #[26, 26] })
 (v : Value) (Q : List (Value × List En)) (p : Value × List En) (hs : a.eval s = v) (hown : wr.ownsRow base 25 1 v Q.length (Q.map Prod.fst)) (hsz : base ≤ wr.heap.size)
 (hx : a.eval x = .slice (some ⟨wr.heap.size, 0, none⟩) 1 1) (h1c : p.1.oneCell' = true) (hlen : Q.length ≤ 1048576)
 (h : ∀ v' w', w'.ownsRow base 25 1 v' (Q ++ [p]).length ((Q ++ [p]).map Prod.fst) → wr.grownBy w' v.ownBlock → wpList Tryz.prog ops Q' rest (a.put o.dst v') w') :
 wpList Tryz.prog ops Q' (o :: rest) a (wr.alloc (.cells #[p.1] 25)) := by
 obtain ⟨i0, hi, hz0, hz1, hz2⟩ := info_parts Tryz.infoRn8; refine wpList_append_own _ hgd s x 26 ho base 25 i0 _ 1 24 Tryz.underlying26 hi hz0 hz1 hz2 rfl (by decide) v Q.length _ hs (World.ownsRow.alloc hown _) ⟨wr.heap.size, 0, none⟩ 1 1 [p.1] hx rfl ?_ ?_ ?_ ?_ ?_ ?_
 · intro j u hj
   have R := RA.new wr 25 #[p.1]
   match j, hj with
   | 0, hj => simp at hj; subst hj; exact R.cell 0
 · intro u hu; simp at hu; rw [hu]; exact h1c
 · unfold maxLen; omega
 · omega
 · simp; omega
 · intro v' w' h1 h2 h3
   refine h v' w' ?_ (grown_trans (World.grownBy_alloc wr _ _) h2); rw [List.length_append, List.map_append]; exact h1
theorem append_out {ops : Array Oper} {rest : List Oper} {o : Oper} {a : Act} {Q' : Exit → Act → World → Prop} (base : Nat) (wr : World) (hgd : o.guard = none) (s x : Operand)
 (ho : o.op = .call { callee := .builtin .append, args := #[s, x], argTypes := #[33, 33] })
 (v : Value) (O : List (Ot × Value)) (p : Ot × Value) (hs : a.eval s = v) (hown : wr.ownsRow base 41 3 v O.length (ouL O)) (hsz : base ≤ wr.heap.size)
 (hx : a.eval x = .slice (some ⟨wr.heap.size, 0, none⟩) 1 1) (h1c : p.2.oneCell' = true) (hlen : O.length ≤ 1048576)
 (h : ∀ v' w', w'.ownsRow base 41 3 v' (O ++ [p]).length (ouL (O ++ [p])) → wr.grownBy w' v.ownBlock → wpList Tryz.prog ops Q' rest (a.put o.dst v') w') :
 wpList Tryz.prog ops Q' (o :: rest) a (wr.alloc (.cells #[.int .i64 p.1.cd, .string p.1.tx, p.2] 41)) := by
 obtain ⟨i0, hi, hz0, hz1, hz2⟩ := info_parts Tryz.infoOu8; refine wpList_append_own _ hgd s x 33 ho base 41 i0 _ 3 48 Tryz.underlying33 hi hz0 hz1 hz2 rfl (by decide) v O.length _ hs (World.ownsRow.alloc hown _) ⟨wr.heap.size, 0, none⟩ 1 1 [.int .i64 p.1.cd, .string p.1.tx, p.2] hx rfl ?_ ?_ ?_ ?_ ?_ ?_
 · intro j u hj
   have R := RA.new wr 41 #[.int .i64 p.1.cd, .string p.1.tx, p.2]
   match j, hj with
   | 0, hj => simp at hj; subst hj; exact R.cell 0
   | 1, hj => simp at hj; subst hj; exact R.cell 1
   | 2, hj => simp at hj; subst hj; exact R.cell 2
 · intro u hu
   simp at hu
   rcases hu with rfl | rfl | rfl
   · rfl
   · rfl
   · exact h1c
 · unfold maxLen; omega
 · omega
 · simp; omega
 · intro v' w' h1 h2 h3
   refine h v' w' ?_ (grown_trans (World.grownBy_alloc wr _ _) h2); rw [List.length_append, ouL_app]; exact h1
theorem RtI.rr1 {w W W1 : World} {X b rb base : Nat} {t : Tt} {vF vR : Value} {Q : List (Value × List En)} {vO : Value} {O : List (Ot × Value)} (h : RtI w W X b rb base t vF vR Q vO O) (hg : W.grownBy W1 vO.ownBlock) : RA W1 rb 35 #[.int .i64 0, .int .i64 0, .slice none 0 0, .slice none 0 0, vO] :=
 (hg.block rb h.rr.lt (fun e => by obtain ⟨_, _, cs, r⟩ := or_row h.ou e.symm; exact row_ne h.rr r (by decide) rfl)).trans h.rr
theorem RtI.tb1 {w W W1 : World} {X b rb base : Nat} {t : Tt} {vF vR : Value} {Q : List (Value × List En)} {vO : Value} {O : List (Ot × Value)} (h : RtI w W X b rb base t vF vR Q vO O) (hg : W.grownBy W1 vR.ownBlock) {g : Nat} {ty : TypeId} {cs : Array Value} (r : RA W g ty cs) (hn : ty ≠ 25) : RA W1 g ty cs :=
 (hg.block g r.lt (fun e => by obtain ⟨_, _, cs', r'⟩ := or_row h.rs e.symm; exact row_ne r r' hn rfl)).trans r
theorem RtI.fb1 {w W W1 : World} {X b rb base : Nat} {t : Tt} {vF vR : Value} {Q : List (Value × List En)} {vO : Value} {O : List (Ot × Value)} (h : RtI w W X b rb base t vF vR Q vO O) (hg : W.grownBy W1 vF.ownBlock) {g : Nat} {ty : TypeId} {cs : Array Value} (r : RA W g ty cs) (hn : ty ≠ 46) : RA W1 g ty cs :=
 (hg.block g r.lt (fun e => by obtain ⟨_, _, cs', r'⟩ := h.fr.row e.symm; exact row_ne r r' hn rfl)).trans r
theorem own_lt {w w' : World} {base g : Nat} {v v' : Value} {L L' : List En} (h : OwnEn w base v L) (h' : OwnEn w' w.heap.size v' L') (e : v'.ownBlock = some g) : v.ownBlock ≠ some g := fun e2 => by
 have := (h.row e2).2.1; have := (h'.row e).1
 omega
theorem tab0 : tabOk 0 0 0 (enA []) 0 (fun _ => ⟨none, 0, 0, enA []⟩) := ⟨⟨by decide, by decide, by decide, by decide⟩, ⟨by decide, runTo_zero _⟩, ⟨fun i hi => absurd hi (Nat.not_lt_zero _), by decide, List.nodup_nil, fun v hv => by cases hv⟩, by decide, fun j hj => absurd hj (Nat.not_lt_zero _)⟩
end Go.Proofs.YtcbmgpdpjagaoaaGreat
