import Derived.Test.YtcbmgpdpjagaoaaGreatSoS
import Derived.Test.YtcbmgpdpjagaoaaGreatI3
import Derived.Test.YtcbmgpdpjagaoaaGreatI3
import Derived.Laws.AppendOwnNone
namespace Go.Proofs.YtcbmgpdpjagaoaaGreat
open Go.RowKit
set_option linter.unusedVariables false
def mtE (key : ByteArray) (seq : Int) (e : En) : Prop := e.ky = key ∧ e.sq ≤ seq
def IsB (P : En → Prop) (key : ByteArray) (seq : Int) (b : Option En) : Prop :=
 (b = none ∧ ∀ e, P e → ¬ mtE key seq e) ∨ ∃ x, b = some x ∧ P x ∧ mtE key seq x ∧ ∀ e, P e → mtE key seq e → e.sq ≤ x.sq
theorem IsB.uniq {P : En → Prop} {key : ByteArray} {seq : Int} {b b' : Option En} (hu : ∀ e e', P e → P e' → e.sq = e'.sq → e = e') (h : IsB P key seq b) (h' : IsB P key seq b') : b = b' := by
 rcases h with ⟨h1, h2⟩ | ⟨x, h1, h2, h3, h4⟩
 · rcases h' with ⟨g1, g2⟩ | ⟨y, g1, g2, g3, g4⟩
   · rw [h1, g1]
   · exact absurd g3 (h2 y g2)
 · rcases h' with ⟨g1, g2⟩ | ⟨y, g1, g2, g3, g4⟩
   · exact absurd h3 (g2 x h2)
   · rw [h1, g1, hu x y h2 g2 (Int.le_antisymm (g4 x h2 h3) (h4 y g2 g3))]
theorem IsB.cg {P P' : En → Prop} {key : ByteArray} {seq : Int} {b : Option En} (h : IsB P key seq b) (h1 : ∀ e, P e → P' e) (h2 : ∀ e, P' e → mtE key seq e → P e) : IsB P' key seq b := by
 rcases h with ⟨g1, g2⟩ | ⟨x, g1, g2, g3, g4⟩
 · exact .inl ⟨g1, fun e he hm => g2 e (h2 e he hm) hm⟩
 · exact .inr ⟨x, g1, h1 x g2, g3, fun e he hm => g4 e (h2 e he hm) hm⟩
def fndE (b : Option En) : En := match b with | none => en0 | some e => if e.gn = true then en0 else e
def fndL (b : Option En) : List En := match b with | none => [] | some e => if e.gn = true then [] else [e]
def scL (til : ByteArray) (seq lim : Int) : ByteArray → List En → List En → List En
 | _, L, [] => L
 | key, L, e :: r =>
  if lim ≤ (L.length : Int) ∨ (til ≠ ⟨#[]⟩ ∧ kLt e.ky til = false) then L
  else if e.sq ≤ seq then (if e.ky = key then scL til seq lim key L r else scL til seq lim e.ky (if e.gn = true then L else L ++ [e]) r)
  else scL til seq lim key L r
def tzB (k : ByteArray) : ByteArray := k ++ ⟨#[0]⟩
theorem tzB_l (k : ByteArray) : (tzB k).toList = k.toList ++ [0] := by
 unfold tzB; rw [baT, baT, ByteArray.data_append, Array.toList_append]
theorem bl_zero : ∀ (a b : List UInt8), Op.bytesLess a (b ++ [0]) = true → Op.bytesLess a b = false → a = b
 | [], [], _, _ => rfl
 | [], y :: ys, _, h => by simp [Op.bytesLess] at h
 | x :: xs, [], h, _ => by
  simp [Op.bytesLess] at h
 | x :: xs, y :: ys, h1, h2 => by
  simp only [List.cons_append, Op.bytesLess] at h1 h2
  by_cases e : x = y
  · subst e
    simp at h1 h2
    rw [bl_zero xs ys h1 h2]
  · by_cases l : x < y
    · simp [l] at h2
    · simp [l, e] at h1
theorem bl_self : ∀ (a : List UInt8), Op.bytesLess a (a ++ [0]) = true
 | [] => by simp [Op.bytesLess]
 | x :: xs => by simp [Op.bytesLess, bl_self xs]
theorem kLt_tz (k : ByteArray) : kLt k (tzB k) = true := by unfold kLt; rw [tzB_l]; exact bl_self _
theorem tz_eq {k e : ByteArray} (h1 : kLt e (tzB k) = true) (h2 : kLt e k = false) : e = k := by
 unfold kLt at h1 h2; rw [tzB_l] at h1; have := bl_zero _ _ h1 h2; rw [baT, baT] at this; exact ByteArray.ext (by apply Array.toList_inj.1; exact this)
theorem tz_gt {k e : ByteArray} (h : kLt e (tzB k) = false) : kLt k e = true := by
 rcases kLt_tri k e with q | q | q
 · exact q
 · subst q; rw [kLt_tz] at h; cases h
 · rw [kLt_trans q (kLt_tz k)] at h; cases h
theorem tz_ne (k : ByteArray) : tzB k ≠ ⟨#[]⟩ := fun q => by
 have := kLt_tz k; rw [q, kLt_nil] at this
 cases this
theorem scL_full (til : ByteArray) (seq : Int) (key : ByteArray) (e : En) : ∀ r, scL til seq 1 key [e] r = [e]
 | [] => rfl
 | x :: r => by unfold scL; rw [if_pos (.inl (by simp))]
theorem scL_old (key : ByteArray) (seq : Int) : ∀ es : List En, (∀ e ∈ es, kLt e.ky key = false) → scL (tzB key) seq 1 key [] es = []
 | [], _ => rfl
 | e :: r, h => by
  have ih := scL_old key seq r fun x hx => h x (by simp [hx]); unfold scL
  by_cases h1 : kLt e.ky (tzB key) = false
  · rw [if_pos (.inr ⟨tz_ne key, h1⟩)]
  · have ek := tz_eq (by simpa using h1) (h e (by simp))
    rw [if_neg (fun q => q.elim (fun z => by simp at z) fun z => h1 z.2)]
    by_cases h2 : e.sq ≤ seq
    · rw [if_pos h2, if_pos ek, ih]
    · rw [if_neg h2, ih]
theorem scL_find (key : ByteArray) (hk : key ≠ ⟨#[]⟩) (seq : Int) : ∀ es : List En, es.Pairwise (fun a b => ¬ enLt b a) → (∀ e ∈ es, kLt e.ky key = false) → ∃ b, IsB (fun e => e ∈ es) key seq b ∧ scL (tzB key) seq 1 ⟨#[]⟩ [] es = fndL b
 | [], _, _ => ⟨none, .inl ⟨rfl, fun e he => by cases he⟩, rfl⟩
 | e :: r, hs, h => by
  rw [List.pairwise_cons] at hs; have hr : ∀ x ∈ r, kLt x.ky key = false := fun x hx => h x (by simp [hx]); unfold scL
  by_cases h1 : kLt e.ky (tzB key) = false
  · rw [if_pos (.inr ⟨tz_ne key, h1⟩)]
    refine ⟨none, .inl ⟨rfl, fun x hx hm => ?_⟩, rfl⟩; have g := tz_gt h1
    rcases List.mem_cons.1 hx with rfl | hx
    · rw [hm.1] at g; exact kLt_irrefl _ g
    · exact hs.1 x hx (.inl (by rw [hm.1]; exact g))
  · have ek := tz_eq (by simpa using h1) (h e (by simp))
    rw [if_neg (fun q => q.elim (fun z => by simp at z) fun z => h1 z.2)]
    by_cases h2 : e.sq ≤ seq
    · rw [if_pos h2, if_neg (by rw [ek]; exact hk)]
      refine ⟨some e, .inr ⟨e, rfl, by simp, ⟨ek, h2⟩, fun x hx hm => ?_⟩, ?_⟩
      · rcases List.mem_cons.1 hx with rfl | hx
        · exact Int.le_refl _
        · rcases Int.lt_or_le e.sq x.sq with z | z
          · exact absurd (.inr ⟨by rw [hm.1, ek], z⟩) (hs.1 x hx)
          · exact z
      · cases hg : e.gn with
        | true => rw [if_pos rfl, ek, scL_old key seq r hr]; show [] = if e.gn = true then [] else [e]; rw [if_pos hg]
        | false => rw [if_neg (by simp), List.nil_append, scL_full]; show [e] = if e.gn = true then [] else [e]; rw [if_neg (by rw [hg]; simp)]
    · rw [if_neg h2]
      obtain ⟨b, hb, he⟩ := scL_find key hk seq r hs.2 hr; exact ⟨b, hb.cg (fun x hx => by simp [hx]) (fun x hx hm => by rcases List.mem_cons.1 hx with rfl | hx; exact absurd hm.2 h2; exact hx), he⟩
theorem st_one (o : Nat → En) (p : En) : ∀ n, (∀ i j, i < j → j < n → enLt (o i) (o j)) → ∃ s, s ≤ n ∧ (∀ i, i < s → enLt (o i) p) ∧ ∀ i, s ≤ i → i < n → ¬ enLt (o i) p
 | 0, _ => ⟨0, Nat.le_refl _, fun i hi => absurd hi (Nat.not_lt_zero _), fun i _ hi => absurd hi (Nat.not_lt_zero _)⟩
 | n + 1, h => by
  obtain ⟨s, h1, h2, h3⟩ := st_one o p n fun i j a b => h i j a (by omega)
  by_cases e : s = n
  · by_cases l : enLt (o n) p
    · refine ⟨n + 1, Nat.le_refl _, fun i hi => ?_, fun i a b => absurd b (by omega)⟩
      by_cases q : i = n
      · rw [q]; exact l
      · exact h2 i (by omega)
    · refine ⟨n, by omega, fun i hi => h2 i (by omega), fun i a b => by rw [show i = n by omega]; exact l⟩
  · refine ⟨s, by omega, h2, fun i a b l => ?_⟩
    by_cases q : i = n
    · subst q
      exact h3 s (Nat.le_refl _) (by omega) (enLt_trans (h s i (by omega) (by omega)) l)
    · exact h3 i a (by omega) l
theorem st_ex {R : Nat → Rn} {m : Nat} (h : RSrt R m) (k : ByteArray) : ∃ st, StOk R m k st := by
 have e : ∀ r, ∃ s, r < m → s ≤ (R r).n ∧ (∀ i, i < s → enLt ((R r).o i) (plE k 9223372036854775807)) ∧ ∀ i, s ≤ i → i < (R r).n → ¬ enLt ((R r).o i) (plE k 9223372036854775807) := fun r => by
  by_cases hr : r < m
  · obtain ⟨s, q⟩ := st_one (R r).o (plE k 9223372036854775807) (R r).n (h r hr)
    exact ⟨s, fun _ => q⟩
  · exact ⟨0, fun q => absurd q hr⟩
 exact ⟨fun r => (e r).choose, fun r hr => (e r).choose_spec hr⟩
open Classical in
theorem rem_ex {R : Nat → Rn} {m : Nat} {k : ByteArray} {st : Nat → Nat} (h : StOk R m k st) : ∃ S : List Tg, S.Pairwise tLt ∧ Rem S R m st 0 ∧ S.length ≤ cntR R m ∧ ∀ x ∈ S, ¬ enLt x.1 (plE k 9223372036854775807) := by
 obtain ⟨S, hS⟩ := sd_ex (enA (allE R m)) (cntR R m); refine ⟨S.filter (fun x => decide (¬ enLt x.1 (plE k 9223372036854775807))), hS.pw.filter _, fun x => ?_, ?_, fun x hx => ?_⟩
 · have e := hS.rem x
   rw [List.drop_zero] at e; rw [List.drop_zero, List.mem_filter, e]
   constructor
   · rintro ⟨⟨r, hr, p, _, hp, rfl⟩, hn⟩
     have hn : ¬ enLt ((R r).o p) (plE k 9223372036854775807) := of_decide_eq_true hn; refine ⟨r, hr, p, ?_, hp, rfl⟩
     rcases Nat.lt_or_ge p (st r) with q | q
     · exact absurd ((h r hr).2.1 p q) hn
     · exact q
   · rintro ⟨r, hr, p, h1, hp, rfl⟩
     exact ⟨⟨r, hr, p, Nat.zero_le _, hp, rfl⟩, decide_eq_true (show ¬ enLt ((R r).o p) (plE k 9223372036854775807) from (h r hr).2.2 p h1 hp)⟩
 · exact Nat.le_trans (List.length_filter_le _ _) (by rw [hS.len]; exact Nat.le_refl _)
 · exact of_decide_eq_true (List.mem_filter.1 hx).2
theorem find_runs {R : Nat → Rn} {m : Nat} {key : ByteArray} (hk : key ≠ ⟨#[]⟩) {seq : Int} (hq : seq ≤ 9223372036854775807) {st : Nat → Nat} (h : StOk R m key st) {S : List Tg} (h1 : S.Pairwise tLt) (h2 : Rem S R m st 0) (h3 : ∀ x ∈ S, ¬ enLt x.1 (plE key 9223372036854775807)) :
 ∃ b, IsB (fun e => ∃ r, r < m ∧ ∃ p, p < (R r).n ∧ e = (R r).o p) key seq b ∧ scL (tzB key) seq 1 ⟨#[]⟩ [] (S.map Prod.fst) = fndL b := by
 obtain ⟨b, hb, he⟩ := scL_find key hk seq (S.map Prod.fst) (sd_pw h1) (fun e hx => by
  obtain ⟨x, hx2, rfl⟩ := List.mem_map.1 hx; have := h3 x hx2
  cases q : kLt x.1.ky key with
  | false => rfl
  | true => exact absurd (.inl q) this)
 refine ⟨b, hb.cg (fun e hx => ?_) (fun e he hm => ?_), he⟩
 · obtain ⟨x, hx2, rfl⟩ := List.mem_map.1 hx
   rw [show S = S.drop 0 from rfl, h2 x] at hx2; obtain ⟨r, hr, p, _, hp, rfl⟩ := hx2; exact ⟨r, hr, p, hp, rfl⟩
 · obtain ⟨r, hr, p, hp, rfl⟩ := he
   refine List.mem_map.2 ⟨tgR R r p, ?_, rfl⟩; rw [show S = S.drop 0 from rfl, h2]; refine ⟨r, hr, p, ?_, hp, rfl⟩
   rcases Nat.lt_or_ge p (st r) with q | q
   · rcases (h r hr).2.1 p q with z | ⟨_, z⟩
     · rw [hm.1] at z; exact absurd z (kLt_irrefl _)
     · have : (9223372036854775807 : Int) < ((R r).o p).sq := z
       have := hm.2
       omega
   · exact q
theorem allE_mem (R : Nat → Rn) : ∀ m e, e ∈ allE R m ↔ ∃ r, r < m ∧ ∃ p, p < (R r).n ∧ e = (R r).o p
 | 0, e => by
  constructor
  · intro h; cases h
  · rintro ⟨r, hr, _⟩; omega
 | m + 1, e => by
  unfold allE; rw [List.mem_append, allE_mem R m e]
  constructor
  · rintro (⟨r, hr, q⟩ | h)
    · exact ⟨r, by omega, q⟩
    · obtain ⟨p, hp, rfl⟩ := List.mem_map.1 h
      exact ⟨m, by omega, p, List.mem_range.1 hp, rfl⟩
  · rintro ⟨r, hr, p, hp, rfl⟩
    by_cases q : r = m
    · subst q; exact .inr (List.mem_map.2 ⟨p, List.mem_range.2 hp, rfl⟩)
    · exact .inl ⟨r, by omega, p, hp, rfl⟩
theorem allE_sq (R : Nat → Rn) : ∀ m, (allE R m).map En.sq = sqA R m
 | 0 => rfl
 | m + 1 => by unfold allE sqA; rw [List.map_append, allE_sq R m, List.map_map]; rfl
theorem map_inj : ∀ (l : List En), (l.map En.sq).Nodup → ∀ e e', e ∈ l → e' ∈ l → e.sq = e'.sq → e = e'
 | [], _, e, _, h, _, _ => by cases h
 | x :: r, h, e, e', h1, h2, q => by
  rw [List.map_cons, List.nodup_cons] at h
  rcases List.mem_cons.1 h1 with rfl | h1
  · rcases List.mem_cons.1 h2 with rfl | h2
    · rfl
    · exact absurd (List.mem_map.2 ⟨e', h2, q.symm⟩) h.1
  · rcases List.mem_cons.1 h2 with h2 | h2
    · exact absurd (List.mem_map.2 ⟨e, h1, by rw [q, h2]⟩) h.1
    · exact map_inj r h.2 e e' h1 h2 q
def allTb (n0 : Nat) (o0 : Nat → En) (R : Nat → Rn) (m : Nat) : List En := (List.range n0).map o0 ++ allE R m
theorem allTb_mem {n0 : Nat} {o0 : Nat → En} {R : Nat → Rn} {m : Nat} {e : En} : e ∈ allTb n0 o0 R m ↔ (∃ p, p < n0 ∧ e = o0 p) ∨ e ∈ allE R m := by
 unfold allTb; rw [List.mem_append, List.mem_map]; refine or_congr ⟨fun ⟨p, hp, q⟩ => ⟨p, List.mem_range.1 hp, q.symm⟩, fun ⟨p, hp, q⟩ => ⟨p, List.mem_range.2 hp, q.symm⟩⟩ Iff.rfl
theorem allTb_len (n0 : Nat) (o0 : Nat → En) (R : Nat → Rn) (m : Nat) : (allTb n0 o0 R m).length = n0 + cntR R m := by simp [allTb, allE_len]
theorem tab_uni {s f : Int} {n0 : Nat} {o0 : Nat → En} {m : Nat} {R : Nat → Rn} (h : tabOk s f n0 o0 m R) : ∀ e e', e ∈ allTb n0 o0 R m → e' ∈ allTb n0 o0 R m → e.sq = e'.sq → e = e' := fun e e' h1 h2 q => by
 obtain ⟨_, hr, ht, _, hf⟩ := h; have mem : ∀ x, x ∈ allE R m → x.sq ∈ sqA R m := fun x hx => by rw [← allE_sq]; exact List.mem_map.2 ⟨x, hx, rfl⟩
 rcases allTb_mem.1 h1 with ⟨p, hp, rfl⟩ | h1
 · rcases allTb_mem.1 h2 with ⟨p', hp', rfl⟩ | h2
   · rcases Nat.lt_trichotomy p p' with z | z | z
     · exact absurd q (hr.2.2.2 p p' z hp')
     · rw [z]
     · exact absurd q.symm (hr.2.2.2 p' p z hp)
   · have := (hf p hp).2 _ (mem _ h2); omega
 · rcases allTb_mem.1 h2 with ⟨p', hp', rfl⟩ | h2
   · have := (hf p' hp').2 _ (mem _ h1); omega
   · exact map_inj _ (by rw [allE_sq]; exact ht.2.2.1) e e' h1 h2 q
theorem tab_fit {s f : Int} {n0 : Nat} {o0 : Nat → En} {m : Nat} {R : Nat → Rn} (h : tabOk s f n0 o0 m R) : ∀ e ∈ allTb n0 o0 R m, fitE e := fun e h1 => by
 obtain ⟨_, hr, ht, _, hf⟩ := h
 rcases allTb_mem.1 h1 with ⟨p, hp, rfl⟩ | h1
 · exact hr.2.1 p hp
 · obtain ⟨r, hr, p, hp, rfl⟩ := (allE_mem R m e).1 h1
   exact (ht.1 r hr).2.1 p hp
theorem snoc_mem {R : Nat → Rn} {m : Nat} {x : Rn} {e : En} : (∃ r, r < m + 1 ∧ ∃ p, p < (snoc R m x r).n ∧ e = (snoc R m x r).o p) ↔ e ∈ allTb x.n x.o R m := by
 rw [allTb_mem, allE_mem]
 constructor
 · rintro ⟨r, hr, p, hp, rfl⟩
   unfold snoc at hp ⊢
   by_cases q : r < m
   · rw [if_pos q] at hp ⊢; exact .inr ⟨r, q, p, hp, rfl⟩
   · rw [if_neg q] at hp ⊢; exact .inl ⟨p, hp, rfl⟩
 · rintro (⟨p, hp, rfl⟩ | ⟨r, hr, p, hp, rfl⟩)
   · refine ⟨m, by omega, p, ?_, ?_⟩ <;> unfold snoc <;> rw [if_neg (Nat.lt_irrefl _)]
     exact hp
   · refine ⟨r, by omega, p, ?_, ?_⟩ <;> unfold snoc <;> rw [if_pos hr]
     exact hp
theorem snoc_srt {s f : Int} {n0 : Nat} {o0 : Nat → En} {m : Nat} {R : Nat → Rn} (h : tabOk s f n0 o0 m R) (x : Rn) (hn : x.n = n0) (ho : x.o = o0) : RSrt (snoc R m x) (m + 1) := fun r hr i j hi hj => by
 obtain ⟨_, hr0, ht, _, hf⟩ := h; unfold snoc at hj ⊢
 by_cases q : r < m
 · rw [if_pos q] at hj ⊢; exact run_srt (ht.1 r q).2 j i hi hj
 · rw [if_neg q] at hj ⊢
   rw [ho]; rw [hn] at hj; exact run_srt hr0.2 j i hi hj
theorem snoc_cnt (R : Nat → Rn) (m : Nat) (x : Rn) : cntR (snoc R m x) (m + 1) = cntR R m + x.n := by
 have e : ∀ i, i ≤ m → cntR (snoc R m x) i = cntR R i := fun i => by
  induction i with
  | zero => intro _; rfl
  | succ i ih => intro hi; show cntR (snoc R m x) i + (snoc R m x i).n = cntR R i + (R i).n; rw [ih (by omega)]; unfold snoc; rw [if_pos (by omega)]
 show cntR (snoc R m x) m + (snoc R m x m).n = _
 rw [e m (Nat.le_refl _)]; unfold snoc; rw [if_neg (Nat.lt_irrefl _)]
def FnR (s f : Int) (n0 : Nat) (o0 : Nat → En) (m : Nat) (R : Nat → Rn) (key : ByteArray) (seq : Int) (x : En) : Prop :=
 (¬ tabOk s f n0 o0 m R ∧ x = en0) ∨ (tabOk s f n0 o0 m R ∧ ∃ b, IsB (fun e => e ∈ allTb n0 o0 R m) key seq b ∧ x = fndE b)
theorem FnR.uniq {s f : Int} {n0 : Nat} {o0 : Nat → En} {m : Nat} {R : Nat → Rn} {key : ByteArray} {seq : Int} {x y : En} (h : FnR s f n0 o0 m R key seq x) (h' : FnR s f n0 o0 m R key seq y) : x = y := by
 rcases h with ⟨h1, h2⟩ | ⟨h1, b, h2, h3⟩
 · rcases h' with ⟨g1, g2⟩ | ⟨g1, _⟩
   · rw [h2, g2]
   · exact absurd g1 h1
 · rcases h' with ⟨g1, g2⟩ | ⟨g1, c, g2, g3⟩
   · exact absurd h1 g1
   · rw [h3, g3, h2.uniq (tab_uni h1) g2]
theorem FnR.out {s f : Int} {n0 : Nat} {o0 : Nat → En} {m : Nat} {R : Nat → Rn} {key : ByteArray} (seq : Int) (h : tabOk s f n0 o0 m R) (hk : ¬ (1 ≤ key.size ∧ key.size ≤ 200)) : FnR s f n0 o0 m R key seq en0 :=
 .inr ⟨h, none, .inl ⟨rfl, fun e he hm => hk (by have := tab_fit h e he; rw [← hm.1]; exact ⟨this.1, this.2.1⟩)⟩, rfl⟩
end Go.Proofs.YtcbmgpdpjagaoaaGreat
namespace Go.Proofs.YtcbmgpdpjagaoaaGreat
open Go.RowKit
set_option linter.unusedVariables false
theorem enL_one (L : List En) : ∀ u ∈ enL L, u.oneCell' = true := by
 intro u hu; simp only [enL, List.mem_flatMap] at hu; obtain ⟨e, _, hu⟩ := hu
 simp at hu
 rcases hu with rfl | rfl | rfl | rfl <;> rfl
theorem append_ens {ops : Array Oper} {rest : List Oper} {o : Oper} {a : Act} {Q : Exit → Act → World → Prop} (base : Nat) (wr : World) (hgd : o.guard = none) (s x : Operand)
 (ho : o.op = .call { callee := .builtin .append, args := #[s, x], argTypes := #[23, 23] })
 (v : Value) (L M : List En) (n : Nat) (hn1 : M.length = n) (hs : a.eval s = v) (hown : OwnEn wr base v L) (hsz : base ≤ wr.heap.size)
 (ad : Option Addr) (c : Nat) (hx : a.eval x = .slice ad n c) (hn : ad = none → c = 0) (hM : Ens wr ad n c (enA M)) (hlen : L.length + n ≤ 1048576)
 (h : ∀ v' w', OwnEn w' base v' (L ++ M) → wr.grownBy w' v.ownBlock → wpList Tryz.prog ops Q rest (a.put o.dst v') w') :
 wpList Tryz.prog ops Q (o :: rest) a wr := by
 subst hn1; obtain ⟨i0, hi, hz0, hz1, hz2⟩ := info_parts Tryz.infoEn
 cases ad with
 | none =>
  have hc0 := hn rfl; subst hc0; have hl0 : M.length = 0 := by have := hM.1; omega
  have hM0 : M = [] := List.eq_nil_of_length_eq_zero hl0; subst hM0; refine wpList_append_own_none hgd s x 23 ho base 46 i0 4 Tryz.underlying23 hi v L.length _ hs hown hx ?_; refine h v wr (by rw [List.append_nil]; exact hown) ?_; exact ⟨rfl, rfl, rfl, Nat.le_refl _, fun _ _ _ => rfl⟩
 | some ad =>
  refine wpList_append_own _ hgd s x 23 ho base 46 i0 _ 4 48 Tryz.underlying23 hi hz0 hz1 hz2 rfl (by decide) v L.length _ hs hown ad M.length c (enL M) hx (enL_len M) ?_ (enL_one M) ?_ ?_ hsz ?_
  · intro j u hj
    have hl : j < M.length * 4 := by rw [← enL_len]; exact (List.getElem?_eq_some_iff.1 hj).1
    obtain ⟨q0, q1, q2, q3⟩ := enL_at M (j / 4) (by omega)
    rcases hM.2 with h0 | ⟨b, off, e, hb, hc⟩
    · omega
    have e := Option.some.inj e; subst e; obtain ⟨r0, r1, r2, r3⟩ := hc (j / 4) (by omega); have ad0 : ∀ k, (⟨b, off, none⟩ : Addr).add k = ⟨b, off + k, none⟩ := fun k => by cases k <;> rfl
    rcases (by omega : j = j / 4 * 4 ∨ j = j / 4 * 4 + 1 ∨ j = j / 4 * 4 + 2 ∨ j = j / 4 * 4 + 3) with e | e | e | e
    · rw [e] at hj ⊢; rw [q0] at hj; rw [← hj, ad0]; exact r0
    · rw [e] at hj ⊢; rw [q1] at hj; rw [← hj]; exact r1
    · rw [e] at hj ⊢; rw [q2] at hj; rw [← hj]; exact r2
    · rw [e] at hj ⊢; rw [q3] at hj; rw [← hj]; exact r3
  · unfold maxLen; omega
  · omega
  · intro v' w' h1 h2 h3
    refine h v' w' ?_ h2; unfold OwnEn; rw [enL_app, List.length_append]; exact h1
def lastO : Option En → List En → Option En
 | p, [] => p
 | _, x :: r => lastO (some x) r
theorem lastO_snoc (e : En) : ∀ (L : List En) (p : Option En), lastO p (L ++ [e]) = some e
 | [], p => rfl
 | x :: r, p => lastO_snoc e r (some x)
open Classical in
theorem mgS_snoc (fl : Int) (e : En) : ∀ (L : List En) (pr : Option En), mgS fl pr (L ++ [e]) = mgS fl pr L ++ (if e.sq ≤ fl ∧ (oldP fl (lastO pr L) e ∨ e.gn = true) then [] else [e])
 | [], pr => by
  show (if e.sq ≤ fl ∧ (oldP fl pr e ∨ e.gn = true) then [] else [e]) ++ [] = [] ++ _
  rw [List.append_nil, List.nil_append]; rfl
 | x :: r, pr => by
  show (if x.sq ≤ fl ∧ (oldP fl pr x ∨ x.gn = true) then [] else [x]) ++ mgS fl (some x) (r ++ [e]) = ((if x.sq ≤ fl ∧ (oldP fl pr x ∨ x.gn = true) then [] else [x]) ++ mgS fl (some x) r) ++ _
  rw [mgS_snoc fl e r (some x), List.append_assoc]; rfl
theorem take_enA {L : List En} {i : Nat} (h : i < L.length) : L.take (i + 1) = L.take i ++ [enA L i] := by
 rw [List.take_add_one, enA_get h]; rfl
noncomputable def mgN (fl : Int) (L : List En) (i : Nat) : List En := mgS fl none (L.take i)
theorem lastO_take {L : List En} {i : Nat} (h : i < L.length) (e : En) (fl : Int) : oldP fl (lastO none (L.take i)) e ↔ 0 < i ∧ (enA L (i - 1)).ky = e.ky ∧ (enA L (i - 1)).sq ≤ fl := by
 cases i with
 | zero => constructor
           · rintro ⟨p, hp, _⟩; cases hp
           · rintro ⟨h0, _⟩; omega
 | succ i =>
  rw [take_enA (by omega), lastO_snoc, Nat.add_sub_cancel]
  constructor
  · rintro ⟨p, hp, h1, h2⟩; cases hp; exact ⟨by omega, h1, h2⟩
  · rintro ⟨_, h1, h2⟩; exact ⟨_, rfl, h1, h2⟩
theorem mgN_skip {fl : Int} {L : List En} {i : Nat} (h : i < L.length) (h1 : (enA L i).sq ≤ fl) (h2 : (0 < i ∧ (enA L (i - 1)).ky = (enA L i).ky ∧ (enA L (i - 1)).sq ≤ fl) ∨ (enA L i).gn = true) : mgN fl L (i + 1) = mgN fl L i := by
 unfold mgN; rw [take_enA h, mgS_snoc, if_pos ⟨h1, h2.imp (lastO_take h _ fl).2 id⟩, List.append_nil]
theorem mgN_keep {fl : Int} {L : List En} {i : Nat} (h : i < L.length) (h1 : ¬ ((enA L i).sq ≤ fl ∧ ((0 < i ∧ (enA L (i - 1)).ky = (enA L i).ky ∧ (enA L (i - 1)).sq ≤ fl) ∨ (enA L i).gn = true))) : mgN fl L (i + 1) = mgN fl L i ++ [enA L i] := by
 unfold mgN; rw [take_enA h, mgS_snoc, if_neg fun q => h1 ⟨q.1, q.2.imp (lastO_take h _ fl).1 id⟩]
theorem mgN_0 (fl : Int) (L : List En) : mgN fl L 0 = [] := rfl
theorem mgN_all (fl : Int) (L : List En) : mgN fl L L.length = mgS fl none L := by unfold mgN; rw [List.take_length]
theorem mgN_len {fl : Int} {L : List En} : ∀ i, i ≤ L.length → (mgN fl L i).length ≤ i
 | 0, _ => by rw [mgN_0]; exact Nat.le_refl _
 | i + 1, h => by
  have := mgN_len (fl := fl) (L := L) i (by omega)
  by_cases q : (enA L i).sq ≤ fl ∧ ((0 < i ∧ (enA L (i - 1)).ky = (enA L i).ky ∧ (enA L (i - 1)).sq ≤ fl) ∨ (enA L i).gn = true)
  · rw [mgN_skip h q.1 q.2]; omega
  · rw [mgN_keep h q, List.length_append]; show _ + 1 ≤ _; omega
theorem enA_range (o : Nat → En) {n k : Nat} (h : k < n) : enA ((List.range n).map o) k = o k := by
 unfold enA; rw [List.getD_eq_getElem?_getD, List.getElem?_map, List.getElem?_range h]; rfl
theorem Ens.cg {w : World} {a : Option Addr} {n c : Nat} {o o' : Nat → En} (h : Ens w a n c o) (e : ∀ k, k < n → o k = o' k) : Ens w a n c o' := by
 refine ⟨h.1, ?_⟩
 rcases h.2 with h0 | ⟨b, off, e1, h1, h2⟩
 · exact .inl h0
 · exact .inr ⟨b, off, e1, h1, fun k hk => by rw [← e k hk]; exact h2 k hk⟩
end Go.Proofs.YtcbmgpdpjagaoaaGreat
