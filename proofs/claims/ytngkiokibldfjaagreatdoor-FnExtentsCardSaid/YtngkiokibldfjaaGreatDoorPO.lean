import Derived.Test.YtngkiokibldfjaaGreatDoorPH
import Derived.Maps.OwnSet
import Derived.Maps.Views
import Derived.Test.YtngkiokibldfjaaGreatDoorPJ
namespace Go.Proofs.YtngkiokibldfjaaGreatDoor
open Go.RowKit
set_option linter.unusedVariables false
/-! The keys' numbers: a map that the shelf keeps. -/
def nKey (k : ByteArray) : Lit := .string k.data.toList
theorem nKey_inj {a b : ByteArray} : nKey a = nKey b ↔ a = b := by
  unfold nKey
  constructor
  · intro h
    have h2 : a.data.toList = b.data.toList := by injection h
    cases a
    cases b
    congr 1
    exact Array.toList_inj.1 h2
  · intro h; rw [h]
theorem nKey_key (k : ByteArray) : WideAt.IsKeyLit (nKey k) := trivial
structure NmOk (D : DataW Unit) (NK : List ByteArray) : Prop where
  tidy : Maps.Tidy D
  has : ∀ k, Maps.has D (nKey k) = true ↔ k ∈ NK
  size : Maps.size D = NK.length
  at_ : ∀ (i : Nat) (k : ByteArray) (z : DataW Unit), NK[i]? = some k → D.atKey (nKey k) z = .lit (.int .i64 (i : Int))
theorem NmOk.nil : NmOk (.map []) [] := ⟨Maps.tidy_empty, fun k => by simp [Maps.has], rfl, fun i k z h => by simp at h⟩
theorem NmOk.put {D : DataW Unit} {NK : List ByteArray} {k : ByteArray} (h : NmOk D NK) (hk : k ∉ NK) : NmOk (D.put (nKey k) (.lit (.int .i64 (NK.length : Int)))) (NK ++ [k]) := by
  refine ⟨h.tidy.put (nKey_key k) _, fun x => ?_, ?_, fun i x z hx => ?_⟩
  · by_cases e : nKey x = nKey k
    · have := nKey_inj.1 e
      subst this
      exact ⟨fun _ => by simp, fun _ => Maps.has_put_same h.tidy.isMap (nKey_key x) _⟩
    · have q : x ≠ k := fun q => e (nKey_inj.2 q)
      rw [Maps.has_put_other e, h.has]
      simp [q]
  · rw [Maps.size_put h.tidy, if_neg (fun q => hk ((h.has k).1 q)), h.size]
    simp
  · by_cases c : i < NK.length
    · rw [List.getElem?_append_left c] at hx
      have q : nKey x ≠ nKey k := fun q => hk (by rw [← nKey_inj.1 q]; exact List.mem_of_getElem? hx)
      rw [Maps.atKey_put_other q]
      exact h.at_ i x z hx
    · rw [List.getElem?_append_right (by omega)] at hx
      have hi : i = NK.length := by
        have := (List.getElem?_eq_some_iff.1 hx).1
        simp at this
        omega
      subst hi
      simp at hx
      subst hx
      exact Maps.atKey_put_same h.tidy.isMap (nKey_key _) _ _
theorem wfN (n : Int) (h0 : 0 ≤ n) (h1 : n ≤ 9223372036854775807) : (Lit.int .i64 n).wf = true := by
  have a : IntKind.i64.min = -9223372036854775808 := rfl
  have b : IntKind.i64.max = 9223372036854775807 := rfl
  show (decide (IntKind.i64.min ≤ n) && decide (n ≤ IntKind.i64.max)) = true
  rw [a, b]
  simp
  omega
theorem lawN : Maps.Keyed Tryz.prog 9 := Maps.string_keyed Tryz.underlying9
/-- the map of the keys' numbers at a block -/
def NumsAt (w : World) (mb : Nat) (NK : List ByteArray) : Prop := NK.Nodup ∧ ∃ D : DataW Unit, NmOk D NK ∧ w.ownsMap Tryz.prog 9 (plainElem Tryz.prog 3) mb NK.length D
theorem NumsAt.row {w : World} {mb : Nat} {NK : List ByteArray} (h : NumsAt w mb NK) : ∃ es clock, w.heap[mb]? = some (.map es clock) := by
  obtain ⟨_, D, _, es, c, hb, _⟩ := h
  exact ⟨es, c, hb⟩
theorem NumsAt.lt {w : World} {mb : Nat} {NK : List ByteArray} (h : NumsAt w mb NK) : mb < w.heap.size := by
  obtain ⟨es, c, hb⟩ := h.row
  exact (Array.getElem?_eq_some_iff.1 hb).1
theorem NumsAt.keep {w w' : World} {mb : Nat} {NK : List ByteArray} (h : NumsAt w mb NK) (hk : w'.heap[mb]? = w.heap[mb]?) : NumsAt w' mb NK := by
  obtain ⟨hn, D, hD, es, clock, hb, F, hs, rfl⟩ := h
  exact ⟨hn, _, hD, es, clock, hk.trans hb, F, hs, rfl⟩
theorem NumsAt.below {w w' : World} {mb : Nat} {NK : List ByteArray} (h : NumsAt w mb NK) (hb : Below w.heap.size w w') : NumsAt w' mb NK := h.keep (hb.block mb h.lt)
/-- no block of cells is the map's -/
theorem NumsAt.ne {w : World} {mb g : Nat} {NK : List ByteArray} {t : TypeId} {cs : Array Value} (h : NumsAt w mb NK) (r : RowAt w g t cs) : g ≠ mb := fun e => by
  obtain ⟨es, c, hb⟩ := h.row
  subst e
  have q := hb.symm.trans (show w.heap[g]? = _ from r)
  cases q
theorem NumsAt.setCell {w : World} {mb g i : Nat} {NK : List ByteArray} {t : TypeId} {cs : Array Value} {u : Value} (h : NumsAt w mb NK) (r : RowAt w g t cs) : NumsAt (w.setCell ⟨g, i, none⟩ u) mb NK := h.keep ((grown_set (w := w) (c := g) (u := u) (o := i)).block mb h.lt (fun e => h.ne r (Option.some.inj e).symm))
end Go.Proofs.YtngkiokibldfjaaGreatDoor
namespace Go.Proofs.YtngkiokibldfjaaGreatDoor
open Go.RowKit
set_option linter.unusedVariables false
/-! An extent under operations: bounds. -/
/-- a record that stands there is its own text -/
theorem rec_ext {s : ByteArray} {p : Nat} {f : Fr} (h : getRec s (p : Nat) = some f) : RecOk (rcK s (some f)) f.gone (rcD s (some f)) ∧ recV (rcK s (some f)) f.gone (rcD s (some f)) = s.extract p f.next ∧ f.at' = p := by
  have hin := getRec_in s p f h
  have hM : Marked s (p : Int) := by
    refine Classical.byContradiction fun q => ?_
    rw [getRec_no s _ q] at h
    cases h
  have ha : p < s.size := by have := hM.2.1; omega
  have hm : byteAt s p = 231 := by have := hM.2.2; rwa [Int.toNat_natCast] at this
  rw [getRec_at s p ha hm] at h
  cases h1 : spanN s (p + 1) 100000 with
  | none => rw [h1] at h; cases h
  | some x =>
    obtain ⟨ka, ks⟩ := x
    rw [h1] at h
    simp only at h
    split at h
    · cases h
    · rename_i c1
      cases h2 : spanN s (ka + ks + 1) 100000 with
      | none => rw [h2] at h; cases h
      | some y =>
        obtain ⟨ba, bs⟩ := y
        rw [h2] at h
        simp only at h
        split at h
        · cases h
        · rename_i c2
          split at h
          · rename_i c3
            have e := Option.some.inj h
            subst e
            have r := (rec_iff s p ka ks ba bs ha hm h1 (by omega) h2 (by omega) _ rfl).2 c3
            exact ⟨r.1, r.2, rfl⟩
          · cases h
/-- the records of a text, one behind the other -/
def Chn (s : ByteArray) : Nat → List Fr → Prop
  | _, [] => True
  | p, f :: L => p ≤ f.at' ∧ getRec s (f.at' : Nat) = some f ∧ Chn s f.next L
theorem chn_scan (s : ByteArray) : ∀ n p, Chn s p (scanN s n p)
  | 0, p => trivial
  | n + 1, p => by
    rw [scanN]
    split
    · trivial
    · cases hr : getRec s (p : Nat) with
      | none =>
        have := chn_scan s n (p + 1)
        simp only
        cases hL : scanN s n (p + 1) with
        | nil => trivial
        | cons f L =>
          rw [hL] at this
          exact ⟨by have := this.1; omega, this.2⟩
      | some r =>
        have e := (getRec_in s p r hr).1
        exact ⟨by omega, by rw [e]; exact hr, chn_scan s n r.next⟩
theorem chn_sc (s : ByteArray) (p : Nat) : Chn s p (sc s p) := chn_scan s _ _
theorem Chn.drop {s : ByteArray} : ∀ {L : List Fr} {p : Nat}, Chn s p L → ∀ (k : Nat) (f : Fr), L[k]? = some f → getRec s (f.at' : Nat) = some f ∧ Chn s f.next (L.drop (k + 1))
  | [], p, _, k, f, h => by simp at h
  | g :: L, p, h, k, f, hk => by
    cases k with
    | zero => simp at hk; subst hk; exact ⟨h.2.1, h.2.2⟩
    | succ k => simp at hk; exact Chn.drop h.2.2 k f hk
/-- where the first k records end -/
def endN (L : List Fr) : Nat → Nat
  | 0 => 0
  | k + 1 => match L[k]? with | some f => f.next | none => endN L k
theorem Chn.ends {s : ByteArray} {L : List Fr} (h : Chn s 0 L) : ∀ k, k ≤ L.length → endN L k ≤ s.size ∧ ∀ f : Fr, L[k]? = some f → endN L k ≤ f.at' ∧ f.at' < f.next ∧ f.next ≤ s.size := by
  have ord : ∀ (k : Nat) (f : Fr), L[k]? = some f → f.at' < f.next ∧ f.next ≤ s.size := fun k f hk => by
    have := getRec_in s f.at' f (h.drop k f hk).1
    omega
  intro k
  induction k with
  | zero =>
    intro _
    refine ⟨Nat.zero_le _, fun f hf => ⟨Nat.zero_le _, ord 0 f hf⟩⟩
  | succ k ih =>
    intro hk
    obtain ⟨g, hg⟩ : ∃ g, L[k]? = some g := ⟨L[k], List.getElem?_eq_getElem (by omega)⟩
    have e : endN L (k + 1) = g.next := by show (match L[k]? with | some f => f.next | none => endN L k) = _; rw [hg]
    rw [e]
    refine ⟨(ord k g hg).2, fun f hf => ⟨?_, ord (k + 1) f hf⟩⟩
    have c := (h.drop k g hg).2
    cases hL : L.drop (k + 1) with
    | nil =>
      have : L.length ≤ k + 1 := List.drop_eq_nil_iff.1 hL
      have := (List.getElem?_eq_some_iff.1 hf).1
      omega
    | cons f' L' =>
      have e2 : L[k + 1]? = some f' := by have := congrArg (·[0]?) hL; simpa using this
      rw [hf] at e2
      obtain rfl := Option.some.inj e2
      rw [hL] at c
      exact c.1
theorem cmp_size (d : ByteArray) : ∀ k, k ≤ (sc d 0).length → (cmpN d k).size ≤ endN (sc d 0) k
  | 0, _ => Nat.zero_le _
  | k + 1, hk => by
    have ih := cmp_size d k (by omega)
    have ends := (chn_sc d 0).ends k (by omega)
    obtain ⟨f, hf⟩ : ∃ f, (sc d 0)[k]? = some f := ⟨(sc d 0)[k], List.getElem?_eq_getElem (by omega)⟩
    have e : endN (sc d 0) (k + 1) = f.next := by show (match (sc d 0)[k]? with | some f => f.next | none => endN (sc d 0) k) = _; rw [hf]
    obtain ⟨a1, a2, a3⟩ := ends.2 f hf
    rw [e]
    unfold cmpN
    split
    · rename_i c
      have g0 : f.gone = false := by have := c.1; unfold goneAt rcG at this; rw [hf] at this; exact this
      have r := rec_ext ((chn_sc d 0).drop k f hf).1
      rw [g0] at r
      have ek : keyAt d (sc d 0) k = rcK d (some f) := by unfold keyAt; rw [hf]
      rw [ek, hf, r.2.1, ByteArray.size_append, ByteArray.size_extract]
      omega
    · omega
theorem cmp_le (d : ByteArray) : (cmpN d (sc d 0).length).size ≤ d.size := Nat.le_trans (cmp_size d _ (Nat.le_refl _)) ((chn_sc d 0).ends _ (Nat.le_refl _)).1
theorem rot_size (d : ByteArray) (i : Nat) (t : Int) : (rotN d i t).size = d.size := by
  show (d.data.toList.set i _).toArray.size = _
  simp
/-- what an extent keeps -/
structure XOk (d : ByteArray) (sy : Nat) : Prop where
  bd : d.size ≤ 300000
  bs : sy ≤ d.size
theorem putX_ok {d : ByteArray} {sy : Nat} (h : XOk d sy) (t : ByteArray) (no : Bool) : XOk (putX d sy t no).1 (putX d sy t no).2.1 := by
  obtain ⟨h1, h2⟩ := h
  unfold putX
  split
  · exact ⟨h1, h2⟩
  · split
    · exact ⟨h1, h2⟩
    · split
      · exact ⟨h1, h2⟩
      · refine ⟨?_, ?_⟩
        · show (d ++ t).size ≤ _; rw [ByteArray.size_append]; omega
        · show sy ≤ (d ++ t).size; rw [ByteArray.size_append]; omega
theorem crsK_bd {d : ByteArray} {sy : Nat} (h : XOk d sy) (kp : Int) : 0 ≤ crsK d sy kp ∧ crsK d sy kp ≤ (d.size : Int) - sy := by
  have := h.bs
  unfold crsK
  repeat' split
  all_goals omega
theorem recV_size (k : ByteArray) (g : Bool) (t : ByteArray) : (recV k g t).size ≤ 110000 := by
  unfold recV
  split
  · rename_i h
    have := recT_size k g t h.2.1 h.2.2.2
    rw [ByteArray.size_append, four_size]
    omega
  · exact Nat.zero_le _
theorem px1 {d t : ByteArray} (sy : Nat) (no : Bool) (h : t.size = 0) : putX d sy t no = (d, sy, 1) := by unfold putX; rw [if_pos h]
theorem px7 {d t : ByteArray} (sy : Nat) (no : Bool) (h : ¬ t.size = 0) (h2 : 300000 < d.size + t.size) : putX d sy t no = (d, sy, 7) := by unfold putX; rw [if_neg h, if_pos h2]
theorem px5 {d t : ByteArray} (sy : Nat) (h : ¬ t.size = 0) (h2 : ¬ 300000 < d.size + t.size) : putX d sy t true = (d, sy, 5) := by unfold putX; rw [if_neg h, if_neg h2, if_pos rfl]
theorem px0 {d t : ByteArray} (sy : Nat) (h : ¬ t.size = 0) (h2 : ¬ 300000 < d.size + t.size) : putX d sy t false = (d ++ t, sy, 0) := by unfold putX; rw [if_neg h, if_neg h2]; rfl
theorem rcF_dat (s : ByteArray) (L : List Fr) (k : Nat) (h : k < L.length) : rcF s L (k * 5 + 2) = .string (rcD s L[k]?) := by
  have hf : L[k]? = some L[k] := List.getElem?_eq_getElem h
  unfold rcF
  rw [rcL_at s L k 2 L[k] hf (by decide), hf]
  rfl
theorem x1 (d : ByteArray) (sy : Nat) (ky dt : ByteArray) (kp a t : Int) : xDo d sy ⟨1, ky, dt, kp, a, t⟩ = (((putX d sy (recV ky false dt) false).1, (putX d sy (recV ky false dt) false).2.1), ⟨(putX d sy (recV ky false dt) false).2.2, ByteArray.empty, [], (hldN (putX d sy (recV ky false dt) false).1 : Int)⟩) := rfl
theorem x2 (d : ByteArray) (sy : Nat) (ky dt : ByteArray) (kp a t : Int) : xDo d sy ⟨2, ky, dt, kp, a, t⟩ = (((putX d sy (recV ky true ⟨#[]⟩) (!thrB d ky)).1, (putX d sy (recV ky true ⟨#[]⟩) (!thrB d ky)).2.1), ⟨(putX d sy (recV ky true ⟨#[]⟩) (!thrB d ky)).2.2, ByteArray.empty, [], (hldN (putX d sy (recV ky true ⟨#[]⟩) (!thrB d ky)).1 : Int)⟩) := rfl
theorem x3 (d : ByteArray) (sy : Nat) (ky dt : ByteArray) (kp a t : Int) : xDo d sy ⟨3, ky, dt, kp, a, t⟩ = ((d, d.size), ⟨0, ByteArray.empty, [], (hldN d : Int)⟩) := rfl
theorem x4 (d : ByteArray) (sy : Nat) (ky dt : ByteArray) (kp a t : Int) : xDo d sy ⟨4, ky, dt, kp, a, t⟩ = ((d.extract 0 (sy + (crsK d sy kp).toNat), sy + (crsK d sy kp).toNat), ⟨0, ByteArray.empty, [], (hldN (d.extract 0 (sy + (crsK d sy kp).toNat)) : Int)⟩) := rfl
theorem x5n (d : ByteArray) (sy : Nat) (ky dt : ByteArray) (kp a t : Int) (h : rotP d a t) : xDo d sy ⟨5, ky, dt, kp, a, t⟩ = ((d, sy), ⟨1, ByteArray.empty, [], (hldN d : Int)⟩) := by simp [xDo, h]
theorem x5y (d : ByteArray) (sy : Nat) (ky dt : ByteArray) (kp a t : Int) (h : ¬ rotP d a t) : xDo d sy ⟨5, ky, dt, kp, a, t⟩ = ((rotN d a.toNat t, sy), ⟨0, ByteArray.empty, [], (hldN (rotN d a.toNat t) : Int)⟩) := by simp [xDo, h]
theorem x6y (d : ByteArray) (sy : Nat) (ky dt : ByteArray) (kp a t : Int) (h : thrB d ky = true) : xDo d sy ⟨6, ky, dt, kp, a, t⟩ = ((d, sy), ⟨0, datN d ky, [], (hldN d : Int)⟩) := by simp [xDo, h]
theorem x6n (d : ByteArray) (sy : Nat) (ky dt : ByteArray) (kp a t : Int) (h : thrB d ky = false) : xDo d sy ⟨6, ky, dt, kp, a, t⟩ = ((d, sy), ⟨5, ByteArray.empty, [], (hldN d : Int)⟩) := by simp [xDo, h]
theorem x7 (d : ByteArray) (sy : Nat) (ky dt : ByteArray) (kp a t : Int) : xDo d sy ⟨7, ky, dt, kp, a, t⟩ = ((d, sy), ⟨0, ByteArray.empty, scrN d, (hldN d : Int)⟩) := rfl
theorem x8 (d : ByteArray) (sy : Nat) (ky dt : ByteArray) (kp a t : Int) : xDo d sy ⟨8, ky, dt, kp, a, t⟩ = ((cmpN d (sc d 0).length, (cmpN d (sc d 0).length).size), ⟨0, ByteArray.empty, [], (hldN (cmpN d (sc d 0).length) : Int)⟩) := rfl
theorem x0 (d : ByteArray) (sy : Nat) (kd : Int) (ky dt : ByteArray) (kp a t : Int) (h1 : kd ≠ 1) (h2 : kd ≠ 2) (h3 : kd ≠ 3) (h4 : kd ≠ 4) (h5 : kd ≠ 5) (h6 : kd ≠ 6) (h7 : kd ≠ 7) (h8 : kd ≠ 8) : xDo d sy ⟨kd, ky, dt, kp, a, t⟩ = ((d, sy), ⟨1, ByteArray.empty, [], (hldN d : Int)⟩) := by simp [xDo, h1, h2, h3, h4, h5, h6, h7, h8]
theorem x_hl (d : ByteArray) (sy : Nat) (o : Op) : (xDo d sy o).2.hl = (hldN (xDo d sy o).1.1 : Int) := rfl
theorem xDo_ok {d : ByteArray} {sy : Nat} (h : XOk d sy) (o : Op) : XOk (xDo d sy o).1.1 (xDo d sy o).1.2 := by
  obtain ⟨kd, ky, dt, kp, a, t⟩ := o
  by_cases k1 : kd = 1
  · subst k1; rw [x1]; exact putX_ok h _ _
  by_cases k2 : kd = 2
  · subst k2; rw [x2]; exact putX_ok h _ _
  by_cases k3 : kd = 3
  · subst k3; rw [x3]; exact ⟨h.bd, Nat.le_refl _⟩
  by_cases k4 : kd = 4
  · subst k4
    rw [x4]
    have hc := crsK_bd h kp
    have h1 := h.bd
    have h2 := h.bs
    refine ⟨?_, ?_⟩
    · show (d.extract 0 _).size ≤ _; rw [ByteArray.size_extract]; omega
    · show sy + (crsK d sy kp).toNat ≤ (d.extract 0 (sy + (crsK d sy kp).toNat)).size; rw [ByteArray.size_extract]; omega
  by_cases k5 : kd = 5
  · subst k5
    by_cases hr : rotP d a t
    · rw [x5n d sy ky dt kp a t hr]; exact h
    · rw [x5y d sy ky dt kp a t hr]
      refine ⟨?_, ?_⟩
      · show (rotN d _ _).size ≤ _; rw [rot_size]; exact h.bd
      · show _ ≤ (rotN d _ _).size; rw [rot_size]; exact h.bs
  by_cases k6 : kd = 6
  · subst k6
    cases hr : thrB d ky with
    | true => rw [x6y d sy ky dt kp a t hr]; exact h
    | false => rw [x6n d sy ky dt kp a t hr]; exact h
  by_cases k7 : kd = 7
  · subst k7; rw [x7]; exact h
  by_cases k8 : kd = 8
  · subst k8
    rw [x8]
    exact ⟨Nat.le_trans (cmp_le d) h.bd, Nat.le_refl _⟩
  · rw [x0 d sy kd ky dt kp a t k1 k2 k3 k4 k5 k6 k7 k8]; exact h
theorem xRun_ok {d : ByteArray} {sy : Nat} (h : XOk d sy) (o : Nat → Op) : ∀ i, XOk (xRun d sy o i).1.1 (xRun d sy o i).1.2
  | 0 => h
  | i + 1 => xDo_ok (xRun_ok h o i) (o i)
end Go.Proofs.YtngkiokibldfjaaGreatDoor
namespace Go.Proofs.YtngkiokibldfjaaGreatDoor
open Go.RowKit
set_option linter.unusedVariables false
/-! What a scrub tells, step by step; what compaction leaves. -/
theorem mrk_e (d : ByteArray) (f p : Nat) (L : List Fr) (h : d.size ≤ p) : mrkN d f p L = [] := by
  cases f with
  | zero => rfl
  | succ f => cases L <;> simp [mrkN, h]
theorem mrk_n (d : ByteArray) (f p : Nat) (h : ¬ d.size ≤ p) : mrkN d (f + 1) p [] = if byteAt d p = 231 then p :: mrkN d f (p + 1) [] else mrkN d f (p + 1) [] := by simp [mrkN, h]
theorem mrk_c (d : ByteArray) (f p : Nat) (r : Fr) (L : List Fr) (h : ¬ d.size ≤ p) : mrkN d (f + 1) p (r :: L) = if p = r.at' then mrkN d f r.next L else if byteAt d p = 231 then p :: mrkN d f (p + 1) (r :: L) else mrkN d f (p + 1) (r :: L) := by simp [mrkN, h]
theorem mrk_fuel (d : ByteArray) : ∀ (f g p : Nat) (L : List Fr), (∀ r ∈ L, r.at' < r.next) → d.size < p + f → d.size < p + g → mrkN d f p L = mrkN d g p L := by
  intro f
  induction f with
  | zero =>
    intro g p L _ h1 h2
    rw [mrk_e d 0 p L (by omega), mrk_e d g p L (by omega)]
  | succ f ih =>
    intro g p L hL h1 h2
    by_cases c : d.size ≤ p
    · rw [mrk_e d _ p L c, mrk_e d _ p L c]
    · cases g with
      | zero => omega
      | succ g =>
        cases L with
        | nil => rw [mrk_n d f p c, mrk_n d g p c, ih g (p + 1) [] (fun r hr => by cases hr) (by omega) (by omega)]
        | cons r L' =>
          have hr := hL r (by simp)
          have hL' : ∀ r ∈ L', r.at' < r.next := fun x hx => hL x (by simp [hx])
          rw [mrk_c d f p r L' c, mrk_c d g p r L' c, ih g (p + 1) (r :: L') hL (by omega) (by omega)]
          by_cases e : p = r.at'
          · rw [if_pos e, if_pos e, ih g r.next L' hL' (by omega) (by omega)]
          · rw [if_neg e, if_neg e]
/-- the marks from a place on, behind k records -/
def mkF (d : ByteArray) (p k : Nat) : List Nat := mrkN d (d.size + 1) p ((sc d 0).drop k)
theorem sc_ord (d : ByteArray) (k : Nat) : ∀ r ∈ (sc d 0).drop k, r.at' < r.next := fun r hr => by
  obtain ⟨j, hj⟩ := List.mem_iff_getElem?.1 (List.mem_of_mem_drop hr)
  have h := ((chn_sc d 0).drop j r hj).1
  have := getRec_in d r.at' r h
  omega
theorem mk_end (d : ByteArray) {p k : Nat} (h : d.size ≤ p) : mkF d p k = [] := mrk_e d _ p _ h
theorem mk_rec (d : ByteArray) {p k : Nat} {r : Fr} (h : p < d.size) (hk : (sc d 0)[k]? = some r) (hp : p = r.at') : mkF d p k = mkF d r.next (k + 1) := by
  have hlt : k < (sc d 0).length := (List.getElem?_eq_some_iff.1 hk).1
  have e : (sc d 0).drop k = r :: (sc d 0).drop (k + 1) := by
    rw [List.drop_eq_getElem_cons hlt]
    congr 1
    exact (List.getElem?_eq_some_iff.1 hk).2
  have ho := sc_ord d k r (by rw [e]; simp)
  unfold mkF
  rw [e, mrk_c d d.size p r _ (by omega), if_pos hp]
  exact mrk_fuel d _ _ _ _ (sc_ord d (k + 1)) (by omega) (by omega)
theorem mk_step (d : ByteArray) {p k : Nat} (h : p < d.size) (hn : ∀ r, (sc d 0)[k]? = some r → p ≠ r.at') : mkF d p k = if byteAt d p = 231 then p :: mkF d (p + 1) k else mkF d (p + 1) k := by
  have e : mrkN d d.size (p + 1) ((sc d 0).drop k) = mkF d (p + 1) k := mrk_fuel d _ _ _ _ (sc_ord d k) (by omega) (by omega)
  rw [← e]
  unfold mkF
  cases hd : (sc d 0).drop k with
  | nil => rw [mrk_n d d.size p (by omega)]
  | cons r L =>
    have hk : (sc d 0)[k]? = some r := by
      have := congrArg (·[0]?) hd
      simpa using this
    rw [mrk_c d d.size p r L (by omega), if_neg (hn r hk)]
/-- the keys told so far and what is to come -/
theorem tell_step {A : List ByteArray} {M : List Nat} {p : Nat} {X : List ByteArray} (hl : A.length < 100) (h : A ++ ((p :: M).take (100 - A.length)).map decB = X) : (A ++ [decB p]) ++ (M.take (100 - (A ++ [decB p]).length)).map decB = X := by
  rw [← h, List.length_append, List.append_assoc]
  congr 1
  obtain ⟨n, hn⟩ : ∃ n, 100 - A.length = n + 1 := ⟨99 - A.length, by omega⟩
  rw [hn, List.take_succ_cons, List.map_cons, show 100 - (A.length + [decB p].length) = n by show 100 - (A.length + 1) = n; omega]
  rfl
theorem tell_full {A : List ByteArray} {M : List Nat} {X : List ByteArray} (hl : 100 ≤ A.length) (h : A ++ (M.take (100 - A.length)).map decB = X) : A = X := by
  rw [← h, show 100 - A.length = 0 by omega]
  simp
/-- a record more -/
theorem cmp_take (d : ByteArray) (k : Nat) (h : goneAt (sc d 0) k = false ∧ lstN d (keyAt d (sc d 0) k) = (k : Int)) : cmpN d (k + 1) = cmpN d k ++ recV (keyAt d (sc d 0) k) false (rcD d (sc d 0)[k]?) := by rw [cmpN, if_pos h]
theorem cmp_pass (d : ByteArray) (k : Nat) (h : ¬ (goneAt (sc d 0) k = false ∧ lstN d (keyAt d (sc d 0) k) = (k : Int))) : cmpN d (k + 1) = cmpN d k := by rw [cmpN, if_neg h]
end Go.Proofs.YtngkiokibldfjaaGreatDoor
