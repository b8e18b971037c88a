import Derived.Test.YtmfhkhhdcmnpdaaLawMb4
namespace Go.Proofs.Ytmfhkhhdcmnpdaa
open Go.RowKit
set_option linter.unusedVariables false
/-! A run's answer as the law sees it (by gengrlaw.py). -/
def GdS (mem : Int) (n : Nat) (o : Nat → Gop) (w : World) (a1 : Option Addr) (n1 c1 : Nat) (a2 : Option Addr) (n2 c2 : Nat) : Prop :=
  (¬ grP mem n ∧ (a1 = none ∧ n1 = 0 ∧ c1 = 0 ∧ a2 = none ∧ n2 = 0 ∧ c2 = 0)) ∨ (grP mem n ∧ n1 = n ∧ n2 = mem.toNat ∧ Gous w a1 n c1 (goAt (gR mem.toNat o n).2) ∧ ∃ la lc mb, Mbs w a2 mem.toNat mem.toNat c2 (gR mem.toNat o n).1 la lc mb)
def GdI (mem : Int) (n : Nat) (o : Nat → Gop) (B : Nat) (w : World) (a1 : Option Addr) (n1 c1 : Nat) (a2 : Option Addr) (n2 c2 : Nat) : Prop :=
  (¬ grP mem n ∧ (a1 = none ∧ n1 = 0 ∧ c1 = 0 ∧ a2 = none ∧ n2 = 0 ∧ c2 = 0)) ∨ (grP mem n ∧ n1 = n ∧ n2 = mem.toNat ∧ OwnGo w B (.slice a1 n c1) (gR mem.toNat o n).2 ∧ ∃ g la lc mb, a2 = some ⟨g, 0, none⟩ ∧ MmL w B g c2 mem.toNat (gR mem.toNat o n).1 la lc mb)
def Mkd (mem : Int) (n : Nat) (o : Nat → Gop) (B : Nat) (w : World) (a1 : Option Addr) (n1 c1 : Nat) (a2 : Option Addr) (n2 c2 : Nat) (m : Nat) : Prop :=
  ((a1 = none ∧ n1 = 0 ∧ c1 = 0 ∧ a2 = none ∧ n2 = 0 ∧ c2 = 0) ∧ m = 1) ∨ (grP mem n ∧ n1 = n ∧ n2 = mem.toNat ∧ OuM w a1 n c1 ∧ (∃ g la lc mb, a2 = some ⟨g, 0, none⟩ ∧ mem.toNat ≤ c2 ∧ ∃ f, MdI w B g c2 mem.toNat (1 + n * 3) la lc mb mem.toNat (gR mem.toNat o n).1 f) ∧ m = kM (1 + n * 3) mem.toNat (gR mem.toNat o n).1 mem.toNat)
section
variable {mem : Int} {n : Nat} {o : Nat → Gop} {B : Nat} {w w' : World} {a1 : Option Addr} {n1 c1 : Nat} {a2 : Option Addr} {n2 c2 : Nat}
theorem GdS.below (h : GdS mem n o w a1 n1 c1 a2 n2 c2) (hb : Below w.heap.size w w') : GdS mem n o w' a1 n1 c1 a2 n2 c2 := by
  rcases h with h0 | ⟨h1, h2, h3, h4, la, lc, mb, h5⟩
  · exact .inl h0
  · exact .inr ⟨h1, h2, h3, h4.below hb, la, lc, mb, h5.below hb⟩
theorem GdI.gds (h : GdI mem n o B w a1 n1 c1 a2 n2 c2) : GdS mem n o w a1 n1 c1 a2 n2 c2 := by
  rcases h with h0 | ⟨h1, h2, h3, h4, g, la, lc, mb, h5, h6⟩
  · exact .inl h0
  · refine .inr ⟨h1, h2, h3, ?_, la, lc, mb, by rw [h5]; exact h6.mbs⟩
    obtain ⟨a, c, e, q⟩ := OwnGo.gous h4
    injection e with e1 e2 e3
    rw [gR_len] at q
    rw [e1, e3]
    exact q
/-- worlds in which the answer's own blocks are as they were -/
theorem GdI.keep (h : GdI mem n o B w a1 n1 c1 a2 n2 c2) (hk : ∀ b t cs, B ≤ b → RowAt w b t cs → RowAt w' b t cs) : GdI mem n o B w' a1 n1 c1 a2 n2 c2 := by
  rcases h with h0 | ⟨h1, h2, h3, h4, g, la, lc, mb, h5, h6⟩
  · exact .inl h0
  · refine .inr ⟨h1, h2, h3, ⟨h4.1, ?_⟩, g, la, lc, mb, h5, ⟨h6.lo, h6.cap, ?_, fun k hk2 => ?_, fun k hk2 => ⟨hk _ _ _ (h6.mat k hk2).2.1 (h6.mat k hk2).1, (h6.mat k hk2).2⟩, h6.nem, h6.nel⟩⟩
    · rcases h4.2 with z | ⟨g2, cap, cur, e1, e2, e3, e4⟩
      · exact .inl z
      · exact .inr ⟨g2, cap, cur, e1, e2, hk _ _ _ e2 e3, e4⟩
    · obtain ⟨f, ⟨cs, r1, r2, r3⟩, r4⟩ := h6.row
      exact ⟨f, ⟨cs, hk _ _ _ h6.lo r1, r2, r3⟩, r4⟩
    · have z := h6.log k hk2
      exact z.keep fun b cs hb hr => hk _ _ _ (World.ownsRow.lt z b hb).1 hr
theorem GdI.below (h : GdI mem n o B w a1 n1 c1 a2 n2 c2) (hb : Below w.heap.size w w') : GdI mem n o B w' a1 n1 c1 a2 n2 c2 := h.keep fun b t cs _ hr => hr.below hb hr.lt
theorem GdI.turned {lo hi : Nat} (h : GdI mem n o B w a1 n1 c1 a2 n2 c2) (ht : Turned lo hi w w') (hB : hi ≤ B) : GdI mem n o B w' a1 n1 c1 a2 n2 c2 := h.keep fun b t cs hb hr => hr.turned ht (.inr (Nat.le_trans hB hb))
theorem Mkd.below {m : Nat} (h : Mkd mem n o B w a1 n1 c1 a2 n2 c2 m) (hb : Below w.heap.size w w') : Mkd mem n o B w' a1 n1 c1 a2 n2 c2 m := by
  rcases h with h0 | ⟨h1, h2, h3, h4, ⟨g, la, lc, mb, h5, h6, f, h7⟩, h8⟩
  · exact .inl h0
  · exact .inr ⟨h1, h2, h3, h4.below hb, ⟨g, la, lc, mb, h5, h6, f, h7.below hb⟩, h8⟩
end
theorem gR_lg (N : Nat) (o : Nat → Gop) (n j : Nat) : ((gR N o n).1 j).lg.length ≤ 500 := (gR_ok N o n j).lg
theorem eqGd (mem : Int) (n : Nat) (o : Nat → Gop) (a1 : Option Addr) (n1 c1 : Nat) (a2 : Option Addr) (n2 c2 : Nat) (a1' : Option Addr) (n1' c1' : Nat) (a2' : Option Addr) (n2' c2' : Nat) (w : World) (h : GdS mem n o w a1 n1 c1 a2 n2 c2) (h' : GdS mem n o w a1' n1' c1' a2' n2' c2') :
    Calls Try.prog 16 #[.agg #[.slice a1 n1 c1, .slice a2 n2 c2], .agg #[.slice a1' n1' c1', .slice a2' n2' c2']] w fun e w' => e = .returned (.bool true) ∧ Below w.heap.size w w' := by
  rcases h with ⟨h0, rfl, rfl, rfl, rfl, rfl, rfl⟩ | ⟨h1, rfl, rfl, h4, la, lc, mb, h5⟩
  · rcases h' with ⟨_, rfl, rfl, rfl, rfl, rfl, rfl⟩ | ⟨h1, _⟩
    · exact eqRunG none none 0 0 0 (fun _ => gou0) (by omega) none none 0 0 0 0 (by omega) (Nat.le_refl _) (fun _ => mb0 0) (fun _ => none) (fun _ => none) (fun _ => 0) (fun _ => 0) (fun _ => 0) (fun _ => 0) (fun k hk => absurd hk (by omega)) w ⟨Nat.le_refl _, .inl rfl⟩ ⟨Nat.le_refl _, .inl rfl⟩ ⟨Nat.le_refl _, .inl rfl⟩ ⟨Nat.le_refl _, .inl rfl⟩
    · exact absurd h1 h0
  · rcases h' with ⟨h0, _⟩ | ⟨_, rfl, rfl, h4', la', lc', mb', h5'⟩
    · exact absurd h1 h0
    · have hn := h1.2.2
      have h9 := h1.2.1
      exact eqRunG a1 a1' _ c1 c1' _ (by omega) a2 a2' mem.toNat mem.toNat c2 c2' (by omega) (Nat.le_refl _) _ la la' lc lc' mb mb' (fun k _ => by have := gR_lg mem.toNat o n1' k; omega) w h4 h4' h5 h5'
theorem markGd (mem : Int) (n : Nat) (o : Nat → Gop) (B : Nat) (a1 : Option Addr) (n1 c1 : Nat) (a2 : Option Addr) (n2 c2 : Nat) (w : World) (hBw : B ≤ w.heap.size) (h : GdI mem n o B w a1 n1 c1 a2 n2 c2) :
    ∃ m : Nat, Calls Try.prog 19 #[.agg #[.slice a1 n1 c1, .slice a2 n2 c2], .int .i64 1] w fun e w' => e = .returned (.int .i64 (m : Int)) ∧ Mkd mem n o B w' a1 n1 c1 a2 n2 c2 m ∧ Below B w w' ∧ ∀ x cs, RowAt w x 31 cs → RowAt w' x 31 cs := by
  rcases h with ⟨h0, rfl, rfl, rfl, rfl, rfl, rfl⟩ | ⟨h1, rfl, rfl, h4, g, la, lc, mb, rfl, h6⟩
  · exact ⟨1, (markRun0 w).mono fun e w' ⟨q1, q2⟩ => ⟨q1, .inl ⟨⟨rfl, rfl, rfl, rfl, rfl, rfl⟩, rfl⟩, q2.mono hBw, fun x cs hr => hr.below q2 hr.lt⟩⟩
  · have hn := h1.2.2
    have h9 := h1.2.1
    refine ⟨_, (markRunG B a1 n1 c1 _ (gR_len _ _ _) hn g c2 la lc mb mem.toNat _ (by omega) (gR_lg _ _ _) w hBw h4 h6).mono fun e w' ⟨q1, q2, q3, q4, q5⟩ => ⟨q1, .inr ⟨h1, rfl, rfl, q3, ⟨g, la, lc, mb, rfl, h6.cap, q2⟩, rfl⟩, q4, q5⟩⟩
theorem heldGd (mem : Int) (n : Nat) (o : Nat → Gop) (B : Nat) (a1 : Option Addr) (n1 c1 : Nat) (a2 : Option Addr) (n2 c2 : Nat) (m : Nat) (w : World) (h : Mkd mem n o B w a1 n1 c1 a2 n2 c2 m) :
    Calls Try.prog 20 #[.agg #[.slice a1 n1 c1, .slice a2 n2 c2], .int .i64 1] w fun e w' => e = .returned (.int .i64 (m : Int)) ∧ Below w.heap.size w w' := by
  rcases h with ⟨⟨rfl, rfl, rfl, rfl, rfl, rfl⟩, rfl⟩ | ⟨h1, rfl, rfl, h4, ⟨g, la, lc, mb, rfl, h6, h7⟩, rfl⟩
  · exact heldRun0 w
  · have hn := h1.2.2
    have h9 := h1.2.1
    exact heldRunG B a1 n1 c1 hn g c2 la lc mb mem.toNat _ (by omega) h6 (gR_lg _ _ _) w h4 h7
theorem AnsGS.gd {mem : Int} {n : Nat} {o : Nat → Gop} {w w' : World} {e : Ending} (h : AnsGS mem n o w e w') : ∃ a1 n1 c1 a2 n2 c2, e = .returned (.agg #[.slice a1 n1 c1, .slice a2 n2 c2]) ∧ GdS mem n o w' a1 n1 c1 a2 n2 c2 ∧ Below w.heap.size w w' := by
  rcases h with ⟨⟨h0, rfl⟩ | ⟨h1, b, v, rfl, h2, la, lc, mb, h3⟩, hb⟩
  · exact ⟨_, _, _, _, _, _, rfl, .inl ⟨h0, rfl, rfl, rfl, rfl, rfl, rfl⟩, hb⟩
  · obtain ⟨a, c, rfl, q⟩ := OwnGo.gous h2
    rw [gR_len] at q ⊢
    exact ⟨_, _, _, _, _, _, rfl, .inr ⟨h1, rfl, rfl, q, la, lc, mb, h3.mbs⟩, hb⟩
theorem AnsGI.gd {mem : Int} {n : Nat} {o : Nat → Gop} {w w' : World} {e : Ending} (h : AnsGI mem n o w e w') : ∃ a1 n1 c1 a2 n2 c2, e = .returned (.agg #[.slice a1 n1 c1, .slice a2 n2 c2]) ∧ GdI mem n o w.heap.size w' a1 n1 c1 a2 n2 c2 ∧ Below w.heap.size w w' := by
  rcases h with ⟨⟨h0, rfl⟩ | ⟨h1, g, c, v, la, lc, mb, rfl, h2, h3⟩, hb⟩
  · exact ⟨_, _, _, _, _, _, rfl, .inl ⟨h0, rfl, rfl, rfl, rfl, rfl, rfl⟩, hb⟩
  · obtain ⟨a, c', rfl, q⟩ := OwnGo.gous h2
    rw [gR_len] at h2 ⊢
    exact ⟨_, _, _, _, _, _, rfl, .inr ⟨h1, rfl, rfl, h2, g, la, lc, mb, rfl, h3⟩, hb⟩
end Go.Proofs.Ytmfhkhhdcmnpdaa
