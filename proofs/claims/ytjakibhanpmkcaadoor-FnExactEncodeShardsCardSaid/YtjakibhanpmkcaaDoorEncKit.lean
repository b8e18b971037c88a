import Derived.Test.YtjakibhanpmkcaaDoorEncS4
namespace Go.Proofs.YtjakibhanpmkcaaDoor
open Go.RowKit
/-! EncodeShards: answers of texts, and the two contracts. -/
/-- an answer's own texts: in a block of lo .. hi -/
def OwnS (w : World) (lo hi : Nat) (a : Option Addr) (n : Nat) (f : Nat → ByteArray) : Prop := n = 0 ∨ ∃ tg, a = some ⟨tg, 0, none⟩ ∧ lo ≤ tg ∧ tg < hi ∧ FRow w tg 9 n (fun i => .string (f i))
theorem OwnS.below {w w' : World} {lo hi n m : Nat} {a : Option Addr} {f : Nat → ByteArray} (h : OwnS w lo hi a n f) (hb : Below m w w') (hm : hi ≤ m) : OwnS w' lo hi a n f := by
  rcases h with h | ⟨tg, h1, h2, h3, h4⟩
  · exact Or.inl h
  · exact Or.inr ⟨tg, h1, h2, h3, h4.below hb (by omega)⟩
theorem OwnS.alloc {w : World} {lo hi n : Nat} {a : Option Addr} {f : Nat → ByteArray} (h : OwnS w lo hi a n f) (o : Obj) : OwnS (w.alloc o) lo hi a n f := by
  rcases h with h | ⟨tg, h1, h2, h3, h4⟩
  · exact Or.inl h
  · exact Or.inr ⟨tg, h1, h2, h3, h4.alloc o⟩
theorem OwnS.drew {w : World} {lo hi n : Nat} {a : Option Addr} {f : Nat → ByteArray} (h : OwnS w lo hi a n f) : OwnS w.drew lo hi a n f := h
theorem FRow.turned {w w' : World} {b lo hi n : Nat} {t : TypeId} {f : Nat → Value} (h : FRow w b t n f) (hg : Turned lo hi w w') (hn : b < lo ∨ hi ≤ b) : FRow w' b t n f := by
  obtain ⟨cs, h1, h2, h3⟩ := h; exact ⟨cs, h1.turned hg hn, h2, h3⟩
theorem OwnS.turned {w w' : World} {lo hi l2 h2 n : Nat} {a : Option Addr} {f : Nat → ByteArray} (h : OwnS w lo hi a n f) (hg : Turned l2 h2 w w') (hn : hi ≤ l2 ∨ h2 ≤ lo) : OwnS w' lo hi a n f := by
  rcases h with h | ⟨tg, h1, h3, h4, h5⟩
  · exact Or.inl h
  · exact Or.inr ⟨tg, h1, h3, h4, h5.turned hg (by omega)⟩
theorem OwnS.strs {w : World} {lo hi n : Nat} {a : Option Addr} {f : Nat → ByteArray} (h : OwnS w lo hi a n f) : Strs w a n n f := by
  rcases h with h | ⟨tg, rfl, h3, h4, h5⟩
  · exact ⟨Nat.le_refl _, Or.inl h⟩
  · exact h5.strs
theorem OwnS.setRow {w : World} {lo hi n : Nat} {a : Option Addr} {f : Nat → ByteArray} (h : OwnS w lo hi a n f) (g : Nat) (c : Array Value) (hg : g < lo ∨ hi ≤ g) : OwnS (w.setRow g c) lo hi a n f := by
  rcases h with h | ⟨tg, h1, h3, h4, cs, r1, r2, r3⟩
  · exact Or.inl h
  · exact Or.inr ⟨tg, h1, h3, h4, cs, r1.otherRow g c (by omega), r2, r3⟩
/-- texts that lie below hi -/
def StrsB (w : World) (hi : Nat) (a : Option Addr) (n c : Nat) (f : Nat → ByteArray) : Prop := n ≤ c ∧ (n = 0 ∨ ∃ b, a = some ⟨b, 0, none⟩ ∧ b < hi ∧ b < w.heap.size ∧ ∀ i, i < n → w.cell? ⟨b, 0 + i, none⟩ = some (.string (f i)))
theorem StrsB.of {w : World} {b n c : Nat} {f : Nat → ByteArray} (h : Strs w (some ⟨b, 0, none⟩) n c f) : StrsB w w.heap.size (some ⟨b, 0, none⟩) n c f := by
  refine ⟨h.1, ?_⟩
  rcases h.2 with h0 | ⟨b', off, he, h1, h2⟩
  · exact Or.inl h0
  · cases he; exact Or.inr ⟨b, rfl, h1, h1, h2⟩
theorem StrsB.none (w : World) (f : Nat → ByteArray) : StrsB w w.heap.size none 0 0 f := ⟨Nat.le_refl _, Or.inl rfl⟩
theorem StrsB.strs {w : World} {hi n c : Nat} {a : Option Addr} {f : Nat → ByteArray} (h : StrsB w hi a n c f) : Strs w a n c f := by
  refine ⟨h.1, ?_⟩
  rcases h.2 with h0 | ⟨b, he, h1, h2, h3⟩
  · exact Or.inl h0
  · exact Or.inr ⟨b, 0, he, h2, h3⟩
theorem StrsB.blocks {w w' : World} {hi n c : Nat} {a : Option Addr} {f : Nat → ByteArray} (h : StrsB w hi a n c f) (hs : w.heap.size ≤ w'.heap.size) (hb : ∀ b, b < hi → b < w.heap.size → w'.heap[b]? = w.heap[b]?) : StrsB w' hi a n c f := by
  refine ⟨h.1, ?_⟩
  rcases h.2 with h0 | ⟨b, he, h1, h2, h3⟩
  · exact Or.inl h0
  · refine Or.inr ⟨b, he, h1, by omega, fun i hi => ?_⟩
    rw [← h3 i hi]
    simp only [World.cell?, hb b h1 h2]
theorem StrsB.below {w w' : World} {hi n c m : Nat} {a : Option Addr} {f : Nat → ByteArray} (h : StrsB w hi a n c f) (hb : Below m w w') (hm : hi ≤ m) : StrsB w' hi a n c f := h.blocks hb.size fun b h1 _ => hb.block b (by omega)
theorem StrsB.alloc {w : World} {hi n c : Nat} {a : Option Addr} {f : Nat → ByteArray} (h : StrsB w hi a n c f) (o : Obj) : StrsB (w.alloc o) hi a n c f := h.blocks (by rw [size_al]; omega) fun b _ h2 => ((Below.refl w.heap.size w).alloc (Nat.le_refl _) o).block b h2
theorem StrsB.drew {w : World} {hi n c : Nat} {a : Option Addr} {f : Nat → ByteArray} (h : StrsB w hi a n c f) : StrsB w.drew hi a n c f := h
theorem StrsB.turned {w w' : World} {hi l2 h2 n c : Nat} {a : Option Addr} {f : Nat → ByteArray} (h : StrsB w hi a n c f) (hg : Turned l2 h2 w w') (hn : hi ≤ l2) : StrsB w' hi a n c f := h.blocks hg.size fun b h1 h2 => hg.block b h2 (by omega)
theorem StrsB.setRow {w : World} {hi n c : Nat} {a : Option Addr} {f : Nat → ByteArray} (h : StrsB w hi a n c f) (g : Nat) (cs : Array Value) (hg : hi ≤ g) : StrsB (w.setRow g cs) hi a n c f := h.blocks (by rw [setRow_size]; exact Nat.le_refl _) fun b h1 _ => setRow_other w g b cs (by omega)
/-- the program's answer -/
def AnsP (k : Int) (n : Nat) (f : Nat → ByteArray) (w : World) (e : Ending) (w' : World) : Prop := ∃ a, e = .returned (srv k a n n) ∧ OwnS w' w.heap.size w'.heap.size a n f ∧ Below w.heap.size w w'
/-- the specification's answer -/
def AnsQ (k : Int) (n : Nat) (f : Nat → ByteArray) (w : World) (e : Ending) (w' : World) : Prop := ∃ a c, e = .returned (srv k a n c) ∧ StrsB w' w'.heap.size a n c f ∧ Below w.heap.size w w'
/-- the code of the answer, and how many texts it has -/
theorem both (k m g : Int) (len : Nat) (ts : Nat → ByteArray) (hz : ∀ i, i < len → (ts i).size ≤ 1048576) :
    ∃ (c : Int) (n : Nat) (f : Nat → ByteArray), n ≤ 64 ∧
      (∀ b w, FRow w b 9 len (fun i => .string (ts i)) → Calls Tryd.prog 5 #[cdv k m g, .slice (some ⟨b, 0, none⟩) len len] w fun e w' => AnsQ c n f w e w') ∧
      (∀ b w, Tab w → FRow w b 9 len (fun i => .string (ts i)) → Calls Tryd.prog 8 #[cdv k m g, .slice (some ⟨b, 0, none⟩) len len] w fun e w' => AnsP c n f w e w') := by
  by_cases hf : cfault k m g = 0 ∧ (len : Int) = k
  · obtain ⟨hf, hlk⟩ := hf
    obtain ⟨K, M, G, rfl, rfl, rfl, h1, h2, h3, h4, h5⟩ := cfault_ok hf
    obtain rfl : len = K := by omega
    by_cases hft : Fits ts len
    · refine ⟨0, len + M + G, encT len M G ts, h5, fun b w hF => ?_, fun b w hT hF => ?_⟩
      · refine (senc len M G b 0 len h1 h2 h3 h4 h5 ts hz w (fun i hi => by rw [Nat.zero_add]; exact hF.cell hi)).mono ?_
        rintro e w' ⟨_, hy, hb⟩
        obtain ⟨g, c, rfl, hst⟩ := hy hft
        exact ⟨_, _, rfl, StrsB.of hst, hb⟩
      · refine (ienc_ok len M G b 0 len h1 h2 h3 h4 h5 ts hft w hT (fun i hi => by rw [Nat.zero_add]; exact hF.cell hi)).mono ?_
        rintro e w' ⟨tg, rfl, hl, hr, hb⟩
        exact ⟨_, rfl, Or.inr ⟨tg, rfl, hl, hr.lt, hr⟩, hb⟩
    · refine ⟨2, 0, ts, by omega, fun b w hF => ?_, fun b w _ hF => ?_⟩
      · refine (senc len M G b 0 len h1 h2 h3 h4 h5 ts hz w (fun i hi => by rw [Nat.zero_add]; exact hF.cell hi)).mono ?_
        rintro e w' ⟨hn, _, hb⟩
        exact ⟨_, _, hn hft, StrsB.none _ _, hb⟩
      · refine (ienc_size len M G b 0 len h1 h2 hf ts hz hft w (fun i hi => by rw [Nat.zero_add]; exact hF.cell hi)).mono ?_
        rintro e w' ⟨rfl, hb⟩
        exact ⟨_, rfl, Or.inl rfl, hb⟩
  · refine ⟨1, 0, ts, by omega, fun b w hF => ?_, fun b w _ hF => ?_⟩
    · refine (senc_form k m g _ len len hf w).mono ?_
      rintro e w' ⟨rfl, hb⟩
      exact ⟨_, _, rfl, StrsB.none _ _, hb⟩
    · refine (ienc_form k m g _ len len hf w).mono ?_
      rintro e w' ⟨rfl, hb⟩
      exact ⟨_, rfl, Or.inl rfl, hb⟩
theorem markP (k : Int) (lo hi : Nat) (a : Option Addr) (n : Nat) (f : Nat → ByteArray) (M : Nat) (hM : M = 1 + n) (hl : n ≤ 64) (w : World) (h : OwnS w lo hi a n f) :
    Calls Tryd.prog 12 #[srv k a n n, .int .i64 1] w fun e w' => e = .returned (.int .i64 (M : Nat)) ∧ OwnS w' lo hi a n (fun i => markB (1 + i)) ∧ Turned lo hi w w' := by
  rcases h with h | ⟨tg, rfl, h2, h3, h4⟩
  · subst h; subst hM
    refine (markSR0 k a 0 w).mono ?_
    rintro e w' ⟨rfl, hb⟩
    exact ⟨rfl, Or.inl rfl, Turned.of_below hb⟩
  · refine (markSR k tg n _ _ M hM (by omega) w h4).mono ?_
    rintro e w' ⟨rfl, hr, hg⟩
    exact ⟨rfl, Or.inr ⟨tg, rfl, h2, h3, hr⟩, Turned.of_grown hg h2 h3⟩
end Go.Proofs.YtjakibhanpmkcaaDoor
