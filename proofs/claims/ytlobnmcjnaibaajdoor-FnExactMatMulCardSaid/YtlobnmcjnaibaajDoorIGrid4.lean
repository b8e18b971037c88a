import Derived.Test.YtlobnmcjnaibaajDoorIGrid3
namespace Go.Proofs.YtlobnmcjnaibaajDoor
open Go.RowKit
/-- A new grid under way: its struct at m, its bytes at g, all else as it was in W. -/
structure NgSt (W wr : World) (m g R C q : Nat) (zs : List Nat) : Prop where
  M0 : RowAt wr m 46 #[.int .i64 R, .int .i64 C, .slice (some ⟨g, 0, none⟩) q q]
  Z : Gr wr g zs
  len : zs.length = q
  bel : Below W.heap.size W wr
  o2 : W.heap.size ≤ g
  o3 : g < m
theorem NgSt.alloc {W wr : World} {m g R C q : Nat} {zs : List Nat} (h : NgSt W wr m g R C q zs) (o : Obj) : NgSt W (wr.alloc o) m g R C q zs := ⟨h.M0.alloc o, h.Z.alloc o, h.len, h.bel.alloc h.bel.size o, h.o2, h.o3⟩
theorem NgSt.drew {W wr : World} {m g R C q : Nat} {zs : List Nat} (h : NgSt W wr m g R C q zs) : NgSt W wr.drew m g R C q zs := ⟨h.M0, h.Z, h.len, h.bel.drew, h.o2, h.o3⟩
theorem NgSt.ml {W wr : World} {m g R C q : Nat} {zs : List Nat} (h : NgSt W wr m g R C q zs) : m < wr.heap.size := h.M0.lt
theorem NgSt.below {W wr w2 : World} {m g R C q : Nat} {zs : List Nat} (h : NgSt W wr m g R C q zs) (hb : Below wr.heap.size wr w2) : NgSt W w2 m g R C q zs :=
  ⟨h.M0.below hb h.ml, h.Z.below hb h.Z.lt, h.len, h.bel.trans (hb.mono h.bel.size), h.o2, h.o3⟩
theorem NgSt.set {W wr : World} {m g R C q : Nat} {zs : List Nat} (h : NgSt W wr m g R C q zs) (i x : Nat) : NgSt W (wr.setCell ⟨g, i, none⟩ (.int .u8 x)) m g R C q (zs.set i x) := by
  have h3 := h.o3
  exact ⟨h.M0.other _ _ (by dsimp only; omega), h.Z.set i x, by rw [List.length_set]; exact h.len, h.bel.setCell (by show W.heap.size ≤ g; exact h.o2) _, h.o2, h.o3⟩
theorem NgSt.grown {W wr w2 : World} {m g R C q : Nat} {zs zs' : List Nat} (h : NgSt W wr m g R C q zs) (hg : wr.grownBy w2 (some g)) (hz : Gr w2 g zs') (hl : zs'.length = q) : NgSt W w2 m g R C q zs' := by
  have h3 := h.o3
  have h2 := h.o2
  exact ⟨rowFar h.M0 hg (by intro e; injection e with e; omega), hz, hl, h.bel.grown hg h.bel.size (fun k hk => by cases hk; exact h.o2), h.o2, h.o3⟩
theorem NgSt.start {W w1 : World} {g R C q : Nat} {zs : List Nat} (hz : Gr w1 g zs) (hl : zs.length = q) (hb : Below W.heap.size W w1) (hg : W.heap.size ≤ g) : NgSt W (w1.alloc (.cells #[.int .i64 R, .int .i64 C, .slice (some ⟨g, 0, none⟩) q q] 46)) w1.heap.size g R C q zs :=
  ⟨RowAt.new w1 _ _, hz.alloc _, hl, hb.alloc hb.size _, hg, hz.lt⟩
theorem xor_u8 (C I J : Nat) (hC : C ≤ 64) (hI : I < 64) (hJ : J < 64) : bits .xor .u8 ((C : Int) + (I : Int)) (J : Int) = (((C + I) ^^^ J : Nat) : Int) := by
  rw [show (C : Int) + (I : Int) = ((C + I : Nat) : Int) by omega]
  exact u8_xor_nat _ _ (by omega) (by omega)
theorem iinvx (x : Int) (A G : Nat) (hx : x = (A : Int)) (ha : A < 256) (HG : Hid (gp 8 29 A 254 = G)) (w : World) : Calls Tryd.prog 57 #[.agg #[.int .u8 29], .int .u8 x] w fun e w' => e = .returned (.int .u8 (G : Nat)) ∧ Below w.heap.size w w' := by
  subst hx; exact inverse8 A G ha HG w
end Go.Proofs.YtlobnmcjnaibaajDoor
