import Derived.Test.YtmjolkagkeonfaaGreatDoorDrawPol5
import Derived.Test.YtmjolkagkeonfaaGreatDoorG14
import Derived.Test.YtmjolkagkeonfaaGreatDoorG14
namespace Go.Proofs.YtmjolkagkeonfaaGreatDoor
open Go.RowKit
set_option linter.unusedVariables false
/-! The draw of a policy's text: a bound of its length is said. -/
/-- a table that was made ahead of a draw stands behind it -/
theorem tabKept {W0 w w2 : World} {c : Nat} {a : Option Addr} {len cap p : Nat} {cs : Array Value} {t : TypeId} (h : Src W0 w c a len cap p) (hg : (w.alloc (.cells cs t)).grownBy w2 (some c)) : RowAt w2 w.heap.size t cs := by
  have hc := h.lt
  have hr := RowAt.new w t cs
  exact (hg.block _ hr.lt (fun e => by have := Option.some.inj e; omega)).trans hr
theorem srcAl {W0 w : World} {c : Nat} {a : Option Addr} {len cap p : Nat} (h : Src W0 w c a len cap p) (o : Obj) : Src W0 (w.alloc o) c a len cap p := h.far (World.grownBy_alloc w _ none) (by simp) (by intro g hg; cases hg)
def cdT : Array Value := #[.string ⟨#[32, 112, 114, 101, 102, 105, 120, 32, 98, 47]⟩, .string ⟨#[32, 98, 101, 102, 111, 114, 101, 32, 49, 48, 48]⟩, .string ⟨#[32, 97, 102, 116, 101, 114, 32, 53, 48]⟩, .string ⟨#[32, 102, 114, 111, 109, 32, 49, 48, 46, 42]⟩, .string ⟨#[32, 112, 114, 101, 102, 105, 120, 32, 99]⟩]
def enT : Array Value := #[.string ⟨#[10]⟩, .string ⟨#[10, 10]⟩, .string ⟨#[32, 10]⟩]
theorem cdT_at (k : Nat) (hk : k < 5) : ∃ x : ByteArray, cdT[k]? = some (.string x) ∧ x.size ≤ 11 := by
  rcases (by omega : k = 0 ∨ k = 1 ∨ k = 2 ∨ k = 3 ∨ k = 4) with rfl | rfl | rfl | rfl | rfl
  all_goals exact ⟨_, rfl, by decide⟩
theorem enT_at (k : Nat) (hk : k < 3) : ∃ x : ByteArray, enT[k]? = some (.string x) ∧ x.size ≤ 2 := by
  rcases (by omega : k = 0 ∨ k = 1 ∨ k = 2) with rfl | rfl | rfl
  all_goals exact ⟨_, rfl, by decide⟩
set_option maxRecDepth 20000 in
set_option maxHeartbeats 8000000 in
theorem policy_all (W0 w : World) (c : Nat) (a : Option Addr) (len cap p : Nat) (h : Src W0 w c a len cap p) (hp : p ≤ 800000) :
    Calls Tryz.prog 38 #[.pointer (some ⟨c, 0, none⟩)] w fun e w' => (∃ u : ByteArray, e = .returned (.string u) ∧ u.size ≤ 1000) ∧ (∃ p', Src W0 w' c a len cap p' ∧ p' ≤ p + 2000) ∧ w.grownBy w' (some c) := by
  obtain ⟨z, hS, hz0, hz1⟩ := h.1
  obtain ⟨z', rfl⟩ := Int.eq_ofNat_of_zero_le hz0
  have h2 := hS.cell 2 _ rfl
  clear hS
  have HH := hid h
  clear h
  go_enter Tryz.func38, Tryz.ntmps38
  go_wp2_with fail
  refine (n_all W0 _ c a len cap p _ HH.out (by omega) (by omega) (by omega)).mono ?_
  rintro e w1 ⟨⟨r, rfl, hr0, hr1⟩, hs1, hg1⟩
  obtain ⟨N, rfl⟩ := Int.eq_ofNat_of_zero_le hr0
  have hN : N ≤ 8 := by omega
  have S1 := hid hs1
  have G1 := hid hg1
  clear hs1 hg1 hr0 hr1 HH h2 hz0 hz1
  go_wp2_with fail
  go_loopw [3, 4] (fun v i wr => ∃ (u : ByteArray) (n q : Nat), v = .string u ∧ i = .int .i64 (n : Int) ∧ n ≤ 8 ∧ u.size + 103 * n ≤ 824 ∧ q + 164 * n ≤ p + 1313 ∧ Src W0 wr c a len cap q ∧ w.grownBy wr (some c)) (fun _ i _ => (intOf i).toNat)
  case atStart => exact ⟨⟨#[]⟩, N, p + 1, rfl, rfl, hN, by have e : (⟨#[]⟩ : ByteArray).size = 0 := rfl; omega, by omega, S1.out, G1.out⟩
  case round =>
    obtain ⟨u, n, q, rfl, rfl, hn, hu, hq, hs, hg⟩ := hrel
    have S2 := hid hs
    have G2 := hid hg
    clear hs hg S1 G1
    by_cases h0 : n = 0
    · subst h0
      go_wp2
      go_ret
      exact ⟨⟨u, rfl, by omega⟩, ⟨q, S2.out, by omega⟩, G2.out⟩
    · have d0 : (0 : Int) < (n : Int) := by omega
      obtain ⟨WR, hWR⟩ : ∃ v, v = wr := ⟨_, rfl⟩
      subst hWR
      go_upto_region 5 with fail
      refine po5_wp W0 WR c a len cap q u WR S2.out (below_grown (Below.refl _ _) _) S2.out.lt ⟨by omega, by omega⟩ ?_
      intro XT R3 x5 x9 x13 x17 t6 t7 t10 t11 t14 t15 t18 pp w3 hS3 hp3 hg3 _ _ _ _ _ _ _ _ _ _ _ _ _ ht18 _
      have S3 := hid hS3
      have G3 := hid (grown_trans G2.out hg3)
      clear hS3 hg3 S2 G2
      go_wp2_with fail
      refine (n_all W0 _ c a len cap pp 3 S3.out (by omega) (by omega) (by omega)).mono ?_
      rintro e w4 ⟨⟨r, rfl, hr0, hr1⟩, hs4, hg4⟩
      obtain ⟨M, rfl⟩ := Int.eq_ofNat_of_zero_le hr0
      have S4 := hid hs4
      have G4 := hid (grown_trans G3.out hg4)
      have hM : M < 3 := by omega
      clear hs4 hg4 S3 G3 hr0 hr1
      go_wp2_with fail
      go_loopw [3, 5] (fun v j wq => ∃ (u2 : ByteArray) (m q2 : Nat), v = .string u2 ∧ j = .int .i64 (m : Int) ∧ m < 3 ∧ u2.size + 11 * m ≤ u.size + 101 ∧ q2 + m ≤ q + 163 ∧ Src W0 wq c a len cap q2 ∧ w.grownBy wq (some c)) (fun _ j _ => (intOf j).toNat)
      case atStart => exact ⟨t18, M, pp + 1, rfl, rfl, hM, by omega, by omega, S4.out, G4.out⟩
      case round =>
        obtain ⟨u2, m, q2, rfl, rfl, hm, hu2, hq2, hs, hg⟩ := hrel
        obtain ⟨WQ, hWQ⟩ : ∃ v, v = wr := ⟨_, rfl⟩
        subst hWQ
        have S5 := hid hs
        have G5 := hid hg
        clear hs hg S4 G4
        by_cases hm0 : m = 0
        · subst hm0
          go_wp2_with fail
          refine (n_all W0 _ c a len cap q2 3 (srcAl S5.out _) (by omega) (by omega) (by omega)).mono ?_
          rintro e w6 ⟨⟨r, rfl, hr0, hr1⟩, hs6, hg6⟩
          obtain ⟨K, rfl⟩ := Int.eq_ofNat_of_zero_le hr0
          have R6 : RowAt w6 WQ.heap.size 9 enT := tabKept S5.out hg6
          obtain ⟨x, hx, hx2⟩ := enT_at K (by omega)
          have c6 := (R6.cell K).trans hx
          have S6 := hid hs6
          have G6 := hid (grown_trans (grown_trans G5.out (World.grownBy_alloc _ _ _)) hg6)
          clear hs6 hg6 R6 hx S5 G5
          go_wp2
          go_roundw
          case rel => exact ⟨_, n - 1, q2 + 1, rfl, by go_num, by omega, by simp only [sizeApp]; omega, by omega, S6.out, G6.out⟩
          case measure => simp [intOf]; omega
        · have d1 : (0 : Int) < (m : Int) := by omega
          go_wp2_with fail
          refine (n_all W0 _ c a len cap q2 5 (srcAl S5.out _) (by omega) (by omega) (by omega)).mono ?_
          rintro e w6 ⟨⟨r, rfl, hr0, hr1⟩, hs6, hg6⟩
          obtain ⟨K, rfl⟩ := Int.eq_ofNat_of_zero_le hr0
          have R6 : RowAt w6 WQ.heap.size 9 cdT := tabKept S5.out hg6
          obtain ⟨x, hx, hx2⟩ := cdT_at K (by omega)
          have c6 := (R6.cell K).trans hx
          have S6 := hid hs6
          have G6 := hid (grown_trans (grown_trans G5.out (World.grownBy_alloc _ _ _)) hg6)
          clear hs6 hg6 R6 hx S5 G5
          go_wp2
          go_roundw
          case rel => exact ⟨_, m - 1, q2 + 1, rfl, by go_num, by omega, by simp only [sizeApp]; omega, by omega, S6.out, G6.out⟩
          case measure => simp [intOf]; omega
end Go.Proofs.YtmjolkagkeonfaaGreatDoor
namespace Go.Proofs.YtmjolkagkeonfaaGreatDoor
open Go.RowKit
set_option linter.unusedVariables false
/-! The draw of statements: what it ends with; what is read of the text. -/
/-- statements that a draw gives -/
structure StD (w : World) (v : Value) : Prop where
  ex : ∃ a m cap R, v = .slice a m cap ∧ Sts w a m cap R ∧ (∀ k, k < m → StB (R k) 1048576) ∧ m ≤ 50 ∧ (a = none → cap = 0)
theorem PolR.std {w : World} {B : Nat} {v : Value} {L : List PS} {Rs : List St} {X : Nat → Nat} (h : PolR w B v L Rs X) (hl : L.length ≤ 50) (hb : ∀ i, i < L.length → psB (psA L i)) : StD w v := by
  have hn : Rs.length = L.length := h.len
  obtain ⟨a, c, rfl⟩ := h.own.slice
  refine ⟨a, Rs.length, c, stA Rs, rfl, h.own.sts fun k hk => (h.at_ k (by omega)).in, fun k hk => (h.at_ k (by omega)).stB (hb k (by omega)), by omega, fun e => ?_⟩
  rcases h.own.2 with ⟨h0, h1⟩ | ⟨g, cap, cur, he, _⟩
  · injection h0
  · injection he with e1
    rw [e] at e1; cases e1
theorem PolAt.std {w : World} {B : Nat} {v : Value} {t : ByteArray} (h : PolAt w B v (polO t).2.2) : StD w v := by
  obtain ⟨Rs, X, h⟩ := h
  exact h.std (polB t).1 (polB t).2
end Go.Proofs.YtmjolkagkeonfaaGreatDoor
