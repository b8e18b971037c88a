import Derived.Test.YtmhkelfmciepaaaDrawGr2
namespace Go.Proofs.Ytmhkelfmciepaaa
open Go.RowKit
set_option linter.unusedVariables false
/-! spec.DrawRunGroup. -/
def DrRG (w : World) (e : Ending) (w' : World) : Prop :=
  ∃ (m : Int) (av : Option Addr) (cv : Nat) (L : List Gq), e = .returned (.tuple #[.int .i64 m, .slice av L.length cv]) ∧ L.length ≤ 600 ∧ OwnGq w' w.heap.size (.slice av L.length cv) L ∧ (∀ x ∈ L, GqOk w' w.heap.size x) ∧ Below w.heap.size w w'
structure RgSt (w : World) (c : Nat) (a : Option Addr) (len cap P : Nat) (av : Option Addr) (cv : Nat) (L : List Gq) (wx : World) : Prop where
  src : ∃ p, p ≤ P ∧ Src w wx c a len cap p
  own : OwnGq wx (c + 1) (.slice av L.length cv) L
  ok : ∀ x ∈ L, GqOk wx (c + 1) x
theorem OwnGq.mono {w : World} {B B' : Nat} {v : Value} {L : List Gq} (h : OwnGq w B v L) (hb : B' ≤ B) : OwnGq w B' v L := by
  refine ⟨h.1, ?_⟩
  rcases h.2 with h0 | ⟨g, cap, cur, h1, h2, h3⟩
  · exact Or.inl h0
  · exact Or.inr ⟨g, cap, cur, h1, Nat.le_trans hb h2, h3⟩
theorem OwnGq.kept {w w' : World} {B c : Nat} {v : Value} {L : List Gq} (h : OwnGq w B v L) (hg : w.grownBy w' (some c)) (hc : c < B) : OwnGq w' B v L :=
  World.ownsRow.kept h hg (by
    cases hv : v.ownBlock with
    | none => exact .inl rfl
    | some g => exact .inr (fun e => by have := (World.ownsRow.lt h g hv).1; have := Option.some.inj e; omega))
section
variable {w wx w2 : World} {c : Nat} {a : Option Addr} {len cap P : Nat} {av : Option Addr} {cv : Nat} {L : List Gq}
theorem RgSt.call (h : RgSt w c a len cap P av cv L wx) {p P' : Nat} (hs : Src w w2 c a len cap p) (hp : p ≤ P') (hg : wx.grownBy w2 (some c)) : RgSt w c a len cap P' av cv L w2 :=
  ⟨⟨p, hp, hs⟩, h.own.kept hg (Nat.lt_succ_self _), fun x hx => by
    obtain ⟨e1, e2, e3⟩ := h.ok x hx
    exact ⟨e1, e2, OwnNums.kept e3 hg (Nat.lt_succ_self _)⟩⟩
theorem RgSt.alloc (h : RgSt w c a len cap P av cv L wx) (o : Obj) : RgSt w c a len cap P av cv L (wx.alloc o) := by
  obtain ⟨p, hp, hs⟩ := h.src
  exact h.call (hs.alloc o) hp (World.grownBy_alloc wx o _)
theorem RgSt.done (h : RgSt w c a len cap P av cv L wx) (hL : L.length ≤ 600) (hc : w.heap.size ≤ c) (m : Int) : DrRG w (.returned (.tuple #[.int .i64 m, .slice av L.length cv])) wx := by
  obtain ⟨p, hp, hs⟩ := h.src
  refine ⟨m, av, cv, L, rfl, hL, h.own.mono (by omega), fun x hx => ?_, hs.2.2.2.1⟩
  obtain ⟨e1, e2, e3⟩ := h.ok x hx
  exact ⟨e1, e2, OwnNums.monoQ e3 (by omega)⟩
theorem RgSt.app (h : RgSt w c a len cap P av cv L wx) (hc : w.heap.size ≤ c) {y : Gq} (hy : GqOk wx (c + 1) y) {a' : Option Addr} {c' : Nat} (hO : OwnGq w2 (c + 1) (.slice a' (L ++ [y]).length c') (L ++ [y])) (hg : wx.grownBy w2 (Value.slice av L.length cv).ownBlock) :
    RgSt w c a len cap P a' c' (L ++ [y]) w2 := by
  obtain ⟨p, hp, hs⟩ := h.src
  have hB : ∀ g, (Value.slice av L.length cv).ownBlock = some g → c + 1 ≤ g := fun g hg => (World.ownsRow.lt h.own g hg).1
  refine ⟨⟨p, hp, hs.far hg (fun e => by have := hB c e.symm; omega) (fun g hg => by have := hB g hg; omega)⟩, hO, fun x hx => ?_⟩
  rcases List.mem_append.1 hx with hx | hx
  · obtain ⟨e1, e2, e3⟩ := h.ok x hx
    exact ⟨e1, e2, OwnGq.keptN h.own e3 hg⟩
  · obtain rfl := List.mem_singleton.1 hx
    exact ⟨hy.1, hy.2.1, OwnGq.keptN h.own hy.2.2 hg⟩
end
def five : List Int := [0, 1, 2, 3, 4]
theorem own_five (w : World) (m : Nat) (hm : m ≤ 5) : OwnNums (w.alloc (.cells #[.int .i64 0, .int .i64 1, .int .i64 2, .int .i64 3, .int .i64 4] 2)) w.heap.size 2 .i64 (.slice (some ⟨w.heap.size, 0, none⟩) m 5) (five.take m) := by
  rcases (by omega : m = 0 ∨ m = 1 ∨ m = 2 ∨ m = 3 ∨ m = 4 ∨ m = 5) with rfl | rfl | rfl | rfl | rfl | rfl
  all_goals exact ⟨by decide, .inr ⟨w.heap.size, 5, #[.int .i64 0, .int .i64 1, .int .i64 2, .int .i64 3, .int .i64 4], rfl, Nat.le_refl _, heap_alloc_new w _, by decide, by decide, by decide, rfl⟩⟩
theorem two_tab (k : Nat) (hk : k < 2) : ∃ t : Int, (#[.int .i64 0, .int .i64 10] : Array Value)[k]? = some (.int .i64 t) := by
  rcases (by omega : k = 0 ∨ k = 1) with rfl | rfl
  all_goals exact ⟨_, rfl⟩
end Go.Proofs.Ytmhkelfmciepaaa
namespace Go.Proofs.Ytmhkelfmciepaaa
open Go.RowKit
set_option linter.unusedVariables false
set_option maxRecDepth 20000 in
set_option maxHeartbeats 8000000 in
theorem drawRG_all (w : World) (a : Option Addr) (len cap : Nat) (hc : CodeOk w a len) (hlc : len ≤ cap) :
    Calls Try.prog 5 #[.slice a len cap] w fun e w' => DrRG w e w' := by
  have KS := hid (source_all w a len cap hc hlc)
  obtain ⟨c, hcc⟩ : ∃ c, c = w.heap.size := ⟨_, rfl⟩
  rw [← hcc] at KS
  have hwc : w.heap.size ≤ c := by omega
  clear hc hlc hcc
  go_enter Try.func5, Try.ntmps5
  go_wp2_with fail
  refine KS.out.mono ?_
  rintro e w1 ⟨rfl, hs1, _⟩
  have KN := hid (n_all w w1 c a len cap 0 5 hs1 (by omega) (by omega) (by omega))
  clear hs1 KS
  go_wp2_with fail
  refine KN.out.mono ?_
  rintro e w2 ⟨⟨r, rfl, hr0, hr1⟩, hs2, _⟩
  obtain ⟨M, hM⟩ : ∃ M : Nat, (M : Int) = 1 + r := ⟨(1 + r).toNat, by omega⟩
  have zz : 1 + r = (M : Int) := hM.symm
  have M1 : 1 ≤ M ∧ M ≤ 5 := by omega
  clear hM KN
  obtain ⟨⟨z, hS, hz0, hz1⟩, hrest⟩ := id hs2
  have bz : w2.cell? ⟨c, 2, none⟩ = some (.int .i64 z) := (show RowAt w2 c 53 _ from hS).cell 2
  have KN := hid (n_all w w2 c a len cap 1 (20 + 3 * z) hs2 (by omega) (by omega) (by omega))
  clear hs2 hS hrest
  go_upto_region 3 with fail
  clear zz
  go_wp2_with fail
  refine KN.out.mono ?_
  rintro e w3 ⟨⟨rn, rfl, hn0, hn1⟩, hs3, _⟩
  obtain ⟨RN, rfl⟩ := Int.eq_ofNat_of_zero_le hn0
  have hcl := hs3.lt
  have KG := hid (grOps_all w w3 c a len cap 2 M RN hs3 (by omega) M1 (by omega))
  clear hs3 KN bz
  go_wp2_with fail
  refine KG.out.mono ?_
  rintro e w4 ⟨av, cv, L, p4, rfl, hL, hs4, hp4, hO4, hA4, _⟩
  have R4 : Hid (RgSt w c a len cap 30000 av cv L w4) := ⟨⟨p4, by omega, hs4⟩, by rw [hL]; exact hO4.mono hcl, fun x hx => ⟨(hA4 x hx).1, (hA4 x hx).2.1, OwnNums.monoQ (hA4 x hx).2.2 hcl⟩⟩
  have KO := hid (one_all w w4 c a len cap p4 30 hs4 (by omega) (by omega) (by omega))
  subst hL
  clear hs4 hO4 hA4 KG
  go_wp2_with fail
  refine KO.out.mono ?_
  rintro e w5 ⟨⟨o30, rfl⟩, hs5, hg5⟩
  have R5 := hid (R4.out.call hs5 (show p4 + 1 ≤ 30001 by omega) hg5)
  clear KO R4 hg5
  cases o30 with
  | true =>
    have K2 := hid (n_all w (w5.alloc (.cells #[.int .i64 0, .int .i64 10] 2)) c a len cap (p4 + 1) 2 (hs5.alloc _) (by omega) (by omega) (by omega))
    have cw5 := hs5.lt
    clear hs5
    go_wp2_with fail
    refine K2.out.mono ?_
    rintro e w6 ⟨⟨q, rfl, hq0, hq1⟩, hs6, hg6⟩
    obtain ⟨Z, rfl⟩ := Int.eq_ofNat_of_zero_le hq0
    obtain ⟨tv, htv⟩ := two_tab Z (by omega)
    have ct := ((rowF2 (RowAt.new w5 2 #[.int .i64 0, .int .i64 10]) hg6 (by omega)).cell Z).trans htv
    have R6 := hid ((R5.out.alloc (.cells #[.int .i64 0, .int .i64 10] 2)).call hs6 (show p4 + 1 + 1 ≤ 30002 by omega) hg6)
    clear hs6 hg6 K2 R5 htv
    go_wp2
    go_ret2
    exact R6.out.done (by omega) hwc _
  | false =>
    have KO := hid (one_all w w5 c a len cap (p4 + 1) 60 hs5 (by omega) (by omega) (by omega))
    clear hs5
    go_wp2_with fail
    refine KO.out.mono ?_
    rintro e w6 ⟨⟨o60, rfl⟩, hs6, hg6⟩
    have R6 := hid (R5.out.call hs6 (show p4 + 1 + 1 ≤ 30002 by omega) hg6)
    have cw6 := hs6.lt
    clear hs6 hg6 KO R5
    cases o60 with
    | false =>
      go_wp2
      go_ret2
      exact R6.out.done (by omega) hwc _
    | true =>
      obtain ⟨PE, hPE⟩ : ∃ PE, PE = five.take M := ⟨_, rfl⟩
      have hPl : PE.length = M := by rw [hPE, List.length_take, show five.length = 5 from rfl]; omega
      have OP := own_five w6 M M1.2
      rw [← hPE] at OP
      have R7 : Hid (RgSt w c a len cap 30002 av cv L (w6.alloc (.cells #[.int .i64 0, .int .i64 1, .int .i64 2, .int .i64 3, .int .i64 4] 2))) := R6.out.alloc _
      have Z7 : c + 1 ≤ (w6.alloc (.cells #[.int .i64 0, .int .i64 1, .int .i64 2, .int .i64 3, .int .i64 4] 2)).heap.size := by simp only [World.size_alloc]; omega
      subst hPl
      have Y7 : Hid (GqOk (w6.alloc (.cells #[.int .i64 0, .int .i64 1, .int .i64 2, .int .i64 3, .int .i64 4] 2)) (c + 1) ⟨1, 0, 0, PE, ⟨#[]⟩, some ⟨w6.heap.size, 0, none⟩, 5⟩) := ⟨by show PE.length ≤ 9; omega, by show (0 : Nat) ≤ 1001; omega, OP.monoQ (by omega)⟩
      clear OP hPE R6
      go_wp2_with (first | (at_builtin; refine append_gq (c + 1) (w6.alloc (.cells #[.int .i64 0, .int .i64 1, .int .i64 2, .int .i64 3, .int .i64 4] 2)) rfl (.tmp 34) (.tmp 39) rfl (.slice av L.length cv) L ⟨1, 0, 0, PE, ⟨#[]⟩, some ⟨w6.heap.size, 0, none⟩, 5⟩ rfl R7.out.own Z7 (by rw [World.size_alloc]; rfl) (by omega) ?_) | go_in)
      intro v8 w8 hO8 hg8
      obtain ⟨a8, c8, rfl⟩ := OwnGq.shp hO8
      have R8 := hid (R7.out.app hwc Y7.out hO8 hg8)
      obtain ⟨L8, hL8⟩ : ∃ L8, L8 = L ++ [(⟨1, 0, 0, PE, ⟨#[]⟩, some ⟨w6.heap.size, 0, none⟩, 5⟩ : Gq)] := ⟨_, rfl⟩
      have hl8 : L8.length = L.length + 1 := by rw [hL8]; simp
      rw [← hL8] at R8 ⊢
      have b8 : L8.length ≤ 57 := by omega
      clear hO8 hg8 R7 Y7 Z7 hL8 hl8
      go_wp2_with fail
      go_loopw [6, 7] (fun y6 y7 wx => ∃ (k : Nat) (a9 : Option Addr) (c9 : Nat) (L9 : List Gq), k ≤ 501 ∧ y7 = .int .i64 (k : Int) ∧ y6 = .slice a9 L9.length c9 ∧ L9.length = L8.length + k ∧ RgSt w c a len cap 30002 a9 c9 L9 wx) (fun _ y7 _ => 501 - (intOf y7).toNat)
      case atStart => exact ⟨0, a8, c8, L8, Nat.zero_le _, rfl, rfl, rfl, R8.out⟩
      case round =>
        obtain ⟨k, a9, c9, L9, hk, rfl, rfl, hl9, hR9⟩ := hrel
        have R9 := hid hR9
        have b9 : L9.length ≤ 600 := by omega
        have HL9 := hid hl9
        clear hR9 R8 hl9
        by_cases hk5 : k < 501
        · have hk5' : (k : Int) < 501 := by omega
          have cwr : c + 1 ≤ wr.heap.size := by obtain ⟨p9, _, hs9⟩ := R9.out.src; exact hs9.lt
          have Y9 : Hid (GqOk wr (c + 1) ⟨2, 0, 0, [], ⟨#[120]⟩, none, 0⟩) := ⟨by show (0 : Nat) ≤ 9; omega, by show (1 : Nat) ≤ 1001; omega, OwnNums.nilV _ _ _ _⟩
          go_wp2_with (first | (at_builtin; refine append_gq (c + 1) wr rfl (.tmp 45) (.tmp 47) rfl (.slice a9 L9.length c9) L9 ⟨2, 0, 0, [], ⟨#[120]⟩, none, 0⟩ rfl R9.out.own cwr rfl (by omega) ?_) | go_in)
          intro v10 w10 hO10 hg10
          obtain ⟨a10, c10, rfl⟩ := OwnGq.shp hO10
          have R10 := hid (R9.out.app hwc Y9.out hO10 hg10)
          obtain ⟨L10, hL10⟩ : ∃ L10, L10 = L9 ++ [(⟨2, 0, 0, [], ⟨#[120]⟩, none, 0⟩ : Gq)] := ⟨_, rfl⟩
          have hl10 : L10.length = L9.length + 1 := by rw [hL10]; simp
          rw [← hL10] at R10 ⊢
          have HL10 : Hid (L10.length = L8.length + (k + 1)) := by show _ = _; rw [hl10, HL9.out]; rfl
          clear hO10 hg10 R9 Y9 hL10 hl10
          go_wp2_with fail
          go_roundw
          case rel => exact ⟨k + 1, a10, c10, L10, hk5, by go_num, rfl, HL10.out, R10.out⟩
          case measure => simp [intOf]; omega
        · have hk5' : ¬ (k : Int) < 501 := by omega
          go_wp2
          go_ret2
          exact R9.out.done b9 hwc _
end Go.Proofs.Ytmhkelfmciepaaa
