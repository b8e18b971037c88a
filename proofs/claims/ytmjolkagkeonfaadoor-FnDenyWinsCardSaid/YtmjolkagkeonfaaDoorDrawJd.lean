import Derived.Test.YtmjolkagkeonfaaDoorDrawSt
import Derived.Test.YtmjolkagkeonfaaDoorDrawAsk
import Derived.Test.YtmjolkagkeonfaaDoorDrawJd5
import Derived.Test.YtmjolkagkeonfaaDoorDrawJd6
namespace Go.Proofs.YtmjolkagkeonfaaDoor
open Go.RowKit
set_option linter.unusedVariables false
/-! The draw of statements and an ask. -/
theorem results_tr {P : Program} {fn : Func} {p u : Tmp} {ty : TypeId} (h : fn.results = #[.tmp u, .cell p ty]) (tmps : Array Value) (w : World) (g : Nat) (t : TypeId) (cs : Array Value) (fr : Nat × Nat) (d : TypeDesc) (v : Value)
    (hp : tmps.getD p undef = .pointer (some ⟨g, 0, none⟩)) (hv : tmps.getD u undef = v) (hg : w.heap[g]? = some (.cells cs t fr))
    (hu : P.underlying ty = some d) (hd : (match d with | .struct _ | .array _ _ => true | _ => false) = true) (hi : (P.info? ty).map (·.size) = some cs.size) :
    (results fn tmps).run P w = .ok (.tuple #[v, .agg cs]) w := by
  have hp' : tmps[p]?.getD undef = .pointer (some ⟨g, 0, none⟩) := by simpa using hp
  have e1 : tmps[u]?.getD undef = v := by simpa using hv
  simp [results, h, hp', e1, asAddr, run_loadVar_row w g t ty cs fr d hg hu hd hi]
theorem StDR.mono {w : World} {B B' : Nat} {v : Value} (h : StDR w B v) (hb : B' ≤ B) : StDR w B' v := fun x hs hk => h x hs fun b h1 h2 => hk b h1 (by omega)
theorem StDR.gr {w w' : World} {B c : Nat} {v : Value} (h : StDR w B v) (hg : w.grownBy w' (some c)) (hc : c < B) : StDR w' B v := Rob.grow h hg (fun g e => by have := Option.some.inj e; omega)
theorem stdR_one {w : World} {B X3 X4 X5 X16 X18 : Nat} {ef kd tm : Int} (h18 : RowAt w X18 33 #[.int .i64 ef, .slice (some ⟨X3, 0, none⟩) 1 1, .slice (some ⟨X4, 0, none⟩) 1 1, .slice (some ⟨X5, 0, none⟩) 1 1, .slice (some ⟨X16, 0, none⟩) 1 1])
    (h3 : RowAt w X3 9 #[.string ⟨#[42]⟩]) (h4 : RowAt w X4 9 #[.string ⟨#[42]⟩]) (h5 : RowAt w X5 9 #[.string ⟨#[42]⟩]) (h16 : RowAt w X16 42 #[.int .i64 kd, .string ⟨#[]⟩, .int .i64 tm])
    (b18 : B ≤ X18) (b3 : B ≤ X3) (b4 : B ≤ X4) (b5 : B ≤ X5) (b16 : B ≤ X16) : StDR w B (.slice (some ⟨X18, 0, none⟩) 1 1) := by
  intro x hs hk
  have kp : ∀ g t cs, B ≤ g → RowAt w g t cs → RowAt x g t cs := fun g t cs h1 hr => (hk g hr.lt (by omega)).trans hr
  have r18 := kp _ _ _ b18 h18
  have r3 := kp _ _ _ b3 h3
  have r4 := kp _ _ _ b4 h4
  have r5 := kp _ _ _ b5 h5
  have r16 := kp _ _ _ b16 h16
  have st : ∀ X, RowAt x X 9 #[.string ⟨#[42]⟩] → Strs x (some ⟨X, 0, none⟩) 1 1 (fun _ => ⟨#[42]⟩) := fun X r => ⟨Nat.le_refl _, .inr ⟨X, 0, rfl, r.lt, fun i hi => by obtain rfl : i = 0 := (by omega); exact r.cell 0⟩⟩
  have cn : Cns x (some ⟨X16, 0, none⟩) 1 1 (fun _ => ⟨kd, ⟨#[]⟩, tm⟩) := ⟨Nat.le_refl _, .inr ⟨X16, 0, rfl, r16.lt, fun i hi => by obtain rfl : i = 0 := (by omega); exact ⟨r16.cell 0, r16.cell 1, r16.cell 2⟩⟩⟩
  have sb : ∀ X, SSB ⟨some ⟨X, 0, none⟩, 1, 1, fun _ => ⟨#[42]⟩⟩ 1048576 := fun X => ⟨by show 1 ≤ 1048576; omega, fun i _ => by show (⟨#[42]⟩ : ByteArray).size ≤ 1048576; decide⟩
  refine ⟨_, 1, 1, fun _ => ⟨ef, ⟨some ⟨X3, 0, none⟩, 1, 1, fun _ => ⟨#[42]⟩⟩, ⟨some ⟨X4, 0, none⟩, 1, 1, fun _ => ⟨#[42]⟩⟩, ⟨some ⟨X5, 0, none⟩, 1, 1, fun _ => ⟨#[42]⟩⟩, ⟨some ⟨X16, 0, none⟩, 1, 1, fun _ => ⟨kd, ⟨#[]⟩, tm⟩⟩⟩, rfl, ⟨Nat.le_refl _, .inr ⟨X18, 0, rfl, r18.lt, fun k hk => ?_⟩, fun k hk => ⟨st _ r3, st _ r4, st _ r5, cn⟩⟩, fun k hk => ⟨sb _, sb _, sb _, ⟨by show 1 ≤ 1048576; omega, fun i _ => by show (⟨#[]⟩ : ByteArray).size ≤ 1048576; decide⟩⟩, by omega, fun e => by cases e⟩
  obtain rfl : k = 0 := by omega
  exact ⟨r18.cell 0, r18.cell 1, r18.cell 2, r18.cell 3, r18.cell 4⟩
set_option maxRecDepth 20000 in
set_option maxHeartbeats 4000000 in
theorem drawJudge_all (w : World) (a : Option Addr) (len cap : Nat) (hc : CodeOk w a len) (hlc : len ≤ cap) :
    Calls Tryd.prog 4 #[.slice a len cap] w fun e w' => ∃ v q, e = .returned (.tuple #[v, .agg #[.string q.wo, .string q.wa, .string q.wi, .string q.fr, .int .i64 q.tm]]) ∧ StD w' v ∧ AqS q ∧ Below w.heap.size w w' := by
  obtain ⟨W1, hW1⟩ : ∃ W, W = w.alloc (.cells #[.string ⟨#[]⟩, .string ⟨#[]⟩, .string ⟨#[]⟩, .string ⟨#[]⟩, .int .i64 0] 25) := ⟨_, rfl⟩
  have b1 : Hid (Below w.heap.size w W1) := by rw [hW1]; exact (Below.refl _ _).alloc (Nat.le_refl _) _
  have z1 : Hid (W1.heap.size = w.heap.size + 1) := by show _ = _; rw [hW1, World.size_alloc]
  have r1 : Hid (RowAt W1 w.heap.size 25 #[.string ⟨#[]⟩, .string ⟨#[]⟩, .string ⟨#[]⟩, .string ⟨#[]⟩, .int .i64 0]) := by rw [hW1]; exact RowAt.new _ _ _
  have hc1 : Hid (CodeOk W1 a len) := hc.below b1.out
  clear hc
  go_enter Tryd.func4, Tryd.ntmps4
  go_upto_region 1 with fail
  rw [← hW1]
  clear hW1
  go_wp2_with fail
  refine (source_all W1 a len cap hc1.out hlc).mono ?_
  rintro e w2 ⟨rfl, hs2, hb2⟩
  obtain ⟨c, hcw⟩ : ∃ c, c = W1.heap.size := ⟨_, rfl⟩
  rw [← hcw] at hs2 ⊢
  have HC : Hid (c = w.heap.size + 1) := by show _ = _; rw [hcw, z1.out]
  have S2 := hid hs2
  have r2 := hid (r1.out.below hb2 r1.out.lt)
  clear hs2 hb2 hcw
  go_wp2_with fail
  refine (statements_all W1 w2 c a len cap 0 S2.out (by omega)).mono ?_
  rintro e w3 ⟨⟨v, rfl, hD⟩, ⟨p3, hs3, hp3⟩, hg3⟩
  have D3 : Hid (StDR w3 (c + 1) v) := StDR.mono hD (by have := S2.out.lt; omega)
  have S3 := hid hs3
  have r3 := hid (rowF2 r2.out hg3 (by have := HC.out; omega))
  clear hD hs3 hg3 S2 r2
  go_wp2_with fail
  refine (ask_all W1 w3 c a len cap p3 S3.out (by omega)).mono ?_
  rintro e w4 ⟨⟨q, rfl, hq⟩, ⟨p4, hs4, hp4⟩, hg4⟩
  have D4 := hid (StDR.gr D3.out hg4 (by omega))
  have S4 := hid hs4
  have r4 := hid (rowF2 r3.out hg4 (by have := HC.out; omega))
  have HQ := hid hq
  clear hs4 hg4 hq S3 r3 D3
  obtain ⟨qa, qb, qc, qd, tA⟩ := q
  dsimp only
  obtain ⟨W5, hW5⟩ : ∃ W, W = w4.alloc (.cells #[.string qa, .string qb, .string qc, .string qd, .int .i64 tA] 25) := ⟨_, rfl⟩
  have S5 : Hid (Src W1 W5 c a len cap p4) := by rw [hW5]; exact S4.out.alloc _
  have r5 : Hid (RowAt W5 w.heap.size 25 #[.string ⟨#[]⟩, .string ⟨#[]⟩, .string ⟨#[]⟩, .string ⟨#[]⟩, .int .i64 0]) := by rw [hW5]; exact r4.out.alloc _
  have a5 : Hid (RowAt W5 w4.heap.size 25 #[.string qa, .string qb, .string qc, .string qd, .int .i64 tA]) := by rw [hW5]; exact RowAt.new _ _ _
  have D5 : Hid (StDR W5 (c + 1) v) := by rw [hW5]; exact Rob.grow D4.out (World.grownBy_alloc w4 _ none) (by intro g e; cases e)
  have cX : c < w4.heap.size := S4.out.lt
  go_upto_region 4 with fail
  rw [← hW5]
  clear hW5 S4 r4 D4
  obtain ⟨XA, hXA⟩ : ∃ x, x = w4.heap.size := ⟨_, rfl⟩
  rw [← hXA] at a5 cX ⊢
  clear hXA
  go_wp2_with fail
  refine (one_all W1 W5 c a len cap p4 4 S5.out (by omega) (by omega) (by omega)).mono ?_
  rintro e w6 ⟨⟨b, rfl⟩, hs6, hg6⟩
  have D6 := hid (StDR.gr D5.out hg6 (by omega))
  have S6 := hid hs6
  have r6 := hid (rowF2 r5.out hg6 (by have := HC.out; omega))
  have a6 := hid (rowF2 a5.out hg6 (by omega))
  clear hs6 hg6 S5 r5 a5 D5
  have FIN : Hid (∀ (wx : World) (vx : Value) (tm : Array Value), tm.getD 3 undef = .pointer (some ⟨w.heap.size, 0, none⟩) → tm.getD 2 undef = vx → RowAt wx w.heap.size 25 #[.string qa, .string qb, .string qc, .string qd, .int .i64 tA] → StDR wx (c + 1) vx → Below w.heap.size w wx → bodyPost Tryd.prog Tryd.f4 (fun e w' => ∃ v q, e = .returned (.tuple #[v, .agg #[.string q.wo, .string q.wa, .string q.wi, .string q.fr, .int .i64 q.tm]]) ∧ StD w' v ∧ AqS q ∧ Below w.heap.size w w') Exit.ret { tmps := tm, defers := [] } wx) := by
    intro wx vx tm h3 h2 hr hD hB
    refine bodyPost_ret (v := .tuple #[vx, .agg #[.string qa, .string qb, .string qc, .string qd, .int .i64 tA]]) ?_ rfl ⟨vx, ⟨qa, qb, qc, qd, tA⟩, rfl, Rob.here hD, HQ.out, hB⟩
    exact results_tr Tryd.results4 _ _ w.heap.size _ _ _ _ _ h3 h2 hr Tryd.underlying25 rfl (by kernel_rfl)
  have BW : Hid (∀ wx p, Src W1 wx c a len cap p → Below w.heap.size w wx) := fun wx p h => b1.out.trans (h.2.2.2.1.mono b1.out.size)
  cases b with
  | false =>
    go_upto_region 6 with fail
    refine dj6_wp w XA w.heap.size (c + 1) v qa qb qc qd tA w6 a6.out r6.out D6.out (BW.out _ _ S6.out) ⟨Nat.le_refl _, by have := HC.out; omega, by have := HC.out; omega⟩ ?_
    intro zz w7 _ hr hD hb _
    have R7 := hid hr
    have D7 := hid hD
    have B7 := hid hb
    clear hr hD hb
    go_wp2
    exact FIN.out _ _ _ rfl rfl R7.out D7.out B7.out
  | true =>
    go_upto_region 5 with fail
    have tq := HQ.out.tm
    dsimp only at tq
    refine dj5_wp W1 w6 c a len cap (p4 + 1) XA qa qb qc qd tA w6 S6.out (World.grownBy.refl _ _) ⟨S6.out.lt, cX⟩ a6.out ⟨by omega, tq.1, tq.2⟩ ?_
    intro X3 X4 X5 X16 X18 R1 R7 R12 pp w7 hS7 hp7 hg7 _ hA7 h3 h4 h5 h16 h18 _ _ _ _
    have S7 := hid hS7
    have A7 := hid hA7
    have hcl := S6.out.lt
    have D7 : Hid (StDR w7 (c + 1) (.slice (some ⟨X18, 0, none⟩) 1 1)) := stdR_one h18.1 h3.1 h4.1 h5.1 h16.1 (by have := h18.2; omega) (by have := h3.2; omega) (by have := h4.2; omega) (by have := h5.2; omega) (by have := h16.2; omega)
    have r7 := hid (rowF2 r6.out hg7 (by have := HC.out; omega))
    clear hS7 hA7 h3 h4 h5 h16 h18 hg7
    go_upto_region 6 with fail
    refine dj6_wp w XA w.heap.size (c + 1) _ qa qb qc qd tA w7 A7.out r7.out D7.out (BW.out _ _ S7.out) ⟨Nat.le_refl _, by have := HC.out; omega, by have := HC.out; omega⟩ ?_
    intro zz w8 _ hr hD hb _
    have R8 := hid hr
    have D8 := hid hD
    have B8 := hid hb
    clear hr hD hb
    go_wp2
    exact FIN.out _ _ _ rfl rfl R8.out D8.out B8.out
end Go.Proofs.YtmjolkagkeonfaaDoor
