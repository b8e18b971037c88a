import Derived.Test.YtcfahbcpfjhajaaGreatDoorICan
import Derived.Test.YtcfahbcpfjhajaaGreatDoorSgM
import Derived.Test.YtcfahbcpfjhajaaGreatDoorIClr
namespace Go.Proofs.YtcfahbcpfjhajaaGreatDoor
open Go.RowKit Go.Maps
/-! The program's pairs and signSum. -/
theorem step_append_hpsO {P : Program} (base : Nat) (w : World) {ops : Array Oper} {op : Oper} {a : Act} {K : Act → World → Prop} {Q : Exit → Act → World → Prop} {E : Prop} (hgd : op.guard = none) (s x : Operand) (t : TypeId)
    (ho : op.op = .call { callee := .builtin .append, args := #[s, x], argTypes := #[t, t] })
    (ht : P.underlying t = some (.slice 66)) (hinfo : (P.info? 66).map (fun i => (i.zero, i.size, i.bytes)) = some (some hz2, 2, 32))
    (v : Value) (L : List Hp) (M : List Hp) (hM : 0 < M.length) (hs : a.eval s = v) (hown : OwnHp w base v L) (hsz : base ≤ w.heap.size)
    (BC : Nat) (aC : Option Addr) (cC m : Nat) (hbox : OwnHp w BC (.slice aC m cC) M) (hm : M.length = m) (hx : a.eval x = .slice aC m cC) (hlen : L.length + M.length ≤ 1048576)
    (h : ∀ g cap w', OwnHp w' base (.slice (some ⟨g, 0, none⟩) (L.length + m) cap) (L ++ M) → w.grownBy w' v.ownBlock → (v.ownBlock = some g ∨ g = w.heap.size) → K (a.put op.dst (.slice (some ⟨g, 0, none⟩) (L.length + m) cap)) w') :
    if Region.wanted op (yielded ops a.tmps) = true then Oper.wp P op a w K Q else E := by
  subst hm
  obtain ⟨b, cap0, e0, _, _, _, hc⟩ := hbox.shape hM
  cases e0
  obtain ⟨i0, hi, hz0, hz1, hz2⟩ := info_parts hinfo
  refine step_append_lies _ hgd s x t ho base 66 i0 _ 2 32 ht hi hz0 hz1 hz2 rfl (by decide) v L.length (hpL L) hs hown ⟨b, 0, none⟩ M.length cC (hpL M) hx (hpL_len M) ?_ ?_ hM ?_ ?_ hsz w.heap.size rfl ?_
  · intro j u hj
    have hadd : (⟨b, 0, none⟩ : Addr).add j = ⟨b, j, none⟩ := by unfold Addr.add; split <;> simp_all
    rw [hadd]
    have hl : j < M.length * 2 := by rw [← hpL_len]; exact (List.getElem?_eq_some_iff.1 hj).1
    rcases Nat.mod_two_eq_zero_or_one j with e | e
    · obtain ⟨k, rfl⟩ : ∃ k, j = k * 2 := ⟨j / 2, by omega⟩
      rw [(hpL_at M k (by omega)).1] at hj
      rw [(hc k (by omega)).1]; exact hj
    · obtain ⟨k, rfl⟩ : ∃ k, j = k * 2 + 1 := ⟨j / 2, by omega⟩
      rw [(hpL_at M k (by omega)).2] at hj
      rw [(hc k (by omega)).2]; exact hj
  · intro u hu
    unfold hpL at hu
    obtain ⟨p, _, hp⟩ := List.mem_flatMap.1 hu
    simp at hp
    rcases hp with rfl | rfl <;> rfl
  · unfold maxLen; omega
  · omega
  · intro g cap w' h1 h2 h3 _
    exact h g cap w' (by unfold OwnHp; rw [hpL_app, List.length_append]; exact h1) h2 h3
/-- the four pairs of a signature -/
noncomputable def sg4 (id : ByteArray) (nw ls : Int) (ts : Nat → ByteArray) (m : Nat) : List Hp := [(⟨⟨#[120, 45, 105, 100]⟩, id⟩ : Hp), ⟨⟨#[120, 45, 102, 114, 111, 109]⟩, ofL (Lib.decDigits nw.toNat)⟩, ⟨⟨#[120, 45, 108, 97, 115, 116, 115]⟩, ofL (Lib.decDigits ls.toNat)⟩, ⟨⟨#[120, 45, 115, 105, 103, 110, 101, 100]⟩, ofL (jn ts m)⟩]
theorem sgQ1_4 (r : Rq) (id : ByteArray) (nw ls : Int) (ts : Nat → ByteArray) (m : Nat) : sgQ1 r id nw ls ts m = hpList r.qs.o r.qs.n ++ sg4 id nw ls ts m := rfl
theorem iJoinT (tA : Option Addr) (m mc : Nat) (ts : Nat → ByteArray) (hm : m ≤ 10) (hts : ∀ i, i < m → (ts i).size ≤ 60) (w : World) (h : Strs w tA m mc ts) :
    Calls Tryz.prog 82 #[.slice tA m mc, .string ⟨#[44]⟩] w fun e w' => e = .returned (.string (ofL (jn ts m))) ∧ Below w.heap.size w w' := by
  rcases Nat.eq_zero_or_pos m with h0 | h0
  · subst h0
    exact iJoin0 tA mc ⟨#[44]⟩ w
  · exact iJoinC tA m mc ts ⟨#[44]⟩ h0 (by omega) (by have := jn_sz ts m hts; show (jn ts m).length ≤ _; omega) w h
theorem tmS_dec {t : Int} (h : tmS t) : t.toNat ≤ 4102444800 := by have := h.1; have := h.2; omega
set_option maxRecDepth 20000 in
set_option maxHeartbeats 8000000 in
theorem iSPairs (id : ByteArray) (nw ls : Int) (hnw : tmS nw) (hls : tmS ls) (tA : Option Addr) (m mc : Nat) (ts : Nat → ByteArray) (hm : m ≤ 10) (hts : ∀ i, i < m → (ts i).size ≤ 60) (w : World) (hT : TB w) (hS : Strs w tA m mc ts) :
    Calls Tryz.prog 43 #[.agg #[.string id, .int .i64 nw, .int .i64 ls, .slice tA m mc]] w fun e w' => ∃ X, e = .returned (.slice (some ⟨X, 0, none⟩) 4 4) ∧ Hps w' (some ⟨X, 0, none⟩) 4 4 (hAt (sg4 id nw ls ts m)) ∧ Below w.heap.size w w' := by
  have K1 := fun wx (hx : Below w.heap.size w wx) => hid (iDecm nw.toNat (tmS_dec hnw) nw (by have := hnw.1; omega) wx (hT.below hx))
  have K2 := fun wx (hx : Below w.heap.size w wx) => hid (iDecm ls.toNat (tmS_dec hls) ls (by have := hls.1; omega) wx (hT.below hx))
  have KJ := fun wx (hx : Below w.heap.size w wx) => hid (iJoinT tA m mc ts hm hts wx (hS.below hx))
  have HF : Hid (∀ wx X, RowAt wx X 66 #[.string ⟨#[120, 45, 105, 100]⟩, .string id, .string ⟨#[120, 45, 102, 114, 111, 109]⟩, .string (ofL (Lib.decDigits nw.toNat)), .string ⟨#[120, 45, 108, 97, 115, 116, 115]⟩, .string (ofL (Lib.decDigits ls.toNat)), .string ⟨#[120, 45, 115, 105, 103, 110, 101, 100]⟩, .string (ofL (jn ts m))] → Hps wx (some ⟨X, 0, none⟩) 4 4 (hAt (sg4 id nw ls ts m))) := fun wx X hr => by
    refine ⟨Nat.le_refl _, .inr ⟨X, 0, rfl, hr.lt, fun k hk => ?_⟩⟩
    rw [hr.cell, hr.cell]
    rcases (by omega : k = 0 ∨ k = 1 ∨ k = 2 ∨ k = 3) with rfl | rfl | rfl | rfl <;> exact ⟨rfl, rfl⟩
  generalize sg4 id nw ls ts m = PL at HF ⊢
  generalize ofL (Lib.decDigits nw.toNat) = D1 at K1 HF
  generalize ofL (Lib.decDigits ls.toNat) = D2 at K2 HF
  generalize ofL (jn ts m) = JN at KJ HF
  have HT := hid hT
  have HS := hid hS
  have J := Jn.box w 72 #[.string id, .int .i64 nw, .int .i64 ls, .slice tA m mc]
  obtain ⟨W0, hW0⟩ : ∃ W, W = w.alloc (.cells #[.string id, .int .i64 nw, .int .i64 ls, .slice tA m mc] 72) := ⟨_, rfl⟩
  rw [← hW0] at J
  clear hnw hls hT hS hts
  go_enter Tryz.func43, Tryz.ntmps43
  go_upto_region 1 with fail
  rw [← hW0]
  clear hW0
  have x0 : W0.cell? ⟨w.heap.size, 0, none⟩ = some (.string id) := J.out.1.cell 0
  have x1 : W0.cell? ⟨w.heap.size, 1, none⟩ = some (.int .i64 nw) := J.out.1.cell 1
  have x2 : W0.cell? ⟨w.heap.size, 2, none⟩ = some (.int .i64 ls) := J.out.1.cell 2
  have x3 : W0.cell? ⟨w.heap.size, 3, none⟩ = some (.slice tA m mc) := J.out.1.cell 3
  go_region_held3 (fun wx => (wx.cell? ⟨w.heap.size, 0, none⟩ = some (.string id) ∧ wx.cell? ⟨w.heap.size, 1, none⟩ = some (.int .i64 nw)) ∧ wx.cell? ⟨w.heap.size, 2, none⟩ = some (.int .i64 ls) ∧ wx.cell? ⟨w.heap.size, 3, none⟩ = some (.slice tA m mc))
    (first | (go_keep; done) | exact ⟨⟨J.out.1.cell 0, J.out.1.cell 1⟩, J.out.1.cell 2, J.out.1.cell 3⟩)
    ((first
      | (go_at_call_of 45 (Value.int IntKind.i64 nw); have hJ2 := J.out.2; (first | with_reducible refine (K1 _ hJ2).out.mono ?_ | with_reducible refine (K1 _ (Below.drew hJ2)).out.mono ?_); clear hJ2; rintro e v1 ⟨rfl, hb2⟩; (first | replace J := Jn.next hb2 J | (replace hb2 := nxD hb2; replace J := Jn.next hb2 J)))
      | (go_at_call_of 45 (Value.int IntKind.i64 ls); have hJ2 := J.out.2; (first | with_reducible refine (K2 _ hJ2).out.mono ?_ | with_reducible refine (K2 _ (Below.drew hJ2)).out.mono ?_); clear hJ2; rintro e v1 ⟨rfl, hb2⟩; (first | replace J := Jn.next hb2 J | (replace hb2 := nxD hb2; replace J := Jn.next hb2 J)))
      | (go_at_call 82; have hJ2 := J.out.2; (first | with_reducible refine (KJ _ hJ2).out.mono ?_ | with_reducible refine (KJ _ (Below.drew hJ2)).out.mono ?_); clear hJ2; rintro e v1 ⟨rfl, hb2⟩; (first | replace J := Jn.next hb2 J | (replace hb2 := nxD hb2; replace J := Jn.next hb2 J)))))
  go_wp2
  go_ret
  exact ⟨_, rfl, HF.out _ _ (RowAt.new _ _ _), J.out.2.alloc J.out.2.size _⟩
/-- the sum that the program reckons, also of a request with a fault -/
noncomputable def sgV (r : Rq) (sec : ByteArray) (ts : Nat → ByteArray) (m : Nat) : Int := if pb (rqP r) then sgS r sec ts m else sumOf (ofL (sec.data.toList ++ [10])) 9
theorem sgV_bd (r : Rq) (sec : ByteArray) (hs : sec.size ≤ 100) (ts : Nat → ByteArray) (m : Nat) (hm : m ≤ 10) (ht : ∀ i, i < m → (ts i).size ≤ 1000) : 0 ≤ sgV r sec ts m ∧ sgV r sec ts m ≤ 2147483647 := by
  unfold sgV
  by_cases hr : rqP r
  · rw [pb_t hr, if_pos rfl]
    exact sgS_bd hr sec hs ts m hm ht
  · rw [pb_f hr, if_neg (by simp)]
    unfold sumOf
    have e : sec.data.toList.length = sec.size := by simp
    rw [if_neg (by rw [ofL_size]; simp only [List.length_append, List.length_cons, List.length_nil]; omega)]
    exact sumL_bd _ _ (by decide) (by decide)
set_option maxRecDepth 20000 in
set_option maxHeartbeats 4000000 in
theorem iSgSum (mt pt : ByteArray) (a1 : Option Addr) (n1 c1 : Nat) (o1 : Nat → Hp) (a2 : Option Addr) (n2 c2 : Nat) (o2 : Nat → Hp) (bd : ByteArray) (hb : RqB ⟨mt, pt, ⟨a1, n1, c1, o1⟩, ⟨a2, n2, c2, o2⟩, bd⟩ 1048576) (sec : ByteArray) (hs : sec.size ≤ 100) (tA : Option Addr) (m mc : Nat) (ts : Nat → ByteArray) (hm : m ≤ 10) (hts : ∀ i, i < m → (ts i).size ≤ 1000) (w : World) (hT : TB w) (h : RqIn w ⟨mt, pt, ⟨a1, n1, c1, o1⟩, ⟨a2, n2, c2, o2⟩, bd⟩) (hS : Strs w tA m mc ts) :
    Calls Tryz.prog 44 #[.agg #[.string mt, .string pt, .slice a1 n1 c1, .slice a2 n2 c2, .string bd], .string sec, .slice tA m mc] w fun e w' => e = .returned (.int .i64 (sgV ⟨mt, pt, ⟨a1, n1, c1, o1⟩, ⟨a2, n2, c2, o2⟩, bd⟩ sec ts m)) ∧ Below w.heap.size w w' := by
  have KC : ∃ CN : ByteArray, CN.size ≤ 200000 ∧ sumOf (sec ++ ⟨#[10]⟩ ++ CN) 9 = sgV ⟨mt, pt, ⟨a1, n1, c1, o1⟩, ⟨a2, n2, c2, o2⟩, bd⟩ sec ts m ∧ ∀ wx, TB wx → RqIn wx ⟨mt, pt, ⟨a1, n1, c1, o1⟩, ⟨a2, n2, c2, o2⟩, bd⟩ → Strs wx tA m mc ts → Calls Tryz.prog 84 #[.agg #[.string mt, .string pt, .slice a1 n1 c1, .slice a2 n2 c2, .string bd], .slice tA m mc] wx fun e w' => e = .returned (.string CN) ∧ Below wx.heap.size wx w' := by
    by_cases hr : rqP ⟨mt, pt, ⟨a1, n1, c1, o1⟩, ⟨a2, n2, c2, o2⟩, bd⟩
    · refine ⟨ofL (canL ⟨mt, pt, ⟨a1, n1, c1, o1⟩, ⟨a2, n2, c2, o2⟩, bd⟩ ts m), ?_, ?_, fun wx h1 h2 h3 => iCanonYes mt pt a1 n1 c1 o1 a2 n2 c2 o2 bd hr tA m mc ts hm hts wx h1 h2 h3⟩
      · rw [ofL_size]; exact canL_len hr ts m hm hts
      · unfold sgV sgS
        rw [pb_t hr, if_pos rfl]
        rw [show sec ++ ⟨#[10]⟩ ++ ofL (canL ⟨mt, pt, ⟨a1, n1, c1, o1⟩, ⟨a2, n2, c2, o2⟩, bd⟩ ts m) = ofL (sec.data.toList ++ [10] ++ canL ⟨mt, pt, ⟨a1, n1, c1, o1⟩, ⟨a2, n2, c2, o2⟩, bd⟩ ts m) from ofL_of (by rw [ba_app, ba_app, ofL_l])]
    · refine ⟨⟨#[]⟩, by show (0 : Nat) ≤ _; omega, ?_, fun wx h1 h2 h3 => iCanonNo mt pt a1 n1 c1 o1 a2 n2 c2 o2 bd hb hr tA m mc wx h2⟩
      unfold sgV
      rw [pb_f hr, if_neg (by simp)]
      congr 1
      refine ofL_of ?_
      rw [ba_app, ba_app]
      simp
  obtain ⟨CN, lC, eC, KC⟩ := KC
  have KCH := hid KC
  have HEC := hid eC
  have z0 : ¬ 9223372036854775807 < sec.size + 1 := by omega
  have z1 : ¬ 9223372036854775807 < sec.size + 1 + CN.size := by omega
  have KS := fun wx => hid (isum_all (sec ++ ⟨#[10]⟩ ++ CN) 9 (by omega) (by rw [sizeApp, sizeApp]; show _ + 1 + _ ≤ _; omega) wx)
  rw [HEC.out] at KS
  have HT := hid hT
  have HS := hid hS
  have HI := hid h
  have J := Jn.box w 25 #[.string mt, .string pt, .slice a1 n1 c1, .slice a2 n2 c2, .string bd]
  obtain ⟨W0, hW0⟩ : ∃ W, W = w.alloc (.cells #[.string mt, .string pt, .slice a1 n1 c1, .slice a2 n2 c2, .string bd] 25) := ⟨_, rfl⟩
  rw [← hW0] at J
  generalize sgV ⟨mt, pt, ⟨a1, n1, c1, o1⟩, ⟨a2, n2, c2, o2⟩, bd⟩ sec ts m = SV at KS HEC ⊢
  clear KC eC hT hS h hb hts HEC
  go_enter Tryz.func44, Tryz.ntmps44
  go_wp2_with fail
  rw [← hW0]
  clear hW0
  refine (KCH.out _ (HT.out.below J.out.2) (HI.out.below J.out.2) (HS.out.below J.out.2)).mono ?_
  rintro e w2 ⟨rfl, hb2⟩
  have J2 := Jn.next hb2 J
  clear hb2 J
  go_wp2_with fail
  refine (KS _).out.mono ?_
  rintro e w3 ⟨rfl, hw⟩
  obtain rfl := hw
  go_wp2
  go_ret
  exact ⟨rfl, J2.out.2⟩
end Go.Proofs.YtcfahbcpfjhajaaGreatDoor
