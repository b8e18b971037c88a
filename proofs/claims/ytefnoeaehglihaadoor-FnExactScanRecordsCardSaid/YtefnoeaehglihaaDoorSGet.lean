import Derived.Test.YtefnoeaehglihaaDoorRecM
import Derived.Test.YtefnoeaehglihaaDoorGetText
namespace Go.Proofs.YtefnoeaehglihaaDoor
open Go.RowKit
/-! The specification's GetRecord. -/
theorem span_200 (s : ByteArray) (p : Nat) : spanN s p 200 = (spanN s p 100000).bind fun x => if x.2 ≤ 200 then some x else none := by
  unfold spanN
  cases hg : getNum s (p : Nat) with
  | none => rfl
  | some vn =>
    obtain ⟨v, c⟩ := vn
    simp only
    by_cases h1 : v ≤ 100000 ∧ p + c + v ≤ s.size
    · rw [if_pos h1]
      simp only [Option.bind_some]
      by_cases h2 : v ≤ 200
      · rw [if_pos (by omega), if_pos h2]
      · rw [if_neg (by omega), if_neg h2]
    · rw [if_neg h1, if_neg (by omega)]; rfl
theorem getRec_no (s : ByteArray) (p : Int) (h : ¬ Marked s p) : getRec s p = none := by unfold getRec; rw [if_neg h]
def RecC (s : ByteArray) (a ka ks ba bs : Nat) : Prop := 1 ≤ ks ∧ ks ≤ 200 ∧ byteAt s (ka + ks) ≤ 1 ∧ ((byteAt s (ka + ks) == 1) = true → bs = 0) ∧ sumOf (s.extract a (ba + bs)) 5 = sum4 s (ba + bs)
instance (s : ByteArray) (a ka ks ba bs : Nat) : Decidable (RecC s a ka ks ba bs) := inferInstanceAs (Decidable (_ ∧ _ ∧ _ ∧ (_ → _) ∧ _))
theorem getRec_at (s : ByteArray) (a : Nat) (ha : a < s.size) (hm : byteAt s a = 231) : getRec s (a : Nat) =
    match spanN s (a + 1) 100000 with
    | none => none
    | some (ka, ks) => if s.size ≤ ka + ks then none else
      match spanN s (ka + ks + 1) 100000 with
      | none => none
      | some (ba, bs) => if s.size < ba + bs + 4 then none else if RecC s a ka ks ba bs then some ⟨ka, ks, byteAt s (ka + ks) == 1, ba, bs, a, ba + bs + 4⟩ else none := by
  unfold getRec frmN headN
  rw [if_pos ⟨by omega, by omega, by simpa using hm⟩, Int.toNat_natCast, span_200]
  cases h1 : spanN s (a + 1) 100000 with
  | none => rfl
  | some x =>
    obtain ⟨ka, ks⟩ := x
    simp only [Option.bind_some]
    by_cases c1 : s.size ≤ ka + ks
    · rw [if_pos c1]
      by_cases c2 : ks ≤ 200
      · rw [if_pos c2]; simp only; rw [if_pos (Or.inr (Or.inl c1))]
      · rw [if_neg c2]
    · rw [if_neg c1]
      cases h2 : spanN s (ka + ks + 1) 100000 with
      | none =>
        by_cases c2 : ks ≤ 200
        · rw [if_pos c2]; simp only
          by_cases c3 : ks = 0 ∨ s.size ≤ ka + ks ∨ 1 < byteAt s (ka + ks)
          · rw [if_pos c3]
          · rw [if_neg c3]; simp only [h2]
        · rw [if_neg c2]
      | some y =>
        obtain ⟨ba, bs⟩ := y
        simp only
        have j1 := span_in s _ _ _ _ h2
        by_cases c4 : s.size < ba + bs + 4
        · rw [if_pos c4]
          by_cases c2 : ks ≤ 200
          · rw [if_pos c2]; simp only
            by_cases c3 : ks = 0 ∨ s.size ≤ ka + ks ∨ 1 < byteAt s (ka + ks)
            · rw [if_pos c3]
            · rw [if_neg c3]; simp only [h2]; rw [if_pos (Or.inr c4)]
          · rw [if_neg c2]
        · rw [if_neg c4]
          by_cases c : RecC s a ka ks ba bs
          · obtain ⟨o1, o2, o3, o4, o5⟩ := id c
            rw [if_pos c, if_pos o2]; simp only
            rw [if_neg (by omega)]; simp only [h2]
            rw [if_neg (by rintro (q | q); (exact absurd (o4 q.1) (by omega)); exact c4 q)]
            simp only
            rw [show ba + bs + 4 - 4 = ba + bs by omega, if_pos o5]
          · rw [if_neg c]
            by_cases c2 : ks ≤ 200
            · rw [if_pos c2]; simp only
              by_cases c3 : ks = 0 ∨ s.size ≤ ka + ks ∨ 1 < byteAt s (ka + ks)
              · rw [if_pos c3]
              · rw [if_neg c3]; simp only [h2]
                by_cases c5 : (byteAt s (ka + ks) == 1) = true ∧ 0 < bs
                · rw [if_pos (Or.inl c5)]
                · rw [if_neg (by rintro (q | q); (exact c5 q); exact c4 q)]
                  simp only
                  rw [show ba + bs + 4 - 4 = ba + bs by omega, if_neg]
                  intro o5
                  exact c ⟨by omega, c2, by omega, fun q => Classical.byContradiction fun r => c5 ⟨q, by omega⟩, o5⟩
            · rw [if_neg c2]
set_option maxRecDepth 20000 in
set_option maxHeartbeats 2000000 in
theorem sGetRec (s : ByteArray) (p : Int) (hs : s.size ≤ 1048576) (w : World) :
    Calls Tryd.prog 13 #[.string s, .int .i64 p] w fun e w' => e = .returned (recordV s (getRec s p)) ∧ Below w.heap.size w w' := by
  by_cases h0 : p < 0
  · have d0 : decide (p < 0) = true := by simp; omega
    have E : Hid (getRec s p = none) := getRec_no s p (fun q => by have := q.1; omega)
    go_enter Tryd.func13, Tryd.ntmps13
    go_wp2
    refine bodyPost_ret (v := .agg #[.string ⟨#[]⟩, .bool false, .string ⟨#[]⟩, .int .i64 0, .int .i64 0]) (by simp [results, Tryd.results13, go_sem]) rfl ⟨by rw [E.out]; rfl, ?_⟩
    exact (Below.refl _ _).alloc (Nat.le_refl _) _
  have d0 : decide (p < 0) = false := by simp; omega
  by_cases h1 : (s.size : Int) ≤ p
  · have d1 : decide ((s.size : Int) ≤ p) = true := by simp; omega
    have E : Hid (getRec s p = none) := getRec_no s p (fun q => by have := q.2.1; omega)
    go_enter Tryd.func13, Tryd.ntmps13
    go_wp2
    refine bodyPost_ret (v := .agg #[.string ⟨#[]⟩, .bool false, .string ⟨#[]⟩, .int .i64 0, .int .i64 0]) (by simp [results, Tryd.results13, go_sem]) rfl ⟨by rw [E.out]; rfl, ?_⟩
    exact (Below.refl _ _).alloc (Nat.le_refl _) _
  obtain ⟨a, rfl⟩ := Int.eq_ofNat_of_zero_le (show 0 ≤ p by omega)
  have d1 : decide ((s.size : Int) ≤ (a : Int)) = false := by simp; omega
  have ha : a < s.size := by omega
  have i0 : (0 : Int) ≤ (a : Int) := by omega
  have i1 : (a : Int) < (s.size : Int) := by omega
  by_cases hm : byteAt s a = 231
  case neg =>
    have d2 : ((s[a].toNat : Int) != 231) = true := by rw [byteAt_get s a ha] at hm; simp; omega
    have E : Hid (getRec s (a : Nat) = none) := getRec_no s _ (fun q => hm (by simpa using q.2.2))
    clear hm
    go_enter Tryd.func13, Tryd.ntmps13
    go_wp2
    refine bodyPost_ret (v := .agg #[.string ⟨#[]⟩, .bool false, .string ⟨#[]⟩, .int .i64 0, .int .i64 0]) (by simp [results, Tryd.results13, go_sem]) rfl ⟨by rw [E.out]; rfl, ?_⟩
    exact (Below.refl _ _).alloc (Nat.le_refl _) _
  have d2 : ((s[a].toNat : Int) != 231) = false := by rw [byteAt_get s a ha] at hm; simp; omega
  have G1 := fun w => hid (sgetText_all s ((a + 1 : Nat) : Int) hs w)
  have a1 : IntKind.i64.wrap ((a : Int) + 1) = ((a + 1 : Nat) : Int) := by simp [IntKind.wrap, IntKind.bits, IntKind.signed]; omega
  have EA := hid (getRec_at s a ha hm)
  rw [span_text] at G1
  cases h1 : spanN s (a + 1) 100000 with
  | none =>
    rw [h1] at G1 EA
    have E : Hid (getRec s (a : Nat) = none) := EA.out
    clear hm h1 EA
    go_enter Tryd.func13, Tryd.ntmps13
    go_wp2_with fail
    refine (G1 _).out.mono ?_
    rintro e w1 ⟨rfl, hb1⟩
    have hz : w.heap.size < w1.heap.size := by have := hb1.size; simp at this; omega
    have hB1 : Blk w1 w.heap.size #[.string ⟨#[]⟩, .bool false, .string ⟨#[]⟩, .int .i64 0, .int .i64 0] 28 := (hb1.block _ (by simp)).trans (Blk.made w _ _)
    have HB : Hid (Below w.heap.size w w1) := ((Below.refl _ _).alloc (Nat.le_refl _) _).trans (hb1.mono (by simp))
    clear hb1
    have q0 := hB1.cell 0 _ rfl
    have f0 := hB1.free 0
    have q1 := hB1.cell 1 _ rfl
    have f1 := hB1.free 1
    have q2 := hB1.cell 2 _ rfl
    have f2 := hB1.free 2
    have q3 := hB1.cell 3 _ rfl
    have f3 := hB1.free 3
    have q4 := hB1.cell 4 _ rfl
    have f4 := hB1.free 4
    simp only [textV, Option.map_none]
    go_wp2
    refine bodyPost_ret (v := .agg #[.string ⟨#[]⟩, .bool false, .string ⟨#[]⟩, .int .i64 0, .int .i64 0]) (by simp [results, Tryd.results13, go_sem, hz, q0, q1, q2, q3, q4]) rfl ⟨by rw [E.out]; rfl, ?_⟩
    exact ((((((HB.out).setCell (Nat.le_refl _) _).setCell (Nat.le_refl _) _).setCell (Nat.le_refl _) _).setCell (Nat.le_refl _) _).setCell (Nat.le_refl _) _).alloc (by simp; omega) _
  | some x =>
    obtain ⟨ka, ks⟩ := x
    rw [h1] at G1 EA
    simp only [Option.map_some, textV] at G1
    have EA : Hid (getRec s (a : Nat) = if s.size ≤ ka + ks then none else
      match spanN s (ka + ks + 1) 100000 with
      | none => none
      | some (ba, bs) => if s.size < ba + bs + 4 then none else if RecC s a ka ks ba bs then some ⟨ka, ks, byteAt s (ka + ks) == 1, ba, bs, a, ba + bs + 4⟩ else none) := EA.out
    have I1 := hid (span_in s _ _ _ _ h1)
    obtain ⟨q, hq⟩ : ∃ q, q = ka + ks := ⟨_, rfl⟩
    obtain ⟨kt, hkt⟩ : ∃ t, t = s.extract ka (ka + ks) := ⟨_, rfl⟩
    rw [← hkt, ← hq] at G1
    have HQ : Hid (q = ka + ks) := hq
    have HKT : Hid (kt = s.extract ka (ka + ks)) := hkt
    rw [← hq] at EA
    have H1 := hid h1
    have HM := hid hm
    clear hm h1 hq hkt
    by_cases c1 : s.size ≤ q
    · have E : Hid (getRec s (a : Nat) = none) := by show _ = _; rw [EA.out, if_pos c1]
      have d3 : decide ((s.size : Int) ≤ (q : Int)) = true := by simp; omega
      clear EA
      go_enter Tryd.func13, Tryd.ntmps13
      go_wp2_with fail
      refine (G1 _).out.mono ?_
      rintro e w1 ⟨rfl, hb1⟩
      have hz : w.heap.size < w1.heap.size := by have := hb1.size; simp at this; omega
      have hB1 : Blk w1 w.heap.size #[.string ⟨#[]⟩, .bool false, .string ⟨#[]⟩, .int .i64 0, .int .i64 0] 28 := (hb1.block _ (by simp)).trans (Blk.made w _ _)
      have HB : Hid (Below w.heap.size w w1) := ((Below.refl _ _).alloc (Nat.le_refl _) _).trans (hb1.mono (by simp))
      clear hb1
      have q0 := hB1.cell 0 _ rfl
      have f0 := hB1.free 0
      have q1 := hB1.cell 1 _ rfl
      have f1 := hB1.free 1
      have q2 := hB1.cell 2 _ rfl
      have f2 := hB1.free 2
      have q3 := hB1.cell 3 _ rfl
      have f3 := hB1.free 3
      have q4 := hB1.cell 4 _ rfl
      have f4 := hB1.free 4
      go_wp2
      refine bodyPost_ret (v := .agg #[.string ⟨#[]⟩, .bool false, .string ⟨#[]⟩, .int .i64 0, .int .i64 0]) (by simp [results, Tryd.results13, go_sem, hz, q0, q1, q2, q3, q4]) rfl ⟨by rw [E.out]; rfl, ?_⟩
      exact ((((((HB.out).setCell (Nat.le_refl _) _).setCell (Nat.le_refl _) _).setCell (Nat.le_refl _) _).setCell (Nat.le_refl _) _).setCell (Nat.le_refl _) _).alloc (by simp; omega) _
    have EA : Hid (getRec s (a : Nat) = match spanN s (q + 1) 100000 with
      | none => none
      | some (ba, bs) => if s.size < ba + bs + 4 then none else if RecC s a ka ks ba bs then some ⟨ka, ks, byteAt s q == 1, ba, bs, a, ba + bs + 4⟩ else none) := by show _ = _; rw [EA.out, if_neg c1]
    have d3 : decide ((s.size : Int) ≤ (q : Int)) = false := by simp; omega
    have a2 : IntKind.i64.wrap ((q : Int) + 1) = ((q + 1 : Nat) : Int) := by simp [IntKind.wrap, IntKind.bits, IntKind.signed]; omega
    have G2 := fun w => hid (sgetText_all s ((q + 1 : Nat) : Int) hs w)
    rw [span_text] at G2
    go_enter Tryd.func13, Tryd.ntmps13
    go_wp2_with fail
    refine (G1 _).out.mono ?_
    rintro e w1 ⟨rfl, hb1⟩
    have hz : w.heap.size < w1.heap.size := by have := hb1.size; simp at this; omega
    have hB1 : Blk w1 w.heap.size #[.string ⟨#[]⟩, .bool false, .string ⟨#[]⟩, .int .i64 0, .int .i64 0] 28 := (hb1.block _ (by simp)).trans (Blk.made w _ _)
    have HB : Hid (Below w.heap.size w w1) := ((Below.refl _ _).alloc (Nat.le_refl _) _).trans (hb1.mono (by simp))
    clear hb1
    go_wp2_with fail
    refine (G2 _).out.mono ?_
    rintro e w2 ⟨rfl, hb2⟩
    have hzk : w1.heap.size < w2.heap.size := by have := hb2.size; simp at this; omega
    have hB2 : Blk w2 w.heap.size #[.string ⟨#[]⟩, .bool false, .string ⟨#[]⟩, .int .i64 0, .int .i64 0] 28 := (hb2.block _ (by simp; omega)).trans (hB1.past hz _)
    have hK2 : Blk w2 w1.heap.size #[.bool true, .string kt, .int .i64 q] 65 := (hb2.block _ (by simp)).trans (Blk.made w1 _ _)
    have HB2 : Hid (Below w.heap.size w w2) := (HB.out.alloc (by omega) _).trans (hb2.mono (by simp; omega))
    have hz2 : w.heap.size < w2.heap.size := by omega
    clear hb2 hB1 HB
    have q0 := hB2.cell 0 _ rfl
    have f0 := hB2.free 0
    have q1 := hB2.cell 1 _ rfl
    have f1 := hB2.free 1
    have q2 := hB2.cell 2 _ rfl
    have f2 := hB2.free 2
    have q3 := hB2.cell 3 _ rfl
    have f3 := hB2.free 3
    have q4 := hB2.cell 4 _ rfl
    have f4 := hB2.free 4
    have k0 := hK2.cell 0 _ rfl
    have k1 := hK2.cell 1 _ rfl
    have k2 := hK2.cell 2 _ rfl
    cases h2 : spanN s (q + 1) 100000 with
    | none =>
      rw [h2] at EA
      have E : Hid (getRec s (a : Nat) = none) := EA.out
      clear h2 EA
      simp only [textV, Option.map_none]
      go_wp2
      refine bodyPost_ret (v := .agg #[.string ⟨#[]⟩, .bool false, .string ⟨#[]⟩, .int .i64 0, .int .i64 0]) (by simp [results, Tryd.results13, go_sem, hz2, q0, q1, q2, q3, q4]) rfl ⟨by rw [E.out]; rfl, ?_⟩
      exact ((((((HB2.out).setCell (Nat.le_refl _) _).setCell (Nat.le_refl _) _).setCell (Nat.le_refl _) _).setCell (Nat.le_refl _) _).setCell (Nat.le_refl _) _).alloc (by simp; omega) _
    | some y =>
      obtain ⟨ba, bs⟩ := y
      rw [h2] at EA
      simp only [Option.map_some, textV]
      have EA : Hid (getRec s (a : Nat) = if s.size < ba + bs + 4 then none else if RecC s a ka ks ba bs then some ⟨ka, ks, byteAt s q == 1, ba, bs, a, ba + bs + 4⟩ else none) := EA.out
      have I2 := hid (span_in s _ _ _ _ h2)
      obtain ⟨e', he⟩ : ∃ q, q = ba + bs := ⟨_, rfl⟩
      obtain ⟨dt, hdt⟩ : ∃ t, t = s.extract ba (ba + bs) := ⟨_, rfl⟩
      rw [← hdt, ← he]
      rw [← he] at EA
      have HE : Hid (e' = ba + bs) := he
      have HDT : Hid (dt = s.extract ba (ba + bs)) := hdt
      have H2 := hid h2
      have he2 : e' ≤ s.size := by have := I2.out.2.1; omega
      clear h2 he hdt
      have a3 : IntKind.i64.wrap ((e' : Int) + 4) = (e' : Int) + 4 := by simp [IntKind.wrap, IntKind.bits, IntKind.signed]; omega
      by_cases c4 : s.size < e' + 4
      · have E : Hid (getRec s (a : Nat) = none) := by show _ = _; rw [EA.out, if_pos c4]
        have d4 : decide ((s.size : Int) < (e' : Int) + 4) = true := by simp; omega
        clear EA
        go_wp2
        refine bodyPost_ret (v := .agg #[.string ⟨#[]⟩, .bool false, .string ⟨#[]⟩, .int .i64 0, .int .i64 0]) (by simp [results, Tryd.results13, go_sem, hz2, q0, q1, q2, q3, q4]) rfl ⟨by rw [E.out]; rfl, ?_⟩
        exact ((((((HB2.out).setCell (Nat.le_refl _) _).setCell (Nat.le_refl _) _).setCell (Nat.le_refl _) _).setCell (Nat.le_refl _) _).setCell (Nat.le_refl _) _).alloc (by simp; omega) _
      have EA : Hid (getRec s (a : Nat) = if RecC s a ka ks ba bs then some ⟨ka, ks, byteAt s q == 1, ba, bs, a, e' + 4⟩ else none) := by show _ = _; rw [EA.out, if_neg c4]
      have d4 : decide ((s.size : Int) < (e' : Int) + 4) = false := by simp; omega
      have hq : q < s.size := by omega
      have j0 : (0 : Int) ≤ (q : Int) := by omega
      have j1 : (q : Int) < (s.size : Int) := by omega
      have bq : (byteAt s q == 1) = (((s[q].toNat : Nat) : Int) == 1) := by
        rw [byteAt_get s q hq, Bool.eq_iff_iff]; simp only [beq_iff_eq]; omega
      obtain ⟨g, hg⟩ : ∃ g, g = (((s[q].toNat : Nat) : Int) == 1) := ⟨_, rfl⟩
      have kz : kt.size ≤ 1048576 := by rw [HKT.out]; have := I1.out.2.1; rw [ex_size s _ _ (by omega)]; omega
      have dz : dt.size ≤ 1048576 := by rw [HDT.out]; have := I2.out.2.1; rw [ex_size s _ _ (by omega)]; omega
      have PR := fun w => hid (sPutRec kt g dt kz dz w)
      have IFF : Hid ((RecOk kt g dt ∧ recV kt g dt = s.extract a (e' + 4)) ↔ RecC s a ka ks ba bs) := by
        have hQ := HQ.out
        have hE := HE.out
        have := rec_iff s a ka ks ba bs ha HM.out H1.out (by omega) (by rw [← hQ]; exact H2.out) (by omega) g (by rw [hg, ← bq, hQ])
        rw [← HKT.out, ← HDT.out, ← hE] at this
        show _ ↔ _
        unfold RecC
        rw [this, ← hE, show (byteAt s (ka + ks) == 1) = g by rw [hg, ← bq, hQ]]
      rw [bq] at EA
      rw [← hg] at EA
      have HG := hid hg
      clear hg bq
      go_wp2_with fail
      go_region_held3 (fun wx => (wx.cell? ⟨w1.heap.size, 1, none⟩ = some (.string kt) ∧ wx.cell? ⟨w1.heap.size, 2, none⟩ = some (.int .i64 q)) ∧ wx.cell? ⟨w2.heap.size, 1, none⟩ = some (.string dt) ∧ wx.cell? ⟨w2.heap.size, 2, none⟩ = some (.int .i64 e')) (first | (go_keep; done) | exact ⟨⟨by simp [hzk, k1], by simp [hzk, k2]⟩, keep_new (by simp) rfl, keep_new (by simp) rfl⟩ | trace_state) (fail)
      all_goals go_wp2_with fail
      all_goals (rw [← HG.out])
      all_goals (
        refine (PR _).out.mono ?_
        rintro e w3 ⟨rfl, hb3⟩
        have hz3 : w2.heap.size + 1 < w3.heap.size := by have := hb3.size; simp at this; omega
        have hB3 : Blk w3 w.heap.size #[.string ⟨#[]⟩, .bool false, .string ⟨#[]⟩, .int .i64 0, .int .i64 0] 28 := (hb3.block _ (by simp; omega)).trans ((hB2.past hz2 _).past (by simp; omega) _)
        have HR0 := Blk.made (w2.alloc (.cells #[.bool true, .string dt, .int .i64 e'] 65)) #[.string kt, .bool g, .string dt, .int .i64 a, .int .i64 ((e' : Int) + 4)] 28
        rw [World.size_alloc] at HR0
        have HR1 : Blk (((w2.alloc (.cells #[.bool true, .string dt, .int .i64 e'] 65)).alloc (.cells #[.string kt, .bool (((s[q].toNat : Nat) : Int) == 1), .string dt, .int .i64 a, .int .i64 ((e' : Int) + 4)] 28)).drew) (w2.heap.size + 1) #[.string kt, .bool g, .string dt, .int .i64 a, .int .i64 ((e' : Int) + 4)] 28 := by rw [← HG.out]; exact HR0
        have hR3 : Blk w3 (w2.heap.size + 1) #[.string kt, .bool g, .string dt, .int .i64 a, .int .i64 ((e' : Int) + 4)] 28 := (hb3.block _ (by simp)).trans (by first | exact HR1 | exact HR0)
        clear HR0 HR1
        have HB3 : Hid (Below w.heap.size w w3) := (((HB2.out.alloc (by omega) _).alloc (by simp; omega) _).drew).trans (hb3.mono (by simp; omega))
        have hz4 : w.heap.size < w3.heap.size := by omega
        clear hb3 hB2 HB2 q0 q1 q2 q3 q4 f0 f1 f2 f3 f4
        have q0 := hB3.cell 0 _ rfl
        have q1 := hB3.cell 1 _ rfl
        have q2 := hB3.cell 2 _ rfl
        have q3 := hB3.cell 3 _ rfl
        have q4 := hB3.cell 4 _ rfl
        have f0 := hB3.free 0
        have f1 := hB3.free 1
        have f2 := hB3.free 2
        have f3 := hB3.free 3
        have f4 := hB3.free 4
        have r0 := hR3.cell 0 _ rfl
        have r1 := hR3.cell 1 _ rfl
        have r2 := hR3.cell 2 _ rfl
        have r3 := hR3.cell 3 _ rfl
        have r4 := hR3.cell 4 _ rfl
        clear hB3 hR3
        have sl : ∀ wx, (Instr.slice 9 (.string s) (some (.int .i64 (a : Int))) (some (.int .i64 ((e' : Int) + 4))) none).run Tryd.prog wx = .ok (.string (s.extract a (e' + 4))) wx := by
          intro wx
          have := HE.out; have := HQ.out; have := I1.out.1; have := I2.out.1
          rw [run_slice_string_if _ _ _ _ _ _ _ Tryd.underlying9, if_pos (by omega), if_pos (by omega)]
          rw [show ((e' : Int) + 4).toNat = e' + 4 by omega, Int.toNat_natCast]
        by_cases hc : RecC s a ka ks ba bs
        · obtain ⟨hok, hv⟩ := IFF.out.2 hc
          have E : Hid (getRec s (a : Nat) = some ⟨ka, ks, g, ba, bs, a, e' + 4⟩) := by show _ = _; rw [EA.out, if_pos hc]
          have nz : (s.extract a (e' + 4)).toList.isEmpty = false := ba_some _ (by have := HE.out; have := HQ.out; have := I1.out.1; have := I2.out.1; rw [ex_size s _ _ (by omega)]; omega)
          obtain ⟨X, hX⟩ : ∃ X, X = s.extract a (e' + 4) := ⟨_, rfl⟩
          rw [← hX] at nz sl hv
          rw [hv]
          clear hv hok EA IFF hX
          go_wp2
          refine bodyPost_ret (v := .agg #[.string kt, .bool g, .string dt, .int .i64 a, .int .i64 ((e' : Int) + 4)]) (by simp [results, Tryd.results13, go_sem, q0, q1, q2, q3, q4]) rfl ⟨?_, ?_⟩
          · rw [E.out, HKT.out, HDT.out]; rfl
          · exact (((((HB3.out.setCell (Nat.le_refl _) _).setCell (Nat.le_refl _) _).setCell (Nat.le_refl _) _).setCell (Nat.le_refl _) _).setCell (Nat.le_refl _) _)
        · have E : Hid (getRec s (a : Nat) = none) := by show _ = _; rw [EA.out, if_neg hc]
          by_cases hok : RecOk kt g dt
          · have hv : recV kt g dt ≠ s.extract a (e' + 4) := fun q => hc (IFF.out.1 ⟨hok, q⟩)
            have nz : (recV kt g dt).toList.isEmpty = false := ba_some _ (by unfold recV; rw [if_pos hok, ByteArray.size_append, four_size]; omega)
            obtain ⟨X, hX⟩ : ∃ X, X = s.extract a (e' + 4) := ⟨_, rfl⟩
            obtain ⟨Y, hY⟩ : ∃ X, X = recV kt g dt := ⟨_, rfl⟩
            rw [← hX] at sl hv
            rw [← hY] at nz hv ⊢
            clear EA IFF hX hY hok hc
            have n1 : (Y.toList == X.toList) = false := beq_eq_false_iff_ne.2 fun q => hv (ba_ext (by rw [← ByteArray.toList_eq, ← ByteArray.toList_eq]; exact q))
            clear hv
            go_wp2
            refine bodyPost_ret (v := .agg #[.string ⟨#[]⟩, .bool false, .string ⟨#[]⟩, .int .i64 0, .int .i64 0]) (by simp [results, Tryd.results13, go_sem, q0, q1, q2, q3, q4]) rfl ⟨by rw [E.out]; rfl, ?_⟩
            exact (((((HB3.out.setCell (Nat.le_refl _) _).setCell (Nat.le_refl _) _).setCell (Nat.le_refl _) _).setCell (Nat.le_refl _) _).setCell (Nat.le_refl _) _)
          · have hv : recV kt g dt = ⟨#[]⟩ := if_neg hok
            rw [hv]
            clear EA IFF hv hok hc
            go_wp2
            refine bodyPost_ret (v := .agg #[.string ⟨#[]⟩, .bool false, .string ⟨#[]⟩, .int .i64 0, .int .i64 0]) (by simp [results, Tryd.results13, go_sem, q0, q1, q2, q3, q4]) rfl ⟨by rw [E.out]; rfl, ?_⟩
            exact (((((HB3.out.setCell (Nat.le_refl _) _).setCell (Nat.le_refl _) _).setCell (Nat.le_refl _) _).setCell (Nat.le_refl _) _).setCell (Nat.le_refl _) _)
      )
end Go.Proofs.YtefnoeaehglihaaDoor
