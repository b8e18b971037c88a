import Derived.Test.YtmgmchhhmeclgaaDoorITrim
namespace Go.Proofs.YtmgmchhhmeclgaaDoor
open Go.RowKit
/-! The program's GlobFits. -/
noncomputable def globV (p t : ByteArray) : Bool := decide (p.size ≤ 200 ∧ t.size ≤ 2000) && glB p.data.toList t.data.toList
theorem glob_no {p t : ByteArray} (h : ¬ (p.size ≤ 200 ∧ t.size ≤ 2000)) : globV p t = false := by unfold globV; simp only [h]; rfl
theorem glob_in {p t : ByteArray} (h1 : p.size ≤ 200) (h2 : t.size ≤ 2000) : globV p t = glB p.data.toList t.data.toList := by unfold globV; simp [h1, h2]
theorem meas1 {t p e e' x : Nat} (h : e ≤ e') (hx : x < p) : (t + 1 - e') * (p + 1) + (p - (x + 1)) < (t + 1 - e) * (p + 1) + (p - x) := by
  have := Nat.mul_le_mul_right (p + 1) (show t + 1 - e' ≤ t + 1 - e by omega)
  omega
theorem meas2 {t p e x s : Nat} (h : e < t) : (t + 1 - (e + 1)) * (p + 1) + (p - s) < (t + 1 - e) * (p + 1) + (p - x) := by
  rw [show t + 1 - e = (t + 1 - (e + 1)) + 1 by omega, Nat.add_mul, Nat.one_mul]
  omega
theorem vi (a b : Int) (h : a = b) : Value.int .i64 a = .int .i64 b := by rw [h]
theorem glB_all {P T : List UInt8} {x s e : Nat} (h : Way P T x T.length s e) (hs : ∀ c ∈ P.drop x, c = 42) : glB P T = true := glB_t (h.done.2 hs)
theorem glB_none {P T : List UInt8} {x s e : Nat} (h : Way P T x T.length s e) (hs : ¬ ∀ c ∈ P.drop x, c = 42) : glB P T = false := glB_f (fun hh => hs (h.done.1 hh))
set_option maxRecDepth 20000 in
set_option maxHeartbeats 2000000 in
theorem iGlob (p t : ByteArray) (hp : p.size ≤ 1099511627776) (ht : t.size ≤ 1099511627776) (w : World) :
    Calls Tryd.prog 6 #[.string p, .string t] w fun e w' => e = .returned (.bool (globV p t)) ∧ ∃ n, w' = w.drewN n := by
  by_cases h1 : p.size ≤ 200
  · by_cases h2 : t.size ≤ 2000
    · rw [glob_in h1 h2]
      obtain ⟨P, hP⟩ : ∃ P, p.data.toList = P := ⟨_, rfl⟩
      obtain ⟨T, hT⟩ : ∃ T, t.data.toList = T := ⟨_, rfl⟩
      rw [hP, hT]
      have hPl : P.length = p.size := by rw [← hP, baLen]
      have hTl : T.length = t.size := by rw [← hT, baLen]
      have HPL := hid hPl
      have HTL := hid hTl
      have AP : Hid (∀ i (h : i < p.size), P[i]? = some (p[i]'h)) := fun i h => by rw [← hP]; exact ba_at p i h
      have AT : Hid (∀ i (h : i < t.size), T[i]? = some (t[i]'h)) := fun i h => by rw [← hT]; exact ba_at t i h
      have HP := hid hP
      clear hP hT hPl hTl
      have d1 : ¬ (200 : Int) < (p.size : Int) := by omega
      have d2 : ¬ (2000 : Int) < (t.size : Int) := by omega
      go_enter Tryd.func6, Tryd.ntmps6
      go_wp2
      clear d1 d2
      go_loopw [5, 6, 7, 8] (fun a b c d wr => ∃ x y s e n : Nat, Way P T x y s e ∧ a = .int .i64 (x : Int) ∧ b = .int .i64 (y : Int) ∧ c = .int .i64 ((s : Int) - 1) ∧ d = .int .i64 (e : Int) ∧ wr = w.drewN n) (fun a _ _ d _ => (t.size + 1 - (intOf d).toNat) * (p.size + 1) + (p.size - (intOf a).toNat))
      case atStart => exact ⟨0, 0, 0, 0, 0, way_start P T, rfl, rfl, rfl, rfl, rfl⟩
      case round =>
        obtain ⟨x, y, s, e, n, hw, rfl, rfl, rfl, rfl, rfl⟩ := hrel
        have hx : x ≤ p.size := by rw [← HPL.out]; exact hw.p_le
        have hy : y ≤ t.size := by rw [← HTL.out]; exact hw.t_le
        have he : e ≤ y := hw.e_le
        have hsx : s ≤ x := hw.s_le
        have HW := hid hw
        clear hw
        by_cases ty : y < t.size
        · have d3 : (y : Int) < (t.size : Int) := by omega
          have HTY : Hid (y < T.length) := by show _ < _; rw [HTL.out]; exact ty
          have at2 := hid (AT.out y ty)
          by_cases px : x < p.size
          · have d4 : (x : Int) < (p.size : Int) := by omega
            have ap2 := hid (AP.out x px)
            by_cases c42 : p[x]'px = 42
            · have q1 : ((p[x]'px).toNat : Int) = 42 := (u8_eq (c := 42) rfl).2 c42
              have W1 := hid (HW.out.star (by rw [ap2.out, c42]))
              clear c42
              go_wp2
              refine ⟨⟨x + 1, y, x + 1, y, n, W1.out, vi _ _ (by omega), rfl, vi _ _ (by omega), rfl, rfl⟩, ?_⟩
              show (t.size + 1 - (y : Int).toNat) * (p.size + 1) + (p.size - ((x : Int) + 1).toNat) < (t.size + 1 - (e : Int).toNat) * (p.size + 1) + (p.size - (x : Int).toNat)
              rw [show ((x : Int) + 1).toNat = x + 1 by omega]
              exact meas1 he px
            · have q1 : ¬ ((p[x]'px).toNat : Int) = 42 := fun h => c42 ((u8_eq (c := 42) rfl).1 h)
              by_cases c63 : p[x]'px = 63
              · have q2 : ((p[x]'px).toNat : Int) = 63 := (u8_eq (c := 63) rfl).2 c63
                have W1 := hid (HW.out.one ap2.out at2.out c42 (Or.inl c63))
                clear c42 c63
                go_wp2
                go_quiet (fail)
                go_wp2
                refine ⟨⟨x + 1, y + 1, s, e, _, W1.out, vi _ _ (by omega), vi _ _ (by omega), rfl, rfl, rfl⟩, ?_⟩
                show (t.size + 1 - (e : Int).toNat) * (p.size + 1) + (p.size - ((x : Int) + 1).toNat) < (t.size + 1 - (e : Int).toNat) * (p.size + 1) + (p.size - (x : Int).toNat)
                rw [show ((x : Int) + 1).toNat = x + 1 by omega]
                exact meas1 (Nat.le_refl _) px
              · have q2 : ¬ ((p[x]'px).toNat : Int) = 63 := fun h => c63 ((u8_eq (c := 63) rfl).1 h)
                by_cases cb : p[x]'px = t[y]'ty
                · have q3 : ((p[x]'px).toNat : Int) = ((t[y]'ty).toNat : Int) := by rw [cb]
                  have q4 : ¬ ((t[y]'ty).toNat : Int) = 42 := by rw [← q3]; exact q1
                  have q5 : ¬ ((t[y]'ty).toNat : Int) = 63 := by rw [← q3]; exact q2
                  have W1 := hid (HW.out.one ap2.out at2.out c42 (Or.inr cb))
                  clear c42 c63 cb
                  go_wp2
                  go_quiet (fail)
                  go_wp2
                  refine ⟨⟨x + 1, y + 1, s, e, _, W1.out, vi _ _ (by omega), vi _ _ (by omega), rfl, rfl, rfl⟩, ?_⟩
                  show (t.size + 1 - (e : Int).toNat) * (p.size + 1) + (p.size - ((x : Int) + 1).toNat) < (t.size + 1 - (e : Int).toNat) * (p.size + 1) + (p.size - (x : Int).toNat)
                  rw [show ((x : Int) + 1).toNat = x + 1 by omega]
                  exact meas1 (Nat.le_refl _) px
                · have q3 : ¬ ((p[x]'px).toNat : Int) = ((t[y]'ty).toNat : Int) := fun h => cb ((u8_eq rfl).1 h)
                  have q4 : (((p[x]'px).toNat : Int) == ((t[y]'ty).toNat : Int)) = false := by simpa using q3
                  have q5 : ¬ (p[x]'px).toNat = (t[y]'ty).toNat := fun h => q3 (by rw [h])
                  have q6 : ¬ p[x]'px = t[y]'ty := cb
                  have D : Hid (x = P.length ∨ ∃ c b, P[x]? = some c ∧ T[y]? = some b ∧ c ≠ 42 ∧ c ≠ 63 ∧ c ≠ b) := Or.inr ⟨_, _, ap2.out, at2.out, c42, c63, cb⟩
                  clear c42 c63 cb
                  by_cases s0 : s = 0
                  · subst s0
                    have N := hid (HW.out.no HTY.out D.out)
                    go_wp2
                    go_quiet (fail)
                    go_wp2
                    go_ret
                    exact ⟨by rw [N.out]; rfl, _, rfl⟩
                  · have W1 := hid (HW.out.back HTY.out D.out s0)
                    have d5 : (0 : Int) ≤ (s : Int) - 1 := by omega
                    go_wp2
                    go_quiet (fail)
                    go_wp2
                    refine ⟨⟨s, e + 1, s, e + 1, _, W1.out, vi _ _ (by omega), vi _ _ (by omega), rfl, vi _ _ (by omega), rfl⟩, ?_⟩
                    show (t.size + 1 - ((e : Int) + 1).toNat) * (p.size + 1) + (p.size - (s : Int).toNat) < (t.size + 1 - (e : Int).toNat) * (p.size + 1) + (p.size - (x : Int).toNat)
                    rw [show ((e : Int) + 1).toNat = e + 1 by omega]
                    exact meas2 (by omega)
          · have d4 : ¬ (x : Int) < (p.size : Int) := by omega
            have D : Hid (x = P.length ∨ ∃ c b, P[x]? = some c ∧ T[y]? = some b ∧ c ≠ 42 ∧ c ≠ 63 ∧ c ≠ b) := Or.inl (by rw [HPL.out]; omega)
            by_cases s0 : s = 0
            · subst s0
              have N := hid (HW.out.no HTY.out D.out)
              go_wp2
              go_quiet (fail)
              go_wp2
              go_ret
              exact ⟨by rw [N.out]; rfl, _, rfl⟩
            · have W1 := hid (HW.out.back HTY.out D.out s0)
              have d5 : (0 : Int) ≤ (s : Int) - 1 := by omega
              go_wp2
              go_quiet (fail)
              go_wp2
              refine ⟨⟨s, e + 1, s, e + 1, _, W1.out, vi _ _ (by omega), vi _ _ (by omega), rfl, vi _ _ (by omega), rfl⟩, ?_⟩
              show (t.size + 1 - ((e : Int) + 1).toNat) * (p.size + 1) + (p.size - (s : Int).toNat) < (t.size + 1 - (e : Int).toNat) * (p.size + 1) + (p.size - (x : Int).toNat)
              rw [show ((e : Int) + 1).toNat = e + 1 by omega]
              exact meas2 (by omega)
        · have d3 : ¬ (y : Int) < (t.size : Int) := by omega
          have ey := hid (show y = T.length by rw [HTL.out]; omega)
          go_wp2_with fail
          refine (iTrim (p.extract x p.size) (by rw [ByteArray.size_extract]; omega) _).mono ?_
          rintro r w2 ⟨⟨u, rfl, hu⟩, m, rfl⟩
          have ex : (p.extract x p.size).data.toList = P.drop x := by rw [ext_drop, HP.out]
          rw [ex] at hu
          have HU := hid hu
          have WD : Hid (Way P T x T.length s e) := by have := HW.out; rw [ey.out] at this; exact this
          clear hu ex
          by_cases u0 : u.size = 0
          · have N := hid (glB_all WD.out (HU.out.1 u0))
            have e0 : u = ⟨#[]⟩ := ba0 u0
            subst e0
            go_wp2
            go_ret
            exact ⟨by rw [N.out]; rfl, n + m, rfl⟩
          · have N := hid (glB_none WD.out (fun h => u0 (HU.out.2 h)))
            have e0 : ¬ u.toList = [] := fun h => u0 (by rw [← baLen, ← baTl, h]; rfl)
            have e1 : u.toList.isEmpty = false := by cases h : u.toList with
              | nil => exact absurd h e0
              | cons _ _ => rfl
            go_wp2
            go_ret
            exact ⟨by rw [N.out]; rfl, n + m, rfl⟩
    · have d2 : (2000 : Int) < (t.size : Int) := by omega
      have d1 : ¬ (200 : Int) < (p.size : Int) := by omega
      rw [glob_no (fun h => h2 h.2)]
      go_enter Tryd.func6, Tryd.ntmps6
      go_wp2
      go_ret
      exact ⟨rfl, 0, rfl⟩
  · have d1 : (200 : Int) < (p.size : Int) := by omega
    rw [glob_no (fun h => h1 h.1)]
    go_enter Tryd.func6, Tryd.ntmps6
    go_wp2
    go_ret
    exact ⟨rfl, 0, rfl⟩
end Go.Proofs.YtmgmchhhmeclgaaDoor
