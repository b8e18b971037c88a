import Derived.Test.YtkcjigelenofhaaGreatDoorG5
import Derived.Test.YtkcjigelenofhaaGreatDoorG2
import Derived.BigQuiet
namespace Go.Proofs.YtkcjigelenofhaaGreatDoor
open Go.RowKit
def sgnO (n2 : Nat) (o2 : Nat → Hp) (ts : Nat → ByteArray) (i : Nat) : Prop := (∃ h, h < n2 ∧ (o2 h).nm = ts i) ∧ ∀ k, k < i → ts k ≠ ts i
def sgnP (n2 : Nat) (o2 : Nat → Hp) (ts : Nat → ByteArray) (m : Nat) : Prop := (∀ i, i < m → sgnO n2 o2 ts i) ∧ m ≤ 10
theorem fndV_neg {o : Nat → Hp} {x : ByteArray} {n : Nat} (h : ¬ ∃ i, i < n ∧ (o i).nm = x) : fndV o x n = -1 := by
 unfold fndV
 rw [fndTo_none.2 fun i hi e => h ⟨i, hi, e⟩]
theorem fndV_pos {o : Nat → Hp} {x : ByteArray} {n : Nat} (h : ∃ i, i < n ∧ (o i).nm = x) : ∃ k : Nat, fndV o x n = (k : Int) := by
 unfold fndV
 cases e : fndTo o x n with
 | some k => exact ⟨k, rfl⟩
 | none => obtain ⟨i, hi, q⟩ := h; exact absurd q (fndTo_none.1 e i hi)
theorem ba_beqS2 (a b : ByteArray) : (a.toList == b.toList) = decide (a = b) := by
 have e : ∀ x : ByteArray, x.toList = x.data.toList := fun x => by rw [ByteArray.toList_eq]
 rw [e, e]
 by_cases h : a = b
 · subst h; simp
 · have : a.data.toList ≠ b.data.toList := fun q => h (by cases a; cases b; simp at q; subst q; rfl)
   rw [decide_eq_false h]; exact beq_eq_false_iff_ne.2 this
theorem bdNS {n : Nat} {w w' : World} (h : Below n w w') (k : Nat) : Below n w (w'.drewN k) := ⟨h.1, h.2, h.3, h.4, h.5⟩
set_option maxRecDepth 20000 in
set_option maxHeartbeats 4000000 in
theorem sSigned (mt pt : ByteArray) (a1 : Option Addr) (n1 c1 : Nat) (a2 : Option Addr) (n2 c2 : Nat) (o2 : Nat → Hp) (bd : ByteArray) (at' : Option Addr) (m mc : Nat) (ts : Nat → ByteArray) (h2l : n2 ≤ 1048576) (hm : m ≤ 1048576) (w : World) (h2 : Hps w a2 n2 c2 o2) (hS : Strs w at' m mc ts) :
 Calls Tryz.prog 48 #[.agg #[.string mt, .string pt, .slice a1 n1 c1, .slice a2 n2 c2, .string bd], .slice at' m mc] w fun e w' => e = .returned (.bool (pb (sgnP n2 o2 ts m))) ∧ Below w.heap.size w w' := by
 obtain ⟨W0, hW0⟩ : ∃ W, W = w.alloc (.cells #[.string mt, .string pt, .slice a1 n1 c1, .slice a2 n2 c2, .string bd] 25) := ⟨_, rfl⟩
 have A0 : Hid (RowAt W0 w.heap.size 25 #[.string mt, .string pt, .slice a1 n1 c1, .slice a2 n2 c2, .string bd]) := by rw [hW0]; exact RowAt.new _ _ _
 have B0 : Hid (Below w.heap.size w W0) := by rw [hW0]; exact (Below.refl _ _).alloc (Nat.le_refl _) _
 have H2 := hid (h2.below B0.out)
 have HS := hid (hS.below B0.out)
 have HW0 := hid hW0
 clear h2 hS hW0
 go_enter Tryz.func48, Tryz.ntmps48
 go_wp2_with fail
 rw [← HW0.out]
 go_loopw [5] (fun v wr => ∃ i : Nat, i ≤ m ∧ v = .int .i64 (i : Int) ∧ (∀ q, q < i → sgnO n2 o2 ts q) ∧ RowAt wr w.heap.size 25 #[.string mt, .string pt, .slice a1 n1 c1, .slice a2 n2 c2, .string bd] ∧ Hps wr a2 n2 c2 o2 ∧ Strs wr at' m mc ts ∧ Below w.heap.size w wr) (fun v _ => m - (intOf v).toNat)
 case atStart => exact ⟨0, Nat.zero_le _, rfl, fun i hi => absurd hi (Nat.not_lt_zero _), A0.out, H2.out, HS.out, B0.out⟩
 case round =>
  clear A0 B0 H2 HS
  obtain ⟨i, hi, rfl, hf, hA, hH, hT, hB⟩ := hrel
  have HF := hid hf
  have HA := hid hA
  have HH := hid hH
  have HT := hid hT
  have HB := hid hB
  have x3 := hA.cell 3
  clear hf hA hH hT hB
  by_cases hlt : i < m
  · have d1 : (i : Int) < (m : Int) := by omega
    have i0 : (0 : Int) ≤ (i : Int) := by omega
    have FA : Hid (¬ sgnO n2 o2 ts i → pb (sgnP n2 o2 ts m) = false) := fun h => pb_f fun q => h (q.1 i hlt)
    rcases HT.out.2 with q0 | ⟨b, off, rfl, hbl, hc⟩
    · omega
    have y1 := hc i hlt
    have HC := hid hc
    have KF := fun wx (hh : Hps wx a2 n2 c2 o2) => hid (sFind a2 n2 c2 o2 (ts i) h2l wx hh)
    by_cases g1 : ∃ h, h < n2 ∧ (o2 h).nm = ts i
    · obtain ⟨z, hz⟩ := fndV_pos g1
      simp only [hz] at KF
      have d2 : ¬ (z : Int) < 0 := by omega
      have G1 := hid g1
      clear g1 hz hc
      go_wp2_with fail
      go_quiet ((go_at_call 90; exact Calls.quiet_of_same (KF _ (Hps.below HH.out (bdNS (Below.refl _ _) _))).out))
      go_wp2_with fail
      rename_i nq
      go_loopw [6] (fun v wx => ∃ k : Nat, k ≤ i ∧ v = .int .i64 (k : Int) ∧ (∀ q, q < k → ts q ≠ ts i) ∧ Below wr.heap.size wr wx) (fun v _ => i - (intOf v).toNat)
      case atStart => exact ⟨0, Nat.zero_le _, rfl, fun q hq => absurd hq (Nat.not_lt_zero _), bdNS (Below.refl _ _) _⟩
      case round =>
       obtain ⟨k, hk, rfl, hq, hbx⟩ := hrel
       have HQ := hid hq
       have HBX := hid hbx
       have w1 := (hbx.cell (p := ⟨b, off + i, none⟩) hbl).trans (HC.out i hlt)
       clear hq hbx
       by_cases hki : k < i
       · have e1 : (k : Int) < (i : Int) := by omega
         have k0 : (0 : Int) ≤ (k : Int) := by omega
         have km : (k : Int) < (m : Int) := by omega
         have w2 := (HBX.out.cell (p := ⟨b, off + k, none⟩) hbl).trans (HC.out k (by omega))
         by_cases e : ts k = ts i
         · have N : Hid (pb (sgnP n2 o2 ts m) = false) := FA.out fun h => h.2 k hki e
           have BQ : ((ts k).toList == (ts i).toList) = true := by rw [ba_beqS2]; simp [e]
           obtain ⟨TK, hTK⟩ : ∃ t, t = ts k := ⟨_, rfl⟩
           obtain ⟨TI, hTI⟩ : ∃ t, t = ts i := ⟨_, rfl⟩
           rw [← hTK] at w2 BQ
           rw [← hTI] at w1 BQ
           clear FA e hTK hTI y1
           go_wp2_with fail
           go_quiet (fail)
           go_wp2
           go_ret
           exact ⟨by rw [N.out]; rfl, bdNS (HB.out.trans (HBX.out.mono HB.out.size)) _⟩
         · have Q2 : Hid (∀ q, q < k + 1 → ts q ≠ ts i) := fun q hq => by
            by_cases eq : q = k
            · rw [eq]; exact e
            · exact HQ.out q (by omega)
           have BQ : ((ts k).toList == (ts i).toList) = false := by rw [ba_beqS2]; simp [e]
           obtain ⟨TK, hTK⟩ : ∃ t, t = ts k := ⟨_, rfl⟩
           obtain ⟨TI, hTI⟩ : ∃ t, t = ts i := ⟨_, rfl⟩
           rw [← hTK] at w2 BQ
           rw [← hTI] at w1 BQ
           clear FA e hTK hTI y1
           go_wp2_with fail
           go_quiet (fail)
           go_wp2
           go_roundw
           case rel => exact ⟨k + 1, by omega, by go_num, Q2.out, bdNS HBX.out _⟩
           case measure => simp [intOf]; omega
       · have e1 : ¬ (k : Int) < (i : Int) := by omega
         have hke : k = i := by omega
         subst hke
         have F2 : Hid (∀ q, q < k + 1 → sgnO n2 o2 ts q) := fun q hq => by
          by_cases eq : q = k
          · rw [eq]; exact ⟨G1.out, HQ.out⟩
          · exact HF.out q (by omega)
         clear FA
         go_wp2
         go_roundw
         case rel => exact ⟨k + 1, by omega, by go_num, F2.out, HA.out.below HBX.out HA.out.lt, Hps.below HH.out HBX.out, Strs.below HT.out HBX.out, HB.out.trans (HBX.out.mono HB.out.size)⟩
         case measure => simp [intOf]; omega
    · have hz := fndV_neg g1
      simp only [hz] at KF
      have N : Hid (pb (sgnP n2 o2 ts m) = false) := FA.out fun h => g1 h.1
      clear FA hz hc
      go_wp2_with fail
      go_quiet ((go_at_call 90; exact Calls.quiet_of_same (KF _ (Hps.below HH.out (bdNS (Below.refl _ _) _))).out))
      go_wp2
      go_ret
      exact ⟨by rw [N.out]; rfl, bdNS HB.out _⟩
  · have d1 : ¬ (i : Int) < (m : Int) := by omega
    have him : i = m := by omega
    subst him
    by_cases h10 : i ≤ 10
    · have d2 : (i : Int) ≤ 10 := by omega
      have N : Hid (pb (sgnP n2 o2 ts i) = true) := pb_t ⟨HF.out, h10⟩
      go_wp2
      go_ret
      exact ⟨by rw [N.out]; rfl, HB.out⟩
    · have d2 : ¬ (i : Int) ≤ 10 := by omega
      have N : Hid (pb (sgnP n2 o2 ts i) = false) := pb_f fun h => h10 h.2
      go_wp2
      go_ret
      exact ⟨by rw [N.out]; rfl, HB.out⟩
end Go.Proofs.YtkcjigelenofhaaGreatDoor
namespace Go.Proofs.YtkcjigelenofhaaGreatDoor
open Go.RowKit
theorem canQ_len : ∀ (L : List Hp), (∀ p ∈ L, qyP p) → (canQ L).length ≤ L.length * 3302
 | [], _ => by simp [canQ, Lib.join]
 | [p], h => by rw [canQ_one]; have := prL_len (h p (by simp)); simp; omega
 | p :: q :: r, h => by
  have ih := canQ_len (q :: r) (fun x hx => h x (List.mem_cons_of_mem _ hx))
  have h1 := prL_len (h p (by simp))
  have e : canQ (p :: q :: r) = prL p ++ [38] ++ canQ (q :: r) := by
   unfold canQ
   rw [List.map_cons, List.map_cons, Lib.join_cons, Lib.join_cons]
   unfold Lib.joinTail
   simp
  rw [e]
  simp at ih ⊢
  omega
theorem hpList_mem {o : Nat → Hp} {n : Nat} {p : Hp} (h : p ∈ hpList o n) : ∃ i, i < n ∧ o i = p := by
 unfold hpList at h
 obtain ⟨i, hi, e⟩ := List.mem_map.1 h
 exact ⟨i, List.mem_range.1 hi, e⟩
theorem sel_len (f : Nat) (L : List Hp) (h : L.length = f) : (selL f L).length = f := by rw [(sel_perm f L h).length_eq, h]
theorem hvL_len {o : Nat → Hp} {n : Nat} (h : ∀ i, i < n → hdP (o i)) (x : ByteArray) : (hvL o n x).size ≤ 1000 := by
 unfold hvL
 cases e : fndTo o x n with
 | some i => have := (h i (fndTo_some e).1).2.1; exact this
 | none => show (0 : Nat) ≤ 1000; omega
theorem sgL_len {o : Nat → Hp} {n : Nat} (h : ∀ i, i < n → hdP (o i)) (ts : Nat → ByteArray) : ∀ m, (∀ i, i < m → (ts i).size ≤ 1000) → (sgL o n ts m).length ≤ m * 2002
 | 0, _ => Nat.le_refl _
 | m + 1, ht => by
  have ih := sgL_len h ts m (fun i hi => ht i (by omega))
  have h1 := ht m (by omega)
  have h2 := hvL_len h (ts m)
  have e1 : (ts m).data.toList.length = (ts m).size := by simp
  have e2 : (hvL o n (ts m)).data.toList.length = (hvL o n (ts m)).size := by simp
  show (sgL o n ts m ++ (ts m).data.toList ++ [58] ++ (hvL o n (ts m)).data.toList ++ [10]).length ≤ _
  simp only [List.length_append, List.length_cons, List.length_nil]
  omega
theorem canL_len {r : Rq} (hr : rqP r) (ts : Nat → ByteArray) (m : Nat) (hm : m ≤ 10) (ht : ∀ i, i < m → (ts i).size ≤ 1000) : (canL r ts m).length ≤ 200000 := by
 have h1 : r.mt.data.toList.length ≤ 10 := by have := hr.1.2.1; simpa using this
 have h2 : (escV r.pt).length ≤ 3000 := by have := escV_len r.pt; have := hr.2.1.2.1; omega
 have hn : r.qs.n ≤ 30 := hr.2.2.1.1
 have hl : (hpList r.qs.o r.qs.n).length = r.qs.n := hpList_len _ _
 have h3 := canQ_len (selL r.qs.n (hpList r.qs.o r.qs.n)) (fun p hp => by
  obtain ⟨i, hi, rfl⟩ := hpList_mem ((sel_perm _ _ hl).mem_iff.1 hp)
  exact hr.2.2.2.2.2.1 i hi)
 rw [sel_len _ _ hl] at h3
 have h4 := sgL_len hr.2.2.2.2.2.2 ts m ht
 have h5 : (Lib.decDigits (sumOf r.bd 3).toNat).length ≤ 10 := by
  have b := sumL_bd r.bd.data.toList (3 % 2147483647 + 1) (by decide) (by decide)
  have e : sumOf r.bd 3 = sumL (3 % 2147483647 + 1) r.bd.data.toList := by unfold sumOf; rw [if_neg (by have := hr.2.2.2.2.1; omega)]
  have := dec_len (sumOf r.bd 3).toNat (by rw [e]; omega)
  rw [ofL_size] at this
  exact this
 unfold canL
 simp only [List.length_append, List.length_cons, List.length_nil]
 omega
def sgS (r : Rq) (sec : ByteArray) (ts : Nat → ByteArray) (m : Nat) : Int := sumOf (ofL (sec.data.toList ++ [10] ++ canL r ts m)) 9
theorem sgS_bd {r : Rq} (hr : rqP r) (sec : ByteArray) (hs : sec.size ≤ 100) (ts : Nat → ByteArray) (m : Nat) (hm : m ≤ 10) (ht : ∀ i, i < m → (ts i).size ≤ 1000) : 0 ≤ sgS r sec ts m ∧ sgS r sec ts m ≤ 2147483647 := by
 unfold sgS sumOf
 have := canL_len hr ts m hm ht
 have e : sec.data.toList.length = sec.size := by simp
 rw [if_neg (by rw [ofL_size]; simp only [List.length_append, List.length_cons, List.length_nil]; omega)]
 exact sumL_bd _ _ (by decide) (by decide)
set_option maxRecDepth 20000 in
set_option maxHeartbeats 2000000 in
theorem sSum10 (mt pt : ByteArray) (qb qo n1 c1 : Nat) (o1 : Nat → Hp) (a2 : Option Addr) (n2 c2 : Nat) (o2 : Nat → Hp) (bd : ByteArray) (hr : rqP ⟨mt, pt, ⟨some ⟨qb, qo, none⟩, n1, c1, o1⟩, ⟨a2, n2, c2, o2⟩, bd⟩) (sec : ByteArray) (hs : sec.size ≤ 100) (at' : Option Addr) (m mc : Nat) (ts : Nat → ByteArray) (hm : m ≤ 10) (hts : ∀ i, i < m → (ts i).size ≤ 1000) (w : World) (h : RqIn w ⟨mt, pt, ⟨some ⟨qb, qo, none⟩, n1, c1, o1⟩, ⟨a2, n2, c2, o2⟩, bd⟩) (hS : Strs w at' m mc ts) :
 Calls Tryz.prog 52 #[.agg #[.string mt, .string pt, .slice (some ⟨qb, qo, none⟩) n1 c1, .slice a2 n2 c2, .string bd], .string sec, .slice at' m mc] w fun e w' => e = .returned (.string (ofL (Lib.decDigits (sgS ⟨mt, pt, ⟨some ⟨qb, qo, none⟩, n1, c1, o1⟩, ⟨a2, n2, c2, o2⟩, bd⟩ sec ts m).toNat))) ∧ Below w.heap.size w w' := by
 have J := Jn.box w 25 #[.string mt, .string pt, .slice (some ⟨qb, qo, none⟩) n1 c1, .slice a2 n2 c2, .string bd]
 obtain ⟨W0, hW0⟩ : ∃ W, W = w.alloc (.cells #[.string mt, .string pt, .slice (some ⟨qb, qo, none⟩) n1 c1, .slice a2 n2 c2, .string bd] 25) := ⟨_, rfl⟩
 rw [← hW0] at J
 have KC := hid (sCanon mt pt qb qo n1 c1 o1 a2 n2 c2 o2 bd hr at' m mc ts (by omega) (fun i hi => by have := hts i hi; omega) W0 (h.below J.out.2) (hS.below J.out.2))
 have CL := canL_len hr ts m hm hts
 have SB := sgS_bd hr sec hs ts m hm hts
 obtain ⟨CN, hCN⟩ : ∃ E, E = ofL (canL ⟨mt, pt, ⟨some ⟨qb, qo, none⟩, n1, c1, o1⟩, ⟨a2, n2, c2, o2⟩, bd⟩ ts m) := ⟨_, rfl⟩
 obtain ⟨SV, hSV⟩ : ∃ E, E = sgS ⟨mt, pt, ⟨some ⟨qb, qo, none⟩, n1, c1, o1⟩, ⟨a2, n2, c2, o2⟩, bd⟩ sec ts m := ⟨_, rfl⟩
 have cz : CN.size ≤ 200000 := by rw [hCN, ofL_size]; exact CL
 have ES : Hid (sumOf (sec ++ ⟨#[10]⟩ ++ CN) 9 = SV) := by
  show _ = _
  rw [hSV]
  unfold sgS
  congr 1
  refine ofL_of ?_
  rw [ba_app, ba_app, hCN, ofL_l]
 rw [← hCN] at KC
 rw [← hSV] at SB ⊢
 have z1 : ¬ 9223372036854775807 < sec.size + 1 := by omega
 have z2 : ¬ 9223372036854775807 < sec.size + 1 + CN.size := by omega
 have sz3 : (sec ++ ⟨#[10]⟩ ++ CN).size ≤ 1048576 := by rw [sizeApp, sizeApp]; show sec.size + 1 + CN.size ≤ _; omega
 have KS := fun wx => hid (ssum_all (sec ++ ⟨#[10]⟩ ++ CN) 9 (by decide) sz3 wx)
 simp only [ES.out] at KS
 have KD := fun wx => hid (sDecI SV SV.toNat (by omega) (by omega) wx)
 have x0 := J.out.1.cell 0
 have x1 := J.out.1.cell 1
 have x2 := J.out.1.cell 2
 have x3 := J.out.1.cell 3
 have x4 := J.out.1.cell 4
 have HW0 := hid hW0
 clear hCN hSV CL h hS hr hts hW0 ES
 go_enter Tryz.func52, Tryz.ntmps52
 go_upto_region 1 with fail
 rw [← HW0.out]
 go_wp2_with fail
 refine KC.out.mono ?_
 rintro e w2 ⟨rfl, hb2⟩
 have J2 := Jn.next hb2 J
 clear hb2 J
 go_wp2_with fail
 refine (KS _).out.mono ?_
 rintro e w3 ⟨rfl, hw3⟩
 obtain rfl := hw3.symm
 clear hw3
 go_wp2_with fail
 refine (KD _).out.mono ?_
 rintro e w4 ⟨rfl, hb4⟩
 have J4 := Jn.next hb4 J2
 clear hb4
 go_wp2
 go_ret
 exact ⟨rfl, J4.out.2⟩
end Go.Proofs.YtkcjigelenofhaaGreatDoor
