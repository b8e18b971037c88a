import Derived.Test.YtkcjigelenofhaaGreatDoorISrtK
import Derived.Test.YtkcjigelenofhaaGreatDoorG6
import Derived.Test.YtkcjigelenofhaaGreatDoorG11
namespace Go.Proofs.YtkcjigelenofhaaGreatDoor
open Go.RowKit
def xd : ByteArray := ⟨#[120, 45]⟩
theorem pf_bg (s t : ByteArray) : pfP s t ↔ bgP s t := by
 unfold pfP bgP
 constructor
 · rintro ⟨h1, h2⟩
   have e := congrArg (fun x : ByteArray => x.data.toList) h2
   rw [ext_take] at e
   rw [← e]
   exact List.take_prefix _ _
 · intro h
   have hl := h.length_le
   have e1 : t.data.toList.length = t.size := by simp
   have e2 : s.data.toList.length = s.size := by simp
   refine ⟨by omega, ?_⟩
   have e3 : (s.extract 0 t.size).data.toList = t.data.toList := by
    rw [ext_take, ← e1]
    exact (List.prefix_iff_eq_take.1 h).symm
   have : ∀ x y : ByteArray, x.data.toList = y.data.toList → x = y := fun x y q => by
    cases x; cases y; simp at q; subst q; rfl
   exact this _ _ e3
set_option maxRecDepth 20000 in
theorem iKept (p0 p1 : ByteArray) (w : World) : Calls Tryz.prog 78 #[.agg #[.string p0, .string p1]] w fun e w' => e = .returned (.bool (pb (bgP p0 xd))) ∧ Below w.heap.size w w' := by
 have E : pb (pfP p0 ⟨#[120, 45]⟩) = pb (bgP p0 xd) := pb_congr (pf_bg p0 ⟨#[120, 45]⟩)
 have J := Jn.box w 66 #[.string p0, .string p1]
 have KH := fun wx => hid (iHasP p0 ⟨#[120, 45]⟩ (by decide) wx)
 rw [E] at KH
 clear E
 generalize pb (bgP p0 xd) = B at KH ⊢
 go_enter Tryz.func78, Tryz.ntmps78
 go_wp2_with fail
 refine (KH _).out.mono ?_
 rintro e w2 ⟨rfl, hw⟩
 obtain rfl := hw
 go_wp2
 go_ret
 exact ⟨rfl, J.out.2⟩
set_option maxRecDepth 20000 in
set_option maxHeartbeats 1000000 in
theorem iIdxK (a : Option Addr) (n cap : Nat) (o : Nat → Hp) (hn : n ≤ 1048576) (w : World) (h : Hps w a n cap o) :
 Calls Tryz.prog 104 #[.slice a n cap, .func (.func 78) #[] #[]] w fun e w' => ((∃ k : Nat, e = .returned (.int .i64 (k : Int)) ∧ k < n ∧ bgP (o k).nm xd) ∨ (e = .returned (.int .i64 (-1)) ∧ ∀ i, i < n → ¬ bgP (o i).nm xd)) ∧ Below w.heap.size w w' := by
 have HH := hid h
 clear h
 go_enter Tryz.func104, Tryz.ntmps104
 go_wp2_with fail
 go_loopw [8] (fun q wr => ∃ k : Nat, k ≤ n ∧ q = .int .i64 (k : Int) ∧ (∀ i, i < k → ¬ bgP (o i).nm xd) ∧ Below w.heap.size w wr) (fun q _ => n - (intOf q).toNat)
 case atStart => exact ⟨0, Nat.zero_le _, rfl, fun i hi => absurd hi (by omega), Below.refl _ _⟩
 case round =>
  obtain ⟨k, hk, rfl, hno, hB⟩ := hrel
  have NO := hid hno
  have HB := hid hB
  clear hno hB
  by_cases hlt : k < n
  · have d1 : (k : Int) < (n : Int) := by omega
    have k0 : (0 : Int) ≤ (k : Int) := by omega
    rcases (HH.out.below HB.out).2 with q0 | ⟨b, off, rfl, hbl, hc⟩
    · omega
    obtain ⟨y0, y1⟩ := hc k hlt
    have KK := fun wx => hid (iKept (o k).nm (o k).vl wx)
    obtain ⟨T, hT⟩ : ∃ T, T = pb (bgP (o k).nm xd) := ⟨_, rfl⟩
    have HT : Hid (T = true ↔ bgP (o k).nm xd) := by rw [hT]; exact pb_iff
    rw [← hT] at KK
    generalize (o k).nm = p0 at y0 KK
    generalize (o k).vl = p1 at y1 KK
    clear hc hT
    go_wp2_with fail
    refine (KK _).out.mono ?_
    rintro e w2 ⟨rfl, hb2⟩
    have B2 := hid (HB.out.trans (hb2.mono HB.out.size))
    clear hb2 HB KK y0 y1
    cases T with
    | true =>
     have Y : Hid (bgP (o k).nm xd) := HT.out.1 rfl
     clear HT
     go_wp2
     go_ret
     exact ⟨.inl ⟨k, rfl, hlt, Y.out⟩, B2.out⟩
    | false =>
     have Y : Hid (¬ bgP (o k).nm xd) := fun q => Bool.noConfusion (HT.out.2 q)
     clear HT
     go_wp2
     go_roundw
     case rel => exact ⟨k + 1, by omega, by go_num, fun i hi => by
      rcases Nat.lt_or_ge i k with h1 | h1
      · exact NO.out i h1
      · rw [show i = k by omega]; exact Y.out, B2.out⟩
     case measure => simp [intOf]; omega
  · have d1 : ¬ (k : Int) < (n : Int) := by omega
    have hkn : k = n := by omega
    subst hkn
    go_wp2
    go_ret
    exact ⟨.inr ⟨rfl, NO.out⟩, HB.out⟩
def kpP (n : Nat) (o : Nat → Hp) : Prop := ∃ i, i < n ∧ bgP (o i).nm xd
set_option maxRecDepth 20000 in
theorem iContK (a : Option Addr) (n cap : Nat) (o : Nat → Hp) (hn : n ≤ 1048576) (w : World) (h : Hps w a n cap o) :
 Calls Tryz.prog 77 #[.slice a n cap, .func (.func 78) #[] #[]] w fun e w' => e = .returned (.bool (pb (kpP n o))) ∧ Below w.heap.size w w' := by
 have K := hid (iIdxK a n cap o hn w h)
 clear h
 go_enter Tryz.func77, Tryz.ntmps77
 go_wp2_with fail
 refine K.out.mono ?_
 rintro e w2 ⟨hh, hb2⟩
 have HB := hid hb2
 clear hb2 K
 rcases hh with ⟨k, rfl, hk, hy⟩ | ⟨rfl, hno⟩
 · have E : Hid (pb (kpP n o) = true) := pb_t ⟨k, hk, hy⟩
   have k0 : (0 : Int) ≤ (k : Int) := by omega
   clear hy
   go_wp2
   go_ret
   exact ⟨by rw [E.out]; rfl, HB.out⟩
 · have E : Hid (pb (kpP n o) = false) := pb_f (fun ⟨i, hi, q⟩ => hno i hi q)
   clear hno
   go_wp2
   go_ret
   exact ⟨by rw [E.out]; rfl, HB.out⟩
def tmS (t : Int) : Prop := 0 ≤ t ∧ t ≤ 4102444800
set_option maxRecDepth 20000 in
theorem iTimeS (t : Int) (w : World) : Calls Tryz.prog 80 #[.int .i64 t] w fun e w' => e = .returned (.bool (pb (tmS t))) ∧ w' = w := by
 by_cases h0 : 0 ≤ t
 · by_cases h1 : t ≤ 4102444800
   · have E : Hid (pb (tmS t) = true) := pb_t ⟨h0, h1⟩
     go_enter Tryz.func80, Tryz.ntmps80
     go_wp2
     go_ret
     exact ⟨by rw [E.out]; rfl, rfl⟩
   · have E : Hid (pb (tmS t) = false) := pb_f (fun q => h1 q.2)
     go_enter Tryz.func80, Tryz.ntmps80
     go_wp2
     go_ret
     exact ⟨by rw [E.out]; rfl, rfl⟩
 · have E : Hid (pb (tmS t) = false) := pb_f (fun q => h0 q.1)
   go_enter Tryz.func80, Tryz.ntmps80
   go_wp2
   go_ret
   exact ⟨by rw [E.out]; rfl, rfl⟩
def scP (s : ByteArray) : Prop := 1 ≤ s.size ∧ s.size ≤ 100
set_option maxRecDepth 20000 in
theorem iSecret (s : ByteArray) (w : World) : Calls Tryz.prog 40 #[.string s] w fun e w' => e = .returned (.bool (pb (scP s))) ∧ w' = w := by
 by_cases h0 : 1 ≤ s.size
 · by_cases h1 : s.size ≤ 100
   · have E : Hid (pb (scP s) = true) := pb_t ⟨h0, h1⟩
     have z0 : (1 : Int) ≤ (s.size : Int) := by omega
     have z1 : (s.size : Int) ≤ 100 := by omega
     go_enter Tryz.func40, Tryz.ntmps40
     go_wp2
     go_ret
     exact ⟨by rw [E.out]; rfl, rfl⟩
   · have E : Hid (pb (scP s) = false) := pb_f (fun q => h1 q.2)
     have z0 : (1 : Int) ≤ (s.size : Int) := by omega
     have z1 : ¬ (s.size : Int) ≤ 100 := by omega
     go_enter Tryz.func40, Tryz.ntmps40
     go_wp2
     go_ret
     exact ⟨by rw [E.out]; rfl, rfl⟩
 · have E : Hid (pb (scP s) = false) := pb_f (fun q => h0 q.1)
   have z0 : ¬ (1 : Int) ≤ (s.size : Int) := by omega
   go_enter Tryz.func40, Tryz.ntmps40
   go_wp2
   go_ret
   exact ⟨by rw [E.out]; rfl, rfl⟩
set_option maxRecDepth 20000 in
theorem iLongS (s : ByteArray) (hs : s.size ≤ 100000) (w : World) : Calls Tryz.prog 73 #[.string s] w fun e w' => e = .returned (.bool false) ∧ w' = w := by
 have d : ¬ (100000 : Int) < (s.size : Int) := by omega
 go_enter Tryz.func73, Tryz.ntmps73
 go_wp2
 go_ret
 exact ⟨rfl, rfl⟩
set_option maxRecDepth 20000 in
set_option maxHeartbeats 1000000 in
theorem iIdxT (a : Option Addr) (n cap : Nat) (ts : Nat → ByteArray) (hn : n ≤ 1048576) (hs : ∀ i, i < n → (ts i).size ≤ 100000) (w : World) (h : Strs w a n cap ts) :
 Calls Tryz.prog 131 #[.slice a n cap, .func (.func 73) #[] #[]] w fun e w' => e = .returned (.int .i64 (-1)) ∧ w' = w := by
 have HH := hid h
 have HS := hid hs
 clear h hs
 go_enter Tryz.func131, Tryz.ntmps131
 go_wp2_with fail
 go_loopw [8] (fun q wr => ∃ k : Nat, k ≤ n ∧ q = .int .i64 (k : Int) ∧ wr = w) (fun q _ => n - (intOf q).toNat)
 case atStart => exact ⟨0, Nat.zero_le _, rfl, rfl⟩
 case round =>
  obtain ⟨k, hk, rfl, rfl⟩ := hrel
  by_cases hlt : k < n
  · have d1 : (k : Int) < (n : Int) := by omega
    have k0 : (0 : Int) ≤ (k : Int) := by omega
    rcases HH.out.2 with q0 | ⟨b, off, rfl, hbl, hc⟩
    · omega
    have y0 := hc k hlt
    have KK := fun wx => hid (iLongS (ts k) (HS.out k hlt) wx)
    generalize ts k = p0 at y0 KK
    clear hc
    go_wp2_with fail
    refine (KK _).out.mono ?_
    rintro e w2 ⟨rfl, hw⟩
    obtain rfl := hw
    go_wp2
    go_roundw
    case rel => exact ⟨k + 1, by omega, by go_num, by first | rfl | trivial⟩
    case measure => simp [intOf]; omega
  · have d1 : ¬ (k : Int) < (n : Int) := by omega
    go_wp2
    go_ret
    exact ⟨rfl, rfl⟩
set_option maxRecDepth 20000 in
theorem iContT (a : Option Addr) (n cap : Nat) (ts : Nat → ByteArray) (hn : n ≤ 1048576) (hs : ∀ i, i < n → (ts i).size ≤ 100000) (w : World) (h : Strs w a n cap ts) :
 Calls Tryz.prog 112 #[.slice a n cap, .func (.func 73) #[] #[]] w fun e w' => e = .returned (.bool false) ∧ w' = w := by
 have K := hid (iIdxT a n cap ts hn hs w h)
 clear h hs
 go_enter Tryz.func112, Tryz.ntmps112
 go_wp2_with fail
 refine K.out.mono ?_
 rintro e w2 ⟨rfl, hw⟩
 obtain rfl := hw
 go_wp2
 go_ret
 exact ⟨rfl, rfl⟩
end Go.Proofs.YtkcjigelenofhaaGreatDoor
namespace Go.Proofs.YtkcjigelenofhaaGreatDoor
open Go.RowKit Go.Maps
theorem ba_eqL {x y : ByteArray} (h : x.data.toList = y.data.toList) : x = y := by cases x; cases y; simp at h; subst h; rfl
def LeftK (n2 : Nat) (o2 : Nat → Hp) (ts : Nat → ByteArray) (k : Nat) (D : DataW Unit) : Prop := ∀ x : List UInt8, Maps.has D (.string x) = true ↔ (∃ i, i < n2 ∧ (o2 i).nm.data.toList = x) ∧ ∀ j, j < k → (ts j).data.toList ≠ x
theorem LeftK.start (n2 : Nat) (o2 : Nat → Hp) (ts : Nat → ByteArray) : LeftK n2 o2 ts 0 (plD o2 n2) := fun x => by
 rw [plD_has]
 constructor
 · rintro ⟨i, hi, e⟩
   exact ⟨⟨i, hi, by unfold kN at e; injection e⟩, fun j hj => absurd hj (by omega)⟩
 · rintro ⟨⟨i, hi, e⟩, _⟩
   exact ⟨i, hi, by unfold kN; rw [e]⟩
theorem LeftK.next {n2 : Nat} {o2 : Nat → Hp} {ts : Nat → ByteArray} {k : Nat} {D : DataW Unit} (h : LeftK n2 o2 ts k D) : LeftK n2 o2 ts (k + 1) (D.del (.string (ts k).data.toList)) := fun x => by
 by_cases e : x = (ts k).data.toList
 · subst e
   rw [Maps.has_del_same]
   exact ⟨fun q => Bool.noConfusion q, fun q => absurd rfl (q.2 k (by omega))⟩
 · rw [Maps.has_del_other (fun q => e (by injection q)), h x]
   refine ⟨fun q => ⟨q.1, fun j hj => ?_⟩, fun q => ⟨q.1, fun j hj => q.2 j (by omega)⟩⟩
   rcases Nat.lt_or_ge j k with h1 | h1
   · exact q.2 j h1
   · rw [show j = k by omega]; exact fun q => e q.symm
theorem LeftK.at {n2 : Nat} {o2 : Nat → Hp} {ts : Nat → ByteArray} {k : Nat} {D : DataW Unit} (h : LeftK n2 o2 ts k D) : Maps.has D (.string (ts k).data.toList) = true ↔ sgnO n2 o2 ts k := by
 rw [h]
 unfold sgnO
 constructor
 · rintro ⟨⟨i, hi, e⟩, q⟩
   exact ⟨⟨i, hi, ba_eqL e⟩, fun j hj e2 => q j hj (by rw [e2])⟩
 · rintro ⟨⟨i, hi, e⟩, q⟩
   exact ⟨⟨i, hi, by rw [e]⟩, fun j hj e2 => q j hj (ba_eqL e2)⟩
set_option maxRecDepth 20000 in
set_option maxHeartbeats 4000000 in
theorem iSgFit (a2 : Option Addr) (n2 c2 : Nat) (o2 : Nat → Hp) (h2l : n2 ≤ 1048576) (hs : ∀ i, i < n2 → (o2 i).nm.size ≤ 1048576) (tA : Option Addr) (m mc : Nat) (ts : Nat → ByteArray) (hm : m ≤ 1048576) (hts : ∀ i, i < m → (ts i).size ≤ 1048576) (w : World) (h2 : Hps w a2 n2 c2 o2) (hS : Strs w tA m mc ts) :
 Calls Tryz.prog 81 #[.slice a2 n2 c2, .slice tA m mc] w fun e w' => e = .returned (.bool (pb (sgnP n2 o2 ts m))) ∧ Below w.heap.size w w' := by
 by_cases h10 : m ≤ 10
 case neg =>
  have E : Hid (pb (sgnP n2 o2 ts m) = false) := pb_f (fun q => h10 q.2)
  have d : (10 : Int) < (m : Int) := by omega
  clear h10
  go_enter Tryz.func81, Tryz.ntmps81
  go_wp2
  go_ret
  exact ⟨by rw [E.out]; rfl, Below.refl _ _⟩
 have d : ¬ (10 : Int) < (m : Int) := by omega
 have HS := hid hS
 have HT := hid hts
 have KP := hid (iPlaces a2 n2 c2 o2 h2l hs w h2)
 have M10 := hid h10
 clear h10 hS hts hs h2
 go_enter Tryz.func81, Tryz.ntmps81
 go_wp2_with fail
 refine KP.out.mono ?_
 rintro e w1 ⟨b, rfl, hM1, hb1, hB1⟩
 have M1 := hid hM1
 have B1 := hid hB1
 clear hM1 hB1 KP d
 go_wp2_with fail
 go_loopw [17] (fun q wr => ∃ (k : Nat) (D : DataW Unit), k ≤ m ∧ q = .int .i64 (k : Int) ∧ LeftK n2 o2 ts k D ∧ (∀ i, i < k → sgnO n2 o2 ts i) ∧ wr.ownsMap Tryz.prog 9 (plainElem Tryz.prog 3) b n2 D ∧ Below w.heap.size w wr) (fun q _ => m - (intOf q).toNat)
 case atStart => exact ⟨0, _, Nat.zero_le _, rfl, LeftK.start _ _ _, fun i hi => absurd hi (by omega), M1.out, B1.out⟩
 case round =>
  clear M1 B1
  obtain ⟨k, D, hk, rfl, hL, hY, hM, hB⟩ := hrel
  have HL := hid hL
  have HY := hid hY
  have HM := hid hM
  have HB := hid hB
  clear hL hY hM hB
  by_cases hlt : k < m
  · have d1 : (k : Int) < (m : Int) := by omega
    have k0 : (0 : Int) ≤ (k : Int) := by omega
    rcases (HS.out.below HB.out).2 with q0 | ⟨bb, off, rfl, hbl, hc⟩
    · omega
    have y0 := hc k hlt
    have HKY : Hid (keyOf Tryz.prog 9 (.string (ts k)) = some (.string (ts k).data.toList)) := WideMaps.keyOf_string_mk Tryz.underlying9 (by have := HT.out k hlt; unfold maxLen; omega)
    have HZ : Hid ((zeroValue 3).run Tryz.prog wr = .ok (.int .i64 0) wr) := by show (zeroValue 3).run Tryz.prog wr = .ok (.int .i64 0) wr; kernel_rfl
    have HAT := hid HL.out.at
    have HNX := hid HL.out.next
    obtain ⟨KL, hKL⟩ : ∃ K, K = Lit.string (ts k).data.toList := ⟨_, rfl⟩
    have HQ : Hid (∀ B : Bool, B = Maps.has D KL → (B = true ↔ sgnO n2 o2 ts k)) := fun B hb => by rw [hb, hKL]; exact HAT.out
    rw [← hKL] at HKY HNX
    clear HAT hKL hc
    generalize ts k = T at y0 HKY
    generalize hB : Maps.has D KL = BB at HQ
    have HBB := hid hB
    clear hB
    cases BB with
    | false =>
     have E : Hid (pb (sgnP n2 o2 ts m) = false) := pb_f (fun q => Bool.noConfusion ((HQ.out false rfl).2 (q.1 k hlt)))
     clear HQ HNX
     go_wp2_with (first | (at_lookup; refine wpList_lookup_own_ok_int _ rfl _ _ 116 rfl 9 3 .i64 lawS Tryz.underlying116 Tryz.underlying3 HZ.out b n2 D rfl HM.out (.string T) KL rfl HKY.out ?_; intro c hat hwc; clear hat hwc; rw [HBB.out]) | fail)
     go_ret
     exact ⟨by rw [E.out]; rfl, HB.out⟩
    | true =>
     have Y : Hid (sgnO n2 o2 ts k) := (HQ.out true rfl).1 rfl
     clear HQ
     go_wp2_with (first | (at_lookup; refine wpList_lookup_own_ok_int _ rfl _ _ 116 rfl 9 3 .i64 lawS Tryz.underlying116 Tryz.underlying3 HZ.out b n2 D rfl HM.out (.string T) KL rfl HKY.out ?_; intro c hat hwc; clear hat hwc; rw [HBB.out]) | (at_delete; refine wpList_delete_own _ rfl _ _ 116 9 rfl 3 lawS Tryz.underlying116 _ b n2 D rfl HM.out (.string T) KL rfl HKY.out ?_; intro w5 hM5 ht5) | fail)
     have M5 := hid hM5
     have B5 : Hid (Below w.heap.size w w5) := HB.out.grown ht5.grown HB.out.size (fun j hj => by cases hj; exact hb1)
     clear hM5 ht5 HB HM y0 HKY HZ HBB
     go_wp2
     go_roundw
     case rel => exact ⟨k + 1, _, by omega, by go_num, HNX.out, fun i hi => by
      rcases Nat.lt_or_ge i k with h1 | h1
      · exact HY.out i h1
      · rw [show i = k by omega]; exact Y.out, M5.out, B5.out⟩
     case measure => simp [intOf]; omega
  · have d1 : ¬ (k : Int) < (m : Int) := by omega
    have E : Hid (pb (sgnP n2 o2 ts m) = true) := pb_t ⟨fun i hi => HY.out i (by omega), M10.out⟩
    go_wp2
    go_ret
    exact ⟨by rw [E.out]; rfl, HB.out⟩
def ftP (id : ByteArray) (nw ls : Int) (n1 : Nat) (o1 : Nat → Hp) (n2 : Nat) (o2 : Nat → Hp) (ts : Nat → ByteArray) (m : Nat) : Prop := ¬ kpP n1 o1 ∧ idP id ∧ tmS nw ∧ tmS ls ∧ sgnP n2 o2 ts m
set_option maxRecDepth 20000 in
set_option maxHeartbeats 4000000 in
theorem iFits (id : ByteArray) (nw ls : Int) (tA : Option Addr) (m mc : Nat) (ts : Nat → ByteArray) (hm : m ≤ 1048576) (hts : ∀ i, i < m → (ts i).size ≤ 1048576) (a1 : Option Addr) (n1 c1 : Nat) (o1 : Nat → Hp) (h1l : n1 ≤ 1048576) (a2 : Option Addr) (n2 c2 : Nat) (o2 : Nat → Hp) (h2l : n2 ≤ 1048576) (hs : ∀ i, i < n2 → (o2 i).nm.size ≤ 1048576) (w : World) (h1 : Hps w a1 n1 c1 o1) (h2 : Hps w a2 n2 c2 o2) (hS : Strs w tA m mc ts) :
 Calls Tryz.prog 39 #[.agg #[.string id, .int .i64 nw, .int .i64 ls, .slice tA m mc], .slice a1 n1 c1, .slice a2 n2 c2] w fun e w' => e = .returned (.bool (pb (ftP id nw ls n1 o1 n2 o2 ts m))) ∧ Below w.heap.size w w' := by
 have KC := fun wx hx => hid (iContK a1 n1 c1 o1 h1l wx hx)
 have KI := fun wx => hid (iOfI 1 40 1 40 rfl rfl id wx)
 have KN := fun wx => hid (iTimeS nw wx)
 have KL := fun wx => hid (iTimeS ls wx)
 have KG := fun wx hx hy => hid (iSgFit a2 n2 c2 o2 h2l hs tA m mc ts hm hts wx hx hy)
 have H1 := hid h1
 have H2 := hid h2
 have HS := hid hS
 have J := Jn.box w 72 #[.string id, .int .i64 nw, .int .i64 ls, .slice tA m mc]
 obtain ⟨W0, hW0⟩ : ∃ W, W = w.alloc (.cells #[.string id, .int .i64 nw, .int .i64 ls, .slice tA m mc] 72) := ⟨_, rfl⟩
 rw [← hW0] at J
 have HV : Hid (∀ a b c d e : Bool, (a = true ↔ kpP n1 o1) → (b = true ↔ idP id) → (c = true ↔ tmS nw) → (d = true ↔ tmS ls) → (e = true ↔ sgnP n2 o2 ts m) → pb (ftP id nw ls n1 o1 n2 o2 ts m) = (!a && b && c && d && e)) := fun a b c d e ha hb hc hd he => by
  apply Bool.eq_iff_iff.2
  rw [pb_iff]
  unfold ftP
  rw [← ha, ← hb, ← hc, ← hd, ← he]
  cases a <;> cases b <;> cases c <;> cases d <;> cases e <;> simp
 obtain ⟨A, hA⟩ : ∃ A, A = pb (kpP n1 o1) := ⟨_, rfl⟩
 obtain ⟨B, hB⟩ : ∃ A, A = pb (ofP 1 40 idC id) := ⟨_, rfl⟩
 obtain ⟨C, hC⟩ : ∃ A, A = pb (tmS nw) := ⟨_, rfl⟩
 obtain ⟨D, hD⟩ : ∃ A, A = pb (tmS ls) := ⟨_, rfl⟩
 obtain ⟨E, hE⟩ : ∃ A, A = pb (sgnP n2 o2 ts m) := ⟨_, rfl⟩
 have R := HV.out A B C D E (by rw [hA]; exact pb_iff) (by rw [hB]; exact pb_iff) (by rw [hC]; exact pb_iff) (by rw [hD]; exact pb_iff) (by rw [hE]; exact pb_iff)
 rw [R]
 rw [← hA] at KC
 rw [← hB] at KI
 rw [← hC] at KN
 rw [← hD] at KL
 rw [← hE] at KG
 clear hA hB hC hD hE HV R h1 h2 hS
 go_enter Tryz.func39, Tryz.ntmps39
 go_wp2_with fail
 rw [← hW0]
 clear hW0
 refine (KC _ (H1.out.below J.out.2)).out.mono ?_
 rintro e w2 ⟨rfl, hb2⟩
 replace J := Jn.next hb2 J
 have x0 : w2.cell? ⟨w.heap.size, 0, none⟩ = some (.string id) := J.out.1.cell 0
 have x1 : w2.cell? ⟨w.heap.size, 1, none⟩ = some (.int .i64 nw) := J.out.1.cell 1
 have x2 : w2.cell? ⟨w.heap.size, 2, none⟩ = some (.int .i64 ls) := J.out.1.cell 2
 have x3 : w2.cell? ⟨w.heap.size, 3, none⟩ = some (.slice tA m mc) := J.out.1.cell 3
 clear hb2 KC
 cases A with
 | true =>
  go_wp2
  go_ret
  exact ⟨rfl, J.out.2⟩
 | false =>
  go_wp2_with fail
  refine (KI _).out.mono ?_
  rintro e w3 ⟨rfl, hb3⟩
  replace J := Jn.next hb3 J
  clear hb3 KI x0 x1 x2 x3
  have x1 : w3.cell? ⟨w.heap.size, 1, none⟩ = some (.int .i64 nw) := J.out.1.cell 1
  have x2 : w3.cell? ⟨w.heap.size, 2, none⟩ = some (.int .i64 ls) := J.out.1.cell 2
  have x3 : w3.cell? ⟨w.heap.size, 3, none⟩ = some (.slice tA m mc) := J.out.1.cell 3
  cases B with
  | false =>
   go_wp2
   go_ret
   exact ⟨rfl, J.out.2⟩
  | true =>
   go_wp2_with fail
   refine (KN _).out.mono ?_
   rintro e w4 ⟨rfl, hw⟩
   obtain rfl := hw
   cases C with
   | false =>
    go_wp2
    go_ret
    exact ⟨rfl, J.out.2⟩
   | true =>
    go_wp2_with fail
    refine (KL _).out.mono ?_
    rintro e w5 ⟨rfl, hw⟩
    obtain rfl := hw
    cases D with
    | false =>
     go_wp2
     go_ret
     exact ⟨rfl, J.out.2⟩
    | true =>
     go_wp2_with fail
     refine (KG _ (H2.out.below J.out.2) (HS.out.below J.out.2)).out.mono ?_
     rintro e w6 ⟨rfl, hb6⟩
     replace J := Jn.next hb6 J
     clear hb6 x1 x2 x3
     go_wp2
     go_ret
     exact ⟨rfl, J.out.2⟩
end Go.Proofs.YtkcjigelenofhaaGreatDoor
namespace Go.Proofs.YtkcjigelenofhaaGreatDoor
open Go.RowKit Go.Shelf
end Go.Proofs.YtkcjigelenofhaaGreatDoor
namespace Go.Proofs.YtkcjigelenofhaaGreatDoor
open Go.RowKit Go.Shelf
theorem Jn.nextB {W X w2 : World} {b : Nat} {t : TypeId} {cs : Array Value} {B : Nat} (hb : Below B X w2) (J : Hid (Jn W X b t cs)) (h1 : b < B) (h2 : W.heap.size ≤ B) : Hid (Jn W w2 b t cs) :=
 ⟨(hb.block b h1).trans J.out.1, J.out.2.trans (hb.mono h2)⟩
end Go.Proofs.YtkcjigelenofhaaGreatDoor
