import Derived.Test.YtgoplcjjoiiagaaGreatDoorK1
import Derived.Test.YtgoplcjjoiiagaaGreatDoorProg
import Derived.Lib.ItoaNum
import Derived.Lib.ConvBytes
import Derived.Deep.RegionWith
import Derived.WalkSmall
import Derived.Test.YtgoplcjjoiiagaaGreatDoorSReq
import Derived.Test.YtgoplcjjoiiagaaGreatDoorE1
namespace Go.Proofs.YtgoplcjjoiiagaaGreatDoor
open Go.RowKit
/-! Numbers as texts: the specification's. -/
theorem ba_app (a b : ByteArray) : (a ++ b).data.toList = a.data.toList ++ b.data.toList := by
  rw [ByteArray.data_append]; simp
theorem baLen (b : ByteArray) : b.data.toList.length = b.size := by simp
theorem sizeApp (a b : ByteArray) : (a ++ b).size = a.size + b.size := ByteArray.size_append ..
theorem convGw (w : World) (b : Nat) (d : Int) (h : w.cell? ⟨b, 0, none⟩ = some (.int .u8 d)) : (convert 22 9 (.slice (some ⟨b, 0, none⟩) 1 1)).run Tryz.prog w = .ok (.string (strOfNums [d])) w :=
  run_convert_bytes_arg (P := Tryz.prog) _ 22 5 Tryz.underlying22 Tryz.underlying5 b 0 1 1 [d] rfl (fun i hi => by
    have e : i = 0 := by omega
    subst e
    exact h) 9 Tryz.underlying9
theorem str1w (d : Int) : (strOfNums [d]).size = 1 := by rw [strOfNums_size]; rfl
theorem wrp (r : Nat) (h : r < 10) : IntKind.u8.wrap (IntKind.i64.wrap (48 + (r : Int))) = 48 + (r : Int) := by
  rw [IntKind.wrap_i64]
  simp [IntKind.wrap, IntKind.bits, IntKind.signed]
  omega
theorem str1d (r : Nat) : (strOfNums [48 + (r : Int)]).data.toList = [UInt8.ofNat (48 + r)] := by
  rw [strOfNums_data, List.map_cons, List.map_nil, show (48 + (r : Int)).toNat = 48 + r by omega]
set_option maxRecDepth 20000 in
set_option maxHeartbeats 1000000 in
theorem sDec1 (n : Nat) (hn : n < 10) (w : World) :
    Calls Tryz.prog 47 #[.int .i64 (n : Int)] w fun e w' => (∃ t : ByteArray, e = .returned (.string t) ∧ t.data.toList = Lib.decDigits n ∧ t.size ≤ 19) ∧ Below w.heap.size w w' := by
  have d0 : ¬ (n : Int) < 0 := by omega
  have d1 : (n : Int) < 10 := by omega
  have B1 : Hid (∀ o, Below w.heap.size w (w.alloc o)) := fun o => (Below.refl _ w).alloc (Nat.le_refl _) _
  have cv := fun d => convGw (w.alloc (.cells #[.int .u8 d] 5)) w.heap.size d ((RowAt.new w _ _).cell 0)
  go_enter Tryz.func47, Tryz.ntmps47
  go_wp2
  go_ret
  exact ⟨⟨_, rfl, by rw [str1d, Lib.decDigits_one hn], by rw [str1w]; omega⟩, B1.out _⟩
theorem sDecz (z : Int) (n : Nat) (hz : z = (n : Int)) {w : World} {R : Ending → World → Prop} (h : Calls Tryz.prog 47 #[.int .i64 (n : Int)] w R) : Calls Tryz.prog 47 #[.int .i64 z] w R := by subst hz; exact h
set_option maxRecDepth 20000 in
set_option maxHeartbeats 1000000 in
theorem sDecS (d : Nat) : ∀ (n : Nat), n < 10 ^ (d + 1) → d ≤ 17 → ∀ w : World,
    Calls Tryz.prog 47 #[.int .i64 (n : Int)] w fun e w' => (∃ t : ByteArray, e = .returned (.string t) ∧ t.data.toList = Lib.decDigits n ∧ t.size ≤ d + 1) ∧ Below w.heap.size w w' := by
  induction d with
  | zero =>
    intro n hn _ w
    have h10 : n < 10 := by simpa using hn
    refine (sDec1 n h10 w).mono ?_
    rintro e w' ⟨⟨t, rfl, h1, _⟩, h2⟩
    refine ⟨⟨t, rfl, h1, ?_⟩, h2⟩
    rw [← baLen, h1, Lib.decDigits_one h10]; simp
  | succ d ih =>
    intro n hn hd w
    by_cases h10 : n < 10
    · refine (sDec1 n h10 w).mono ?_
      rintro e w' ⟨⟨t, rfl, h1, _⟩, h2⟩
      refine ⟨⟨t, rfl, h1, ?_⟩, h2⟩
      rw [← baLen, h1, Lib.decDigits_one h10]; simp
    have hb : n < 10 ^ 19 := Nat.lt_of_lt_of_le hn (Nat.pow_le_pow_right (by omega) (by omega))
    have d0 : ¬ (n : Int) < 0 := by omega
    have d1 : ¬ (n : Int) < 10 := by omega
    have DD : Hid (Lib.decDigits n = Lib.decDigits (n / 10) ++ [UInt8.ofNat (48 + n % 10)]) := by show _ = _; rw [Lib.decDigits, dif_neg h10]
    have hq0 : n / 10 < 10 ^ (d + 1) := by
      rw [Nat.pow_succ] at hn
      omega
    have K := fun w => hid (ih (n / 10) hq0 (by omega) w)
    obtain ⟨q, hq⟩ : ∃ q, q = n / 10 := ⟨_, rfl⟩
    obtain ⟨r, hr⟩ : ∃ r, r = n % 10 := ⟨_, rfl⟩
    have hr10 : r < 10 := by omega
    have e1 : (n : Int).tdiv 10 = (q : Int) := by rw [Int.tdiv_eq_ediv_of_nonneg (by omega)]; omega
    have e1' : (n : Int) / 10 = (q : Int) := by omega
    have e2 : (n : Int).tmod 10 = (r : Int) := by rw [Int.tmod_eq_emod_of_nonneg (by omega)]; omega
    have e2' : (n : Int) % 10 = (r : Int) := by omega
    rw [← hq] at K DD
    rw [← hr] at DD
    have hqb : q < 1000000000000000000 := by omega
    clear hq hr ih hn hq0
    have B1 : Hid (∀ o, Below w.heap.size w (w.alloc o)) := fun o => (Below.refl _ w).alloc (Nat.le_refl _) _
    go_enter Tryz.func47, Tryz.ntmps47
    go_wp2_with fail
    have cvA : ∀ (W : World) d, (convert 22 9 (.slice (some ⟨W.heap.size, 0, none⟩) 1 1)).run Tryz.prog (W.alloc (.cells #[.int .u8 d] 5)) = .ok (.string (strOfNums [d])) (W.alloc (.cells #[.int .u8 d] 5)) := fun W d => convGw _ W.heap.size d ((RowAt.new W _ _).cell 0)
    have cvB : ∀ (W : World) d, (convert 22 9 (.slice (some ⟨W.heap.size, 0, none⟩) 1 1)).run Tryz.prog (W.alloc (.cells #[.int .u8 d] 5)).drew = .ok (.string (strOfNums [d])) (W.alloc (.cells #[.int .u8 d] 5)).drew := fun W d => convGw _ W.heap.size d ((RowAt.new W _ _).cell 0)
    go_region_with ((go_at_call 47; refine (sDecz _ q (by first | rfl | exact e1 | (rw [e1]; rfl) | (rw [e1, IntKind.wrap_i64]; omega) | (rw [IntKind.wrap_i64]; omega)) (K _).out).mono ?_; rintro e w2 ⟨⟨t, rfl, hl, ht⟩, hb2⟩; have z1 : ∀ d, ¬ 9223372036854775807 < t.size + (strOfNums [d]).size := (fun d => by rw [str1w]; omega); (first | have cvC := convGw w2 w.heap.size _ ((hb2.cell (p := ⟨w.heap.size, 0, none⟩) (by simp)).trans ((RowAt.new w 5 #[_]).cell 0)) | skip)))
    all_goals go_wp2
    all_goals go_ret
    all_goals refine ⟨⟨_, rfl, by rw [ba_app, hl, wrp r hr10, str1d, DD.out], by rw [sizeApp, str1w]; omega⟩, ?_⟩
    all_goals first
      | exact ((Below.refl _ w).drew.trans hb2).alloc (((Below.refl _ w).drew.trans hb2).size) _
      | exact ((B1.out _).drew.trans (hb2.mono (B1.out _).drew.size))
      | exact ((B1.out _).trans (hb2.mono (B1.out _).size))
theorem sDec (n : Nat) (hn : n ≤ 4102444800) (w : World) :
    Calls Tryz.prog 47 #[.int .i64 (n : Int)] w fun e w' => (∃ t : ByteArray, e = .returned (.string t) ∧ t.data.toList = Lib.decDigits n ∧ t.size ≤ 10) ∧ Below w.heap.size w w' :=
  sDecS 9 n (by omega) (by omega) w
end Go.Proofs.YtgoplcjjoiiagaaGreatDoor
namespace Go.Proofs.YtgoplcjjoiiagaaGreatDoor
open Go.RowKit
/-! Texts made of lists; a row that a walk keeps from world to world. -/
def ofL (l : List UInt8) : ByteArray := ⟨l.toArray⟩
theorem ofL_l (l : List UInt8) : (ofL l).data.toList = l := by simp [ofL]
theorem ofL_size (l : List UInt8) : (ofL l).size = l.length := by rw [← baLen, ofL_l]
theorem ba_extL {a b : ByteArray} (h : a.data.toList = b.data.toList) : a = b := by
  cases a
  cases b
  congr 1
  exact Array.toList_inj.1 h
theorem ofL_of {b : ByteArray} {l : List UInt8} (h : b.data.toList = l) : b = ofL l := ba_extL (by rw [h, ofL_l])
/-- the row b lies in w, and nothing that was there in W has turned -/
def Jn (W w : World) (b : Nat) (t : TypeId) (cs : Array Value) : Prop := RowAt w b t cs ∧ Below W.heap.size W w
theorem Jn.drew {W w : World} {b : Nat} {t : TypeId} {cs : Array Value} (J : Hid (Jn W w b t cs)) : Hid (Jn W w.drew b t cs) := ⟨J.out.1.drew, J.out.2.drew⟩
theorem Jn.drewN {W w : World} {b : Nat} {t : TypeId} {cs : Array Value} (J : Hid (Jn W w b t cs)) (n : Nat) : Hid (Jn W (w.drewN n) b t cs) := ⟨J.out.1.drewN n, below_drewN J.out.2 n⟩
theorem Jn.next {W X w2 : World} {b : Nat} {t : TypeId} {cs : Array Value} (hb : Below X.heap.size X w2) (J : Hid (Jn W X b t cs)) : Hid (Jn W w2 b t cs) :=
  ⟨J.out.1.below hb J.out.1.lt, J.out.2.trans (hb.mono J.out.2.size)⟩
theorem Jn.box (w : World) (t : TypeId) (cs : Array Value) : Hid (Jn w (w.alloc (.cells cs t)) w.heap.size t cs) := ⟨RowAt.new _ _ _, (Below.refl _ _).alloc (Nat.le_refl _) _⟩
end Go.Proofs.YtgoplcjjoiiagaaGreatDoor
namespace Go.Proofs.YtgoplcjjoiiagaaGreatDoor
open Go.RowKit
/-! Requests written: the specification's WriteRequest. -/
def prL (p : Hp) : List UInt8 := escV p.nm ++ [61] ++ escV p.vl
def qyL (o : Nat → Hp) : Nat → List UInt8
  | 0 => []
  | k + 1 => qyL o k ++ [if k = 0 then 63 else 38] ++ prL (o k)
def hdL (o : Nat → Hp) : Nat → List UInt8
  | 0 => []
  | k + 1 => hdL o k ++ (o k).nm.data.toList ++ [58, 32] ++ (o k).vl.data.toList ++ [10]
def headL (r : Rq) : List UInt8 := r.mt.data.toList ++ [32] ++ escV r.pt ++ qyL r.qs.o r.qs.n ++ [10] ++ hdL r.hs.o r.hs.n ++ [108, 101, 110, 103, 116, 104, 58, 32] ++ Lib.decDigits r.bd.size ++ [10, 10]
noncomputable def wrqL (r : Rq) : List UInt8 := if pb (rqP r) then headL r ++ r.bd.data.toList else []
theorem escV_len (s : ByteArray) : (escV s).length ≤ 3 * s.size := by
  unfold escV
  split
  · have := (esc_len s.data.toList).2
    rw [baLen] at this
    exact this
  · exact Nat.zero_le _
theorem prL_len {p : Hp} (h : qyP p) : (prL p).length ≤ 3301 := by
  have h1 := escV_len p.nm
  have h2 := escV_len p.vl
  have := h.2.1
  have := h.2.2
  unfold prL
  simp only [List.length_append, List.length_cons, List.length_nil]
  omega
theorem sEscT (s : ByteArray) (hs : s.size ≤ 1048576) (w : World) :
    Calls Tryz.prog 60 #[.string s] w fun e w' => e = .returned (.string (ofL (escV s))) ∧ Below w.heap.size w w' := sEsc s hs w
set_option maxRecDepth 20000 in
set_option maxHeartbeats 2000000 in
theorem sPair (p0 p1 : ByteArray) (h0 : p0.size ≤ 1000) (h1 : p1.size ≤ 1000) (w : World) :
    Calls Tryz.prog 61 #[.agg #[.string p0, .string p1]] w fun e w' => e = .returned (.string (ofL (prL ⟨p0, p1⟩))) ∧ Below w.heap.size w w' := by
  have J := Jn.box w 54 #[.string p0, .string p1]
  obtain ⟨W0, hW0⟩ : ∃ W, W = w.alloc (.cells #[.string p0, .string p1] 54) := ⟨_, rfl⟩
  rw [← hW0] at J
  have K0 := fun wx => hid (sEscT p0 (by omega) wx)
  have K1 := fun wx => hid (sEscT p1 (by omega) wx)
  have l0 : (ofL (escV p0)).size ≤ 3000 := by rw [ofL_size]; have := escV_len p0; omega
  have l1 : (ofL (escV p1)).size ≤ 3000 := by rw [ofL_size]; have := escV_len p1; omega
  have EE : Hid (ofL (escV p0) ++ ⟨#[61]⟩ ++ ofL (escV p1) = ofL (prL ⟨p0, p1⟩)) := ofL_of (by rw [ba_app, ba_app, ofL_l, ofL_l]; rfl)
  obtain ⟨E0, hE0⟩ : ∃ E, E = ofL (escV p0) := ⟨_, rfl⟩
  obtain ⟨E1, hE1⟩ : ∃ E, E = ofL (escV p1) := ⟨_, rfl⟩
  rw [← hE0] at K0 l0 EE
  rw [← hE1] at K1 l1 EE
  clear hE0 hE1
  have z0 : ¬ 9223372036854775807 < E0.size + (⟨#[61]⟩ : ByteArray).size := by show ¬ _ < E0.size + 1; omega
  have z1 : ¬ 9223372036854775807 < (E0 ++ ⟨#[61]⟩).size + E1.size := by rw [sizeApp]; show ¬ _ < E0.size + 1 + _; omega
  have z2 : ¬ 9223372036854775807 < E0.size + 1 := by omega
  have z3 : ¬ 9223372036854775807 < E0.size + 1 + E1.size := by omega
  have y0 : W0.cell? ⟨w.heap.size, 0, none⟩ = some (.string p0) := J.out.1.cell 0
  have y1 : W0.cell? ⟨w.heap.size, 1, none⟩ = some (.string p1) := J.out.1.cell 1
  go_enter Tryz.func61, Tryz.ntmps61
  go_upto_region 1 with fail
  rw [← hW0]
  clear hW0
  go_region_held3 (fun wx => wx.cell? ⟨w.heap.size, 0, none⟩ = some (.string p0) ∧ wx.cell? ⟨w.heap.size, 1, none⟩ = some (.string p1))
    (first | with_reducible exact ⟨y0, y1⟩ | exact ⟨J.out.1.cell 0, J.out.1.cell 1⟩)
    (first
      | (go_at_call_of 60 (Value.string p0); refine (K0 _).out.mono ?_; rintro e w2 ⟨rfl, hb2⟩; (first | replace J := Jn.next hb2 J | replace J := Jn.next hb2 (Jn.drew J)); replace y0 := J.out.1.cell 0; replace y1 := J.out.1.cell 1; clear hb2)
      | (go_at_call_of 60 (Value.string p1); refine (K1 _).out.mono ?_; rintro e w2 ⟨rfl, hb2⟩; (first | replace J := Jn.next hb2 J | replace J := Jn.next hb2 (Jn.drew J)); replace y0 := J.out.1.cell 0; replace y1 := J.out.1.cell 1; clear hb2))
  all_goals go_wp2
  all_goals go_ret
  all_goals exact ⟨by rw [EE.out]; rfl, J.out.2⟩
theorem sDecI (z : Int) (n : Nat) (hz : z = (n : Int)) (hn : n ≤ 4102444800) (w : World) :
    Calls Tryz.prog 47 #[.int .i64 z] w fun e w' => e = .returned (.string (ofL (Lib.decDigits n))) ∧ Below w.heap.size w w' := by
  subst hz
  refine (sDec n hn w).mono ?_
  rintro e w' ⟨⟨t, rfl, h1, _⟩, hb⟩
  exact ⟨by rw [ofL_of h1], hb⟩
theorem decD_len : ∀ d n, n < 10 ^ (d + 1) → (Lib.decDigits n).length ≤ d + 1
  | 0, n, h => by rw [Lib.decDigits_one (by omega)]; simp
  | d + 1, n, h => by
    by_cases h1 : n < 10
    · rw [Lib.decDigits_one h1]; simp
    · rw [Lib.decDigits, dif_neg h1, List.length_append]
      have := decD_len d (n / 10) (by rw [Nat.pow_succ] at h; omega)
      simp
      omega
theorem dec_len (n : Nat) (hn : n ≤ 4102444800) : (ofL (Lib.decDigits n)).size ≤ 10 := by
  rw [ofL_size]
  exact decD_len 9 n (by omega)
set_option maxRecDepth 20000 in
set_option maxHeartbeats 4000000 in
theorem sHead (r : Rq) (hr : rqP r) (w : World) (h : RqIn w r) :
    Calls Tryz.prog 27 #[.agg #[.string r.mt, .string r.pt, .slice r.qs.ad r.qs.n r.qs.cap, .slice r.hs.ad r.hs.n r.hs.cap, .string r.bd]] w fun e w' => e = .returned (.string (ofL (headL r))) ∧ Below w.heap.size w w' := by
  obtain ⟨mt, pt, ⟨a1, n1, c1, o1⟩, ⟨a2, n2, c2, o2⟩, bd⟩ := r
  dsimp only
  have hm := hr.1.2.1
  have hp : pt.size ≤ 1000 := hr.2.1.2.1
  have q1 := hr.2.2.1.1
  have q2 := hr.2.2.2.1.1
  have hbd := hr.2.2.2.2.1
  have SQ := hid hr.2.2.2.2.2.1
  have SH := hid hr.2.2.2.2.2.2
  dsimp only at hm q1 q2 hbd SQ SH
  have J := Jn.box w 25 #[.string mt, .string pt, .slice a1 n1 c1, .slice a2 n2 c2, .string bd]
  have HQ := hid h.qs
  have HN := hid h.hs
  dsimp only at HQ HN
  clear h hr
  obtain ⟨W0, hW0⟩ : ∃ W, W = w.alloc (.cells #[.string mt, .string pt, .slice a1 n1 c1, .slice a2 n2 c2, .string bd] 25) := ⟨_, rfl⟩
  rw [← hW0] at J
  have K0 := fun wx => hid (sEscT pt (by omega) wx)
  have l0 : (ofL (escV pt)).size ≤ 3000 := by rw [ofL_size]; have := escV_len pt; omega
  have EE : Hid ((mt ++ ⟨#[32]⟩ ++ ofL (escV pt)).data.toList = mt.data.toList ++ [32] ++ escV pt) := by show _ = _; rw [ba_app, ba_app, ofL_l]
  obtain ⟨E0, hE0⟩ : ∃ E, E = ofL (escV pt) := ⟨_, rfl⟩
  rw [← hE0] at K0 l0 EE
  clear hE0
  have S0 : Hid ((mt ++ ⟨#[32]⟩ ++ E0).size ≤ 3100) := by show _ ≤ _; rw [sizeApp, sizeApp]; show mt.size + 1 + _ ≤ _; omega
  have z0 : ¬ 9223372036854775807 < mt.size + 1 := by omega
  have z1 : ¬ 9223372036854775807 < mt.size + 1 + E0.size := by omega
  have y0 : W0.cell? ⟨w.heap.size, 0, none⟩ = some (.string mt) := J.out.1.cell 0
  have y1 : W0.cell? ⟨w.heap.size, 1, none⟩ = some (.string pt) := J.out.1.cell 1
  have DL := dec_len bd.size (by omega)
  have D0 := fun wx => hid (sDecI (bd.size : Int) bd.size rfl (by omega) wx)
  obtain ⟨DD, hDD⟩ : ∃ E, E = ofL (Lib.decDigits bd.size) := ⟨_, rfl⟩
  rw [← hDD] at DL D0
  have HDD : Hid (DD.data.toList = Lib.decDigits bd.size) := by show _ = _; rw [hDD, ofL_l]
  clear hDD
  have FIN : Hid (∀ T : ByteArray, T.data.toList = mt.data.toList ++ [32] ++ escV pt ++ qyL o1 n1 ++ [10] ++ hdL o2 n2 → T ++ ⟨#[108, 101, 110, 103, 116, 104, 58, 32]⟩ ++ DD ++ ⟨#[10, 10]⟩ = ofL (headL ⟨mt, pt, ⟨a1, n1, c1, o1⟩, ⟨a2, n2, c2, o2⟩, bd⟩)) := fun T hT => ofL_of (by rw [ba_app, ba_app, ba_app, hT, HDD.out]; rfl)
  obtain ⟨HB, hHB⟩ : ∃ E, E = ofL (headL ⟨mt, pt, ⟨a1, n1, c1, o1⟩, ⟨a2, n2, c2, o2⟩, bd⟩) := ⟨_, rfl⟩
  rw [← hHB] at FIN
  rw [← hHB]
  clear hHB HDD
  go_enter Tryz.func27, Tryz.ntmps27
  go_upto_region 1 with fail
  rw [← hW0]
  clear hW0
  go_region_held3 (fun wx => wx.cell? ⟨w.heap.size, 0, none⟩ = some (.string mt) ∧ wx.cell? ⟨w.heap.size, 1, none⟩ = some (.string pt))
    (first | with_reducible exact ⟨y0, y1⟩ | exact ⟨J.out.1.cell 0, J.out.1.cell 1⟩)
    ((go_at_call_of 60 (Value.string pt); refine (K0 _).out.mono ?_; rintro e w2 ⟨rfl, hb2⟩; (first | replace J := Jn.next hb2 J | replace J := Jn.next hb2 (Jn.drew J)); replace y0 := J.out.1.cell 0; replace y1 := J.out.1.cell 1; clear hb2))
  clear y0 y1 z0 z1 K0
  go_wp2_with fail
  generalize mt ++ ⟨#[32]⟩ ++ E0 = T0 at EE S0 ⊢
  clear l0
  go_loopw [3, 4] (fun v i wr => ∃ (k : Nat) (T : ByteArray), k ≤ n1 ∧ i = .int .i64 (k : Int) ∧ v = .string T ∧ T.data.toList = mt.data.toList ++ [32] ++ escV pt ++ qyL o1 k ∧ T.size ≤ 3100 + k * 3302 ∧ Jn w wr w.heap.size 25 #[.string mt, .string pt, .slice a1 n1 c1, .slice a2 n2 c2, .string bd]) (fun _ i _ => n1 - (intOf i).toNat)
  case atStart => exact ⟨0, T0, Nat.zero_le _, rfl, rfl, by rw [EE.out]; simp [qyL], by have := S0.out; omega, J.out⟩
  case round =>
    obtain ⟨k, T, hk, rfl, rfl, hT, hTs, hJ⟩ := hrel
    have HT := hid hT
    have J := hid hJ
    clear hT hJ EE S0
    have x2 := J.out.1.cell 2
    by_cases hlt : k < n1
    · have e3 : (k : Int) < (n1 : Int) := by omega
      have k0 : (0 : Int) ≤ (k : Int) := by omega
      rcases (HQ.out.below J.out.2).2 with q0 | ⟨b, off, rfl, hbl, hc⟩
      · omega
      have u0 := (hc k hlt).1
      have u1 := (hc k hlt).2
      clear hc
      have s := SQ.out k hlt
      have PL := prL_len s
      have s0 := s.2.1
      have s1 := s.2.2
      have QS : Hid (qyL o1 (k + 1) = qyL o1 k ++ [if k = 0 then 63 else 38] ++ prL (o1 k)) := rfl
      obtain ⟨Y, hY⟩ : ∃ Y, o1 k = Y := ⟨_, rfl⟩
      rw [hY] at u0 u1 s0 s1 QS PL
      clear hY s
      obtain ⟨x, y⟩ := Y
      dsimp only at u0 u1 s0 s1
      have P1 := fun wx => hid (sPair x y (by omega) s1 wx)
      rw [← ofL_size] at PL
      have HP : Hid ((ofL (prL ⟨x, y⟩)).data.toList = prL ⟨x, y⟩) := ofL_l _
      obtain ⟨PB, hPB⟩ : ∃ E, E = ofL (prL ⟨x, y⟩) := ⟨_, rfl⟩
      rw [← hPB] at P1 PL HP
      clear hPB
      have z1 : ¬ 9223372036854775807 < T.size + 1 := by omega
      have z2 : ¬ 9223372036854775807 < T.size + 1 + PB.size := by omega
      by_cases kz : k = 0
      · have kb : ((k : Int) == 0) = true := by rw [beq_iff_eq]; omega
        have NX : Hid ((T ++ ⟨#[63]⟩ ++ PB).data.toList = mt.data.toList ++ [32] ++ escV pt ++ qyL o1 (k + 1) ∧ (T ++ ⟨#[63]⟩ ++ PB).size ≤ 3100 + (k + 1) * 3302) := ⟨by rw [ba_app, ba_app, HT.out, HP.out, QS.out, if_pos kz]; simp, by rw [sizeApp, sizeApp]; show T.size + 1 + _ ≤ _; omega⟩
        clear kz QS
        go_wp2_with fail
        refine (P1 _).out.mono ?_
        rintro e w2 ⟨rfl, hb2⟩
        have J2 := Jn.next hb2 J
        clear hb2
        go_wp2
        go_roundw
        case rel => exact ⟨k + 1, _, by omega, by go_num, rfl, NX.out.1, NX.out.2, J2.out⟩
        case measure => simp [intOf]; omega
      · have kb : ((k : Int) == 0) = false := by rw [beq_eq_false_iff_ne]; omega
        have NX : Hid ((T ++ ⟨#[38]⟩ ++ PB).data.toList = mt.data.toList ++ [32] ++ escV pt ++ qyL o1 (k + 1) ∧ (T ++ ⟨#[38]⟩ ++ PB).size ≤ 3100 + (k + 1) * 3302) := ⟨by rw [ba_app, ba_app, HT.out, HP.out, QS.out, if_neg kz]; simp, by rw [sizeApp, sizeApp]; show T.size + 1 + _ ≤ _; omega⟩
        clear kz QS
        go_wp2_with fail
        refine (P1 _).out.mono ?_
        rintro e w2 ⟨rfl, hb2⟩
        have J2 := Jn.next hb2 J
        clear hb2
        go_wp2
        go_roundw
        case rel => exact ⟨k + 1, _, by omega, by go_num, rfl, NX.out.1, NX.out.2, J2.out⟩
        case measure => simp [intOf]; omega
    have e3 : ¬ (k : Int) < (n1 : Int) := by omega
    have ek : k = n1 := by omega
    have NX : Hid ((T ++ ⟨#[10]⟩).data.toList = mt.data.toList ++ [32] ++ escV pt ++ qyL o1 n1 ++ [10] ∧ (T ++ ⟨#[10]⟩).size ≤ 103000) := ⟨by rw [ba_app, HT.out, ek], by rw [sizeApp]; show T.size + 1 ≤ _; omega⟩
    have z1 : ¬ 9223372036854775807 < T.size + 1 := by omega
    clear ek HT
    go_wp2_with fail
    generalize T ++ ⟨#[10]⟩ = T1 at NX ⊢
    clear z1 hTs x2
    go_loopw [3, 5] (fun v i wr => ∃ (k : Nat) (T : ByteArray), k ≤ n2 ∧ i = .int .i64 (k : Int) ∧ v = .string T ∧ T.data.toList = mt.data.toList ++ [32] ++ escV pt ++ qyL o1 n1 ++ [10] ++ hdL o2 k ∧ T.size ≤ 103000 + k * 1063 ∧ Jn w wr w.heap.size 25 #[.string mt, .string pt, .slice a1 n1 c1, .slice a2 n2 c2, .string bd]) (fun _ i _ => n2 - (intOf i).toNat)
    case atStart => exact ⟨0, T1, Nat.zero_le _, rfl, rfl, by rw [NX.out.1]; simp [hdL], by have := NX.out.2; omega, J.out⟩
    case round =>
      obtain ⟨j, T, hj, rfl, rfl, hT, hTs, hJ⟩ := hrel
      have HT := hid hT
      have J := hid hJ
      clear hT hJ NX
      have x3 := J.out.1.cell 3
      by_cases hlt : j < n2
      · have e4 : (j : Int) < (n2 : Int) := by omega
        have j0 : (0 : Int) ≤ (j : Int) := by omega
        rcases (HN.out.below J.out.2).2 with q0 | ⟨b, off, rfl, hbl, hc⟩
        · omega
        have u0 := (hc j hlt).1
        have u1 := (hc j hlt).2
        clear hc
        have s := SH.out j hlt
        have s0 := s.1.2.1
        have s1 := s.2.1
        have QS : Hid (hdL o2 (j + 1) = hdL o2 j ++ (o2 j).nm.data.toList ++ [58, 32] ++ (o2 j).vl.data.toList ++ [10]) := rfl
        obtain ⟨Y, hY⟩ : ∃ Y, o2 j = Y := ⟨_, rfl⟩
        rw [hY] at u0 u1 s0 s1 QS
        clear hY s
        obtain ⟨x, y⟩ := Y
        dsimp only at u0 u1 s0 s1 QS
        have z1 : ¬ 9223372036854775807 < T.size + x.size := by omega
        have z2 : ¬ 9223372036854775807 < T.size + x.size + 2 := by omega
        have z3 : ¬ 9223372036854775807 < T.size + x.size + 2 + y.size := by omega
        have z4 : ¬ 9223372036854775807 < T.size + x.size + 2 + y.size + 1 := by omega
        have NX : Hid ((T ++ x ++ ⟨#[58, 32]⟩ ++ y ++ ⟨#[10]⟩).data.toList = mt.data.toList ++ [32] ++ escV pt ++ qyL o1 n1 ++ [10] ++ hdL o2 (j + 1) ∧ (T ++ x ++ ⟨#[58, 32]⟩ ++ y ++ ⟨#[10]⟩).size ≤ 103000 + (j + 1) * 1063) := ⟨by rw [ba_app, ba_app, ba_app, ba_app, HT.out, QS.out]; simp, by rw [sizeApp, sizeApp, sizeApp, sizeApp]; show T.size + x.size + 2 + y.size + 1 ≤ _; omega⟩
        clear QS
        go_wp2_with fail
        go_quiet (fail)
        have J2 := Jn.drewN J nq
        go_wp2
        go_roundw
        case rel => exact ⟨j + 1, _, by omega, by go_num, rfl, NX.out.1, NX.out.2, J2.out⟩
        case measure => simp [intOf]; omega
      have e4 : ¬ (j : Int) < (n2 : Int) := by omega
      have ek : j = n2 := by omega
      have F2 := hid (FIN.out T (by rw [HT.out, ek]))
      clear ek HT
      have x4 := J.out.1.cell 4
      have z1 : ¬ 9223372036854775807 < T.size + 8 := by omega
      have z2 : ¬ 9223372036854775807 < T.size + 8 + DD.size := by omega
      have z3 : ¬ 9223372036854775807 < T.size + 8 + DD.size + 2 := by omega
      go_wp2_with fail
      refine (D0 _).out.mono ?_
      rintro e w2 ⟨rfl, hb2⟩
      have J2 := Jn.next hb2 J
      clear hb2
      go_wp2
      go_ret
      exact ⟨by rw [← F2.out]; rfl, J2.out.2⟩
theorem headL_len {r : Rq} (hr : rqP r) : (headL r).length ≤ 300000 := by
  have q : ∀ k, k ≤ r.qs.n → (qyL r.qs.o k).length ≤ k * 3302 := by
    intro k
    induction k with
    | zero => intro _; simp [qyL]
    | succ k ih =>
      intro hk
      have h1 := ih (by omega)
      have h2 := prL_len (hr.2.2.2.2.2.1 k (by omega))
      show (qyL r.qs.o k ++ [if k = 0 then 63 else 38] ++ prL (r.qs.o k)).length ≤ _
      simp only [List.length_append, List.length_cons, List.length_nil]
      omega
  have g : ∀ k, k ≤ r.hs.n → (hdL r.hs.o k).length ≤ k * 1063 := by
    intro k
    induction k with
    | zero => intro _; simp [hdL]
    | succ k ih =>
      intro hk
      have h1 := ih (by omega)
      have h2 := (hr.2.2.2.2.2.2 k (by omega)).1.2.1
      have h3 := (hr.2.2.2.2.2.2 k (by omega)).2.1
      show (hdL r.hs.o k ++ (r.hs.o k).nm.data.toList ++ [58, 32] ++ (r.hs.o k).vl.data.toList ++ [10]).length ≤ _
      simp only [List.length_append, List.length_cons, List.length_nil, baLen]
      omega
  have h1 := q _ (Nat.le_refl _)
  have h2 := g _ (Nat.le_refl _)
  have h3 := hr.2.2.1.1
  have h4 := hr.2.2.2.1.1
  have h5 := decD_len 9 r.bd.size (by have := hr.2.2.2.2.1; omega)
  have h6 := escV_len r.pt
  have h7 : r.pt.size ≤ 1000 := hr.2.1.2.1
  have h8 := hr.1.2.1
  unfold headL
  simp only [List.length_append, List.length_cons, List.length_nil, baLen]
  omega
set_option maxRecDepth 20000 in
set_option maxHeartbeats 4000000 in
theorem sWrq (r : Rq) (hb : RqB r 1048576) (w : World) (h : RqIn w r) :
    Calls Tryz.prog 7 #[.agg #[.string r.mt, .string r.pt, .slice r.qs.ad r.qs.n r.qs.cap, .slice r.hs.ad r.hs.n r.hs.cap, .string r.bd]] w fun e w' => e = .returned (.string (ofL (wrqL r))) ∧ Below w.heap.size w w' := by
  have J := Jn.box w 25 #[.string r.mt, .string r.pt, .slice r.qs.ad r.qs.n r.qs.cap, .slice r.hs.ad r.hs.n r.hs.cap, .string r.bd]
  have F := fun wx hbx => hid (sRqF r hb wx (h.below hbx))
  have G := fun hr wx hbx => hid (sHead r hr wx (h.below hbx))
  have HL := fun hr => hid (headL_len (r := r) hr)
  have hbd := hb.bd
  have WT : Hid (∀ hr : rqP r, ofL (headL r) ++ r.bd = ofL (wrqL r)) := fun hr => ofL_of (by rw [ba_app, ofL_l]; unfold wrqL; rw [pb_t hr]; rfl)
  have WF : Hid (¬ rqP r → (⟨#[]⟩ : ByteArray) = ofL (wrqL r)) := fun hr => ofL_of (by unfold wrqL; rw [pb_f hr]; rfl)
  obtain ⟨HB, hHB⟩ : ∃ E, E = ofL (headL r) := ⟨_, rfl⟩
  have HS := fun hr => (HL hr).out
  rw [← ofL_size, ← hHB] at HS
  rw [← hHB] at G WT
  obtain ⟨RV, hRV⟩ : ∃ E, E = ofL (wrqL r) := ⟨_, rfl⟩
  rw [← hRV] at WT WF
  rw [← hRV]
  clear hRV hHB HL
  by_cases hr : rqP r
  · have V0 := rqV_t hr
    have HS0 := HS hr
    have G0 := G hr
    have WT0 := hid (WT.out hr)
    have F0 := F
    simp only [V0] at F0
    clear F V0 WT WF HS G hr
    obtain ⟨mt, pt, ⟨a1, n1, c1, o1⟩, ⟨a2, n2, c2, o2⟩, bd⟩ := r
    dsimp only at J F0 G0 hbd ⊢ WT0
    obtain ⟨W0, hW0⟩ : ∃ W, W = w.alloc (.cells #[.string mt, .string pt, .slice a1 n1 c1, .slice a2 n2 c2, .string bd] 25) := ⟨_, rfl⟩
    rw [← hW0] at J
    have x0 := J.out.1.cell 0
    have x1 := J.out.1.cell 1
    have x2 := J.out.1.cell 2
    have x3 := J.out.1.cell 3
    have x4 := J.out.1.cell 4
    go_enter Tryz.func7, Tryz.ntmps7
    go_wp2_with fail
    rw [← hW0]
    clear hW0
    refine (F0 _ J.out.2).out.mono ?_
    rintro e w2 ⟨rfl, hb2⟩
    replace J := Jn.next hb2 J
    clear hb2 x0 x1 x2 x3 x4 F0
    have x0 : w2.cell? ⟨w.heap.size, 0, none⟩ = some (.string mt) := J.out.1.cell 0
    have x1 : w2.cell? ⟨w.heap.size, 1, none⟩ = some (.string pt) := J.out.1.cell 1
    have x2 : w2.cell? ⟨w.heap.size, 2, none⟩ = some (.slice a1 n1 c1) := J.out.1.cell 2
    have x3 : w2.cell? ⟨w.heap.size, 3, none⟩ = some (.slice a2 n2 c2) := J.out.1.cell 3
    have x4 : w2.cell? ⟨w.heap.size, 4, none⟩ = some (.string bd) := J.out.1.cell 4
    have z1 : ¬ 9223372036854775807 < HB.size + bd.size := by omega
    go_upto_region 3 with fail
    go_region_held3 (fun wx => wx.cell? ⟨w.heap.size, 0, none⟩ = some (.string mt) ∧ wx.cell? ⟨w.heap.size, 1, none⟩ = some (.string pt) ∧ wx.cell? ⟨w.heap.size, 2, none⟩ = some (.slice a1 n1 c1) ∧ wx.cell? ⟨w.heap.size, 3, none⟩ = some (.slice a2 n2 c2) ∧ wx.cell? ⟨w.heap.size, 4, none⟩ = some (.string bd))
      (first | with_reducible exact ⟨x0, x1, x2, x3, x4⟩ | exact ⟨J.out.1.cell 0, J.out.1.cell 1, J.out.1.cell 2, J.out.1.cell 3, J.out.1.cell 4⟩)
      ((go_at_call 27; (first | refine (G0 _ J.out.2).out.mono ?_ | refine (G0 _ (Jn.drew J).out.2).out.mono ?_); rintro e w3 ⟨rfl, hb3⟩; (first | replace J := Jn.next hb3 J | replace J := Jn.next hb3 (Jn.drew J)); clear hb3))
    all_goals go_wp2
    all_goals go_ret
    all_goals exact ⟨by rw [← WT0.out]; rfl, J.out.2⟩
  · have V0 := rqV_f hr
    have WF0 := hid (WF.out hr)
    have F0 := F
    simp only [V0] at F0
    clear F V0 WT WF HS G hr
    obtain ⟨mt, pt, ⟨a1, n1, c1, o1⟩, ⟨a2, n2, c2, o2⟩, bd⟩ := r
    dsimp only at J F0 hbd ⊢ WF0
    obtain ⟨W0, hW0⟩ : ∃ W, W = w.alloc (.cells #[.string mt, .string pt, .slice a1 n1 c1, .slice a2 n2 c2, .string bd] 25) := ⟨_, rfl⟩
    rw [← hW0] at J
    have x0 := J.out.1.cell 0
    have x1 := J.out.1.cell 1
    have x2 := J.out.1.cell 2
    have x3 := J.out.1.cell 3
    have x4 := J.out.1.cell 4
    go_enter Tryz.func7, Tryz.ntmps7
    go_wp2_with fail
    rw [← hW0]
    clear hW0
    refine (F0 _ J.out.2).out.mono ?_
    rintro e w2 ⟨rfl, hb2⟩
    replace J := Jn.next hb2 J
    clear hb2 x0 x1 x2 x3 x4 F0
    go_wp2
    go_ret
    exact ⟨by rw [← WF0.out]; rfl, J.out.2⟩
end Go.Proofs.YtgoplcjjoiiagaaGreatDoor
