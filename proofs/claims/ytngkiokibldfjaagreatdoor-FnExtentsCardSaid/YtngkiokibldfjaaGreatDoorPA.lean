import Derived.Test.YtngkiokibldfjaaGreatDoorBase
import Derived.Deep.WholeRow
import Derived.Test.YtngkiokibldfjaaGreatDoorProg
import Derived.Lib.ItoaNum
import Derived.Lib.ConvBytes
import Derived.Deep.RegionWith
import Derived.WalkSmall
namespace Go.Proofs.YtngkiokibldfjaaGreatDoor
open Go.RowKit
/-! A block of cells at a known place. -/
def zeros : List Nat := [0, 0, 0, 0, 0, 0, 0, 0, 0, 0, 0, 0, 0, 0, 0, 0]
def RowAt (w : World) (b : Nat) (t : TypeId) (c : Array Value) : Prop := w.heap[b]? = some (.cells c t (0, 0))
theorem RowAt.lt {w : World} {b : Nat} {t : TypeId} {c : Array Value} (h : RowAt w b t c) : b < w.heap.size := by
  rcases Nat.lt_or_ge b w.heap.size with h1 | h1
  · exact h1
  · have h' : w.heap[b]? = some (.cells c t (0, 0)) := h
    rw [Array.getElem?_eq_none h1] at h'; cases h'
theorem RowAt.cell {w : World} {b : Nat} {t : TypeId} {c : Array Value} (h : RowAt w b t c) (i : Nat) : w.cell? ⟨b, i, none⟩ = c[i]? := cell_of_row w b i c t (0, 0) h
theorem RowAt.free {w : World} {b : Nat} {t : TypeId} {c : Array Value} (h : RowAt w b t c) (i : Nat) : w.frozen? ⟨b, i, none⟩ = false := by
  have h' : w.heap[b]? = some (.cells c t (0, 0)) := h
  simp [World.frozen?, h']
theorem RowAt.new (w : World) (t : TypeId) (c : Array Value) : RowAt (w.alloc (.cells c t)) w.heap.size t c := heap_alloc_last w _
theorem RowAt.next (w : World) (t : TypeId) (c : Array Value) {n : Nat} (h : n = w.heap.size) : RowAt (w.alloc (.cells c t)) n t c := by subst h; exact RowAt.new w t c
theorem size_al (w : World) (o : Obj) : (w.alloc o).heap.size = w.heap.size + 1 := Array.size_push ..
theorem RowAt.alloc {w : World} {b : Nat} {t : TypeId} {c : Array Value} (h : RowAt w b t c) (o : Obj) : RowAt (w.alloc o) b t c := by
  have hl := h.lt
  have h' : w.heap[b]? = some (.cells c t (0, 0)) := h
  show (w.heap.push o)[b]? = _
  rw [Array.getElem?_push, if_neg (by omega)]; exact h'
theorem RowAt.drewN {w : World} {b : Nat} {t : TypeId} {c : Array Value} (h : RowAt w b t c) (n : Nat) : RowAt (w.drewN n) b t c := h
theorem RowAt.drew {w : World} {b : Nat} {t : TypeId} {c : Array Value} (h : RowAt w b t c) : RowAt w.drew b t c := h
theorem RowAt.set {w : World} {b : Nat} {t : TypeId} {c : Array Value} (h : RowAt w b t c) (i : Nat) (v : Value) : RowAt (w.setCell ⟨b, i, none⟩ v) b t (c.setIfInBounds i v) := heap_setCell_same w b i c t v h
theorem RowAt.other {w : World} {b : Nat} {t : TypeId} {c : Array Value} (h : RowAt w b t c) (a : Addr) (v : Value) (hn : b ≠ a.block) : RowAt (w.setCell a v) b t c := by
  show (w.setCell a v).heap[b]? = _
  rw [heap_setCell_other w a b v hn]; exact h
theorem RowAt.setRow {w : World} {b : Nat} {t : TypeId} {c : Array Value} (h : RowAt w b t c) (c' : Array Value) : RowAt (w.setRow b c') b t c' := setRow_heap w b c c' t (0, 0) h
theorem RowAt.otherRow {w : World} {b : Nat} {t : TypeId} {c : Array Value} (h : RowAt w b t c) (g : Nat) (c' : Array Value) (hn : b ≠ g) : RowAt (w.setRow g c') b t c := by
  show (w.setRow g c').heap[b]? = _
  rw [setRow_other w g b c' hn]; exact h
theorem RowAt.below {w w' : World} {b n : Nat} {t : TypeId} {c : Array Value} (h : RowAt w b t c) (hb : Below n w w') (hn : b < n) : RowAt w' b t c := by
  show w'.heap[b]? = _
  rw [hb.block b hn]; exact h
theorem RowAt.loadCells {P : Program} {w : World} {b : Nat} {t : TypeId} {c : Array Value} (h : RowAt w b t c) (n : Nat) (hn : c.size = n) :
    (loadCellsFrom ⟨b, 0, none⟩ 0 n #[]).run P w = .ok c w := by
  subst hn
  have := run_loadCells_list (P := P) w ⟨b, 0, none⟩ c.toList (fun j v hv => by
    have hadd : (⟨b, 0, none⟩ : Addr).add j = ⟨b, j, none⟩ := by unfold Addr.add; split <;> simp_all
    rw [hadd, h.cell]
    simpa using hv)
  simpa [Go.loadCells] using this
theorem RowAt.storeVar {P : Program} {w : World} {b : Nat} {t ty : TypeId} {c : Array Value} (h : RowAt w b t c) (c' : Array Value) (hi : (P.info? ty).map (·.size) = some c'.size) (ho : c.size = c'.size) (h1 : c'.all (·.oneCell') = true) :
    (Go.storeVar ty ⟨b, 0, none⟩ (.agg c')).run P w = .ok () (w.setRow b c') := run_storeVar_row _ _ t ty c c' h hi ho h1
theorem RowAt.storeCells {P : Program} {w : World} {b : Nat} {t ty : TypeId} {c : Array Value} (h : RowAt w b t c) (c' : Array Value) (hi : (P.info? ty).map (·.size) = some c'.size) (ho : c.size = c'.size) (h1 : c'.all (·.oneCell') = true) :
    (Go.storeCells ⟨b, 0, none⟩ c'.toList 0).run P w = .ok () (w.setRow b c') := by
  have := h.storeVar (P := P) c' hi ho h1
  cases hq : P.info? ty with
  | none => simp [hq] at hi
  | some i =>
    have hs : c'.size = i.size := by simp [hq] at hi; omega
    simpa [Go.storeVar, sizeOf, typeInfo, hq, Value.cells, hs] using this
theorem RowAt.loadVar {P : Program} {w : World} {b : Nat} {t ty : TypeId} {c : Array Value} (h : RowAt w b t c) (d : TypeDesc) (hu : P.underlying ty = some d) (hd : (match d with | .struct _ | .array _ _ => true | _ => false) = true) (hi : (P.info? ty).map (·.size) = some c.size) :
    (Go.loadVar ty ⟨b, 0, none⟩).run P w = .ok (.agg c) w := run_loadVar_row w b t ty c (0, 0) d h hu hd hi
theorem below_setRow {n : Nat} {w w' : World} (h : Below n w w') (b : Nat) (c : Array Value) (hb : n ≤ b) : Below n w (w'.setRow b c) := by
  exact ⟨h.os, h.tape, h.output, by rw [setRow_size]; exact h.size, fun k hk => by rw [setRow_other w' b k c (by omega)]; exact h.block k hk⟩
end Go.Proofs.YtngkiokibldfjaaGreatDoor
namespace Go.Proofs.YtngkiokibldfjaaGreatDoor
open Go.RowKit
/-! Numbers as texts: the specification's. -/
theorem ba_app (a b : ByteArray) : (a ++ b).data.toList = a.data.toList ++ b.data.toList := by
  rw [ByteArray.data_append]; simp
theorem baLen (b : ByteArray) : b.data.toList.length = b.size := by simp
theorem sizeApp (a b : ByteArray) : (a ++ b).size = a.size + b.size := ByteArray.size_append ..
theorem convGw (w : World) (b : Nat) (d : Int) (h : w.cell? ⟨b, 0, none⟩ = some (.int .u8 d)) : (convert 22 9 (.slice (some ⟨b, 0, none⟩) 1 1)).run Tryz.prog w = .ok (.string (strOfNums [d])) w :=
  run_convert_bytes_arg (P := Tryz.prog) _ 22 5 Tryz.underlying22 Tryz.underlying5 b 0 1 1 [d] rfl (fun i hi => by
    have e : i = 0 := by omega
    subst e
    exact h) 9 Tryz.underlying9
theorem str1w (d : Int) : (strOfNums [d]).size = 1 := by rw [strOfNums_size]; rfl
theorem wrp (r : Nat) (h : r < 10) : IntKind.u8.wrap (IntKind.i64.wrap (48 + (r : Int))) = 48 + (r : Int) := by
  rw [IntKind.wrap_i64]
  simp [IntKind.wrap, IntKind.bits, IntKind.signed]
  omega
theorem str1d (r : Nat) : (strOfNums [48 + (r : Int)]).data.toList = [UInt8.ofNat (48 + r)] := by
  rw [strOfNums_data, List.map_cons, List.map_nil, show (48 + (r : Int)).toNat = 48 + r by omega]
set_option maxRecDepth 20000 in
set_option maxHeartbeats 1000000 in
theorem sDec1 (n : Nat) (hn : n < 10) (w : World) :
    Calls Tryz.prog 35 #[.int .i64 (n : Int)] w fun e w' => (∃ t : ByteArray, e = .returned (.string t) ∧ t.data.toList = Lib.decDigits n ∧ t.size ≤ 19) ∧ Below w.heap.size w w' := by
  have d0 : ¬ (n : Int) < 0 := by omega
  have d1 : (n : Int) < 10 := by omega
  have B1 : Hid (∀ o, Below w.heap.size w (w.alloc o)) := fun o => (Below.refl _ w).alloc (Nat.le_refl _) _
  have cv := fun d => convGw (w.alloc (.cells #[.int .u8 d] 5)) w.heap.size d ((RowAt.new w _ _).cell 0)
  go_enter Tryz.func35, Tryz.ntmps35
  go_wp2
  go_ret
  exact ⟨⟨_, rfl, by rw [str1d, Lib.decDigits_one hn], by rw [str1w]; omega⟩, B1.out _⟩
theorem sDecz (z : Int) (n : Nat) (hz : z = (n : Int)) {w : World} {R : Ending → World → Prop} (h : Calls Tryz.prog 35 #[.int .i64 (n : Int)] w R) : Calls Tryz.prog 35 #[.int .i64 z] w R := by subst hz; exact h
set_option maxRecDepth 20000 in
set_option maxHeartbeats 1000000 in
theorem sDecS (d : Nat) : ∀ (n : Nat), n < 10 ^ (d + 1) → d ≤ 17 → ∀ w : World,
    Calls Tryz.prog 35 #[.int .i64 (n : Int)] w fun e w' => (∃ t : ByteArray, e = .returned (.string t) ∧ t.data.toList = Lib.decDigits n ∧ t.size ≤ d + 1) ∧ Below w.heap.size w w' := by
  induction d with
  | zero =>
    intro n hn _ w
    have h10 : n < 10 := by simpa using hn
    refine (sDec1 n h10 w).mono ?_
    rintro e w' ⟨⟨t, rfl, h1, _⟩, h2⟩
    refine ⟨⟨t, rfl, h1, ?_⟩, h2⟩
    rw [← baLen, h1, Lib.decDigits_one h10]; simp
  | succ d ih =>
    intro n hn hd w
    by_cases h10 : n < 10
    · refine (sDec1 n h10 w).mono ?_
      rintro e w' ⟨⟨t, rfl, h1, _⟩, h2⟩
      refine ⟨⟨t, rfl, h1, ?_⟩, h2⟩
      rw [← baLen, h1, Lib.decDigits_one h10]; simp
    have hb : n < 10 ^ 19 := Nat.lt_of_lt_of_le hn (Nat.pow_le_pow_right (by omega) (by omega))
    have d0 : ¬ (n : Int) < 0 := by omega
    have d1 : ¬ (n : Int) < 10 := by omega
    have DD : Hid (Lib.decDigits n = Lib.decDigits (n / 10) ++ [UInt8.ofNat (48 + n % 10)]) := by show _ = _; rw [Lib.decDigits, dif_neg h10]
    have hq0 : n / 10 < 10 ^ (d + 1) := by
      rw [Nat.pow_succ] at hn
      omega
    have K := fun w => hid (ih (n / 10) hq0 (by omega) w)
    obtain ⟨q, hq⟩ : ∃ q, q = n / 10 := ⟨_, rfl⟩
    obtain ⟨r, hr⟩ : ∃ r, r = n % 10 := ⟨_, rfl⟩
    have hr10 : r < 10 := by omega
    have e1 : (n : Int).tdiv 10 = (q : Int) := by rw [Int.tdiv_eq_ediv_of_nonneg (by omega)]; omega
    have e1' : (n : Int) / 10 = (q : Int) := by omega
    have e2 : (n : Int).tmod 10 = (r : Int) := by rw [Int.tmod_eq_emod_of_nonneg (by omega)]; omega
    have e2' : (n : Int) % 10 = (r : Int) := by omega
    rw [← hq] at K DD
    rw [← hr] at DD
    have hqb : q < 1000000000000000000 := by omega
    clear hq hr ih hn hq0
    have B1 : Hid (∀ o, Below w.heap.size w (w.alloc o)) := fun o => (Below.refl _ w).alloc (Nat.le_refl _) _
    go_enter Tryz.func35, Tryz.ntmps35
    go_wp2_with fail
    have cvA : ∀ (W : World) d, (convert 22 9 (.slice (some ⟨W.heap.size, 0, none⟩) 1 1)).run Tryz.prog (W.alloc (.cells #[.int .u8 d] 5)) = .ok (.string (strOfNums [d])) (W.alloc (.cells #[.int .u8 d] 5)) := fun W d => convGw _ W.heap.size d ((RowAt.new W _ _).cell 0)
    have cvB : ∀ (W : World) d, (convert 22 9 (.slice (some ⟨W.heap.size, 0, none⟩) 1 1)).run Tryz.prog (W.alloc (.cells #[.int .u8 d] 5)).drew = .ok (.string (strOfNums [d])) (W.alloc (.cells #[.int .u8 d] 5)).drew := fun W d => convGw _ W.heap.size d ((RowAt.new W _ _).cell 0)
    go_region_with ((go_at_call 35; refine (sDecz _ q (by first | rfl | exact e1 | (rw [e1]; rfl) | (rw [e1, IntKind.wrap_i64]; omega) | (rw [IntKind.wrap_i64]; omega)) (K _).out).mono ?_; rintro e w2 ⟨⟨t, rfl, hl, ht⟩, hb2⟩; have z1 : ∀ d, ¬ 9223372036854775807 < t.size + (strOfNums [d]).size := (fun d => by rw [str1w]; omega); (first | have cvC := convGw w2 w.heap.size _ ((hb2.cell (p := ⟨w.heap.size, 0, none⟩) (by simp)).trans ((RowAt.new w 5 #[_]).cell 0)) | skip)))
    all_goals go_wp2
    all_goals go_ret
    all_goals refine ⟨⟨_, rfl, by rw [ba_app, hl, wrp r hr10, str1d, DD.out], by rw [sizeApp, str1w]; omega⟩, ?_⟩
    all_goals first
      | exact ((Below.refl _ w).drew.trans hb2).alloc (((Below.refl _ w).drew.trans hb2).size) _
      | exact ((B1.out _).drew.trans (hb2.mono (B1.out _).drew.size))
      | exact ((B1.out _).trans (hb2.mono (B1.out _).size))
theorem sDec (n : Nat) (hn : n ≤ 4102444800) (w : World) :
    Calls Tryz.prog 35 #[.int .i64 (n : Int)] w fun e w' => (∃ t : ByteArray, e = .returned (.string t) ∧ t.data.toList = Lib.decDigits n ∧ t.size ≤ 10) ∧ Below w.heap.size w w' :=
  sDecS 9 n (by omega) (by omega) w
end Go.Proofs.YtngkiokibldfjaaGreatDoor
namespace Go.Proofs.YtngkiokibldfjaaGreatDoor
open Go.RowKit
/-! Texts made of lists; a row that a walk keeps from world to world. -/
def ofL (l : List UInt8) : ByteArray := ⟨l.toArray⟩
theorem ofL_l (l : List UInt8) : (ofL l).data.toList = l := by simp [ofL]
theorem ofL_size (l : List UInt8) : (ofL l).size = l.length := by rw [← baLen, ofL_l]
theorem ba_extL {a b : ByteArray} (h : a.data.toList = b.data.toList) : a = b := by
  cases a
  cases b
  congr 1
  exact Array.toList_inj.1 h
theorem ofL_of {b : ByteArray} {l : List UInt8} (h : b.data.toList = l) : b = ofL l := ba_extL (by rw [h, ofL_l])
theorem ofL_inj {a b : List UInt8} (h : ofL a = ofL b) : a = b := by rw [← ofL_l a, h, ofL_l]
/-- the row b lies in w, and nothing that was there in W has turned -/
def Jn (W w : World) (b : Nat) (t : TypeId) (cs : Array Value) : Prop := RowAt w b t cs ∧ Below W.heap.size W w
theorem Jn.drew {W w : World} {b : Nat} {t : TypeId} {cs : Array Value} (J : Hid (Jn W w b t cs)) : Hid (Jn W w.drew b t cs) := ⟨J.out.1.drew, J.out.2.drew⟩
theorem Jn.drewN {W w : World} {b : Nat} {t : TypeId} {cs : Array Value} (J : Hid (Jn W w b t cs)) (n : Nat) : Hid (Jn W (w.drewN n) b t cs) := ⟨J.out.1.drewN n, below_drewN J.out.2 n⟩
theorem Jn.next {W X w2 : World} {b : Nat} {t : TypeId} {cs : Array Value} (hb : Below X.heap.size X w2) (J : Hid (Jn W X b t cs)) : Hid (Jn W w2 b t cs) :=
  ⟨J.out.1.below hb J.out.1.lt, J.out.2.trans (hb.mono J.out.2.size)⟩
theorem Jn.box (w : World) (t : TypeId) (cs : Array Value) : Hid (Jn w (w.alloc (.cells cs t)) w.heap.size t cs) := ⟨RowAt.new _ _ _, (Below.refl _ _).alloc (Nat.le_refl _) _⟩
end Go.Proofs.YtngkiokibldfjaaGreatDoor
