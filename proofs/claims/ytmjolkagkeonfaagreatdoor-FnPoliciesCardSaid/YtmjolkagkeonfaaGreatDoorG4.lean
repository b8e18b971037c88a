import Derived.Test.YtmjolkagkeonfaaGreatDoorG2
import Derived.Test.YtmjolkagkeonfaaGreatDoorProg
import Derived.Lib.ItoaNum
import Derived.Lib.ConvBytes
import Derived.Deep.RegionWith
import Derived.WalkSmall
import Derived.Test.YtmjolkagkeonfaaGreatDoorBase
import Derived.WalkLawsBesides
import Derived.WalkSpells
import Derived.OpenShut
import Derived.BigQuiet
import Derived.Deep.QuietTactic
import Derived.Deep.RegionHeld3
import Derived.Deep.AppendLies
namespace Go.Proofs.YtmjolkagkeonfaaGreatDoor
open Go.RowKit
/-! Numbers as texts: the specification's. -/
theorem ba_app (a b : ByteArray) : (a ++ b).data.toList = a.data.toList ++ b.data.toList := by
  rw [ByteArray.data_append]; simp
theorem baLen (b : ByteArray) : b.data.toList.length = b.size := by simp
theorem sizeApp (a b : ByteArray) : (a ++ b).size = a.size + b.size := ByteArray.size_append ..
theorem convGw (w : World) (b : Nat) (d : Int) (h : w.cell? ⟨b, 0, none⟩ = some (.int .u8 d)) : (convert 22 9 (.slice (some ⟨b, 0, none⟩) 1 1)).run Tryz.prog w = .ok (.string (strOfNums [d])) w :=
  run_convert_bytes_arg (P := Tryz.prog) _ 22 5 Tryz.underlying22 Tryz.underlying5 b 0 1 1 [d] rfl (fun i hi => by
    have e : i = 0 := by omega
    subst e
    exact h) 9 Tryz.underlying9
theorem str1w (d : Int) : (strOfNums [d]).size = 1 := by rw [strOfNums_size]; rfl
theorem wrp (r : Nat) (h : r < 10) : IntKind.u8.wrap (IntKind.i64.wrap (48 + (r : Int))) = 48 + (r : Int) := by
  rw [IntKind.wrap_i64]
  simp [IntKind.wrap, IntKind.bits, IntKind.signed]
  omega
theorem str1d (r : Nat) : (strOfNums [48 + (r : Int)]).data.toList = [UInt8.ofNat (48 + r)] := by
  rw [strOfNums_data, List.map_cons, List.map_nil, show (48 + (r : Int)).toNat = 48 + r by omega]
set_option maxRecDepth 20000 in
set_option maxHeartbeats 1000000 in
theorem sDec1 (n : Nat) (hn : n < 10) (w : World) :
    Calls Tryz.prog 30 #[.int .i64 (n : Int)] w fun e w' => (∃ t : ByteArray, e = .returned (.string t) ∧ t.data.toList = Lib.decDigits n ∧ t.size ≤ 19) ∧ Below w.heap.size w w' := by
  have d0 : ¬ (n : Int) < 0 := by omega
  have d1 : (n : Int) < 10 := by omega
  have B1 : Hid (∀ o, Below w.heap.size w (w.alloc o)) := fun o => (Below.refl _ w).alloc (Nat.le_refl _) _
  have cv := fun d => convGw (w.alloc (.cells #[.int .u8 d] 5)) w.heap.size d ((RowAt.new w _ _).cell 0)
  go_enter Tryz.func30, Tryz.ntmps30
  go_wp2
  go_ret
  exact ⟨⟨_, rfl, by rw [str1d, Lib.decDigits_one hn], by rw [str1w]; omega⟩, B1.out _⟩
theorem sDecz (z : Int) (n : Nat) (hz : z = (n : Int)) {w : World} {R : Ending → World → Prop} (h : Calls Tryz.prog 30 #[.int .i64 (n : Int)] w R) : Calls Tryz.prog 30 #[.int .i64 z] w R := by subst hz; exact h
set_option maxRecDepth 20000 in
set_option maxHeartbeats 1000000 in
theorem sDecS (d : Nat) : ∀ (n : Nat), n < 10 ^ (d + 1) → d ≤ 17 → ∀ w : World,
    Calls Tryz.prog 30 #[.int .i64 (n : Int)] w fun e w' => (∃ t : ByteArray, e = .returned (.string t) ∧ t.data.toList = Lib.decDigits n ∧ t.size ≤ d + 1) ∧ Below w.heap.size w w' := by
  induction d with
  | zero =>
    intro n hn _ w
    have h10 : n < 10 := by simpa using hn
    refine (sDec1 n h10 w).mono ?_
    rintro e w' ⟨⟨t, rfl, h1, _⟩, h2⟩
    refine ⟨⟨t, rfl, h1, ?_⟩, h2⟩
    rw [← baLen, h1, Lib.decDigits_one h10]; simp
  | succ d ih =>
    intro n hn hd w
    by_cases h10 : n < 10
    · refine (sDec1 n h10 w).mono ?_
      rintro e w' ⟨⟨t, rfl, h1, _⟩, h2⟩
      refine ⟨⟨t, rfl, h1, ?_⟩, h2⟩
      rw [← baLen, h1, Lib.decDigits_one h10]; simp
    have hb : n < 10 ^ 19 := Nat.lt_of_lt_of_le hn (Nat.pow_le_pow_right (by omega) (by omega))
    have d0 : ¬ (n : Int) < 0 := by omega
    have d1 : ¬ (n : Int) < 10 := by omega
    have DD : Hid (Lib.decDigits n = Lib.decDigits (n / 10) ++ [UInt8.ofNat (48 + n % 10)]) := by show _ = _; rw [Lib.decDigits, dif_neg h10]
    have hq0 : n / 10 < 10 ^ (d + 1) := by
      rw [Nat.pow_succ] at hn
      omega
    have K := fun w => hid (ih (n / 10) hq0 (by omega) w)
    obtain ⟨q, hq⟩ : ∃ q, q = n / 10 := ⟨_, rfl⟩
    obtain ⟨r, hr⟩ : ∃ r, r = n % 10 := ⟨_, rfl⟩
    have hr10 : r < 10 := by omega
    have e1 : (n : Int).tdiv 10 = (q : Int) := by rw [Int.tdiv_eq_ediv_of_nonneg (by omega)]; omega
    have e1' : (n : Int) / 10 = (q : Int) := by omega
    have e2 : (n : Int).tmod 10 = (r : Int) := by rw [Int.tmod_eq_emod_of_nonneg (by omega)]; omega
    have e2' : (n : Int) % 10 = (r : Int) := by omega
    rw [← hq] at K DD
    rw [← hr] at DD
    have hqb : q < 1000000000000000000 := by omega
    clear hq hr ih hn hq0
    have B1 : Hid (∀ o, Below w.heap.size w (w.alloc o)) := fun o => (Below.refl _ w).alloc (Nat.le_refl _) _
    go_enter Tryz.func30, Tryz.ntmps30
    go_wp2_with fail
    have cvA : ∀ (W : World) d, (convert 22 9 (.slice (some ⟨W.heap.size, 0, none⟩) 1 1)).run Tryz.prog (W.alloc (.cells #[.int .u8 d] 5)) = .ok (.string (strOfNums [d])) (W.alloc (.cells #[.int .u8 d] 5)) := fun W d => convGw _ W.heap.size d ((RowAt.new W _ _).cell 0)
    have cvB : ∀ (W : World) d, (convert 22 9 (.slice (some ⟨W.heap.size, 0, none⟩) 1 1)).run Tryz.prog (W.alloc (.cells #[.int .u8 d] 5)).drew = .ok (.string (strOfNums [d])) (W.alloc (.cells #[.int .u8 d] 5)).drew := fun W d => convGw _ W.heap.size d ((RowAt.new W _ _).cell 0)
    go_region_with ((go_at_call 30; refine (sDecz _ q (by first | rfl | exact e1 | (rw [e1]; rfl) | (rw [e1, IntKind.wrap_i64]; omega) | (rw [IntKind.wrap_i64]; omega)) (K _).out).mono ?_; rintro e w2 ⟨⟨t, rfl, hl, ht⟩, hb2⟩; have z1 : ∀ d, ¬ 9223372036854775807 < t.size + (strOfNums [d]).size := (fun d => by rw [str1w]; omega); (first | have cvC := convGw w2 w.heap.size _ ((hb2.cell (p := ⟨w.heap.size, 0, none⟩) (by simp)).trans ((RowAt.new w 5 #[_]).cell 0)) | skip)))
    all_goals go_wp2
    all_goals go_ret
    all_goals refine ⟨⟨_, rfl, by rw [ba_app, hl, wrp r hr10, str1d, DD.out], by rw [sizeApp, str1w]; omega⟩, ?_⟩
    all_goals first
      | exact ((Below.refl _ w).drew.trans hb2).alloc (((Below.refl _ w).drew.trans hb2).size) _
      | exact ((B1.out _).drew.trans (hb2.mono (B1.out _).drew.size))
      | exact ((B1.out _).trans (hb2.mono (B1.out _).size))
theorem sDec (n : Nat) (hn : n ≤ 4102444800) (w : World) :
    Calls Tryz.prog 30 #[.int .i64 (n : Int)] w fun e w' => (∃ t : ByteArray, e = .returned (.string t) ∧ t.data.toList = Lib.decDigits n ∧ t.size ≤ 10) ∧ Below w.heap.size w w' :=
  sDecS 9 n (by omega) (by omega) w
end Go.Proofs.YtmjolkagkeonfaaGreatDoor
namespace Go.Proofs.YtmjolkagkeonfaaGreatDoor
open Go.RowKit
/-! Texts made of lists; a row that a walk keeps from world to world. -/
def ofL (l : List UInt8) : ByteArray := ⟨l.toArray⟩
theorem ofL_l (l : List UInt8) : (ofL l).data.toList = l := by simp [ofL]
theorem ofL_size (l : List UInt8) : (ofL l).size = l.length := by rw [← baLen, ofL_l]
theorem ba_extL {a b : ByteArray} (h : a.data.toList = b.data.toList) : a = b := by
  cases a
  cases b
  congr 1
  exact Array.toList_inj.1 h
theorem ofL_of {b : ByteArray} {l : List UInt8} (h : b.data.toList = l) : b = ofL l := ba_extL (by rw [h, ofL_l])
/-- the row b lies in w, and nothing that was there in W has turned -/
def Jn (W w : World) (b : Nat) (t : TypeId) (cs : Array Value) : Prop := RowAt w b t cs ∧ Below W.heap.size W w
theorem Jn.drew {W w : World} {b : Nat} {t : TypeId} {cs : Array Value} (J : Hid (Jn W w b t cs)) : Hid (Jn W w.drew b t cs) := ⟨J.out.1.drew, J.out.2.drew⟩
theorem Jn.drewN {W w : World} {b : Nat} {t : TypeId} {cs : Array Value} (J : Hid (Jn W w b t cs)) (n : Nat) : Hid (Jn W (w.drewN n) b t cs) := ⟨J.out.1.drewN n, below_drewN J.out.2 n⟩
theorem Jn.next {W X w2 : World} {b : Nat} {t : TypeId} {cs : Array Value} (hb : Below X.heap.size X w2) (J : Hid (Jn W X b t cs)) : Hid (Jn W w2 b t cs) :=
  ⟨J.out.1.below hb J.out.1.lt, J.out.2.trans (hb.mono J.out.2.size)⟩
theorem Jn.box (w : World) (t : TypeId) (cs : Array Value) : Hid (Jn w (w.alloc (.cells cs t)) w.heap.size t cs) := ⟨RowAt.new _ _ _, (Below.refl _ _).alloc (Nat.le_refl _) _⟩
end Go.Proofs.YtmjolkagkeonfaaGreatDoor
namespace Go.Proofs.YtmjolkagkeonfaaGreatDoor
open Go.RowKit
/-! A proposition as a Bool. -/
open Classical in
noncomputable def pb (p : Prop) : Bool := decide p
theorem pb_t {p : Prop} (h : p) : pb p = true := by unfold pb; simpa using h
theorem pb_f {p : Prop} (h : ¬ p) : pb p = false := by unfold pb; simpa using h
end Go.Proofs.YtmjolkagkeonfaaGreatDoor
namespace Go.Proofs.YtmjolkagkeonfaaGreatDoor
open Go.RowKit
/-! Slices of numbers: read ('Ints'), written ('Wr'). -/
def ints (k : IntKind) (xs : List Int) : Array Value := (xs.map (Value.int k)).toArray
theorem ints_size (k : IntKind) (xs : List Int) : (ints k xs).size = xs.length := by simp [ints]
theorem ints_at {k : IntKind} {xs : List Int} {i : Nat} (h : i < xs.length) : (ints k xs)[i]? = some (.int k (xs.getD i 0)) := by
  simp [ints, h]
/-- The block b holds, from off on, these numbers; they may be written. -/
def Wr (k : IntKind) (w : World) (b off : Nat) (xs : List Int) : Prop :=
  ∃ cs t, RowAt w b t cs ∧ off + xs.length ≤ cs.size ∧ ∀ i, i < xs.length → cs[off + i]? = some (.int k (xs.getD i 0))
theorem Wr.lt {k : IntKind} {w : World} {b off : Nat} {xs : List Int} (h : Wr k w b off xs) : b < w.heap.size := by
  obtain ⟨cs, t, r, _⟩ := h; exact r.lt
theorem Wr.cell {k : IntKind} {w : World} {b off : Nat} {xs : List Int} (h : Wr k w b off xs) {i : Nat} (hi : i < xs.length) : w.cell? ⟨b, off + i, none⟩ = some (.int k (xs.getD i 0)) := by
  obtain ⟨cs, t, r, _, hc⟩ := h; rw [r.cell]; exact hc i hi
theorem Wr.free {k : IntKind} {w : World} {b off : Nat} {xs : List Int} (h : Wr k w b off xs) (i : Nat) : w.frozen? ⟨b, i, none⟩ = false := by
  obtain ⟨cs, t, r, _⟩ := h; exact r.free i
theorem Wr.of {k : IntKind} {w : World} {b : Nat} {t : TypeId} {xs : List Int} (h : RowAt w b t (ints k xs)) : Wr k w b 0 xs :=
  ⟨_, t, h, by rw [ints_size]; omega, fun i hi => by rw [Nat.zero_add]; exact ints_at hi⟩
theorem Wr.alloc {k : IntKind} {w : World} {b off : Nat} {xs : List Int} (h : Wr k w b off xs) (o : Obj) : Wr k (w.alloc o) b off xs := by
  obtain ⟨cs, t, r, h1, h2⟩ := h; exact ⟨cs, t, r.alloc o, h1, h2⟩
theorem Wr.drewN {k : IntKind} {w : World} {b off : Nat} {xs : List Int} (h : Wr k w b off xs) (n : Nat) : Wr k (w.drewN n) b off xs := h
theorem Wr.drew {k : IntKind} {w : World} {b off : Nat} {xs : List Int} (h : Wr k w b off xs) : Wr k w.drew b off xs := h
theorem Wr.below {k : IntKind} {w w' : World} {b off n : Nat} {xs : List Int} (h : Wr k w b off xs) (hb : Below n w w') (hn : b < n) : Wr k w' b off xs := by
  obtain ⟨cs, t, r, h1, h2⟩ := h; exact ⟨cs, t, r.below hb hn, h1, h2⟩
theorem Wr.far {k : IntKind} {w w' : World} {b off : Nat} {r : Option Nat} {xs : List Int} (h : Wr k w b off xs) (hg : w.grownBy w' r) (hne : some b ≠ r) : Wr k w' b off xs := by
  have hl := h.lt
  obtain ⟨cs, t, q, h1, h2⟩ := h; exact ⟨cs, t, (hg.block b hl hne).trans q, h1, h2⟩
theorem Wr.other {k : IntKind} {w : World} {b off : Nat} {xs : List Int} (h : Wr k w b off xs) (a : Addr) (v : Value) (hn : b ≠ a.block) : Wr k (w.setCell a v) b off xs := by
  obtain ⟨cs, t, r, h1, h2⟩ := h; exact ⟨cs, t, r.other a v hn, h1, h2⟩
theorem Wr.set {k : IntKind} {w : World} {b off : Nat} {xs : List Int} (h : Wr k w b off xs) (i : Nat) (x : Int) (hi : i < xs.length) : Wr k (w.setCell ⟨b, off + i, none⟩ (.int k x)) b off (xs.set i x) := by
  obtain ⟨cs, t, r, h1, h2⟩ := h
  refine ⟨_, t, r.set (off + i) _, by simp; omega, fun j hj => ?_⟩
  rw [List.length_set] at hj
  by_cases e : j = i
  · subst e
    rw [Array.getElem?_setIfInBounds_self_of_lt (by omega), List.getD_eq_getElem?_getD, List.getElem?_set_self hi]; rfl
  · rw [Array.getElem?_setIfInBounds_ne (by omega), h2 j hj, List.getD_eq_getElem?_getD, List.getD_eq_getElem?_getD, List.getElem?_set_ne (by omega)]
/-- A slice value that reads as these numbers. -/
def Ints (k : IntKind) (w : World) (a : Option Addr) (len cap : Nat) (xs : List Int) : Prop :=
  xs.length = len ∧ len ≤ cap ∧ (len = 0 ∨ ∃ b off, a = some ⟨b, off, none⟩ ∧ b < w.heap.size ∧ ∀ i, i < len → w.cell? ⟨b, off + i, none⟩ = some (.int k (xs.getD i 0)))
theorem Wr.ints {k : IntKind} {w : World} {b off : Nat} {xs : List Int} (h : Wr k w b off xs) {cap : Nat} (hc : xs.length ≤ cap) : Ints k w (some ⟨b, off, none⟩) xs.length cap xs :=
  ⟨rfl, hc, Or.inr ⟨b, off, rfl, h.lt, fun _ hi => h.cell hi⟩⟩
theorem Ints.below {k : IntKind} {w w' : World} {a : Option Addr} {len cap : Nat} {xs : List Int} (h : Ints k w a len cap xs) (hb : Below w.heap.size w w') : Ints k w' a len cap xs := by
  refine ⟨h.1, h.2.1, ?_⟩
  rcases h.2.2 with h0 | ⟨b, off, rfl, hl, hc⟩
  · exact Or.inl h0
  · exact Or.inr ⟨b, off, rfl, Nat.lt_of_lt_of_le hl hb.size, fun i hi => (hb.cell (p := ⟨b, off + i, none⟩) hl).trans (hc i hi)⟩
theorem Ints.alloc {k : IntKind} {w : World} {a : Option Addr} {len cap : Nat} {xs : List Int} (h : Ints k w a len cap xs) (o : Obj) : Ints k (w.alloc o) a len cap xs :=
  h.below ((Below.refl _ _).alloc (Nat.le_refl _) o)
end Go.Proofs.YtmjolkagkeonfaaGreatDoor
namespace Go.Proofs.YtmjolkagkeonfaaGreatDoor
open Go.RowKit
/-! Slices of texts: what the laws do with them. -/
def Strs (w : World) (a : Option Addr) (len cap : Nat) (ts : Nat → ByteArray) : Prop :=
  len ≤ cap ∧ (len = 0 ∨ ∃ b off, a = some ⟨b, off, none⟩ ∧ b < w.heap.size ∧ ∀ i, i < len → w.cell? ⟨b, off + i, none⟩ = some (.string (ts i)))
theorem Strs.below {w w' : World} {a : Option Addr} {len cap : Nat} {ts : Nat → ByteArray} (h : Strs w a len cap ts) (hb : Below w.heap.size w w') : Strs w' a len cap ts := by
  refine ⟨h.1, ?_⟩
  rcases h.2 with h0 | ⟨b, off, rfl, h1, h2⟩
  · exact Or.inl h0
  · exact Or.inr ⟨b, off, rfl, Nat.lt_of_lt_of_le h1 hb.size, fun i hi => (hb.cell (p := ⟨b, off + i, none⟩) h1).trans (h2 i hi)⟩
theorem FRow.strs {w : World} {b n : Nat} {t : TypeId} {ts : Nat → ByteArray} (h : FRow w b t n (fun i => .string (ts i))) : Strs w (some ⟨b, 0, none⟩) n n ts :=
  ⟨Nat.le_refl _, Or.inr ⟨b, 0, rfl, h.lt, fun i hi => by rw [Nat.zero_add]; exact h.cell hi⟩⟩
theorem Tryz.infoS' : (Tryz.prog.info? 9).map (fun i => (i.zero, i.size, i.bytes)) = some (some (.string ⟨#[]⟩), 1, 16) := by kernel_rfl
/-- a slice of texts as the row gives it -/
def IsStrs (w : World) (a : Option Addr) (len cap : Nat) (ts : Nat → ByteArray) : Prop :=
  (a = none ∧ len = 0 ∧ cap = 0) ∨ ∃ x : Addr, a = some x ∧ len ≤ cap ∧ cap ≤ maxLen ∧ ∀ i, i < len → w.cell? (x.add i) = some (.string (ts i)) ∧ (ts i).size ≤ maxLen
theorem IsStrs.len {w : World} {a : Option Addr} {len cap : Nat} {ts : Nat → ByteArray} (h : IsStrs w a len cap ts) : len ≤ 9223372036854775807 ∧ ∀ i, i < len → (ts i).size ≤ 9223372036854775807 := by
  rcases h with ⟨_, rfl, _⟩ | ⟨x, _, h1, h2, h3⟩
  · exact ⟨by omega, fun i hi => absurd hi (Nat.not_lt_zero _)⟩
  · unfold maxLen at h2 h3; exact ⟨by omega, fun i hi => by have := (h3 i hi).2; omega⟩
end Go.Proofs.YtmjolkagkeonfaaGreatDoor
namespace Go.Proofs.YtmjolkagkeonfaaGreatDoor
open Go.RowKit
/-! Slices of texts that a call owns (cut out of EncS3). -/
def OwnStrs (w : World) (base : Nat) (v : Value) (xs : List ByteArray) : Prop := w.ownsRow base 9 1 v xs.length (xs.map Value.string)
theorem OwnStrs.below {w w' : World} {base : Nat} {v : Value} {xs : List ByteArray} (h : OwnStrs w base v xs) (hb : Below w.heap.size w w') : OwnStrs w' base v xs := by
  refine ⟨h.1, ?_⟩
  rcases h.2 with h0 | ⟨g, cap, cur, he, hbg, hr, r⟩
  · exact Or.inl h0
  · exact Or.inr ⟨g, cap, cur, he, hbg, (hb.block g (show RowAt w g 9 cur from hr).lt).trans hr, r⟩
theorem OwnStrs.alloc {w : World} {base : Nat} {v : Value} {xs : List ByteArray} (h : OwnStrs w base v xs) (o : Obj) : OwnStrs (w.alloc o) base v xs := World.ownsRow.alloc h o
theorem OwnStrs.drew {w : World} {base : Nat} {v : Value} {xs : List ByteArray} (h : OwnStrs w base v xs) : OwnStrs w.drew base v xs := World.ownsRow.drew h
theorem OwnStrs.slice {w : World} {base : Nat} {v : Value} {xs : List ByteArray} (h : OwnStrs w base v xs) : ∃ a c, v = .slice a xs.length c := by
  rcases h.2 with ⟨h0, h1⟩ | ⟨g, cap, cur, he, _⟩
  · exact ⟨_, _, by rw [h0, h1]⟩
  · exact ⟨_, _, he⟩
theorem OwnStrs.ne {w : World} {base : Nat} {v : Value} {xs : List ByteArray} {c : Nat} (h : OwnStrs w base v xs) (hc : c < base) : some c ≠ v.ownBlock := by
  rcases h.2 with ⟨rfl, _⟩ | ⟨g, cap, cur, rfl, hb, _⟩
  · intro e; cases e
  · intro e
    have e2 : c = g := by simpa [Value.ownBlock] using e
    omega
theorem OwnStrs.strs {w : World} {base : Nat} {a : Option Addr} {n c : Nat} {xs : List ByteArray} {ts : Nat → ByteArray} (h : OwnStrs w base (.slice a n c) xs) (h0 : 0 < xs.length) (ht : ∀ i, i < xs.length → xs[i]? = some (ts i)) :
    ∃ g, a = some ⟨g, 0, none⟩ ∧ base ≤ g ∧ n = xs.length ∧ Strs w (some ⟨g, 0, none⟩) n c ts := by
  rcases h.2 with ⟨_, h1⟩ | ⟨g, cap, cur, he, hb, hr, hnc, hm, hsz, htk⟩
  · omega
  · cases he
    have R : RowAt w g 9 cur := hr
    refine ⟨g, rfl, hb, rfl, hnc, Or.inr ⟨g, 0, rfl, R.lt, fun i hi => ?_⟩⟩
    have := congrArg (·[i]?) htk
    simp only [List.getElem?_take] at this
    rw [if_pos (by omega), List.getElem?_map, ht i hi] at this
    rw [R.cell (0 + i), Nat.zero_add]
    simpa using this
theorem Strs.setRow {w : World} {b len cap : Nat} {ts : Nat → ByteArray} (h : Strs w (some ⟨b, 0, none⟩) len cap ts) (g : Nat) (c : Array Value) (hn : b ≠ g) : Strs (w.setRow g c) (some ⟨b, 0, none⟩) len cap ts := by
  refine ⟨h.1, ?_⟩
  rcases h.2 with h0 | ⟨b', off, he, h1, h2⟩
  · exact Or.inl h0
  · cases he
    refine Or.inr ⟨b, 0, rfl, by rw [setRow_size]; exact h1, fun i hi => ?_⟩
    rw [← h2 i hi]
    simp only [World.cell?, setRow_other w g b c hn]
theorem append_str2 {P : Program} (base : Nat) (wr : World) {ops : Array Oper} {rest : List Oper} {o : Oper} {a : Act} {Q : Exit → Act → World → Prop} (hgd : o.guard = none) (s x : Operand) (t : TypeId)
    (ho : o.op = .call { callee := .builtin .append, args := #[s, x], argTypes := #[t, t] })
    (ht : P.underlying t = some (.slice 9)) (hinfo : (P.info? 9).map (fun i => (i.zero, i.size, i.bytes)) = some (some (.string ⟨#[]⟩), 1, 16))
    (v : Value) (xs : List ByteArray) (y : ByteArray) (hs : a.eval s = v) (hown : OwnStrs wr base v xs) (hsz : base ≤ wr.heap.size)
    (hx : a.eval x = .slice (some ⟨wr.heap.size, 0, none⟩) 1 1) (hlen : xs.length ≤ 1048576)
    (h : ∀ v' w', OwnStrs w' base v' (xs ++ [y]) → wr.grownBy w' v.ownBlock → wpList P ops Q rest (a.put o.dst v') w') :
    wpList P ops Q (o :: rest) a (wr.alloc (.cells #[.string y] 9)) := by
  obtain ⟨i0, hi, hz0, hz1, hz2⟩ := info_parts hinfo
  refine wpList_append_own _ hgd s x t ho base 9 i0 (.string ⟨#[]⟩) 1 16 ht hi hz0 hz1 hz2 rfl (by decide) v _ _ hs (World.ownsRow.alloc hown _) ⟨wr.heap.size, 0, none⟩ 1 1 [.string y] hx rfl ?_ ?_ ?_ ?_ ?_ ?_
  · intro j u hj
    match j, hj with
    | 0, hj => simp at hj; subst hj; simp [Addr.add]
  · intro u hu; simp at hu; subst hu; rfl
  · unfold maxLen; omega
  · omega
  · simp; omega
  · intro v' w' h1 h2 h3
    exact h v' w' (by simpa [OwnStrs] using h1) (grown_trans (World.grownBy_alloc wr _ _) h2)
end Go.Proofs.YtmjolkagkeonfaaGreatDoor
