import Derived.Test.YtmjolkagkeonfaaGreatDoorRdShl
import Derived.Test.YtmjolkagkeonfaaGreatDoorG2
import Derived.Test.YtmjolkagkeonfaaGreatDoorG2
import Derived.Test.YtmjolkagkeonfaaGreatDoorG4
import Derived.Lib.ConvBytes
import Derived.Deep.RegionHeld3
import Derived.WalkLawsBesides
import Derived.WalkSpells
import Derived.OpenShut
import Derived.BigQuiet
import Derived.Deep.QuietTactic
import Derived.Deep.CutRange
namespace Go.Proofs.YtmjolkagkeonfaaGreatDoor
open Go.RowKit Go.Shelf
/-! The program's readDecimal. -/
theorem foldl_ge (l : List UInt8) : ∀ acc : Nat, acc ≤ l.foldl (fun n c => n * 10 + (c.toNat - 48)) acc := by
  induction l with
  | nil => intro acc; exact Nat.le_refl _
  | cons c r ih => intro acc; have := ih (acc * 10 + (c.toNat - 48)); simp only [List.foldl_cons]; omega
theorem parseM_dg (M : Nat) (hM : M ≤ 18446744073709551615) : ∀ (l : List UInt8) (acc : Nat), (∀ c ∈ l, dgC c) → l.foldl (fun n c => n * 10 + (c.toNat - 48)) acc ≤ M → Lib.parseUintM M acc l = .ok (l.foldl (fun n c => n * 10 + (c.toNat - 48)) acc)
  | [], acc, _, _ => rfl
  | c :: r, acc, hd, hb => by
    have hc := hd c (by simp)
    unfold dgC at hc
    have hb2 : r.foldl (fun n c => n * 10 + (c.toNat - 48)) (acc * 10 + (c.toNat - 48)) ≤ M := hb
    have ge := foldl_ge r (acc * 10 + (c.toNat - 48))
    unfold Lib.parseUintM
    rw [if_pos hc, if_neg (by omega), if_neg (by omega)]
    exact parseM_dg M hM r _ (fun x hx => hd x (by simp [hx])) hb2
theorem parse_dec (n : Nat) (hn : n ≤ 9223372036854775807) : Lib.parseIntB 64 (Lib.decDigits n) = .ok (n : Int) := by
  have hv : (Lib.decDigits n).foldl (fun n c => n * 10 + (c.toNat - 48)) 0 = n := numL_dec n
  have hu : Lib.parseUintB 64 (Lib.decDigits n) = .ok n := by
    unfold Lib.parseUintB
    rw [if_neg (fun e => by have := decDigits_pos n; rw [e] at this; simp at this)]
    have := parseM_dg (2 ^ 64 - 1) (by decide) (Lib.decDigits n) 0 (decDigits_dg n) (by rw [hv]; omega)
    rw [hv] at this
    exact this
  cases hl : Lib.decDigits n with
  | nil => have := decDigits_pos n; rw [hl] at this; simp at this
  | cons c r =>
    have hc : dgC c := decDigits_dg n c (by rw [hl]; simp)
    unfold dgC at hc
    rw [Lib.parseIntB_plain 64 c r (by omega) (by omega), ← hl, hu]
    unfold Lib.signlessC
    simp only
    rw [if_neg (by omega)]
def decO (s : List UInt8) (z : Int) : Prop := z ≤ 9223372036854775807 ∧ ∀ n : Nat, z = (n : Int) ↔ n ≤ 9223372036854775807 ∧ s = Lib.decDigits n
/-- the same, and within an int64 -/
def decO2 (s : List UInt8) (z : Int) : Prop := -9223372036854775808 ≤ z ∧ decO s z
theorem decO_no {s : List UInt8} (h : ∀ n : Nat, n ≤ 9223372036854775807 → s ≠ Lib.decDigits n) : decO s (-1) :=
  ⟨by decide, fun n => ⟨fun e => by omega, fun ⟨h1, h2⟩ => absurd h2 (h n h1)⟩⟩
theorem decO_ok {s : List UInt8} {v : Int} (h : Lib.parseIntB 64 s = .ok v) (he : Lib.itoa v = s) : decO s v := by
  have hb := Lib.parseIntB_bounds h
  refine ⟨by have := hb.2; simp at this; omega, fun n => ⟨fun e => ?_, fun ⟨h1, h2⟩ => ?_⟩⟩
  · subst e
    have := hb.2
    simp at this
    exact ⟨by omega, by rw [← he, Lib.itoa]; rw [if_neg (by omega)]; simp⟩
  · rw [h2, parse_dec n h1] at h
    cases h
    rfl
theorem decO_not {s : List UInt8} {v : Int} (h : Lib.parseIntB 64 s = .ok v) (he : Lib.itoa v ≠ s) : decO s (-1) := decO_no fun n hn e => by
  rw [e, parse_dec n hn] at h
  cases h
  apply he
  rw [e, Lib.itoa, if_neg (by omega)]
  simp
theorem iPIsyn (s : ByteArray) (hs : s.size ≤ 1048576) (h : Lib.parseIntB 64 s.data.toList = .«syntax») (w : World) (hv : RdV w) :
    Calls Tryz.prog 177 #[.string s, .int .i64 10, .int .i64 64] w fun e w' => (∃ N z, e = .returned (.tuple #[.int .i64 z, .iface 244 (.pointer (some ⟨N, 0, none⟩))])) ∧ Below w.heap.size w w' := by
  obtain ⟨ev, hc, hk⟩ := hv.sx
  refine (Any.strconv_ParseInt_10_at64_syntax rd_LaysC_n174 s (by omega) h ev w hc hk).mono ?_
  rintro e w1 ⟨N, rfl, _, _, hb1⟩
  exact ⟨⟨N, 0, rfl⟩, hb1⟩
theorem iPIrng (s : ByteArray) (hs : s.size ≤ 1048576) (h : Lib.parseIntB 64 s.data.toList = .range) (w : World) (hv : RdV w) :
    Calls Tryz.prog 177 #[.string s, .int .i64 10, .int .i64 64] w fun e w' => (∃ N z, e = .returned (.tuple #[.int .i64 z, .iface 244 (.pointer (some ⟨N, 0, none⟩))])) ∧ Below w.heap.size w w' := by
  obtain ⟨ev, hc, hk⟩ := hv.rg
  refine (Any.strconv_ParseInt_10_at64_range rd_LaysC_n174 s (by omega) h ev w hc hk).mono ?_
  rintro e w1 ⟨N, rfl, _, _, hb1⟩
  exact ⟨⟨N, _, rfl⟩, hb1⟩
theorem iPIok (s : ByteArray) (hs : s.size ≤ 1048576) (v : Int) (h : Lib.parseIntB 64 s.data.toList = .ok v) (w : World) :
    Calls Tryz.prog 177 #[.string s, .int .i64 10, .int .i64 64] w fun e w' => e = .returned (.tuple #[.int .i64 v, .nilIface]) ∧ Below w.heap.size w w' := by
  refine (Any.strconv_ParseInt_10_at64_ok rd_LaysC_n174 s (by omega) v h w).mono ?_
  rintro e w1 ⟨rfl, hw1⟩
  refine ⟨rfl, ?_⟩
  rcases hw1 with rfl | ⟨t, rfl⟩
  · exact Below.refl _ _
  · exact Lib.bytesWorld_below _ _ _
theorem iFmtA (v : Int) (b0 : -9223372036854775808 ≤ v) (b1 : v ≤ 9223372036854775807) (w : World) (hv : RdV w) :
    Calls Tryz.prog 108 #[.int .i64 v, .int .i64 10] w fun e w' => e = .returned (.string (ofL (Lib.itoa v))) ∧ Below w.heap.size w w' := by
  refine (Any.strconv_FormatInt_10 rd_LaysM_n173 v b0 b1 w hv.tb).mono ?_
  rintro e w2 ⟨rfl, k, os, rfl⟩
  refine ⟨rfl, rfl, rfl, rfl, ?_, ?_⟩
  · show w.heap.size ≤ (w.heap ++ os).size
    rw [Array.size_append]; omega
  · intro j hj
    show (w.heap ++ os)[j]? = _
    rw [Array.getElem?_append_left hj]
set_option maxRecDepth 20000 in
set_option maxHeartbeats 1000000 in
theorem iRDec2 (s : ByteArray) (hs : s.size ≤ 1048576) (w : World) (hv : RdV w) :
    Calls Tryz.prog 163 #[.string s] w fun e w' => (∃ z : Int, e = .returned (.int .i64 z) ∧ decO2 s.data.toList z) ∧ Below w.heap.size w w' := by
  have bad : (decO s.data.toList (-1)) → (Calls Tryz.prog 177 #[.string s, .int .i64 10, .int .i64 64] w fun e w' => (∃ N z, e = .returned (.tuple #[.int .i64 z, .iface 244 (.pointer (some ⟨N, 0, none⟩))])) ∧ Below w.heap.size w w') →
      Calls Tryz.prog 163 #[.string s] w fun e w' => (∃ z : Int, e = .returned (.int .i64 z) ∧ decO2 s.data.toList z) ∧ Below w.heap.size w w' := by
    intro d k
    have D := hid d
    have K := hid k
    clear d k hv
    go_enter Tryz.func163, Tryz.ntmps163
    go_wp2_with fail
    refine K.out.mono ?_
    rintro e w1 ⟨⟨N, z, rfl⟩, hb1⟩
    have HB := hid hb1
    clear hb1 K
    go_wp2
    go_ret
    exact ⟨⟨-1, rfl, by decide, D.out⟩, HB.out⟩
  cases hp : Lib.parseIntB 64 s.data.toList with
  | «syntax» => exact bad (decO_no fun n hn e => by rw [e, parse_dec n hn] at hp; cases hp) (iPIsyn s hs hp w hv)
  | range => exact bad (decO_no fun n hn e => by rw [e, parse_dec n hn] at hp; cases hp) (iPIrng s hs hp w hv)
  | ok v =>
    have hb := Lib.parseIntB_bounds hp
    have K := hid (iPIok s hs v hp w)
    have b0 : -9223372036854775808 ≤ v := by have := hb.1; simp at this; omega
    have b1 : v ≤ 9223372036854775807 := by have := hb.2; simp at this; omega
    have KF := fun wx (t : RdV wx) => hid (iFmtA v b0 b1 wx t)
    have HV := hid hv
    clear hb hv bad
    by_cases he : Lib.itoa v = s.data.toList
    · have D : Hid (decO s.data.toList v) := decO_ok hp he
      have bq : ((ofL (Lib.itoa v)).toList == s.toList) = true := (eqL _ _).trans (decide_eq_true (by rw [he]; exact (ofL_of rfl).symm))
      generalize ofL (Lib.itoa v) = V at bq KF
      clear he hp
      go_enter Tryz.func163, Tryz.ntmps163
      go_wp2_with fail
      refine K.out.mono ?_
      rintro e w1 ⟨rfl, hb1⟩
      have B1 := hid hb1
      have T1 := hid (HV.out.below hb1)
      clear hb1 K HV
      go_wp2_with fail
      refine (KF _ T1.out).out.mono ?_
      rintro e w2 ⟨rfl, hb2⟩
      have B2 := hid (B1.out.trans (hb2.mono B1.out.size))
      clear hb2
      go_wp2
      go_ret
      exact ⟨⟨v, rfl, b0, D.out⟩, B2.out⟩
    · have D : Hid (decO s.data.toList (-1)) := decO_not hp he
      have bq : ((ofL (Lib.itoa v)).toList == s.toList) = false := (eqL _ _).trans (decide_eq_false (fun q => he (by rw [← q, ofL_l])))
      generalize ofL (Lib.itoa v) = V at bq KF
      clear he hp
      go_enter Tryz.func163, Tryz.ntmps163
      go_wp2_with fail
      refine K.out.mono ?_
      rintro e w1 ⟨rfl, hb1⟩
      have B1 := hid hb1
      have T1 := hid (HV.out.below hb1)
      clear hb1 K HV
      go_wp2_with fail
      refine (KF _ T1.out).out.mono ?_
      rintro e w2 ⟨rfl, hb2⟩
      have B2 := hid (B1.out.trans (hb2.mono B1.out.size))
      clear hb2
      go_wp2
      go_ret
      exact ⟨⟨-1, rfl, by decide, D.out⟩, B2.out⟩
end Go.Proofs.YtmjolkagkeonfaaGreatDoor
namespace Go.Proofs.YtmjolkagkeonfaaGreatDoor
open Go.RowKit
end Go.Proofs.YtmjolkagkeonfaaGreatDoor
namespace Go.Proofs.YtmjolkagkeonfaaGreatDoor
open Go.RowKit
/-! Condition: what the laws do with one (by lawrow.py). -/
structure Cn where
  kd : Int
  tx : ByteArray
  tm : Int
def Cn.row (o : Cn) : Array Value := #[.int .i64 (o).kd, .string (o).tx, .int .i64 (o).tm]
/-- the cells of a row of them -/
def cnF (o : Nat → Cn) (p : Nat) : Value :=
  if p % 3 = 0 then .int .i64 (o (p / 3)).kd else if p % 3 = 1 then .string (o (p / 3)).tx else .int .i64 (o (p / 3)).tm
theorem cnF0 (o : Nat → Cn) (k : Nat) : cnF o (k * 3) = .int .i64 (o k).kd := by unfold cnF; rw [if_pos (by omega), show (k * 3) / 3 = k by omega]
theorem cnF1 (o : Nat → Cn) (k : Nat) : cnF o (k * 3 + 1) = .string (o k).tx := by unfold cnF; rw [if_neg (by omega), if_pos (by omega), show (k * 3 + 1) / 3 = k by omega]
theorem cnF2 (o : Nat → Cn) (k : Nat) : cnF o (k * 3 + 2) = .int .i64 (o k).tm := by unfold cnF; rw [if_neg (by omega), if_neg (by omega), show (k * 3 + 2) / 3 = k by omega]
/-- a slice of them that is read -/
def Cns (w : World) (a : Option Addr) (n cap : Nat) (o : Nat → Cn) : Prop :=
  n ≤ cap ∧ (n = 0 ∨ ∃ b off, a = some ⟨b, off, none⟩ ∧ b < w.heap.size ∧ ∀ k, k < n → w.cell? ⟨b, off + k * 3, none⟩ = some (.int .i64 (o k).kd) ∧ w.cell? ⟨b, off + k * 3 + 1, none⟩ = some (.string (o k).tx) ∧ w.cell? ⟨b, off + k * 3 + 2, none⟩ = some (.int .i64 (o k).tm))
theorem Cns.below {w w' : World} {a : Option Addr} {n cap : Nat} {o : Nat → Cn} (h : Cns w a n cap o) (hb : Below w.heap.size w w') : Cns w' a n cap o := by
  refine ⟨h.1, ?_⟩
  rcases h.2 with h0 | ⟨b, off, rfl, h1, h2⟩
  · exact Or.inl h0
  · refine Or.inr ⟨b, off, rfl, Nat.lt_of_lt_of_le h1 hb.size, fun k hk => ?_⟩
    obtain ⟨c0, c1, c2⟩ := h2 k hk
    exact ⟨(hb.cell (p := ⟨b, _, none⟩) h1).trans c0, (hb.cell (p := ⟨b, _, none⟩) h1).trans c1, (hb.cell (p := ⟨b, _, none⟩) h1).trans c2⟩
theorem Cns.of_row {w : World} {b : Nat} {t : TypeId} {n : Nat} {o : Nat → Cn} (h : FRow w b t (n * 3) (cnF o)) : Cns w (some ⟨b, 0, none⟩) n n o := by
  refine ⟨Nat.le_refl _, Or.inr ⟨b, 0, rfl, h.lt, fun k hk => ?_⟩⟩
  have g0 := h.cell (show k * 3 < n * 3 by omega)
  have g1 := h.cell (show k * 3 + 1 < n * 3 by omega)
  have g2 := h.cell (show k * 3 + 2 < n * 3 by omega)
  rw [cnF0] at g0
  rw [cnF1] at g1
  rw [cnF2] at g2
  simp only [Nat.zero_add]
  exact ⟨g0, g1, g2⟩
theorem balCn {w w' : World} (h : Below w.heap.size w w') (o : Obj) : Below w.heap.size w (w'.alloc o) := h.alloc h.size o
end Go.Proofs.YtmjolkagkeonfaaGreatDoor
namespace Go.Proofs.YtmjolkagkeonfaaGreatDoor
open Go.RowKit
/-! Rows of Condition: what the laws do with them (by lawrow.py). -/
def cn0 : Cn := ⟨0, ⟨#[]⟩, 0⟩
end Go.Proofs.YtmjolkagkeonfaaGreatDoor
namespace Go.Proofs.YtmjolkagkeonfaaGreatDoor
open Go.RowKit
/-! Statements: what the laws do with one. -/
/-- a slice of texts, of conditions -/
structure SS where
  ad : Option Addr
  n : Nat
  cap : Nat
  ts : Nat → ByteArray
structure CS where
  ad : Option Addr
  n : Nat
  cap : Nat
  o : Nat → Cn
structure St where
  ef : Int
  wo : SS
  wa : SS
  wi : SS
  cs : CS
def SS.v (s : SS) : Value := .slice s.ad s.n s.cap
def CS.v (s : CS) : Value := .slice s.ad s.n s.cap
def St.row (s : St) : Array Value := #[.int .i64 s.ef, .slice s.wo.ad s.wo.n s.wo.cap, .slice s.wa.ad s.wa.n s.wa.cap, .slice s.wi.ad s.wi.n s.wi.cap, .slice s.cs.ad s.cs.n s.cs.cap]
/-- what a statement's slices read as -/
structure StIn (w : World) (s : St) : Prop where
  wo : Strs w s.wo.ad s.wo.n s.wo.cap s.wo.ts
  wa : Strs w s.wa.ad s.wa.n s.wa.cap s.wa.ts
  wi : Strs w s.wi.ad s.wi.n s.wi.cap s.wi.ts
  cs : Cns w s.cs.ad s.cs.n s.cs.cap s.cs.o
theorem StIn.below {w w' : World} {s : St} (h : StIn w s) (hb : Below w.heap.size w w') : StIn w' s := ⟨h.wo.below hb, h.wa.below hb, h.wi.below hb, h.cs.below hb⟩
/-- sizes: as a row can hand them in; as the laws let them by -/
def SSB (s : SS) (B : Nat) : Prop := s.n ≤ B ∧ ∀ i, i < s.n → (s.ts i).size ≤ B
def CSB (s : CS) (B : Nat) : Prop := s.n ≤ B ∧ ∀ i, i < s.n → (s.o i).tx.size ≤ B
structure StB (s : St) (B : Nat) : Prop where
  wo : SSB s.wo B
  wa : SSB s.wa B
  wi : SSB s.wi B
  cs : CSB s.cs B
/-- two statements that read alike -/
structure StEq (s s' : St) : Prop where
  ef : s.ef = s'.ef
  n1 : s.wo.n = s'.wo.n
  t1 : s.wo.ts = s'.wo.ts
  n2 : s.wa.n = s'.wa.n
  t2 : s.wa.ts = s'.wa.ts
  n3 : s.wi.n = s'.wi.n
  t3 : s.wi.ts = s'.wi.ts
  n4 : s.cs.n = s'.cs.n
  o4 : s.cs.o = s'.cs.o
end Go.Proofs.YtmjolkagkeonfaaGreatDoor
namespace Go.Proofs.YtmjolkagkeonfaaGreatDoor
open Go.RowKit
/-! Statements made anew. -/
structure Made (w : World) (lo : Nat) (s : St) : Prop where
  wo : ∃ g, s.wo.ad = some ⟨g, 0, none⟩ ∧ s.wo.cap = s.wo.n ∧ lo ≤ g ∧ FRow w g 9 s.wo.n (fun i => .string (s.wo.ts i))
  wa : ∃ g, s.wa.ad = some ⟨g, 0, none⟩ ∧ s.wa.cap = s.wa.n ∧ lo ≤ g ∧ FRow w g 9 s.wa.n (fun i => .string (s.wa.ts i))
  wi : ∃ g, s.wi.ad = some ⟨g, 0, none⟩ ∧ s.wi.cap = s.wi.n ∧ lo ≤ g ∧ FRow w g 9 s.wi.n (fun i => .string (s.wi.ts i))
  cs : ∃ g, s.cs.ad = some ⟨g, 0, none⟩ ∧ s.cs.cap = s.cs.n ∧ lo ≤ g ∧ FRow w g 83 (s.cs.n * 3) (cnF s.cs.o)
theorem Made.below {w w' : World} {lo : Nat} {s : St} (h : Made w lo s) (hb : Below w.heap.size w w') : Made w' lo s := by
  obtain ⟨⟨g1, a1, b1, c1, d1⟩, ⟨g2, a2, b2, c2, d2⟩, ⟨g3, a3, b3, c3, d3⟩, ⟨g4, a4, b4, c4, d4⟩⟩ := h
  exact ⟨⟨g1, a1, b1, c1, d1.below hb d1.lt⟩, ⟨g2, a2, b2, c2, d2.below hb d2.lt⟩, ⟨g3, a3, b3, c3, d3.below hb d3.lt⟩, ⟨g4, a4, b4, c4, d4.below hb d4.lt⟩⟩
theorem Made.other {w : World} {lo b o : Nat} {s : St} (h : Made w lo s) (v : Value) (hb : b < lo) : Made (w.setCell ⟨b, o, none⟩ v) lo s := by
  obtain ⟨⟨g1, a1, b1, c1, d1⟩, ⟨g2, a2, b2, c2, d2⟩, ⟨g3, a3, b3, c3, d3⟩, ⟨g4, a4, b4, c4, d4⟩⟩ := h
  exact ⟨⟨g1, a1, b1, c1, d1.other _ _ (by dsimp only; omega)⟩, ⟨g2, a2, b2, c2, d2.other _ _ (by dsimp only; omega)⟩, ⟨g3, a3, b3, c3, d3.other _ _ (by dsimp only; omega)⟩, ⟨g4, a4, b4, c4, d4.other _ _ (by dsimp only; omega)⟩⟩
theorem Made.mono {w : World} {lo lo' : Nat} {s : St} (h : Made w lo s) (hb : lo' ≤ lo) : Made w lo' s := by
  obtain ⟨⟨g1, a1, b1, c1, d1⟩, ⟨g2, a2, b2, c2, d2⟩, ⟨g3, a3, b3, c3, d3⟩, ⟨g4, a4, b4, c4, d4⟩⟩ := h
  exact ⟨⟨g1, a1, b1, by omega, d1⟩, ⟨g2, a2, b2, by omega, d2⟩, ⟨g3, a3, b3, by omega, d3⟩, ⟨g4, a4, b4, by omega, d4⟩⟩
theorem Made.in {w : World} {lo : Nat} {s : St} (h : Made w lo s) : StIn w s := by
  obtain ⟨f, ⟨a1, n1, c1, t1⟩, ⟨a2, n2, c2, t2⟩, ⟨a3, n3, c3, t3⟩, ⟨a4, n4, c4, o4⟩⟩ := s
  obtain ⟨⟨g1, x1, y1, _, d1⟩, ⟨g2, x2, y2, _, d2⟩, ⟨g3, x3, y3, _, d3⟩, ⟨g4, x4, y4, _, d4⟩⟩ := h
  dsimp only at x1 y1 d1 x2 y2 d2 x3 y3 d3 x4 y4 d4
  subst x1 y1 x2 y2 x3 y3 x4 y4
  exact ⟨d1.strs, d2.strs, d3.strs, Cns.of_row d4⟩
/-! Slices of statements. -/
/-- the cells of a row of them -/
def stF (R : Nat → St) (p : Nat) : Value :=
  if p % 5 = 0 then .int .i64 (R (p / 5)).ef else if p % 5 = 1 then .slice (R (p / 5)).wo.ad (R (p / 5)).wo.n (R (p / 5)).wo.cap else if p % 5 = 2 then .slice (R (p / 5)).wa.ad (R (p / 5)).wa.n (R (p / 5)).wa.cap else if p % 5 = 3 then .slice (R (p / 5)).wi.ad (R (p / 5)).wi.n (R (p / 5)).wi.cap else .slice (R (p / 5)).cs.ad (R (p / 5)).cs.n (R (p / 5)).cs.cap
theorem stF0 (R : Nat → St) (k : Nat) : stF R (k * 5) = .int .i64 (R k).ef := by unfold stF; rw [if_pos (by omega), show (k * 5) / 5 = k by omega]
theorem stF1 (R : Nat → St) (k : Nat) : stF R (k * 5 + 1) = .slice (R k).wo.ad (R k).wo.n (R k).wo.cap := by unfold stF; rw [if_neg (by omega), if_pos (by omega), show (k * 5 + 1) / 5 = k by omega]
theorem stF2 (R : Nat → St) (k : Nat) : stF R (k * 5 + 2) = .slice (R k).wa.ad (R k).wa.n (R k).wa.cap := by unfold stF; rw [if_neg (by omega), if_neg (by omega), if_pos (by omega), show (k * 5 + 2) / 5 = k by omega]
theorem stF3 (R : Nat → St) (k : Nat) : stF R (k * 5 + 3) = .slice (R k).wi.ad (R k).wi.n (R k).wi.cap := by unfold stF; rw [if_neg (by omega), if_neg (by omega), if_neg (by omega), if_pos (by omega), show (k * 5 + 3) / 5 = k by omega]
theorem stF4 (R : Nat → St) (k : Nat) : stF R (k * 5 + 4) = .slice (R k).cs.ad (R k).cs.n (R k).cs.cap := by unfold stF; rw [if_neg (by omega), if_neg (by omega), if_neg (by omega), if_neg (by omega), show (k * 5 + 4) / 5 = k by omega]
/-- the cells of one -/
def StCell (w : World) (b o : Nat) (s : St) : Prop :=
  w.cell? ⟨b, o, none⟩ = some (.int .i64 s.ef) ∧ w.cell? ⟨b, o + 1, none⟩ = some (.slice s.wo.ad s.wo.n s.wo.cap) ∧ w.cell? ⟨b, o + 2, none⟩ = some (.slice s.wa.ad s.wa.n s.wa.cap) ∧ w.cell? ⟨b, o + 3, none⟩ = some (.slice s.wi.ad s.wi.n s.wi.cap) ∧ w.cell? ⟨b, o + 4, none⟩ = some (.slice s.cs.ad s.cs.n s.cs.cap)
def Sts (w : World) (a : Option Addr) (m cap : Nat) (R : Nat → St) : Prop :=
  m ≤ cap ∧ (m = 0 ∨ ∃ b off, a = some ⟨b, off, none⟩ ∧ b < w.heap.size ∧ ∀ k, k < m → StCell w b (off + k * 5) (R k)) ∧ ∀ k, k < m → StIn w (R k)
theorem StCell.below {w w' : World} {b o : Nat} {s : St} (h : StCell w b o s) (hb : Below w.heap.size w w') (hl : b < w.heap.size) : StCell w' b o s :=
  ⟨(hb.cell (p := ⟨b, o, none⟩) hl).trans h.1, (hb.cell (p := ⟨b, o + 1, none⟩) hl).trans h.2.1, (hb.cell (p := ⟨b, o + 2, none⟩) hl).trans h.2.2.1, (hb.cell (p := ⟨b, o + 3, none⟩) hl).trans h.2.2.2.1, (hb.cell (p := ⟨b, o + 4, none⟩) hl).trans h.2.2.2.2⟩
theorem Sts.below {w w' : World} {a : Option Addr} {m cap : Nat} {R : Nat → St} (h : Sts w a m cap R) (hb : Below w.heap.size w w') : Sts w' a m cap R := by
  refine ⟨h.1, ?_, fun k hk => (h.2.2 k hk).below hb⟩
  rcases h.2.1 with h0 | ⟨b, off, rfl, hl, hc⟩
  · exact .inl h0
  · exact .inr ⟨b, off, rfl, Nat.lt_of_lt_of_le hl hb.size, fun k hk => (hc k hk).below hb hl⟩
theorem StCell.of_row {w : World} {b : Nat} {t : TypeId} {m k : Nat} {R : Nat → St} (h : FRow w b t (m * 5) (stF R)) (hk : k < m) : StCell w b (0 + k * 5) (R k) := by
  have g0 := h.cell (p := k * 5) (by omega)
  have g1 := h.cell (p := k * 5 + 1) (by omega)
  have g2 := h.cell (p := k * 5 + 2) (by omega)
  have g3 := h.cell (p := k * 5 + 3) (by omega)
  have g4 := h.cell (p := k * 5 + 4) (by omega)
  rw [stF0] at g0
  rw [stF1] at g1
  rw [stF2] at g2
  rw [stF3] at g3
  rw [stF4] at g4
  simp only [Nat.zero_add]
  exact ⟨g0, g1, g2, g3, g4⟩
end Go.Proofs.YtmjolkagkeonfaaGreatDoor
namespace Go.Proofs.YtmjolkagkeonfaaGreatDoor
open Go.RowKit
def st0 : St := ⟨0, ⟨none, 0, 0, fun _ => ⟨#[]⟩⟩, ⟨none, 0, 0, fun _ => ⟨#[]⟩⟩, ⟨none, 0, 0, fun _ => ⟨#[]⟩⟩, ⟨none, 0, 0, fun _ => cn0⟩⟩
end Go.Proofs.YtmjolkagkeonfaaGreatDoor
namespace Go.Proofs.YtmjolkagkeonfaaGreatDoor
open Go.RowKit
/-! When words, lists, conditions and statements are right. -/
def wdP (s : ByteArray) : Prop := 1 ≤ s.size ∧ s.size ≤ 200 ∧ ∀ i (h : i < s.size), 33 ≤ (s[i]'h).toNat ∧ (s[i]'h).toNat ≤ 126
def cmP (s : ByteArray) : Prop := ∃ i, ∃ h : i < s.size, s[i]'h = 44
def lsP (n : Nat) (ts : Nat → ByteArray) : Prop := 1 ≤ n ∧ n ≤ 20 ∧ ∀ i, i < n → wdP (ts i) ∧ ¬ cmP (ts i)
def cnP (c : Cn) : Prop := ((c.kd = 1 ∨ c.kd = 4) ∧ wdP c.tx ∧ c.tm = 0) ∨ ((c.kd = 2 ∨ c.kd = 3) ∧ c.tx = ⟨#[]⟩ ∧ 0 ≤ c.tm ∧ c.tm ≤ 4102444800)
def isP (n : Nat) (o : Nat → Cn) : Prop := ∀ i, i < n → cnP (o i)
def stP (s : St) : Prop := (s.ef = 1 ∨ s.ef = 2) ∧ lsP s.wo.n s.wo.ts ∧ lsP s.wa.n s.wa.ts ∧ lsP s.wi.n s.wi.ts ∧ isP s.cs.n s.cs.o
def plP (m : Nat) (R : Nat → St) : Prop := m ≤ 50 ∧ ∀ k, k < m → stP (R k) ∧ (R k).cs.n ≤ 10
noncomputable def plV (m : Nat) (R : Nat → St) : Int := if pb (plP m R) then 0 else 1
/-! The specification's. -/
set_option maxRecDepth 20000 in
set_option maxHeartbeats 1000000 in
theorem sWord (s : ByteArray) (hs : s.size ≤ 1048576) (w : World) :
    Calls Tryz.prog 110 #[.string s] w fun e w' => e = .returned (.bool (pb (wdP s))) ∧ w' = w := by
  by_cases h1 : 1 ≤ s.size
  · by_cases h2 : s.size ≤ 200
    · have d1 : ¬ (s.size : Int) < 1 := by omega
      have d2 : ¬ (200 : Int) < (s.size : Int) := by omega
      go_enter Tryz.func110, Tryz.ntmps110
      go_wp2
      clear d1 d2
      go_loop [3] (fun v => ∃ k : Nat, k ≤ s.size ∧ v = .int .i64 (k : Int) ∧ ∀ i (h : i < s.size), i < k → 33 ≤ (s[i]'h).toNat ∧ (s[i]'h).toNat ≤ 126) (fun v => s.size - (intOf v).toNat)
      case atStart => exact ⟨0, Nat.zero_le _, rfl, fun i _ hi => absurd hi (Nat.not_lt_zero _)⟩
      case round =>
        obtain ⟨k, hk, rfl, hr⟩ := hrel
        have HR := hid hr
        clear hr
        by_cases hlt : k < s.size
        · have d3 : (k : Int) < (s.size : Int) := by omega
          by_cases q1 : (s[k]'hlt).toNat < 33
          · have q2 : ((s[k]'hlt).toNat : Int) < 33 := by omega
            have E : Hid (pb (wdP s) = false) := pb_f fun h => by have := (h.2.2 k hlt).1; omega
            go_wp2
            go_ret
            exact ⟨by rw [E.out]; rfl, rfl⟩
          · have q2 : ¬ ((s[k]'hlt).toNat : Int) < 33 := by omega
            by_cases q3 : 126 < (s[k]'hlt).toNat
            · have q4 : (126 : Int) < ((s[k]'hlt).toNat : Int) := by omega
              have E : Hid (pb (wdP s) = false) := pb_f fun h => by have := (h.2.2 k hlt).2; omega
              go_wp2
              go_ret
              exact ⟨by rw [E.out]; rfl, rfl⟩
            · have q4 : ¬ (126 : Int) < ((s[k]'hlt).toNat : Int) := by omega
              have N : Hid (∀ i (h : i < s.size), i < k + 1 → 33 ≤ (s[i]'h).toNat ∧ (s[i]'h).toNat ≤ 126) := fun i h hi => by
                by_cases e : i = k
                · subst e; omega
                · exact HR.out i h (by omega)
              go_wp2
              exact ⟨⟨k + 1, by omega, by go_num, N.out⟩, by simp [intOf]; omega⟩
        · have d3 : ¬ (k : Int) < (s.size : Int) := by omega
          have E : Hid (pb (wdP s) = true) := pb_t ⟨h1, h2, fun i h => HR.out i h (by omega)⟩
          go_wp2
          go_ret
          exact ⟨by rw [E.out]; rfl, rfl⟩
    · have d1 : ¬ (s.size : Int) < 1 := by omega
      have d2 : (200 : Int) < (s.size : Int) := by omega
      have E : Hid (pb (wdP s) = false) := pb_f fun h => h2 h.2.1
      go_enter Tryz.func110, Tryz.ntmps110
      go_wp2
      go_ret
      exact ⟨by rw [E.out]; rfl, rfl⟩
  · have d1 : (s.size : Int) < 1 := by omega
    have E : Hid (pb (wdP s) = false) := pb_f fun h => h1 h.1
    go_enter Tryz.func110, Tryz.ntmps110
    go_wp2
    go_ret
    exact ⟨by rw [E.out]; rfl, rfl⟩
theorem ext1 (s : ByteArray) (k : Nat) (h : k < s.size) : (s.extract k (k + 1)).toList = [s[k]'h] := by
  rw [ByteArray.toList_eq, ByteArray.data_extract]
  have h2 : k < s.data.toList.length := by simpa using h
  simp
  rw [List.drop_eq_getElem_cons h2]
  simp
  rfl
set_option maxRecDepth 20000 in
set_option maxHeartbeats 1000000 in
theorem sIndex (s : ByteArray) (hs : s.size ≤ 1048576) (w : World) :
    Calls Tryz.prog 111 #[.string s, .string ⟨#[44]⟩, .int .i64 0] w fun e w' => (∃ z : Int, e = .returned (.int .i64 z) ∧ (0 ≤ z ↔ cmP s)) ∧ w' = w := by
  go_enter Tryz.func111, Tryz.ntmps111
  go_wp2
  go_loop [7] (fun v => ∃ k : Nat, k ≤ s.size ∧ v = .int .i64 (k : Int) ∧ ∀ i (h : i < s.size), i < k → s[i]'h ≠ 44) (fun v => s.size - (intOf v).toNat)
  case atStart => exact ⟨0, Nat.zero_le _, rfl, fun i _ hi => absurd hi (Nat.not_lt_zero _)⟩
  case round =>
    obtain ⟨k, hk, rfl, hr⟩ := hrel
    have HR := hid hr
    clear hr
    by_cases hlt : k < s.size
    · have d3 : (k : Int) + 1 ≤ (s.size : Int) := by omega
      by_cases q : s[k]'hlt = 44
      · have b1 : ((s.extract k (k + 1)).toList == [44]) = true := by rw [ext1 s k hlt, q]; rfl
        have Q : Hid (cmP s) := ⟨k, hlt, q⟩
        clear q
        go_wp2
        go_ret
        exact ⟨⟨k, rfl, fun _ => Q.out, fun _ => by omega⟩, rfl⟩
      · have b1 : ((s.extract k (k + 1)).toList == [44]) = false := by rw [ext1 s k hlt]; simpa using q
        have N : Hid (∀ i (h : i < s.size), i < k + 1 → s[i]'h ≠ 44) := fun i h hi => by
          by_cases e : i = k
          · subst e; exact q
          · exact HR.out i h (by omega)
        clear q
        go_wp2
        exact ⟨⟨k + 1, by omega, by go_num, N.out⟩, by simp [intOf]; omega⟩
    · have d3 : ¬ (k : Int) + 1 ≤ (s.size : Int) := by omega
      go_wp2
      go_ret
      exact ⟨⟨-1, rfl, ⟨fun h => absurd h (by decide), fun ⟨i, h, hi⟩ => absurd hi (HR.out i h (by omega))⟩⟩, rfl⟩
end Go.Proofs.YtmjolkagkeonfaaGreatDoor
