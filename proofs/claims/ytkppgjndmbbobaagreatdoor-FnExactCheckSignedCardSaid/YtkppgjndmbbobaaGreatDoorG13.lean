import Derived.Test.YtkppgjndmbbobaaGreatDoorG10
import Derived.Test.YtkppgjndmbbobaaGreatDoorG2
import Derived.Test.YtkppgjndmbbobaaGreatDoorICan
import Derived.Test.YtkppgjndmbbobaaGreatDoorG8
import Derived.Shelf.Strings.Split
import Derived.Test.YtkppgjndmbbobaaGreatDoorG9
namespace Go.Proofs.YtkppgjndmbbobaaGreatDoor
open Go.RowKit
set_option linter.unusedVariables false
/-! The program's cloneRequest (by genclr.py). -/
end Go.Proofs.YtkppgjndmbbobaaGreatDoor
namespace Go.Proofs.YtkppgjndmbbobaaGreatDoor
open Go.RowKit Go.Maps
/-! The program's pairs and signSum. -/
def sg4B (id D1 D2 JN : ByteArray) : List Hp := [(⟨⟨#[120, 45, 105, 100]⟩, id⟩ : Hp), ⟨⟨#[120, 45, 102, 114, 111, 109]⟩, D1⟩, ⟨⟨#[120, 45, 108, 97, 115, 116, 115]⟩, D2⟩, ⟨⟨#[120, 45, 115, 105, 103, 110, 101, 100]⟩, JN⟩]
set_option maxRecDepth 20000 in
set_option maxHeartbeats 8000000 in
theorem iSPairsG (id D1 D2 JN : ByteArray) (nw ls : Int) (tA : Option Addr) (m mc : Nat) (w : World)
    (k1 : ∀ wx, Below w.heap.size w wx → Calls Tryz.prog 45 #[.int .i64 nw] wx fun e w' => e = .returned (.string D1) ∧ Below wx.heap.size wx w')
    (k2 : ∀ wx, Below w.heap.size w wx → Calls Tryz.prog 45 #[.int .i64 ls] wx fun e w' => e = .returned (.string D2) ∧ Below wx.heap.size wx w')
    (kJ : ∀ wx, Below w.heap.size w wx → Calls Tryz.prog 82 #[.slice tA m mc, .string ⟨#[44]⟩] wx fun e w' => e = .returned (.string JN) ∧ Below wx.heap.size wx w') :
    Calls Tryz.prog 43 #[.agg #[.string id, .int .i64 nw, .int .i64 ls, .slice tA m mc]] w fun e w' => ∃ X, e = .returned (.slice (some ⟨X, 0, none⟩) 4 4) ∧ Hps w' (some ⟨X, 0, none⟩) 4 4 (hAt (sg4B id D1 D2 JN)) ∧ Below w.heap.size w w' := by
  have K1 := fun wx (hx : Below w.heap.size w wx) => hid (k1 wx hx)
  have K2 := fun wx (hx : Below w.heap.size w wx) => hid (k2 wx hx)
  have KJ := fun wx (hx : Below w.heap.size w wx) => hid (kJ wx hx)
  have HF : Hid (∀ wx X, RowAt wx X 66 #[.string ⟨#[120, 45, 105, 100]⟩, .string id, .string ⟨#[120, 45, 102, 114, 111, 109]⟩, .string D1, .string ⟨#[120, 45, 108, 97, 115, 116, 115]⟩, .string D2, .string ⟨#[120, 45, 115, 105, 103, 110, 101, 100]⟩, .string JN] → Hps wx (some ⟨X, 0, none⟩) 4 4 (hAt (sg4B id D1 D2 JN))) := fun wx X hr => by
    refine ⟨Nat.le_refl _, .inr ⟨X, 0, rfl, hr.lt, fun k hk => ?_⟩⟩
    rw [hr.cell, hr.cell]
    rcases (by omega : k = 0 ∨ k = 1 ∨ k = 2 ∨ k = 3) with rfl | rfl | rfl | rfl <;> exact ⟨rfl, rfl⟩
  generalize sg4B id D1 D2 JN = PL at HF ⊢
  clear k1 k2 kJ
  have J := Jn.box w 72 #[.string id, .int .i64 nw, .int .i64 ls, .slice tA m mc]
  obtain ⟨W0, hW0⟩ : ∃ W, W = w.alloc (.cells #[.string id, .int .i64 nw, .int .i64 ls, .slice tA m mc] 72) := ⟨_, rfl⟩
  rw [← hW0] at J
  go_enter Tryz.func43, Tryz.ntmps43
  go_upto_region 1 with fail
  rw [← hW0]
  clear hW0
  have x0 : W0.cell? ⟨w.heap.size, 0, none⟩ = some (.string id) := J.out.1.cell 0
  have x1 : W0.cell? ⟨w.heap.size, 1, none⟩ = some (.int .i64 nw) := J.out.1.cell 1
  have x2 : W0.cell? ⟨w.heap.size, 2, none⟩ = some (.int .i64 ls) := J.out.1.cell 2
  have x3 : W0.cell? ⟨w.heap.size, 3, none⟩ = some (.slice tA m mc) := J.out.1.cell 3
  go_region_held3 (fun wx => (wx.cell? ⟨w.heap.size, 0, none⟩ = some (.string id) ∧ wx.cell? ⟨w.heap.size, 1, none⟩ = some (.int .i64 nw)) ∧ wx.cell? ⟨w.heap.size, 2, none⟩ = some (.int .i64 ls) ∧ wx.cell? ⟨w.heap.size, 3, none⟩ = some (.slice tA m mc))
    (first | (go_keep; done) | exact ⟨⟨J.out.1.cell 0, J.out.1.cell 1⟩, J.out.1.cell 2, J.out.1.cell 3⟩)
    ((first
      | (go_at_call_of 45 (Value.int IntKind.i64 nw); have hJ2 := J.out.2; (first | with_reducible refine (K1 _ hJ2).out.mono ?_ | with_reducible refine (K1 _ (Below.drew hJ2)).out.mono ?_); clear hJ2; rintro e v1 ⟨rfl, hb2⟩; (first | replace J := Jn.next hb2 J | (replace hb2 := nxD hb2; replace J := Jn.next hb2 J)))
      | (go_at_call_of 45 (Value.int IntKind.i64 ls); have hJ2 := J.out.2; (first | with_reducible refine (K2 _ hJ2).out.mono ?_ | with_reducible refine (K2 _ (Below.drew hJ2)).out.mono ?_); clear hJ2; rintro e v1 ⟨rfl, hb2⟩; (first | replace J := Jn.next hb2 J | (replace hb2 := nxD hb2; replace J := Jn.next hb2 J)))
      | (go_at_call 82; have hJ2 := J.out.2; (first | with_reducible refine (KJ _ hJ2).out.mono ?_ | with_reducible refine (KJ _ (Below.drew hJ2)).out.mono ?_); clear hJ2; rintro e v1 ⟨rfl, hb2⟩; (first | replace J := Jn.next hb2 J | (replace hb2 := nxD hb2; replace J := Jn.next hb2 J)))))
  go_wp2
  go_ret
  exact ⟨_, rfl, HF.out _ _ (RowAt.new _ _ _), J.out.2.alloc J.out.2.size _⟩
/-- the sum that the program reckons, also of a request with a fault -/
noncomputable def sgV (r : Rq) (sec : ByteArray) (ts : Nat → ByteArray) (m : Nat) : Int := if pb (rqP r) then sgS r sec ts m else sumOf (ofL (sec.data.toList ++ [10])) 9
set_option maxRecDepth 20000 in
set_option maxHeartbeats 4000000 in
theorem iSgSum (mt pt : ByteArray) (a1 : Option Addr) (n1 c1 : Nat) (o1 : Nat → Hp) (a2 : Option Addr) (n2 c2 : Nat) (o2 : Nat → Hp) (bd : ByteArray) (hb : RqB ⟨mt, pt, ⟨a1, n1, c1, o1⟩, ⟨a2, n2, c2, o2⟩, bd⟩ 1048576) (sec : ByteArray) (hs : sec.size ≤ 100) (tA : Option Addr) (m mc : Nat) (ts : Nat → ByteArray) (hm : m ≤ 10) (hts : ∀ i, i < m → (ts i).size ≤ 1000) (w : World) (hT : TB w) (h : RqIn w ⟨mt, pt, ⟨a1, n1, c1, o1⟩, ⟨a2, n2, c2, o2⟩, bd⟩) (hS : Strs w tA m mc ts) :
    Calls Tryz.prog 44 #[.agg #[.string mt, .string pt, .slice a1 n1 c1, .slice a2 n2 c2, .string bd], .string sec, .slice tA m mc] w fun e w' => e = .returned (.int .i64 (sgV ⟨mt, pt, ⟨a1, n1, c1, o1⟩, ⟨a2, n2, c2, o2⟩, bd⟩ sec ts m)) ∧ Below w.heap.size w w' := by
  have KC : ∃ CN : ByteArray, CN.size ≤ 200000 ∧ sumOf (sec ++ ⟨#[10]⟩ ++ CN) 9 = sgV ⟨mt, pt, ⟨a1, n1, c1, o1⟩, ⟨a2, n2, c2, o2⟩, bd⟩ sec ts m ∧ ∀ wx, TB wx → RqIn wx ⟨mt, pt, ⟨a1, n1, c1, o1⟩, ⟨a2, n2, c2, o2⟩, bd⟩ → Strs wx tA m mc ts → Calls Tryz.prog 84 #[.agg #[.string mt, .string pt, .slice a1 n1 c1, .slice a2 n2 c2, .string bd], .slice tA m mc] wx fun e w' => e = .returned (.string CN) ∧ Below wx.heap.size wx w' := by
    by_cases hr : rqP ⟨mt, pt, ⟨a1, n1, c1, o1⟩, ⟨a2, n2, c2, o2⟩, bd⟩
    · refine ⟨ofL (canL ⟨mt, pt, ⟨a1, n1, c1, o1⟩, ⟨a2, n2, c2, o2⟩, bd⟩ ts m), ?_, ?_, fun wx h1 h2 h3 => iCanonYes mt pt a1 n1 c1 o1 a2 n2 c2 o2 bd hr tA m mc ts hm hts wx h1 h2 h3⟩
      · rw [ofL_size]; exact canL_len hr ts m hm hts
      · unfold sgV sgS
        rw [pb_t hr, if_pos rfl]
        rw [show sec ++ ⟨#[10]⟩ ++ ofL (canL ⟨mt, pt, ⟨a1, n1, c1, o1⟩, ⟨a2, n2, c2, o2⟩, bd⟩ ts m) = ofL (sec.data.toList ++ [10] ++ canL ⟨mt, pt, ⟨a1, n1, c1, o1⟩, ⟨a2, n2, c2, o2⟩, bd⟩ ts m) from ofL_of (by rw [ba_app, ba_app, ofL_l])]
    · refine ⟨⟨#[]⟩, by show (0 : Nat) ≤ _; omega, ?_, fun wx h1 h2 h3 => iCanonNo mt pt a1 n1 c1 o1 a2 n2 c2 o2 bd hb hr tA m mc wx h2⟩
      unfold sgV
      rw [pb_f hr, if_neg (by simp)]
      congr 1
      refine ofL_of ?_
      rw [ba_app, ba_app]
      simp
  obtain ⟨CN, lC, eC, KC⟩ := KC
  have KCH := hid KC
  have HEC := hid eC
  have z0 : ¬ 9223372036854775807 < sec.size + 1 := by omega
  have z1 : ¬ 9223372036854775807 < sec.size + 1 + CN.size := by omega
  have KS := fun wx => hid (isum_all (sec ++ ⟨#[10]⟩ ++ CN) 9 (by omega) (by rw [sizeApp, sizeApp]; show _ + 1 + _ ≤ _; omega) wx)
  rw [HEC.out] at KS
  have HT := hid hT
  have HS := hid hS
  have HI := hid h
  have J := Jn.box w 25 #[.string mt, .string pt, .slice a1 n1 c1, .slice a2 n2 c2, .string bd]
  obtain ⟨W0, hW0⟩ : ∃ W, W = w.alloc (.cells #[.string mt, .string pt, .slice a1 n1 c1, .slice a2 n2 c2, .string bd] 25) := ⟨_, rfl⟩
  rw [← hW0] at J
  generalize sgV ⟨mt, pt, ⟨a1, n1, c1, o1⟩, ⟨a2, n2, c2, o2⟩, bd⟩ sec ts m = SV at KS HEC ⊢
  clear KC eC hT hS h hb hts HEC
  go_enter Tryz.func44, Tryz.ntmps44
  go_wp2_with fail
  rw [← hW0]
  clear hW0
  refine (KCH.out _ (HT.out.below J.out.2) (HI.out.below J.out.2) (HS.out.below J.out.2)).mono ?_
  rintro e w2 ⟨rfl, hb2⟩
  have J2 := Jn.next hb2 J
  clear hb2 J
  go_wp2_with fail
  refine (KS _).out.mono ?_
  rintro e w3 ⟨rfl, hw⟩
  obtain rfl := hw
  go_wp2
  go_ret
  exact ⟨rfl, J2.out.2⟩
end Go.Proofs.YtkppgjndmbbobaaGreatDoor
namespace Go.Proofs.YtkppgjndmbbobaaGreatDoor
open Go.RowKit Go.Shelf
/-! strings.Split at a comma; slices.Equal at pairs; slices.IndexFunc at keys. -/
theorem idx_one (c : UInt8) : ∀ l : List UInt8, (Lib.index l [c] = -1 ∧ c ∉ l) ∨ ∃ a r, l = a ++ c :: r ∧ c ∉ a ∧ Lib.index l [c] = (a.length : Int)
  | [] => .inl ⟨rfl, by simp⟩
  | x :: t => by
    by_cases h : x = c
    · subst h
      refine .inr ⟨[], t, rfl, by simp, ?_⟩
      unfold Lib.index
      simp
    · have hb : ¬ ([c].isPrefixOf (x :: t) = true) := by simp [Ne.symm h]
      rcases idx_one c t with ⟨h1, h2⟩ | ⟨a, r, rfl, h2, h3⟩
      · refine .inl ⟨?_, by simp [Ne.symm h, h2]⟩
        unfold Lib.index
        rw [if_neg hb, h1, if_pos (by rfl)]
      · refine .inr ⟨x :: a, r, rfl, by simp [Ne.symm h, h2], ?_⟩
        unfold Lib.index
        rw [if_neg hb, h3, if_neg (by simp)]
        simp
theorem splA_none (c : UInt8) : ∀ (l cur : List UInt8), c ∉ l → splA c cur l = [cur ++ l]
  | [], cur, _ => by simp [splA]
  | x :: t, cur, h => by
    unfold splA
    rw [if_neg (fun e => h (by simp [e])), splA_none c t _ (fun q => h (by simp [q]))]
    simp
theorem splA_hit (c : UInt8) : ∀ (a cur r : List UInt8), c ∉ a → splA c cur (a ++ c :: r) = (cur ++ a) :: splA c [] r
  | [], cur, r, _ => by
    show splA c cur (c :: r) = _
    rw [splA]
    simp
  | x :: t, cur, r, h => by
    rw [List.cons_append, splA]
    rw [if_neg (fun e => h (by simp [e])), splA_hit c t _ r (fun q => h (by simp [q]))]
    simp
theorem split_splA : ∀ (k : Nat) (s : ByteArray), s.size ≤ k → (Lib.splitB ⟨#[44]⟩ 0 (Lib.countB s ⟨#[44]⟩) s).map (·.data.toList) = splA 44 [] s.data.toList := by
  intro k
  induction k with
  | zero =>
    intro s hs
    have e : s.data.toList = [] := List.length_eq_zero_iff.1 (by simpa using hs)
    have hi : Lib.indexB s ⟨#[44]⟩ = -1 := by show Lib.index s.data.toList [44] = -1; rw [e]; rfl
    rw [Lib.countB_miss _ _ hi, Lib.splitB_miss _ _ _ _ hi, e]
    simp [splA, e]
  | succ k ih =>
    intro s hs
    rcases idx_one 44 s.data.toList with ⟨h1, h2⟩ | ⟨a, r, e, h2, h3⟩
    · have hi : Lib.indexB s ⟨#[44]⟩ = -1 := h1
      rw [Lib.countB_miss _ _ hi, Lib.splitB_miss _ _ _ _ hi, splA_none _ _ _ h2]
      simp
    · have hi : Lib.indexB s ⟨#[44]⟩ = (a.length : Int) := h3
      have l1 : s.data.toList.length = s.size := by simp
      have l2 : s.data.toList.length = a.length + 1 + r.length := by rw [e]; simp; omega
      have er : (s.extract (a.length + 1) s.size).data.toList = r := by
        rw [ext_mid, ← l1, List.take_length, e, List.drop_append]
        simp
      rw [Lib.countB_hit s ⟨#[44]⟩ a.length (by decide) hi, Nat.add_comm 1, Lib.splitB_hit _ _ _ _ _ hi, List.map_cons]
      have hsz : (s.extract (a.length + 1) s.size).size ≤ k := by
        have : (s.extract (a.length + 1) s.size).data.toList.length = (s.extract (a.length + 1) s.size).size := by simp
        rw [← this, er]; omega
      have := ih (s.extract (a.length + 1) s.size) hsz
      rw [er] at this
      rw [show (⟨#[44]⟩ : ByteArray).size = 1 from rfl, this, e, splA_hit _ _ _ _ h2]
      congr 1
      show (s.extract 0 (a.length + 0)).data.toList = [] ++ a
      rw [ext_take, e]
      simp
theorem split_splB (s : ByteArray) : Lib.splitB ⟨#[44]⟩ 0 (Lib.countB s ⟨#[44]⟩) s = splB 44 s := by
  unfold splB
  rw [← split_splA s.size s (Nat.le_refl _), List.map_map]
  conv => lhs; rw [← List.map_id (Lib.splitB ⟨#[44]⟩ 0 (Lib.countB s ⟨#[44]⟩) s)]
  apply List.map_congr_left
  intro x _
  show x = ofL x.data.toList
  exact ofL_of rfl
theorem splA_ne (c : UInt8) (cur l : List UInt8) : splA c cur l ≠ [] := fun h => by have := (splA_len c l cur).1; rw [h] at this; simp at this
theorem join_splA (c : UInt8) : ∀ (l cur : List UInt8), Lib.join (splA c cur l) [c] = cur ++ l
  | [], cur => by simp [splA, Lib.join_one]
  | x :: t, cur => by
    unfold splA
    by_cases h : x = c
    · rw [if_pos h]
      have ih := join_splA c t []
      cases hs : splA c [] t with
      | nil => exact absurd hs (splA_ne _ _ _)
      | cons y ys =>
        rw [hs] at ih
        rw [Lib.join_cons] at ih
        rw [Lib.join_cons]
        unfold Lib.joinTail at ih ⊢
        simp at ih ⊢
        rw [ih, h]
        simp
    · rw [if_neg h, join_splA c t]
      simp
theorem split_cnt (s : ByteArray) : Lib.countB s ⟨#[44]⟩ + 1 = (splB 44 s).length := by
  rw [← split_splB]
  exact (Lib.splitB_all ⟨#[44]⟩ (by decide) 0 _ s rfl).symm
theorem iSplitS (s : ByteArray) (hs : s.size ≤ 1048576) (w : World) (hv : RdV w) :
    Calls Tryz.prog 119 #[.string s, .string ⟨#[44]⟩] w fun e w' => e = .returned (.slice (some ⟨w.heap.size, 0, none⟩) (splB 44 s).length (splB 44 s).length) ∧ w' = w.alloc (.cells ((splB 44 s).map Value.string).toArray 9) := by
  obtain ⟨m, hm⟩ := hv.mx
  have := Any.strings_Split rd_Lays_n146 (by kernel_rfl) s ⟨#[44]⟩ m w (by omega) hm (by decide)
  rw [split_cnt, split_splB] at this
  exact this
end Go.Proofs.YtkppgjndmbbobaaGreatDoor
