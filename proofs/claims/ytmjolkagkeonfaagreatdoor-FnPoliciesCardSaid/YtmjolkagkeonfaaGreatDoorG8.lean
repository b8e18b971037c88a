import Derived.Test.YtmjolkagkeonfaaGreatDoorG1
import Derived.Deep.RegionHeld3
import Derived.Deep.DrawnRows
import Derived.BigQuiet
import Derived.Deep.QuietTactic
import Derived.Shelf.Pu.Clone
import Derived.Shelf.Strings.Split
import Derived.Shelf.Strings.FieldsFuncAny
import Derived.Test.YtmjolkagkeonfaaGreatDoorG7
namespace Go.Proofs.YtmjolkagkeonfaaGreatDoor
open Go.RowKit

/-! A cursor: a block of two cells, the data and the place. -/
/-! ### What takeNum comes to -/
end Go.Proofs.YtmjolkagkeonfaaGreatDoor
namespace Go.Proofs.YtmjolkagkeonfaaGreatDoor
open Go.RowKit Go.Shelf
/-- How the shelf's numbers read in this program. -/
def cloneRen : Ren := ⟨fun x => if x = 25 then 162 else x, fun x => if x = 37 then 22 else if x = 47 then 121 else if x = 9 then 9 else if x = 5 then 5 else if x = 3 then 3 else if x = 4 then 4 else x, fun x => x⟩
theorem cloneLays : LaysPu.n25 Tryz.prog cloneRen := { mixed := by kernel_rfl, f25 := by kernel_rfl, t0 := by kernel_rfl, a0 := fun _ => by kernel_rfl, z0 := fun _ => by kernel_rfl, v0 := fun _ => by kernel_rfl, i0 := by kernel_rfl, t3 := by kernel_rfl, a3 := fun _ => by kernel_rfl, z3 := fun _ => by kernel_rfl, v3 := fun _ => by kernel_rfl, i3 := by kernel_rfl, t4 := by kernel_rfl, a4 := fun _ => by kernel_rfl, z4 := fun _ => by kernel_rfl, v4 := fun _ => by kernel_rfl, i4 := by kernel_rfl, t5 := by kernel_rfl, a5 := fun _ => by kernel_rfl, z5 := fun _ => by kernel_rfl, v5 := fun _ => by kernel_rfl, i5 := by kernel_rfl, t9 := by kernel_rfl, a9 := fun _ => by kernel_rfl, z9 := fun _ => by kernel_rfl, v9 := fun _ => by kernel_rfl, i9 := by kernel_rfl, t37 := by kernel_rfl, a37 := fun _ => by kernel_rfl, z37 := fun _ => by kernel_rfl, v37 := fun _ => by kernel_rfl, i37 := by kernel_rfl, t47 := by kernel_rfl, a47 := fun _ => by kernel_rfl, z47 := fun _ => by kernel_rfl, v47 := fun _ => by kernel_rfl, i47 := by kernel_rfl }
theorem lite_clone (s : ByteArray) (w : World) (hs : s.size ≤ 281474976710656) :
    Calls Tryz.prog 162 #[.string s] w fun e w' => e = .returned (.string s) ∧ Below w.heap.size w w' := AnyPu.stringslite_Clone cloneLays s w hs
set_option maxHeartbeats 400000 in
theorem clone_any (s : ByteArray) (w : World) (hs : s.size ≤ 281474976710656) :
    Calls Tryz.prog 144 #[.string s] w fun e w' => e = .returned (.string s) ∧ Below w.heap.size w w' := by
  go_enter Tryz.func144, Tryz.ntmps144
  go_wp2_with fail
  refine (lite_clone s _ hs).mono ?_
  rintro e w1 ⟨rfl, hb⟩
  go_wp2
  go_ret
  exact ⟨rfl, hb⟩
end Go.Proofs.YtmjolkagkeonfaaGreatDoor
namespace Go.Proofs.YtmjolkagkeonfaaGreatDoor
open Go.RowKit Go.Shelf
/-! strings.Split at one byte; strings.FieldsFunc at spaces. -/
theorem idx_one (c : UInt8) : ∀ l : List UInt8, (Lib.index l [c] = -1 ∧ c ∉ l) ∨ ∃ a r, l = a ++ c :: r ∧ c ∉ a ∧ Lib.index l [c] = (a.length : Int)
  | [] => .inl ⟨rfl, by simp⟩
  | x :: t => by
    by_cases h : x = c
    · subst h
      refine .inr ⟨[], t, rfl, by simp, ?_⟩
      unfold Lib.index
      simp
    · have hb : ¬ ([c].isPrefixOf (x :: t) = true) := by simp [Ne.symm h]
      rcases idx_one c t with ⟨h1, h2⟩ | ⟨a, r, rfl, h2, h3⟩
      · refine .inl ⟨?_, by simp [Ne.symm h, h2]⟩
        unfold Lib.index
        rw [if_neg hb, h1, if_pos (by rfl)]
      · refine .inr ⟨x :: a, r, rfl, by simp [Ne.symm h, h2], ?_⟩
        unfold Lib.index
        rw [if_neg hb, h3, if_neg (by simp)]
        simp
theorem splA_none (c : UInt8) : ∀ (l cur : List UInt8), c ∉ l → splA c cur l = [cur ++ l]
  | [], cur, _ => by simp [splA]
  | x :: t, cur, h => by
    unfold splA
    rw [if_neg (fun e => h (by simp [e])), splA_none c t _ (fun q => h (by simp [q]))]
    simp
theorem splA_hit (c : UInt8) : ∀ (a cur r : List UInt8), c ∉ a → splA c cur (a ++ c :: r) = (cur ++ a) :: splA c [] r
  | [], cur, r, _ => by
    show splA c cur (c :: r) = _
    rw [splA]
    simp
  | x :: t, cur, r, h => by
    rw [List.cons_append, splA]
    rw [if_neg (fun e => h (by simp [e])), splA_hit c t _ r (fun q => h (by simp [q]))]
    simp
theorem split_splA (c : UInt8) : ∀ (k : Nat) (s : ByteArray), s.size ≤ k → (Lib.splitB ⟨#[c]⟩ 0 (Lib.countB s ⟨#[c]⟩) s).map (·.data.toList) = splA c [] s.data.toList := by
  intro k
  induction k with
  | zero =>
    intro s hs
    have e : s.data.toList = [] := List.length_eq_zero_iff.1 (by simpa using hs)
    have hi : Lib.indexB s ⟨#[c]⟩ = -1 := by show Lib.index s.data.toList [c] = -1; rw [e]; rfl
    rw [Lib.countB_miss _ _ hi, Lib.splitB_miss _ _ _ _ hi, e]
    simp [splA, e]
  | succ k ih =>
    intro s hs
    rcases idx_one c s.data.toList with ⟨h1, h2⟩ | ⟨a, r, e, h2, h3⟩
    · have hi : Lib.indexB s ⟨#[c]⟩ = -1 := h1
      rw [Lib.countB_miss _ _ hi, Lib.splitB_miss _ _ _ _ hi, splA_none _ _ _ h2]
      simp
    · have hi : Lib.indexB s ⟨#[c]⟩ = (a.length : Int) := h3
      have l1 : s.data.toList.length = s.size := by simp
      have l2 : s.data.toList.length = a.length + 1 + r.length := by rw [e]; simp; omega
      have er : (s.extract (a.length + 1) s.size).data.toList = r := by
        rw [ext_mid, ← l1, List.take_length, e, List.drop_append]
        simp
      rw [Lib.countB_hit s ⟨#[c]⟩ a.length (Nat.le_refl 1) hi, Nat.add_comm 1, Lib.splitB_hit _ _ _ _ _ hi, List.map_cons]
      have hsz : (s.extract (a.length + 1) s.size).size ≤ k := by
        have : (s.extract (a.length + 1) s.size).data.toList.length = (s.extract (a.length + 1) s.size).size := by simp
        rw [← this, er]; omega
      have := ih (s.extract (a.length + 1) s.size) hsz
      rw [er] at this
      rw [show (⟨#[c]⟩ : ByteArray).size = 1 from rfl, this, e, splA_hit _ _ _ _ h2]
      congr 1
      show (s.extract 0 (a.length + 0)).data.toList = [] ++ a
      rw [ext_take, e]
      simp
theorem split_splB (c : UInt8) (s : ByteArray) : Lib.splitB ⟨#[c]⟩ 0 (Lib.countB s ⟨#[c]⟩) s = splB c s := by
  unfold splB
  rw [← split_splA c s.size s (Nat.le_refl _), List.map_map]
  conv => lhs; rw [← List.map_id (Lib.splitB ⟨#[c]⟩ 0 (Lib.countB s ⟨#[c]⟩) s)]
  apply List.map_congr_left
  intro x _
  show x = ofL x.data.toList
  exact ofL_of rfl
theorem split_cnt (c : UInt8) (s : ByteArray) : Lib.countB s ⟨#[c]⟩ + 1 = (splB c s).length := by
  rw [← split_splB]
  exact (Lib.splitB_all ⟨#[c]⟩ (Nat.le_refl 1) 0 _ s rfl).symm
theorem iSplitC (c : UInt8) (s : ByteArray) (hs : s.size ≤ 1048576) (w : World) (hv : RdV w) :
    Calls Tryz.prog 72 #[.string s, .string ⟨#[c]⟩] w fun e w' => e = .returned (.slice (some ⟨w.heap.size, 0, none⟩) (splB c s).length (splB c s).length) ∧ w' = w.alloc (.cells ((splB c s).map Value.string).toArray 9) := by
  obtain ⟨m, hm⟩ := hv.mx
  have := Any.strings_Split rd_Lays_n146 (by kernel_rfl) s ⟨#[c]⟩ m w (by omega) hm (Nat.le_refl 1)
  rw [split_cnt, split_splB] at this
  exact this
def ffRen : Ren := ⟨fun x => if x = 229 then 113 else x, fun x => if x = 0 then 0 else if x = 3 then 3 else if x = 4 then 4 else if x = 9 then 9 else if x = 21 then 21 else if x = 31 then 70 else if x = 40 then 173 else if x = 152 then 199 else if x = 154 then 201 else x, fun x => x⟩
theorem ffLays : Lays.n229 Tryz.prog ffRen := { mixed := by kernel_rfl, f229 := by kernel_rfl, t0 := by kernel_rfl, a0 := fun _ => by kernel_rfl, z0 := fun _ => by kernel_rfl, v0 := fun _ => by kernel_rfl, t3 := by kernel_rfl, a3 := fun _ => by kernel_rfl, z3 := fun _ => by kernel_rfl, v3 := fun _ => by kernel_rfl, t4 := by kernel_rfl, a4 := fun _ => by kernel_rfl, z4 := fun _ => by kernel_rfl, v4 := fun _ => by kernel_rfl, t9 := by kernel_rfl, a9 := fun _ => by kernel_rfl, z9 := fun _ => by kernel_rfl, v9 := fun _ => by kernel_rfl, t21 := by kernel_rfl, a21 := fun _ => by kernel_rfl, z21 := fun _ => by kernel_rfl, v21 := fun _ => by kernel_rfl, t31 := by kernel_rfl, a31 := fun _ => by kernel_rfl, z31 := fun _ => by kernel_rfl, v31 := fun _ => by kernel_rfl, t40 := by kernel_rfl, a40 := fun _ => by kernel_rfl, z40 := fun _ => by kernel_rfl, v40 := fun _ => by kernel_rfl, t152 := by kernel_rfl, a152 := fun _ => by kernel_rfl, z152 := fun _ => by kernel_rfl, v152 := fun _ => by kernel_rfl, t154 := by kernel_rfl, a154 := fun _ => by kernel_rfl, z154 := fun _ => by kernel_rfl, v154 := fun _ => by kernel_rfl }
set_option maxRecDepth 20000 in
theorem iSpc (W : World) (x : Nat) (hx : x ≤ 1114111) :
    Calls Tryz.prog 114 #[.int .i32 (x : Int)] W fun e w' => e = .returned (.bool (x == 32)) ∧ ∃ q, w' = W.drewN q := by
  have b : ((x : Int) == 32) = (x == 32) := by
    by_cases h : x = 32
    · subst h; rfl
    · rw [beq_eq_false_iff_ne.2 h]; exact beq_eq_false_iff_ne.2 (by omega)
  go_enter Tryz.func114, Tryz.ntmps114
  go_wp2
  go_ret
  exact ⟨rfl, 0, rfl⟩
theorem iFields (s : ByteArray) (hs : s.size ≤ 1048576) (w : World) :
    Calls Tryz.prog 113 #[.string s, .func (.func 114) #[] #[]] w fun e w' => ∃ A, e = .returned (.slice (some ⟨A, 0, none⟩) (wdsL s).length (wdsL s).length) ∧ w.heap.size ≤ A ∧ OwnStrs w' w.heap.size (.slice (some ⟨A, 0, none⟩) (wdsL s).length (wdsL s).length) (wdsL s) ∧ Below w.heap.size w w' := by
  have := Any.strings_FieldsFunc_runes ffLays 114 #[] (fun args w => by kernel_rfl) (fun r => r == 32) s w (by omega) (fun W x hx _ => iSpc W x hx) (by kernel_rfl) (by kernel_rfl)
  rw [fields_wds] at this
  exact this
end Go.Proofs.YtmjolkagkeonfaaGreatDoor
