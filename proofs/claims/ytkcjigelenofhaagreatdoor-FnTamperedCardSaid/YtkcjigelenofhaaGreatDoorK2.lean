import Derived.Test.YtkcjigelenofhaaGreatDoorG6
import Derived.Test.YtkcjigelenofhaaGreatDoorG7
import Derived.Test.YtkcjigelenofhaaGreatDoorG8
import Derived.Test.YtkcjigelenofhaaGreatDoorG1
import Derived.Test.YtkcjigelenofhaaGreatDoorG1
import Derived.Test.YtkcjigelenofhaaGreatDoorG1
import Derived.WalkLawsBesides
import Derived.WalkSpells
import Derived.OpenShut
import Derived.BigQuiet
import Derived.Deep.QuietTactic
import Derived.Deep.RegionHeld3
import Derived.Deep.CutRange
import Derived.Test.YtkcjigelenofhaaGreatDoorTA
import Derived.Laws.StructEq
import Derived.Test.YtkcjigelenofhaaGreatDoorG4
namespace Go.Proofs.YtkcjigelenofhaaGreatDoor
open Go.RowKit
def sgH (r : Rq) : List Hp := hpList r.hs.o r.hs.n
noncomputable def sgQ1 (r : Rq) (id : ByteArray) (nw ls : Int) (ts : Nat → ByteArray) (m : Nat) : List Hp := hpList r.qs.o r.qs.n ++ [(⟨⟨#[120, 45, 105, 100]⟩, id⟩ : Hp), ⟨⟨#[120, 45, 102, 114, 111, 109]⟩, ofL (Lib.decDigits nw.toNat)⟩, ⟨⟨#[120, 45, 108, 97, 115, 116, 115]⟩, ofL (Lib.decDigits ls.toNat)⟩, ⟨⟨#[120, 45, 115, 105, 103, 110, 101, 100]⟩, ofL (jn ts m)⟩]
noncomputable def sgR1 (r : Rq) (id : ByteArray) (nw ls : Int) (ts : Nat → ByteArray) (m : Nat) : Rq := mkRq r.mt r.pt (sgQ1 r id nw ls ts m) (sgH r) r.bd
noncomputable def sgQ2 (r : Rq) (id sec : ByteArray) (nw ls : Int) (ts : Nat → ByteArray) (m : Nat) : List Hp := sgQ1 r id nw ls ts m ++ [(⟨⟨#[120, 45, 115, 117, 109]⟩, ofL (Lib.decDigits (sgS (sgR1 r id nw ls ts m) sec ts m).toNat)⟩ : Hp)]
noncomputable def sgR2 (r : Rq) (id sec : ByteArray) (nw ls : Int) (ts : Nat → ByteArray) (m : Nat) : Rq := mkRq r.mt r.pt (sgQ2 r id sec nw ls ts m) (sgH r) r.bd
def sgOk0 (r : Rq) (id sec : ByteArray) (nw ls : Int) (ts : Nat → ByteArray) (m : Nat) : Prop := rqP r ∧ idP id ∧ 1 ≤ sec.size ∧ sec.size ≤ 100 ∧ 0 ≤ nw ∧ nw ≤ 4102444800 ∧ 0 ≤ ls ∧ ls ≤ 4102444800 ∧ m ≤ 10 ∧ sgnP r.hs.n r.hs.o ts m
def sgOk (r : Rq) (id sec : ByteArray) (nw ls : Int) (ts : Nat → ByteArray) (m : Nat) : Prop := sgOk0 r id sec nw ls ts m ∧ (∀ i, i < r.qs.n → ¬ bgP (r.qs.o i).nm ⟨#[120, 45]⟩) ∧ rqP (sgR1 r id nw ls ts m) ∧ rqP (sgR2 r id sec nw ls ts m)
def AnsSg (w : World) (r : Rq) (id sec : ByteArray) (nw ls : Int) (ts : Nat → ByteArray) (m : Nat) (e : Ending) (w' : World) : Prop :=
 Below w.heap.size w w' ∧ ((sgOk r id sec nw ls ts m ∧ ∃ (a1 : Option Addr) (c1 : Nat) (a2 : Option Addr) (c2 B1 B2 : Nat), e = .returned (.agg #[.string r.mt, .string r.pt, .slice a1 (sgQ2 r id sec nw ls ts m).length c1, .slice a2 (sgH r).length c2, .string r.bd]) ∧ OwnHp w' B1 (.slice a1 (sgQ2 r id sec nw ls ts m).length c1) (sgQ2 r id sec nw ls ts m) ∧ OwnHp w' B2 (.slice a2 (sgH r).length c2) (sgH r) ∧ w.heap.size ≤ B1 ∧ w.heap.size ≤ B2 ∧ ((Value.slice a2 (sgH r).length c2).ownBlock = none ∨ (Value.slice a2 (sgH r).length c2).ownBlock ≠ (Value.slice a1 (sgQ2 r id sec nw ls ts m).length c1).ownBlock)) ∨ (¬ sgOk r id sec nw ls ts m ∧ e = .returned (.agg #[.string ⟨#[]⟩, .string ⟨#[]⟩, .slice none 0 0, .slice none 0 0, .string ⟨#[]⟩])))
theorem sgn_sz {r : Rq} (hr : rqP r) {ts : Nat → ByteArray} {m : Nat} (h : sgnP r.hs.n r.hs.o ts m) (i : Nat) (hi : i < m) : (ts i).size ≤ 60 := by
 obtain ⟨k, hk, e⟩ := (h.1 i hi).1
 rw [← e]
 exact (hr.2.2.2.2.2.2 k hk).1.2.1
theorem jn_sz (ts : Nat → ByteArray) : ∀ m, (∀ i, i < m → (ts i).size ≤ 60) → (jn ts m).length ≤ m * 61
 | 0, _ => by unfold jn jl; simp [Lib.join]
 | 1, h => by rw [jn_one]; have := h 0 (by omega); simp; omega
 | m + 2, h => by
  rw [jn_next ts (m + 1) (by omega)]
  have ih := jn_sz ts (m + 1) (fun i hi => h i (by omega))
  have h1 := h (m + 1) (by omega)
  have e : (ts (m + 1)).data.toList.length = (ts (m + 1)).size := by simp
  simp only [List.length_append, List.length_cons, List.length_nil]
  omega
theorem rqP_mkS {mt pt bd : ByteArray} {a a' : Option Addr} {c c' : Nat} {Q H : List Hp} : rqP ⟨mt, pt, ⟨a, Q.length, c, hAt Q⟩, ⟨a', H.length, c', hAt H⟩, bd⟩ ↔ rqP (mkRq mt pt Q H bd) := Iff.rfl
theorem rqV_mkS {mt pt bd : ByteArray} {a a' : Option Addr} {c c' : Nat} {Q H : List Hp} : rqV ⟨mt, pt, ⟨a, Q.length, c, hAt Q⟩, ⟨a', H.length, c', hAt H⟩, bd⟩ = rqV (mkRq mt pt Q H bd) := rfl
theorem sgQ1_sz {r : Rq} {id sec : ByteArray} {nw ls : Int} {ts : Nat → ByteArray} {m : Nat} (h : sgOk0 r id sec nw ls ts m) : ∀ x ∈ sgQ1 r id nw ls ts m, x.nm.size ≤ 1000 ∧ x.vl.size ≤ 1000 := by
 intro x hx
 unfold sgQ1 at hx
 rcases List.mem_append.1 hx with h1 | h1
 · obtain ⟨i, hi, rfl⟩ := hpList_mem h1
   have := h.1.2.2.2.2.2.1 i hi
   exact ⟨Nat.le_trans this.2.1 (by omega), this.2.2⟩
 · have d1 := dec_len nw.toNat (by have := h.2.2.2.2.2.1; omega)
   have d2 := dec_len ls.toNat (by have := h.2.2.2.2.2.2.2.1; omega)
   have d3 : (ofL (jn ts m)).size ≤ 1000 := by
    rw [ofL_size]
    have := jn_sz ts m (sgn_sz h.1 h.2.2.2.2.2.2.2.2.2)
    have := h.2.2.2.2.2.2.2.2.1
    omega
   have d0 : id.size ≤ 1000 := Nat.le_trans h.2.1.2.1 (by omega)
   simp only [List.mem_cons, List.not_mem_nil, or_false] at h1
   rcases h1 with rfl | rfl | rfl | rfl
   · exact ⟨by show (4 : Nat) ≤ 1000; omega, d0⟩
   · exact ⟨by show (6 : Nat) ≤ 1000; omega, by show (ofL _).size ≤ 1000; omega⟩
   · exact ⟨by show (7 : Nat) ≤ 1000; omega, by show (ofL _).size ≤ 1000; omega⟩
   · exact ⟨by show (8 : Nat) ≤ 1000; omega, d3⟩
theorem sgH_sz {r : Rq} (h : rqP r) : ∀ x ∈ sgH r, x.nm.size ≤ 1000 ∧ x.vl.size ≤ 1000 := by
 intro x hx
 obtain ⟨i, hi, rfl⟩ := hpList_mem hx
 have := h.2.2.2.2.2.2 i hi
 exact ⟨Nat.le_trans this.1.2.1 (by omega), this.2.1⟩
end Go.Proofs.YtkcjigelenofhaaGreatDoor
namespace Go.Proofs.YtkcjigelenofhaaGreatDoor
open Go.RowKit
structure Ak where
 id : ByteArray
 sec : ByteArray
def Ak.row (o : Ak) : Array Value := #[.string (o).id, .string (o).sec]
def Aks (w : World) (a : Option Addr) (n cap : Nat) (o : Nat → Ak) : Prop :=
 n ≤ cap ∧ (n = 0 ∨ ∃ b off, a = some ⟨b, off, none⟩ ∧ b < w.heap.size ∧ ∀ k, k < n → w.cell? ⟨b, off + k * 2, none⟩ = some (.string (o k).id) ∧ w.cell? ⟨b, off + k * 2 + 1, none⟩ = some (.string (o k).sec))
theorem Aks.below {w w' : World} {a : Option Addr} {n cap : Nat} {o : Nat → Ak} (h : Aks w a n cap o) (hb : Below w.heap.size w w') : Aks w' a n cap o := by
 refine ⟨h.1, ?_⟩
 rcases h.2 with h0 | ⟨b, off, rfl, h1, h2⟩
 · exact Or.inl h0
 · refine Or.inr ⟨b, off, rfl, Nat.lt_of_lt_of_le h1 hb.size, fun k hk => ?_⟩
   obtain ⟨c0, c1⟩ := h2 k hk
   exact ⟨(hb.cell (p := ⟨b, _, none⟩) h1).trans c0, (hb.cell (p := ⟨b, _, none⟩) h1).trans c1⟩
end Go.Proofs.YtkcjigelenofhaaGreatDoor
namespace Go.Proofs.YtkcjigelenofhaaGreatDoor
open Go.RowKit
def ckV (r : Rq) (k : Nat) : ByteArray := (r.qs.o (r.qs.n - 5 + k)).vl
def ckNm : Nat → ByteArray
 | 0 => ⟨#[120, 45, 105, 100]⟩
 | 1 => ⟨#[120, 45, 102, 114, 111, 109]⟩
 | 2 => ⟨#[120, 45, 108, 97, 115, 116, 115]⟩
 | 3 => ⟨#[120, 45, 115, 105, 103, 110, 101, 100]⟩
 | _ => ⟨#[120, 45, 115, 117, 109]⟩
def tAt (L : List ByteArray) (i : Nat) : ByteArray := L.getD i ⟨#[]⟩
def sgT (s : ByteArray) : List ByteArray := if s.size = 0 then [] else splB 44 s
def smP (s : ByteArray) : Prop := ∃ n, n < 2147483647 ∧ s.data.toList = Lib.decDigits n
def ckO (r : Rq) (i : Nat) : Prop := if i < r.qs.n - 5 then ¬ bgP (r.qs.o i).nm ⟨#[120, 45]⟩ else (r.qs.o i).nm = ckNm (i - (r.qs.n - 5))
def ckS (r : Rq) : List ByteArray := sgT (ckV r 3)
def ckP (r : Rq) : Prop := rqP r ∧ 5 ≤ r.qs.n ∧ (∀ i, i < r.qs.n → ckO r i) ∧ idP (ckV r 0) ∧ tmP (ckV r 1) ∧ tmP (ckV r 2) ∧ sgnP r.hs.n r.hs.o (tAt (ckS r)) (ckS r).length ∧ smP (ckV r 4)
def ckB (r : Rq) : Rq := ⟨r.mt, r.pt, ⟨r.qs.ad, r.qs.n - 1, r.qs.cap, r.qs.o⟩, r.hs, r.bd⟩
def fstK (ks : Nat → Ak) (x : ByteArray) : Nat → Option Nat
 | 0 => none
 | k + 1 => match fstK ks x k with
  | some i => some i
  | none => if (ks k).id = x then some k else none
theorem fstK_some {ks : Nat → Ak} {x : ByteArray} : ∀ {k i : Nat}, fstK ks x k = some i → i < k ∧ (ks i).id = x ∧ ∀ j, j < i → (ks j).id ≠ x
 | 0, i, h => by cases h
 | k + 1, i, h => by
  unfold fstK at h
  cases e : fstK ks x k with
  | some j => rw [e] at h; cases h; have := fstK_some e; exact ⟨by omega, this.2⟩
  | none =>
   rw [e] at h
   dsimp only at h
   split at h
   · cases h
     refine ⟨by omega, by assumption, fun j hj q => ?_⟩
     have : ∀ k', fstK ks x k' = none → ∀ j, j < k' → (ks j).id ≠ x := by
      intro k'
      induction k' with
      | zero => intro _ j hj; omega
      | succ k' ih =>
       intro hn j hj
       unfold fstK at hn
       cases e' : fstK ks x k' with
       | some v => rw [e'] at hn; cases hn
       | none =>
        rw [e'] at hn
        dsimp only at hn
        split at hn
        · cases hn
        · rename_i hne
          by_cases q : j = k'
          · rw [q]; exact hne
          · exact ih e' j (by omega)
     exact this _ e j hj q
   · cases h
theorem fstK_none {ks : Nat → Ak} {x : ByteArray} : ∀ {k : Nat}, (∀ j, j < k → (ks j).id ≠ x) → fstK ks x k = none
 | 0, _ => rfl
 | k + 1, h => by
  unfold fstK
  rw [fstK_none fun j hj => h j (by omega)]
  exact if_neg (h k (by omega))
theorem fstK_first {ks : Nat → Ak} {x : ByteArray} {n i : Nat} (hi : i < n) (h0 : ∀ j, j < i → (ks j).id ≠ x) (h1 : (ks i).id = x) : fstK ks x n = some i := by
 induction n with
 | zero => omega
 | succ n ih =>
  unfold fstK
  by_cases e : i = n
  · subst e
    rw [fstK_none h0]
    exact if_pos h1
  · rw [ih (by omega)]
def scQ (s : ByteArray) : Prop := 1 ≤ s.size ∧ s.size ≤ 100
def smQ (r : Rq) (sec : ByteArray) : Prop := scQ sec ∧ sgS (ckB r) sec (tAt (ckS r)) (ckS r).length = (numL (ckV r 4).data.toList : Int)
def lateQ (r : Rq) (now : Int) : Prop := (numL (ckV r 1).data.toList : Int) ≤ now ∧ now ≤ (numL (ckV r 1).data.toList : Int) + (numL (ckV r 2).data.toList : Int)
noncomputable def ckR (r : Rq) (n : Nat) (ks : Nat → Ak) (now : Int) : Int × ByteArray :=
 if pb (ckP r ∧ n ≤ 100) then
  match fstK ks (ckV r 0) n with
  | none => (5, ⟨#[]⟩)
  | some i => if pb (smQ r (ks i).sec) then (if pb (lateQ r now) then (0, ckV r 0) else (13, ⟨#[]⟩)) else (12, ⟨#[]⟩)
 else (1, ⟨#[]⟩)
section
variable {r : Rq} {n : Nat} {ks : Nat → Ak} {now : Int}
theorem ckR_1 (h : ¬ (ckP r ∧ n ≤ 100)) : ckR r n ks now = (1, ⟨#[]⟩) := by unfold ckR; rw [pb_f h]; rfl
theorem ckR_5 (h : ckP r ∧ n ≤ 100) (h1 : fstK ks (ckV r 0) n = none) : ckR r n ks now = (5, ⟨#[]⟩) := by unfold ckR; rw [pb_t h, h1]; rfl
theorem ckR_12 (h : ckP r ∧ n ≤ 100) {i : Nat} (h1 : fstK ks (ckV r 0) n = some i) (h2 : ¬ smQ r (ks i).sec) : ckR r n ks now = (12, ⟨#[]⟩) := by unfold ckR; rw [pb_t h, h1]; dsimp only; rw [pb_f h2]; rfl
theorem ckR_13 (h : ckP r ∧ n ≤ 100) {i : Nat} (h1 : fstK ks (ckV r 0) n = some i) (h2 : smQ r (ks i).sec) (h3 : ¬ lateQ r now) : ckR r n ks now = (13, ⟨#[]⟩) := by unfold ckR; rw [pb_t h, h1]; dsimp only; rw [pb_t h2, pb_f h3]; rfl
theorem ckR_0 (h : ckP r ∧ n ≤ 100) {i : Nat} (h1 : fstK ks (ckV r 0) n = some i) (h2 : smQ r (ks i).sec) (h3 : lateQ r now) : ckR r n ks now = (0, ckV r 0) := by unfold ckR; rw [pb_t h, h1]; dsimp only; rw [pb_t h2, pb_t h3]; rfl
end
theorem dec_inj {a b : Nat} (h : Lib.decDigits a = Lib.decDigits b) : a = b := by rw [← numL_dec a, h, numL_dec]
theorem sgT_len (s : ByteArray) : (sgT s).length ≤ s.size + 1 := by
 unfold sgT
 split
 · simp
 · unfold splB
   rw [List.length_map]
   have := (splA_len 44 s.data.toList []).2
   have e : s.data.toList.length = s.size := by simp
   omega
theorem smP_num {s : ByteArray} (h : smP s) : dgP s 10 ∧ numL s.data.toList < 2147483647 ∧ s.data.toList = Lib.decDigits (numL s.data.toList) := by
 obtain ⟨n, h1, h2⟩ := h
 have e : numL s.data.toList = n := by rw [h2, numL_dec]
 exact ⟨dgP_dec (d := 9) h2 (by omega), by rw [e]; exact h1, by rw [e]; exact h2⟩
theorem timV_t {s : ByteArray} (h : tmP s) : timV s = (numL s.data.toList : Int) := by unfold timV; rw [pb_t h]; rfl
theorem rqP_bare {r : Rq} (h : rqP r) : rqP (ckB r) := by
 obtain ⟨h1, h2, h3, h4, h5, h6, h7⟩ := h
 exact ⟨h1, h2, ⟨Nat.le_trans (Nat.sub_le _ _) h3.1, fun i hi k hk => h3.2 i (Nat.lt_of_lt_of_le hi (Nat.sub_le _ _)) k hk⟩, h4, h5, fun i hi => h6 i (Nat.lt_of_lt_of_le hi (Nat.sub_le _ _)), h7⟩
end Go.Proofs.YtkcjigelenofhaaGreatDoor
namespace Go.Proofs.YtkcjigelenofhaaGreatDoor
open Go.RowKit
set_option linter.unusedVariables false
def tco0 : Oper := ⟨some 104, .fieldAddr 25 (.tmp 15) 4, 0, "laws.go:815", #[], none⟩
def tco1 : Oper := ⟨some 105, .load 9 (.tmp 104), 9, "laws.go:815", #[⟨0, .data⟩], none⟩
def tco2 : Oper := ⟨some 106, .call { callee := .value (.func 14), args := #[.tmp 105, .const (.int .i64 3)], argTypes := #[9, 2] }, 2, "laws.go:815", #[⟨1, .data⟩], none⟩
def tco3 : Oper := ⟨some 107, .fieldAddr 25 (.tmp 10) 4, 0, "laws.go:815", #[], none⟩
def tco4 : Oper := ⟨some 108, .load 9 (.tmp 107), 9, "laws.go:815", #[⟨3, .data⟩], none⟩
def tco5 : Oper := ⟨some 109, .call { callee := .value (.func 14), args := #[.tmp 108, .const (.int .i64 3)], argTypes := #[9, 2] }, 2, "laws.go:815", #[⟨4, .data⟩, ⟨2, .chain⟩], none⟩
def tco6 : Oper := ⟨some 110, .binOp .neq 2 (.tmp 106) (.tmp 109) 2, 4, "laws.go:815", #[⟨2, .data⟩, ⟨5, .data⟩], none⟩
def tco7 : Oper := ⟨some 111, .move (.tmp 110), 4, "laws.go:815", #[⟨6, .data⟩, ⟨5, .chain⟩], none⟩
def tco8 : Oper := ⟨some 112, .load 25 (.tmp 15), 25, "laws.go:815", #[⟨7, .guard⟩], some (7, true)⟩
def tco9 : Oper := ⟨some 113, .move (.tmp 11), 33, "laws.go:815", #[⟨7, .guard⟩], some (7, true)⟩
def tco10 : Oper := ⟨some 114, .move (.tmp 8), 2, "laws.go:815", #[⟨7, .guard⟩], some (7, true)⟩
def tco11 : Oper := ⟨some 115, .call { callee := .value (.func 11), args := #[.tmp 112, .tmp 113, .tmp 114], argTypes := #[25, 33, 2] }, 35, "laws.go:815", #[⟨8, .data⟩, ⟨9, .data⟩, ⟨10, .data⟩, ⟨7, .chain⟩, ⟨7, .guard⟩], some (7, true)⟩
def tco12 : Oper := ⟨some 116, .field 35 (.tmp 115) 0, 2, "laws.go:815", #[⟨11, .data⟩, ⟨7, .guard⟩], some (7, true)⟩
def tco13 : Oper := ⟨some 117, .load 25 (.tmp 15), 25, "laws.go:815", #[⟨7, .guard⟩], some (7, true)⟩
def tco14 : Oper := ⟨some 118, .move (.tmp 11), 33, "laws.go:815", #[⟨7, .guard⟩], some (7, true)⟩
def tco15 : Oper := ⟨some 119, .move (.tmp 8), 2, "laws.go:815", #[⟨7, .guard⟩], some (7, true)⟩
def tco16 : Oper := ⟨some 120, .call { callee := .value (.func 15), args := #[.tmp 117, .tmp 118, .tmp 119], argTypes := #[25, 33, 2] }, 35, "laws.go:815", #[⟨13, .data⟩, ⟨14, .data⟩, ⟨15, .data⟩, ⟨11, .chain⟩, ⟨7, .guard⟩], some (7, true)⟩
def tco17 : Oper := ⟨some 121, .field 35 (.tmp 120) 0, 2, "laws.go:815", #[⟨16, .data⟩, ⟨7, .guard⟩], some (7, true)⟩
def tco18 : Oper := ⟨some 122, .binOp .eql 2 (.tmp 116) (.tmp 121) 2, 4, "laws.go:815", #[⟨12, .data⟩, ⟨17, .data⟩, ⟨7, .guard⟩], some (7, true)⟩
def tco19 : Oper := ⟨some 123, .pick (.tmp 111) (.tmp 122) (.const (.bool false)), 4, "laws.go:815", #[⟨7, .data⟩, ⟨18, .data⟩], none⟩
def tco20 : Oper := ⟨some 4, .assign (.tmp 123), 4, "laws.go:815", #[⟨19, .data⟩, ⟨16, .chain⟩, ⟨0, .phase⟩, ⟨1, .phase⟩, ⟨2, .phase⟩, ⟨3, .phase⟩, ⟨4, .phase⟩, ⟨5, .phase⟩, ⟨6, .phase⟩, ⟨7, .phase⟩, ⟨8, .phase⟩, ⟨9, .phase⟩, ⟨10, .phase⟩, ⟨11, .phase⟩, ⟨12, .phase⟩, ⟨13, .phase⟩, ⟨14, .phase⟩, ⟨15, .phase⟩, ⟨16, .phase⟩, ⟨17, .phase⟩, ⟨18, .phase⟩, ⟨19, .phase⟩], none⟩
def tcO : Array Oper := #[tco0, tco1, tco2, tco3, tco4, tco5, tco6, tco7, tco8, tco9, tco10, tco11, tco12, tco13, tco14, tco15, tco16, tco17, tco18, tco19, tco20]
structure tcP where
 (w0 : World)
 (X10 X15 XK : Nat)
 (mt pt bd t8 RI : ByteArray)
 (aq : Option Addr)
 (nq cq : Nat)
 (ah : Option Addr)
 (nh ch : Nat)
 (nw S1 S2 RC : Int)
 (sa sb sc sd se sf sh si sk so sp sq ss su sv sw sx sy sz ta tb tc td te tf tg th ti tj tk tl tm tn tp tr tt tu tv tw tx ty tz ua ub uc ud ue uf ug uh ui uj uk ul um un uo up uq ur us ut uu uv uw ux uy uz va vb vc vd ve vf vg vh vi vj vk vl vm vn vo vp vq vr vs vt vu vv vw vx vy vz xa xb xc xd xe xf xg xh xi xj xk xl xm xn xo xp xq xr xt xu xv xw xx xy xz ya : Value)
def tcT (P : tcP) (dm : Nat) (b0 b1 b2 b3 b4 b5 b6 b7 b8 b9 b10 b11 b12 b13 b14 b15 b16 b17 b18 b19 b20 : Bool) : Array Value := #[P.sa, P.sb, P.sc, P.sd, selS b20 (.bool true) (P.se), P.sf, P.sh, P.si, .int .i64 P.nw, P.sk, .pointer (some ⟨P.X10, 0, none⟩), .slice (some ⟨P.XK, 0, none⟩) 1 1, P.so, P.sp, P.sq, .pointer (some ⟨P.X15, 0, none⟩), P.ss, P.su, P.sv, P.sw, P.sx, P.sy, P.sz, P.ta, P.tb, P.tc, P.td, P.te, P.tf, P.tg, P.th, P.ti, P.tj, P.tk, P.tl, P.tm, P.tn, P.tp, P.tr, P.tt, P.tu, P.tv, P.tw, P.tx, P.ty, P.tz, P.ua, P.ub, P.uc, P.ud, P.ue, P.uf, P.ug, P.uh, P.ui, P.uj, P.uk, P.ul, P.um, P.un, P.uo, P.up, P.uq, P.ur, P.us, P.ut, P.uu, P.uv, P.uw, P.ux, P.uy, P.uz, P.va, P.vb, P.vc, P.vd, P.ve, P.vf, P.vg, P.vh, P.vi, P.vj, P.vk, P.vl, P.vm, P.vn, P.vo, P.vp, P.vq, P.vr, P.vs, P.vt, P.vu, P.vv, P.vw, P.vx, P.vy, P.vz, P.xa, P.xb, P.xc, P.xd, P.xe, P.xf, selS b0 (.pointer (some ⟨P.X15, 4, none⟩)) (P.xg), selS b1 (.string P.t8) (P.xh), selS b2 (.int .i64 P.S1) (P.xi), selS b3 (.pointer (some ⟨P.X10, 4, none⟩)) (P.xj), selS b4 (.string P.bd) (P.xk), selS b5 (.int .i64 P.S2) (P.xl), selS b6 (.bool true) (P.xm), selS b7 (.bool true) (P.xn), selS b8 (.agg #[.string P.mt, .string P.pt, .slice P.aq P.nq P.cq, .slice P.ah P.nh P.ch, .string P.t8]) (P.xo), selS b9 (.slice (some ⟨P.XK, 0, none⟩) 1 1) (P.xp), selS b10 (.int .i64 P.nw) (P.xq), selS b11 (.agg #[.int .i64 P.RC, .string P.RI]) (P.xr), selS b12 (.int .i64 P.RC) (P.xt), selS b13 (.agg #[.string P.mt, .string P.pt, .slice P.aq P.nq P.cq, .slice P.ah P.nh P.ch, .string P.t8]) (P.xu), selS b14 (.slice (some ⟨P.XK, 0, none⟩) 1 1) (P.xv), selS b15 (.int .i64 P.nw) (P.xw), selS b16 (.agg #[.int .i64 P.RC, .string P.RI]) (P.xx), selS b17 (.int .i64 P.RC) (P.xy), selS b18 (.bool true) (P.xz), selS b19 (.bool true) (P.ya)]
def tcF (P : tcP) (dm : Nat) (b0 b1 b2 b3 b4 b5 b6 b7 b8 b9 b10 b11 b12 b13 b14 b15 b16 b17 b18 b19 b20 : Bool) (w : World) : Prop := (Below P.w0.heap.size P.w0 w) ∧ (RowAt w P.X10 25 #[.string P.mt, .string P.pt, .slice P.aq P.nq P.cq, .slice P.ah P.nh P.ch, .string P.bd]) ∧ (RowAt w P.X15 25 #[.string P.mt, .string P.pt, .slice P.aq P.nq P.cq, .slice P.ah P.nh P.ch, .string P.t8]) ∧ (∀ wx, Calls Tryz.prog 14 #[.string P.t8, .int .i64 3] wx fun e w' => e = .returned (.int .i64 P.S1) ∧ w' = wx) ∧ (∀ wx, Calls Tryz.prog 14 #[.string P.bd, .int .i64 3] wx fun e w' => e = .returned (.int .i64 P.S2) ∧ w' = wx) ∧ (∀ wx, Below P.w0.heap.size P.w0 wx → Calls Tryz.prog 11 #[.agg #[.string P.mt, .string P.pt, .slice P.aq P.nq P.cq, .slice P.ah P.nh P.ch, .string P.t8], .slice (some ⟨P.XK, 0, none⟩) 1 1, .int .i64 P.nw] wx fun e w' => e = .returned (.agg #[.int .i64 P.RC, .string P.RI]) ∧ Below wx.heap.size wx w') ∧ (∀ wx, Below P.w0.heap.size P.w0 wx → Calls Tryz.prog 15 #[.agg #[.string P.mt, .string P.pt, .slice P.aq P.nq P.cq, .slice P.ah P.nh P.ch, .string P.t8], .slice (some ⟨P.XK, 0, none⟩) 1 1, .int .i64 P.nw] wx fun e w' => e = .returned (.agg #[.int .i64 P.RC, .string P.RI]) ∧ Below wx.heap.size wx w') ∧ (¬ P.S1 = P.S2) ∧ ((P.S1 != P.S2) = true) ∧ ((P.S1 == P.S2) = false)
def tcI (P : tcP) (l : Array Bool) (f : Act) (w : World) : Prop :=
 ∃ (b0 b1 b2 b3 b4 b5 b6 b7 b8 b9 b10 b11 b12 b13 b14 b15 b16 b17 b18 b19 b20 : Bool) (dm : Nat), l = #[b0, b1, b2, b3, b4, b5, b6, b7, b8, b9, b10, b11, b12, b13, b14, b15, b16, b17, b18, b19, b20] ∧ f = { tmps := tcT P dm b0 b1 b2 b3 b4 b5 b6 b7 b8 b9 b10 b11 b12 b13 b14 b15 b16 b17 b18 b19 b20, defers := [] } ∧ tcF P dm b0 b1 b2 b3 b4 b5 b6 b7 b8 b9 b10 b11 b12 b13 b14 b15 b16 b17 b18 b19 b20 w
theorem tcM {P : tcP} {b0 b1 b2 b3 b4 b5 b6 b7 b8 b9 b10 b11 b12 b13 b14 b15 b16 b17 b18 b19 b20 : Bool} (dm : Nat) {l : Array Bool} {f : Act} {w : World} (hl : l = #[b0, b1, b2, b3, b4, b5, b6, b7, b8, b9, b10, b11, b12, b13, b14, b15, b16, b17, b18, b19, b20]) (hf : f = { tmps := tcT P dm b0 b1 b2 b3 b4 b5 b6 b7 b8 b9 b10 b11 b12 b13 b14 b15 b16 b17 b18 b19 b20, defers := [] }) (h : tcF P dm b0 b1 b2 b3 b4 b5 b6 b7 b8 b9 b10 b11 b12 b13 b14 b15 b16 b17 b18 b19 b20 w) : tcI P l f w := ⟨b0, b1, b2, b3, b4, b5, b6, b7, b8, b9, b10, b11, b12, b13, b14, b15, b16, b17, b18, b19, b20, dm, hl, hf, h⟩
set_option maxRecDepth 20000 in
set_option maxHeartbeats 20000000 in
theorem tc_step {Q : Exit → Act → World → Prop} (P : tcP) (l : Array Bool) (f : Act) (w : World) (hC : Closed tcO l) (hI : tcI P l f w) (i : Nat) (h0 : l.getD i true = false) (o : Oper) (ho : tcO[i]? = some o) (h1 : ∀ e ∈ o.after, Region.binds .any e = true → l.getD e.on false = true) : wpOp Tryz.prog tcO Q i (tcI P (l.setIfInBounds i true)) f w := by
 obtain ⟨b0, b1, b2, b3, b4, b5, b6, b7, b8, b9, b10, b11, b12, b13, b14, b15, b16, b17, b18, b19, b20, dm, rfl, rfl, hF⟩ := hI
 have hi : i < 21 := by
  rcases Nat.lt_or_ge i 21 with h | h
  · exact h
  · rw [show tcO[i]? = none from Array.getElem?_eq_none h] at ho; cases ho
 rcases (by omega : i = 0 ∨ i = 1 ∨ i = 2 ∨ i = 3 ∨ i = 4 ∨ i = 5 ∨ i = 6 ∨ i = 7 ∨ i = 8 ∨ i = 9 ∨ i = 10 ∨ i = 11 ∨ i = 12 ∨ i = 13 ∨ i = 14 ∨ i = 15 ∨ i = 16 ∨ i = 17 ∨ i = 18 ∨ i = 19 ∨ i = 20) with rfl | rfl | rfl | rfl | rfl | rfl | rfl | rfl | rfl | rfl | rfl | rfl | rfl | rfl | rfl | rfl | rfl | rfl | rfl | rfl | rfl
 · obtain rfl : tco0 = o := Option.some.inj ho
   obtain rfl : b0 = false := h0
   have hn := wayN_all hC (i := 0) rfl [(1, 0), (2, 1), (5, 2), (6, 2), (7, 5), (8, 7), (9, 7), (10, 7), (11, 7), (12, 7), (13, 7), (14, 7), (15, 7), (16, 7), (17, 7), (18, 7), (19, 7), (20, 0)] [] nk rfl; repeat (obtain ⟨rfl, hn⟩ := hn)
   obtain ⟨hB, hx10, hx15, hk1, hk2, hki, hks, hne, hnb, hne2⟩ := hF
   refine wpOp_step (o := tco0) rfl (fun K hK => ?_)
   replace hK := hid hK
   simp only [tco0, tcT, selS_f]
   go_simp
   exact hK.out _ _ (tcM dm rfl rfl ⟨hB, hx10, hx15, hk1, hk2, hki, hks, hne, hnb, hne2⟩)
 · obtain rfl : tco1 = o := Option.some.inj ho
   obtain rfl : b1 = false := h0
   have hn := wayP_all (o := tco1) hC h1 [(0, none)] [] nk rfl; repeat (obtain ⟨rfl, hn⟩ := hn)
   have hn := wayN_all hC (i := 1) rfl [(2, 1), (5, 2), (6, 2), (7, 5), (8, 7), (9, 7), (10, 7), (11, 7), (12, 7), (13, 7), (14, 7), (15, 7), (16, 7), (17, 7), (18, 7), (19, 7), (20, 1)] [] nk rfl; repeat (obtain ⟨rfl, hn⟩ := hn)
   obtain ⟨hB, hx10, hx15, hk1, hk2, hki, hks, hne, hnb, hne2⟩ := hF
   have q4 := hx15.cell 4
   refine wpOp_step (o := tco1) rfl (fun K hK => ?_)
   replace hK := hid hK
   simp only [tco1, tcT, selS_t, selS_f]
   go_simp
   exact hK.out _ _ (tcM dm rfl rfl ⟨hB, hx10, hx15, hk1, hk2, hki, hks, hne, hnb, hne2⟩)
 · obtain rfl : tco2 = o := Option.some.inj ho
   obtain rfl : b2 = false := h0
   have hn := wayP_all (o := tco2) hC h1 [(1, none), (0, some 1)] [] nk rfl; repeat (obtain ⟨rfl, hn⟩ := hn)
   have hn := wayN_all hC (i := 2) rfl [(5, 2), (6, 2), (7, 5), (8, 7), (9, 7), (10, 7), (11, 7), (12, 7), (13, 7), (14, 7), (15, 7), (16, 7), (17, 7), (18, 7), (19, 7), (20, 2)] [] nk rfl; repeat (obtain ⟨rfl, hn⟩ := hn)
   obtain ⟨hB, hx10, hx15, hk1, hk2, hki, hks, hne, hnb, hne2⟩ := hF
   refine wpOp_step (o := tco2) rfl (fun K hK => ?_)
   replace hK := hid hK
   simp only [tco2, tcT, selS_t, selS_f]
   go_simp
   refine (hk1 _).mono ?_
   rintro e w2 ⟨rfl, rfl⟩
   dsimp only
   exact hK.out _ _ (tcM dm rfl rfl ⟨hB, hx10, hx15, hk1, hk2, hki, hks, hne, hnb, hne2⟩)
 · obtain rfl : tco3 = o := Option.some.inj ho
   obtain rfl : b3 = false := h0
   have hn := wayN_all hC (i := 3) rfl [(4, 3), (5, 4), (6, 5), (7, 5), (8, 7), (9, 7), (10, 7), (11, 7), (12, 7), (13, 7), (14, 7), (15, 7), (16, 7), (17, 7), (18, 7), (19, 7), (20, 3)] [] nk rfl; repeat (obtain ⟨rfl, hn⟩ := hn)
   obtain ⟨hB, hx10, hx15, hk1, hk2, hki, hks, hne, hnb, hne2⟩ := hF
   refine wpOp_step (o := tco3) rfl (fun K hK => ?_)
   replace hK := hid hK
   simp only [tco3, tcT, selS_f]
   go_simp
   exact hK.out _ _ (tcM dm rfl rfl ⟨hB, hx10, hx15, hk1, hk2, hki, hks, hne, hnb, hne2⟩)
 · obtain rfl : tco4 = o := Option.some.inj ho
   obtain rfl : b4 = false := h0
   have hn := wayP_all (o := tco4) hC h1 [(3, none)] [] nk rfl; repeat (obtain ⟨rfl, hn⟩ := hn)
   have hn := wayN_all hC (i := 4) rfl [(5, 4), (6, 5), (7, 5), (8, 7), (9, 7), (10, 7), (11, 7), (12, 7), (13, 7), (14, 7), (15, 7), (16, 7), (17, 7), (18, 7), (19, 7), (20, 4)] [] nk rfl; repeat (obtain ⟨rfl, hn⟩ := hn)
   obtain ⟨hB, hx10, hx15, hk1, hk2, hki, hks, hne, hnb, hne2⟩ := hF
   have q4 := hx10.cell 4
   refine wpOp_step (o := tco4) rfl (fun K hK => ?_)
   replace hK := hid hK
   simp only [tco4, tcT, selS_t, selS_f]
   go_simp
   exact hK.out _ _ (tcM dm rfl rfl ⟨hB, hx10, hx15, hk1, hk2, hki, hks, hne, hnb, hne2⟩)
 · obtain rfl : tco5 = o := Option.some.inj ho
   obtain rfl : b5 = false := h0
   have hn := wayP_all (o := tco5) hC h1 [(4, none), (2, none), (3, some 4), (1, some 2), (0, some 1)] [] nk rfl; repeat (obtain ⟨rfl, hn⟩ := hn)
   have hn := wayN_all hC (i := 5) rfl [(6, 5), (7, 5), (8, 7), (9, 7), (10, 7), (11, 7), (12, 7), (13, 7), (14, 7), (15, 7), (16, 7), (17, 7), (18, 7), (19, 7), (20, 5)] [] nk rfl; repeat (obtain ⟨rfl, hn⟩ := hn)
   obtain ⟨hB, hx10, hx15, hk1, hk2, hki, hks, hne, hnb, hne2⟩ := hF
   refine wpOp_step (o := tco5) rfl (fun K hK => ?_)
   replace hK := hid hK
   simp only [tco5, tcT, selS_t, selS_f]
   go_simp
   refine (hk2 _).mono ?_
   rintro e w2 ⟨rfl, rfl⟩
   dsimp only
   exact hK.out _ _ (tcM dm rfl rfl ⟨hB, hx10, hx15, hk1, hk2, hki, hks, hne, hnb, hne2⟩)
 · obtain rfl : tco6 = o := Option.some.inj ho
   obtain rfl : b6 = false := h0
   have hn := wayP_all (o := tco6) hC h1 [(5, none), (2, none), (4, some 5), (3, some 4), (1, some 2), (0, some 1)] [] nk rfl; repeat (obtain ⟨rfl, hn⟩ := hn)
   have hn := wayN_all hC (i := 6) rfl [(7, 6), (8, 7), (9, 7), (10, 7), (11, 7), (12, 7), (13, 7), (14, 7), (15, 7), (16, 7), (17, 7), (18, 7), (19, 7), (20, 6)] [] nk rfl; repeat (obtain ⟨rfl, hn⟩ := hn)
   obtain ⟨hB, hx10, hx15, hk1, hk2, hki, hks, hne, hnb, hne2⟩ := hF
   refine wpOp_step (o := tco6) rfl (fun K hK => ?_)
   replace hK := hid hK
   simp only [tco6, tcT, selS_t, selS_f]
   go_simp
   exact hK.out _ _ (tcM dm rfl rfl ⟨hB, hx10, hx15, hk1, hk2, hki, hks, hne, hnb, hne2⟩)
 · obtain rfl : tco7 = o := Option.some.inj ho
   obtain rfl : b7 = false := h0
   have hn := wayP_all (o := tco7) hC h1 [(6, none), (5, none), (2, some 6), (4, some 5), (3, some 4), (1, some 2), (0, some 1)] [] nk rfl; repeat (obtain ⟨rfl, hn⟩ := hn)
   have hn := wayN_all hC (i := 7) rfl [(8, 7), (9, 7), (10, 7), (11, 7), (12, 7), (13, 7), (14, 7), (15, 7), (16, 7), (17, 7), (18, 7), (19, 7), (20, 7)] [] nk rfl; repeat (obtain ⟨rfl, hn⟩ := hn)
   obtain ⟨hB, hx10, hx15, hk1, hk2, hki, hks, hne, hnb, hne2⟩ := hF
   refine wpOp_step (o := tco7) rfl (fun K hK => ?_)
   replace hK := hid hK
   simp only [tco7, tcT, selS_t, selS_f]
   go_simp
   exact hK.out _ _ (tcM dm rfl rfl ⟨hB, hx10, hx15, hk1, hk2, hki, hks, hne, hnb, hne2⟩)
 · obtain rfl : tco8 = o := Option.some.inj ho
   obtain rfl : b8 = false := h0
   have hn := wayP_all (o := tco8) hC h1 [(7, none), (5, some 7), (6, some 7), (2, some 6), (4, some 5), (3, some 4), (1, some 2), (0, some 1)] [] nk rfl; repeat (obtain ⟨rfl, hn⟩ := hn)
   have hn := wayN_all hC (i := 8) rfl [(11, 8), (12, 11), (16, 11), (17, 16), (18, 12), (19, 18), (20, 8)] [] nk rfl; repeat (obtain ⟨rfl, hn⟩ := hn)
   obtain ⟨hB, hx10, hx15, hk1, hk2, hki, hks, hne, hnb, hne2⟩ := hF
   have q0 := hx15.cell 0
   have q1 := hx15.cell 1
   have q2 := hx15.cell 2
   have q3 := hx15.cell 3
   have q4 := hx15.cell 4
   refine wpOp_step (o := tco8) rfl (fun K hK => ?_)
   replace hK := hid hK
   simp only [tco8, tcT, selS_t, selS_f]
   go_simp
   exact hK.out _ _ (tcM dm rfl rfl ⟨hB, hx10, hx15, hk1, hk2, hki, hks, hne, hnb, hne2⟩)
 · obtain rfl : tco9 = o := Option.some.inj ho
   obtain rfl : b9 = false := h0
   have hn := wayP_all (o := tco9) hC h1 [(7, none), (5, some 7), (6, some 7), (2, some 6), (4, some 5), (3, some 4), (1, some 2), (0, some 1)] [] nk rfl; repeat (obtain ⟨rfl, hn⟩ := hn)
   have hn := wayN_all hC (i := 9) rfl [(11, 9), (12, 11), (16, 11), (17, 16), (18, 12), (19, 18), (20, 9)] [] nk rfl; repeat (obtain ⟨rfl, hn⟩ := hn)
   obtain ⟨hB, hx10, hx15, hk1, hk2, hki, hks, hne, hnb, hne2⟩ := hF
   refine wpOp_step (o := tco9) rfl (fun K hK => ?_)
   replace hK := hid hK
   simp only [tco9, tcT, selS_t, selS_f]
   go_simp
   exact hK.out _ _ (tcM dm rfl rfl ⟨hB, hx10, hx15, hk1, hk2, hki, hks, hne, hnb, hne2⟩)
 · obtain rfl : tco10 = o := Option.some.inj ho
   obtain rfl : b10 = false := h0
   have hn := wayP_all (o := tco10) hC h1 [(7, none), (5, some 7), (6, some 7), (2, some 6), (4, some 5), (3, some 4), (1, some 2), (0, some 1)] [] nk rfl; repeat (obtain ⟨rfl, hn⟩ := hn)
   have hn := wayN_all hC (i := 10) rfl [(11, 10), (12, 11), (16, 11), (17, 16), (18, 12), (19, 18), (20, 10)] [] nk rfl; repeat (obtain ⟨rfl, hn⟩ := hn)
   obtain ⟨hB, hx10, hx15, hk1, hk2, hki, hks, hne, hnb, hne2⟩ := hF
   refine wpOp_step (o := tco10) rfl (fun K hK => ?_)
   replace hK := hid hK
   simp only [tco10, tcT, selS_t, selS_f]
   go_simp
   exact hK.out _ _ (tcM dm rfl rfl ⟨hB, hx10, hx15, hk1, hk2, hki, hks, hne, hnb, hne2⟩)
 · obtain rfl : tco11 = o := Option.some.inj ho
   obtain rfl : b11 = false := h0
   have hn := wayP_all (o := tco11) hC h1 [(10, none), (9, none), (8, none), (7, none), (5, some 7), (6, some 7), (2, some 6), (4, some 5), (3, some 4), (1, some 2), (0, some 1)] [] nk rfl; repeat (obtain ⟨rfl, hn⟩ := hn)
   have hn := wayN_all hC (i := 11) rfl [(12, 11), (16, 11), (17, 16), (18, 12), (19, 18), (20, 11)] [] nk rfl; repeat (obtain ⟨rfl, hn⟩ := hn)
   obtain ⟨hB, hx10, hx15, hk1, hk2, hki, hks, hne, hnb, hne2⟩ := hF
   refine wpOp_step (o := tco11) rfl (fun K hK => ?_)
   replace hK := hid hK
   simp only [tco11, tcT, selS_t, selS_f]
   go_simp
   refine (hki _ hB).mono ?_
   rintro e w2 ⟨rfl, hb2⟩
   dsimp only
   exact hK.out _ _ (tcM dm rfl rfl ⟨hB.trans (hb2.mono hB.size), RowAt.nxS hb2 hx10, RowAt.nxS hb2 hx15, hk1, hk2, hki, hks, hne, hnb, hne2⟩)
 · obtain rfl : tco12 = o := Option.some.inj ho
   obtain rfl : b12 = false := h0
   have hn := wayP_all (o := tco12) hC h1 [(11, none), (7, none), (8, some 11), (9, some 11), (10, some 11), (5, some 7), (6, some 7), (2, some 6), (4, some 5), (3, some 4), (1, some 2), (0, some 1)] [] nk rfl; repeat (obtain ⟨rfl, hn⟩ := hn)
   have hn := wayN_all hC (i := 12) rfl [(18, 12), (19, 18), (20, 12)] [] nk rfl; repeat (obtain ⟨rfl, hn⟩ := hn)
   obtain ⟨hB, hx10, hx15, hk1, hk2, hki, hks, hne, hnb, hne2⟩ := hF
   refine wpOp_step (o := tco12) rfl (fun K hK => ?_)
   replace hK := hid hK
   simp only [tco12, tcT, selS_t, selS_f]
   go_simp
   exact hK.out _ _ (tcM dm rfl rfl ⟨hB, hx10, hx15, hk1, hk2, hki, hks, hne, hnb, hne2⟩)
 · obtain rfl : tco13 = o := Option.some.inj ho
   obtain rfl : b13 = false := h0
   have hn := wayP_all (o := tco13) hC h1 [(7, none), (5, some 7), (6, some 7), (2, some 6), (4, some 5), (3, some 4), (1, some 2), (0, some 1)] [] nk rfl; repeat (obtain ⟨rfl, hn⟩ := hn)
   have hn := wayN_all hC (i := 13) rfl [(16, 13), (17, 16), (18, 17), (19, 18), (20, 13)] [] nk rfl; repeat (obtain ⟨rfl, hn⟩ := hn)
   obtain ⟨hB, hx10, hx15, hk1, hk2, hki, hks, hne, hnb, hne2⟩ := hF
   have q0 := hx15.cell 0
   have q1 := hx15.cell 1
   have q2 := hx15.cell 2
   have q3 := hx15.cell 3
   have q4 := hx15.cell 4
   refine wpOp_step (o := tco13) rfl (fun K hK => ?_)
   replace hK := hid hK
   simp only [tco13, tcT, selS_t, selS_f]
   go_simp
   exact hK.out _ _ (tcM dm rfl rfl ⟨hB, hx10, hx15, hk1, hk2, hki, hks, hne, hnb, hne2⟩)
 · obtain rfl : tco14 = o := Option.some.inj ho
   obtain rfl : b14 = false := h0
   have hn := wayP_all (o := tco14) hC h1 [(7, none), (5, some 7), (6, some 7), (2, some 6), (4, some 5), (3, some 4), (1, some 2), (0, some 1)] [] nk rfl; repeat (obtain ⟨rfl, hn⟩ := hn)
   have hn := wayN_all hC (i := 14) rfl [(16, 14), (17, 16), (18, 17), (19, 18), (20, 14)] [] nk rfl; repeat (obtain ⟨rfl, hn⟩ := hn)
   obtain ⟨hB, hx10, hx15, hk1, hk2, hki, hks, hne, hnb, hne2⟩ := hF
   refine wpOp_step (o := tco14) rfl (fun K hK => ?_)
   replace hK := hid hK
   simp only [tco14, tcT, selS_t, selS_f]
   go_simp
   exact hK.out _ _ (tcM dm rfl rfl ⟨hB, hx10, hx15, hk1, hk2, hki, hks, hne, hnb, hne2⟩)
 · obtain rfl : tco15 = o := Option.some.inj ho
   obtain rfl : b15 = false := h0
   have hn := wayP_all (o := tco15) hC h1 [(7, none), (5, some 7), (6, some 7), (2, some 6), (4, some 5), (3, some 4), (1, some 2), (0, some 1)] [] nk rfl; repeat (obtain ⟨rfl, hn⟩ := hn)
   have hn := wayN_all hC (i := 15) rfl [(16, 15), (17, 16), (18, 17), (19, 18), (20, 15)] [] nk rfl; repeat (obtain ⟨rfl, hn⟩ := hn)
   obtain ⟨hB, hx10, hx15, hk1, hk2, hki, hks, hne, hnb, hne2⟩ := hF
   refine wpOp_step (o := tco15) rfl (fun K hK => ?_)
   replace hK := hid hK
   simp only [tco15, tcT, selS_t, selS_f]
   go_simp
   exact hK.out _ _ (tcM dm rfl rfl ⟨hB, hx10, hx15, hk1, hk2, hki, hks, hne, hnb, hne2⟩)
 · obtain rfl : tco16 = o := Option.some.inj ho
   obtain rfl : b16 = false := h0
   have hn := wayP_all (o := tco16) hC h1 [(15, none), (14, none), (13, none), (11, none), (7, none), (8, some 11), (9, some 11), (10, some 11), (5, some 7), (6, some 7), (2, some 6), (4, some 5), (3, some 4), (1, some 2), (0, some 1)] [] nk rfl; repeat (obtain ⟨rfl, hn⟩ := hn)
   have hn := wayN_all hC (i := 16) rfl [(17, 16), (18, 17), (19, 18), (20, 16)] [] nk rfl; repeat (obtain ⟨rfl, hn⟩ := hn)
   obtain ⟨hB, hx10, hx15, hk1, hk2, hki, hks, hne, hnb, hne2⟩ := hF
   refine wpOp_step (o := tco16) rfl (fun K hK => ?_)
   replace hK := hid hK
   simp only [tco16, tcT, selS_t, selS_f]
   go_simp
   refine (hks _ hB).mono ?_
   rintro e w2 ⟨rfl, hb2⟩
   dsimp only
   exact hK.out _ _ (tcM dm rfl rfl ⟨hB.trans (hb2.mono hB.size), RowAt.nxS hb2 hx10, RowAt.nxS hb2 hx15, hk1, hk2, hki, hks, hne, hnb, hne2⟩)
 · obtain rfl : tco17 = o := Option.some.inj ho
   obtain rfl : b17 = false := h0
   have hn := wayP_all (o := tco17) hC h1 [(16, none), (7, none), (11, some 16), (13, some 16), (14, some 16), (15, some 16), (8, some 11), (9, some 11), (10, some 11), (5, some 7), (6, some 7), (2, some 6), (4, some 5), (3, some 4), (1, some 2), (0, some 1)] [] nk rfl; repeat (obtain ⟨rfl, hn⟩ := hn)
   have hn := wayN_all hC (i := 17) rfl [(18, 17), (19, 18), (20, 17)] [] nk rfl; repeat (obtain ⟨rfl, hn⟩ := hn)
   obtain ⟨hB, hx10, hx15, hk1, hk2, hki, hks, hne, hnb, hne2⟩ := hF
   refine wpOp_step (o := tco17) rfl (fun K hK => ?_)
   replace hK := hid hK
   simp only [tco17, tcT, selS_t, selS_f]
   go_simp
   exact hK.out _ _ (tcM dm rfl rfl ⟨hB, hx10, hx15, hk1, hk2, hki, hks, hne, hnb, hne2⟩)
 · obtain rfl : tco18 = o := Option.some.inj ho
   obtain rfl : b18 = false := h0
   have hn := wayP_all (o := tco18) hC h1 [(17, none), (12, none), (7, none), (16, some 17), (11, some 16), (13, some 16), (14, some 16), (15, some 16), (8, some 11), (9, some 11), (10, some 11), (5, some 7), (6, some 7), (2, some 6), (4, some 5), (3, some 4), (1, some 2), (0, some 1)] [] nk rfl; repeat (obtain ⟨rfl, hn⟩ := hn)
   have hn := wayN_all hC (i := 18) rfl [(19, 18), (20, 18)] [] nk rfl; repeat (obtain ⟨rfl, hn⟩ := hn)
   obtain ⟨hB, hx10, hx15, hk1, hk2, hki, hks, hne, hnb, hne2⟩ := hF
   refine wpOp_step (o := tco18) rfl (fun K hK => ?_)
   replace hK := hid hK
   simp only [tco18, tcT, selS_t, selS_f]
   go_simp
   exact hK.out _ _ (tcM dm rfl rfl ⟨hB, hx10, hx15, hk1, hk2, hki, hks, hne, hnb, hne2⟩)
 · obtain rfl : tco19 = o := Option.some.inj ho
   obtain rfl : b19 = false := h0
   have hn := wayP_all (o := tco19) hC h1 [(18, none), (7, none), (12, some 18), (17, some 18), (16, some 17), (11, some 16), (13, some 16), (14, some 16), (15, some 16), (8, some 11), (9, some 11), (10, some 11), (5, some 7), (6, some 7), (2, some 6), (4, some 5), (3, some 4), (1, some 2), (0, some 1)] [] nk rfl; repeat (obtain ⟨rfl, hn⟩ := hn)
   have hn := wayN_all hC (i := 19) rfl [(20, 19)] [] nk rfl; repeat (obtain ⟨rfl, hn⟩ := hn)
   obtain ⟨hB, hx10, hx15, hk1, hk2, hki, hks, hne, hnb, hne2⟩ := hF
   refine wpOp_step (o := tco19) rfl (fun K hK => ?_)
   replace hK := hid hK
   simp only [tco19, tcT, selS_t, selS_f]
   go_simp
   exact hK.out _ _ (tcM dm rfl rfl ⟨hB, hx10, hx15, hk1, hk2, hki, hks, hne, hnb, hne2⟩)
 · obtain rfl : tco20 = o := Option.some.inj ho
   obtain rfl : b20 = false := h0
   have hn := wayP_all (o := tco20) hC h1 [(19, none), (18, none), (17, none), (16, none), (15, none), (14, none), (13, none), (12, none), (11, none), (10, none), (9, none), (8, none), (7, none), (6, none), (5, none), (4, none), (3, none), (2, none), (1, none), (0, none)] [] nk rfl; repeat (obtain ⟨rfl, hn⟩ := hn)
   obtain ⟨hB, hx10, hx15, hk1, hk2, hki, hks, hne, hnb, hne2⟩ := hF
   refine wpOp_step (o := tco20) rfl (fun K hK => ?_)
   replace hK := hid hK
   simp only [tco20, tcT, selS_t, selS_f]
   go_simp
   exact hK.out _ _ (tcM dm rfl rfl ⟨hB, hx10, hx15, hk1, hk2, hki, hks, hne, hnb, hne2⟩)
set_option maxRecDepth 20000 in
set_option maxHeartbeats 4000000 in
theorem tc_wp {Q : Exit → Act → World → Prop} {rid : Nat} (w0 : World) (X10 X15 XK : Nat) (mt pt bd t8 RI : ByteArray) (aq : Option Addr) (nq cq : Nat) (ah : Option Addr) (nh ch : Nat) (nw S1 S2 RC : Int) {sa sb sc sd se sf sh si sk so sp sq ss su sv sw sx sy sz ta tb tc td te tf tg th ti tj tk tl tm tn tp tr tt tu tv tw tx ty tz ua ub uc ud ue uf ug uh ui uj uk ul um un uo up uq ur us ut uu uv uw ux uy uz va vb vc vd ve vf vg vh vi vj vk vl vm vn vo vp vq vr vs vt vu vv vw vx vy vz xa xb xc xd xe xf xg xh xi xj xk xl xm xn xo xp xq xr xt xu xv xw xx xy xz ya : Value} (w : World) (hB : Below w0.heap.size w0 w) (hx10 : RowAt w X10 25 #[.string mt, .string pt, .slice aq nq cq, .slice ah nh ch, .string bd]) (hx15 : RowAt w X15 25 #[.string mt, .string pt, .slice aq nq cq, .slice ah nh ch, .string t8]) (hk1 : ∀ wx, Calls Tryz.prog 14 #[.string t8, .int .i64 3] wx fun e w' => e = .returned (.int .i64 S1) ∧ w' = wx) (hk2 : ∀ wx, Calls Tryz.prog 14 #[.string bd, .int .i64 3] wx fun e w' => e = .returned (.int .i64 S2) ∧ w' = wx) (hki : ∀ wx, Below w0.heap.size w0 wx → Calls Tryz.prog 11 #[.agg #[.string mt, .string pt, .slice aq nq cq, .slice ah nh ch, .string t8], .slice (some ⟨XK, 0, none⟩) 1 1, .int .i64 nw] wx fun e w' => e = .returned (.agg #[.int .i64 RC, .string RI]) ∧ Below wx.heap.size wx w') (hks : ∀ wx, Below w0.heap.size w0 wx → Calls Tryz.prog 15 #[.agg #[.string mt, .string pt, .slice aq nq cq, .slice ah nh ch, .string t8], .slice (some ⟨XK, 0, none⟩) 1 1, .int .i64 nw] wx fun e w' => e = .returned (.agg #[.int .i64 RC, .string RI]) ∧ Below wx.heap.size wx w') (hne : ¬ S1 = S2) (hnb : (S1 != S2) = true) (hne2 : (S1 == S2) = false)
 (fin : ∀ (dm : Nat) (w' : World), (Below w0.heap.size w0 w') → (RowAt w' X10 25 #[.string mt, .string pt, .slice aq nq cq, .slice ah nh ch, .string bd]) → (RowAt w' X15 25 #[.string mt, .string pt, .slice aq nq cq, .slice ah nh ch, .string t8]) → (∀ wx, Calls Tryz.prog 14 #[.string t8, .int .i64 3] wx fun e w' => e = .returned (.int .i64 S1) ∧ w' = wx) → (∀ wx, Calls Tryz.prog 14 #[.string bd, .int .i64 3] wx fun e w' => e = .returned (.int .i64 S2) ∧ w' = wx) → (∀ wx, Below w0.heap.size w0 wx → Calls Tryz.prog 11 #[.agg #[.string mt, .string pt, .slice aq nq cq, .slice ah nh ch, .string t8], .slice (some ⟨XK, 0, none⟩) 1 1, .int .i64 nw] wx fun e w' => e = .returned (.agg #[.int .i64 RC, .string RI]) ∧ Below wx.heap.size wx w') → (∀ wx, Below w0.heap.size w0 wx → Calls Tryz.prog 15 #[.agg #[.string mt, .string pt, .slice aq nq cq, .slice ah nh ch, .string t8], .slice (some ⟨XK, 0, none⟩) 1 1, .int .i64 nw] wx fun e w' => e = .returned (.agg #[.int .i64 RC, .string RI]) ∧ Below wx.heap.size wx w') → (¬ S1 = S2) → ((S1 != S2) = true) → ((S1 == S2) = false) → Q .normal { tmps := #[sa, sb, sc, sd, .bool true, sf, sh, si, .int .i64 nw, sk, .pointer (some ⟨X10, 0, none⟩), .slice (some ⟨XK, 0, none⟩) 1 1, so, sp, sq, .pointer (some ⟨X15, 0, none⟩), ss, su, sv, sw, sx, sy, sz, ta, tb, tc, td, te, tf, tg, th, ti, tj, tk, tl, tm, tn, tp, tr, tt, tu, tv, tw, tx, ty, tz, ua, ub, uc, ud, ue, uf, ug, uh, ui, uj, uk, ul, um, un, uo, up, uq, ur, us, ut, uu, uv, uw, ux, uy, uz, va, vb, vc, vd, ve, vf, vg, vh, vi, vj, vk, vl, vm, vn, vo, vp, vq, vr, vs, vt, vu, vv, vw, vx, vy, vz, xa, xb, xc, xd, xe, xf, .pointer (some ⟨X15, 4, none⟩), .string t8, .int .i64 S1, .pointer (some ⟨X10, 4, none⟩), .string bd, .int .i64 S2, .bool true, .bool true, .agg #[.string mt, .string pt, .slice aq nq cq, .slice ah nh ch, .string t8], .slice (some ⟨XK, 0, none⟩) 1 1, .int .i64 nw, .agg #[.int .i64 RC, .string RI], .int .i64 RC, .agg #[.string mt, .string pt, .slice aq nq cq, .slice ah nh ch, .string t8], .slice (some ⟨XK, 0, none⟩) 1 1, .int .i64 nw, .agg #[.int .i64 RC, .string RI], .int .i64 RC, .bool true, .bool true], defers := [] } w') :
 (Code.region rid tcO true).wp Tryz.prog Q { tmps := #[sa, sb, sc, sd, se, sf, sh, si, .int .i64 nw, sk, .pointer (some ⟨X10, 0, none⟩), .slice (some ⟨XK, 0, none⟩) 1 1, so, sp, sq, .pointer (some ⟨X15, 0, none⟩), ss, su, sv, sw, sx, sy, sz, ta, tb, tc, td, te, tf, tg, th, ti, tj, tk, tl, tm, tn, tp, tr, tt, tu, tv, tw, tx, ty, tz, ua, ub, uc, ud, ue, uf, ug, uh, ui, uj, uk, ul, um, un, uo, up, uq, ur, us, ut, uu, uv, uw, ux, uy, uz, va, vb, vc, vd, ve, vf, vg, vh, vi, vj, vk, vl, vm, vn, vo, vp, vq, vr, vs, vt, vu, vv, vw, vx, vy, vz, xa, xb, xc, xd, xe, xf, xg, xh, xi, xj, xk, xl, xm, xn, xo, xp, xq, xr, xt, xu, xv, xw, xx, xy, xz, ya], defers := [] } w := by
 refine wp_region_inv (ops := tcO) (tcI ⟨w0, X10, X15, XK, mt, pt, bd, t8, RI, aq, nq, cq, ah, nh, ch, nw, S1, S2, RC, sa, sb, sc, sd, se, sf, sh, si, sk, so, sp, sq, ss, su, sv, sw, sx, sy, sz, ta, tb, tc, td, te, tf, tg, th, ti, tj, tk, tl, tm, tn, tp, tr, tt, tu, tv, tw, tx, ty, tz, ua, ub, uc, ud, ue, uf, ug, uh, ui, uj, uk, ul, um, un, uo, up, uq, ur, us, ut, uu, uv, uw, ux, uy, uz, va, vb, vc, vd, ve, vf, vg, vh, vi, vj, vk, vl, vm, vn, vo, vp, vq, vr, vs, vt, vu, vv, vw, vx, vy, vz, xa, xb, xc, xd, xe, xf, xg, xh, xi, xj, xk, xl, xm, xn, xo, xp, xq, xr, xt, xu, xv, xw, xx, xy, xz, ya⟩) (by kernel_rfl) (by kernel_rfl) (fun l f v hI => ?_) (fun l f v hC hI i h0 o ho h1 => tc_step ⟨w0, X10, X15, XK, mt, pt, bd, t8, RI, aq, nq, cq, ah, nh, ch, nw, S1, S2, RC, sa, sb, sc, sd, se, sf, sh, si, sk, so, sp, sq, ss, su, sv, sw, sx, sy, sz, ta, tb, tc, td, te, tf, tg, th, ti, tj, tk, tl, tm, tn, tp, tr, tt, tu, tv, tw, tx, ty, tz, ua, ub, uc, ud, ue, uf, ug, uh, ui, uj, uk, ul, um, un, uo, up, uq, ur, us, ut, uu, uv, uw, ux, uy, uz, va, vb, vc, vd, ve, vf, vg, vh, vi, vj, vk, vl, vm, vn, vo, vp, vq, vr, vs, vt, vu, vv, vw, vx, vy, vz, xa, xb, xc, xd, xe, xf, xg, xh, xi, xj, xk, xl, xm, xn, xo, xp, xq, xr, xt, xu, xv, xw, xx, xy, xz, ya⟩ l f v hC hI i h0 o ho h1) (fun l f v hI hall => ?_) ?_
 · obtain ⟨_, _, _, _, _, _, _, _, _, _, _, _, _, _, _, _, _, _, _, _, _, _, rfl, _⟩ := hI; rfl
 · obtain ⟨b0, b1, b2, b3, b4, b5, b6, b7, b8, b9, b10, b11, b12, b13, b14, b15, b16, b17, b18, b19, b20, dm, rfl, rfl, hB, hx10, hx15, hk1, hk2, hki, hks, hne, hnb, hne2⟩ := hI
   have hn := allT hall [0, 1, 2, 3, 4, 5, 6, 7, 8, 9, 10, 11, 12, 13, 14, 15, 16, 17, 18, 19, 20] rfl; repeat (obtain ⟨rfl, hn⟩ := hn)
   exact fin dm v hB hx10 hx15 hk1 hk2 hki hks hne hnb hne2
 · exact ⟨false, false, false, false, false, false, false, false, false, false, false, false, false, false, false, false, false, false, false, false, false, 0, rfl, rfl, hB.drew, hx10.drew, hx15.drew, hk1, hk2, hki, hks, hne, hnb, hne2⟩
end Go.Proofs.YtkcjigelenofhaaGreatDoor
namespace Go.Proofs.YtkcjigelenofhaaGreatDoor
open Go.RowKit
theorem step_inj (s s' : Int) (c : UInt8) (h : sumStep s c = sumStep s' c) : (s - s') % 2147483647 = 0 := by
 unfold sumStep at h
 obtain ⟨k, hk⟩ : ∃ k, (s - s') * 65539 = 2147483647 * k := ⟨(s - s') * 65539 / 2147483647, by omega⟩
 have e : s - s' = 2147483647 * (k * 1840690907 - 56176 * (s - s')) := by omega
 rw [e]; exact Int.mul_emod_right _ _
theorem step_rng (s : Int) (c : UInt8) : 0 ≤ sumStep s c ∧ sumStep s c < 2147483647 := by unfold sumStep; omega
theorem sumL_parts : ∀ (l : List UInt8) (s s' : Int), 0 ≤ s → s < 2147483647 → 0 ≤ s' → s' < 2147483647 → s ≠ s' → sumL s l ≠ sumL s' l
 | [], _, _, _, _, _, _, h => h
 | c :: l, s, s', h1, h2, h3, h4, h => by
  refine sumL_parts l (sumStep s c) (sumStep s' c) (step_rng s c).1 (step_rng s c).2 (step_rng s' c).1 (step_rng s' c).2 ?_
  intro he
  have := step_inj s s' c he
  omega
theorem sumL_app (s : Int) (l l' : List UInt8) : sumL s (l ++ l') = sumL (sumL s l) l' := by simp [sumL]
theorem sum_turned (s : Int) (l r : List UInt8) (c d : UInt8) (h : c ≠ d) : sumL s (l ++ c :: r) ≠ sumL s (l ++ d :: r) := by
 rw [sumL_app, sumL_app]
 refine sumL_parts r (sumStep (sumL s l) c) (sumStep (sumL s l) d) (step_rng _ c).1 (step_rng _ c).2 (step_rng _ d).1 (step_rng _ d).2 ?_
 intro he
 have hc := c.toNat_lt
 have hd := d.toNat_lt
 have hne : c.toNat ≠ d.toNat := fun h2 => h (UInt8.toNat_inj.1 h2)
 unfold sumStep at he
 omega
end Go.Proofs.YtkcjigelenofhaaGreatDoor
