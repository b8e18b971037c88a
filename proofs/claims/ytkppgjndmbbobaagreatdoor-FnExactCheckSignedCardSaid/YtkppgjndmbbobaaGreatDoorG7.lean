import Derived.Test.YtkppgjndmbbobaaGreatDoorG1
import Derived.Test.YtkppgjndmbbobaaGreatDoorG1
import Derived.Test.YtkppgjndmbbobaaGreatDoorG1
import Derived.WalkLawsBesides
import Derived.WalkSpells
import Derived.OpenShut
import Derived.BigQuiet
import Derived.Deep.QuietTactic
import Derived.Deep.RegionHeld3
import Derived.Deep.CutRange
import Derived.Test.YtkppgjndmbbobaaGreatDoorG4
import Derived.Test.YtkppgjndmbbobaaGreatDoorG2
import Derived.Test.YtkppgjndmbbobaaGreatDoorBase
import Derived.Lib.Join
import Derived.Test.YtkppgjndmbbobaaGreatDoorG3
import Derived.Lib.ItoaNum
import Derived.Lib.ConvBytes
import Derived.Deep.RegionWith
import Derived.Deep.AppendLies
namespace Go.Proofs.YtkppgjndmbbobaaGreatDoor
open Go.RowKit
/-! Condition: what the laws do with one (by lawrow.py). -/
structure Cn where
  kd : Int
  tx : ByteArray
  tm : Int
def Cn.row (o : Cn) : Array Value := #[.int .i64 (o).kd, .string (o).tx, .int .i64 (o).tm]
/-- the cells of a row of them -/
def cnF (o : Nat → Cn) (p : Nat) : Value :=
  if p % 3 = 0 then .int .i64 (o (p / 3)).kd else if p % 3 = 1 then .string (o (p / 3)).tx else .int .i64 (o (p / 3)).tm
theorem cnF0 (o : Nat → Cn) (k : Nat) : cnF o (k * 3) = .int .i64 (o k).kd := by unfold cnF; rw [if_pos (by omega), show (k * 3) / 3 = k by omega]
theorem cnF1 (o : Nat → Cn) (k : Nat) : cnF o (k * 3 + 1) = .string (o k).tx := by unfold cnF; rw [if_neg (by omega), if_pos (by omega), show (k * 3 + 1) / 3 = k by omega]
theorem cnF2 (o : Nat → Cn) (k : Nat) : cnF o (k * 3 + 2) = .int .i64 (o k).tm := by unfold cnF; rw [if_neg (by omega), if_neg (by omega), show (k * 3 + 2) / 3 = k by omega]
/-- a slice of them that is read -/
def Cns (w : World) (a : Option Addr) (n cap : Nat) (o : Nat → Cn) : Prop :=
  n ≤ cap ∧ (n = 0 ∨ ∃ b off, a = some ⟨b, off, none⟩ ∧ b < w.heap.size ∧ ∀ k, k < n → w.cell? ⟨b, off + k * 3, none⟩ = some (.int .i64 (o k).kd) ∧ w.cell? ⟨b, off + k * 3 + 1, none⟩ = some (.string (o k).tx) ∧ w.cell? ⟨b, off + k * 3 + 2, none⟩ = some (.int .i64 (o k).tm))
theorem Cns.below {w w' : World} {a : Option Addr} {n cap : Nat} {o : Nat → Cn} (h : Cns w a n cap o) (hb : Below w.heap.size w w') : Cns w' a n cap o := by
  refine ⟨h.1, ?_⟩
  rcases h.2 with h0 | ⟨b, off, rfl, h1, h2⟩
  · exact Or.inl h0
  · refine Or.inr ⟨b, off, rfl, Nat.lt_of_lt_of_le h1 hb.size, fun k hk => ?_⟩
    obtain ⟨c0, c1, c2⟩ := h2 k hk
    exact ⟨(hb.cell (p := ⟨b, _, none⟩) h1).trans c0, (hb.cell (p := ⟨b, _, none⟩) h1).trans c1, (hb.cell (p := ⟨b, _, none⟩) h1).trans c2⟩
theorem Cns.of_row {w : World} {b : Nat} {t : TypeId} {n : Nat} {o : Nat → Cn} (h : FRow w b t (n * 3) (cnF o)) : Cns w (some ⟨b, 0, none⟩) n n o := by
  refine ⟨Nat.le_refl _, Or.inr ⟨b, 0, rfl, h.lt, fun k hk => ?_⟩⟩
  have g0 := h.cell (show k * 3 < n * 3 by omega)
  have g1 := h.cell (show k * 3 + 1 < n * 3 by omega)
  have g2 := h.cell (show k * 3 + 2 < n * 3 by omega)
  rw [cnF0] at g0
  rw [cnF1] at g1
  rw [cnF2] at g2
  simp only [Nat.zero_add]
  exact ⟨g0, g1, g2⟩
end Go.Proofs.YtkppgjndmbbobaaGreatDoor
namespace Go.Proofs.YtkppgjndmbbobaaGreatDoor
open Go.RowKit
/-! Rows of Condition: what the laws do with them (by lawrow.py). -/
end Go.Proofs.YtkppgjndmbbobaaGreatDoor
namespace Go.Proofs.YtkppgjndmbbobaaGreatDoor
open Go.RowKit
/-! Statements: what the laws do with one. -/
/-- a slice of texts, of conditions -/
structure SS where
  ad : Option Addr
  n : Nat
  cap : Nat
  ts : Nat → ByteArray
structure CS where
  ad : Option Addr
  n : Nat
  cap : Nat
  o : Nat → Cn
structure St where
  ef : Int
  wo : SS
  wa : SS
  wi : SS
  cs : CS
def SS.v (s : SS) : Value := .slice s.ad s.n s.cap
def CS.v (s : CS) : Value := .slice s.ad s.n s.cap
def St.row (s : St) : Array Value := #[.int .i64 s.ef, .slice s.wo.ad s.wo.n s.wo.cap, .slice s.wa.ad s.wa.n s.wa.cap, .slice s.wi.ad s.wi.n s.wi.cap, .slice s.cs.ad s.cs.n s.cs.cap]
/-- what a statement's slices read as -/
structure StIn (w : World) (s : St) : Prop where
  wo : Strs w s.wo.ad s.wo.n s.wo.cap s.wo.ts
  wa : Strs w s.wa.ad s.wa.n s.wa.cap s.wa.ts
  wi : Strs w s.wi.ad s.wi.n s.wi.cap s.wi.ts
  cs : Cns w s.cs.ad s.cs.n s.cs.cap s.cs.o
theorem StIn.below {w w' : World} {s : St} (h : StIn w s) (hb : Below w.heap.size w w') : StIn w' s := ⟨h.wo.below hb, h.wa.below hb, h.wi.below hb, h.cs.below hb⟩
end Go.Proofs.YtkppgjndmbbobaaGreatDoor
namespace Go.Proofs.YtkppgjndmbbobaaGreatDoor
open Go.RowKit
/-! Statements made anew. -/
/-! Slices of statements. -/
/-- the cells of a row of them -/
def stF (R : Nat → St) (p : Nat) : Value :=
  if p % 5 = 0 then .int .i64 (R (p / 5)).ef else if p % 5 = 1 then .slice (R (p / 5)).wo.ad (R (p / 5)).wo.n (R (p / 5)).wo.cap else if p % 5 = 2 then .slice (R (p / 5)).wa.ad (R (p / 5)).wa.n (R (p / 5)).wa.cap else if p % 5 = 3 then .slice (R (p / 5)).wi.ad (R (p / 5)).wi.n (R (p / 5)).wi.cap else .slice (R (p / 5)).cs.ad (R (p / 5)).cs.n (R (p / 5)).cs.cap
theorem stF0 (R : Nat → St) (k : Nat) : stF R (k * 5) = .int .i64 (R k).ef := by unfold stF; rw [if_pos (by omega), show (k * 5) / 5 = k by omega]
theorem stF1 (R : Nat → St) (k : Nat) : stF R (k * 5 + 1) = .slice (R k).wo.ad (R k).wo.n (R k).wo.cap := by unfold stF; rw [if_neg (by omega), if_pos (by omega), show (k * 5 + 1) / 5 = k by omega]
theorem stF2 (R : Nat → St) (k : Nat) : stF R (k * 5 + 2) = .slice (R k).wa.ad (R k).wa.n (R k).wa.cap := by unfold stF; rw [if_neg (by omega), if_neg (by omega), if_pos (by omega), show (k * 5 + 2) / 5 = k by omega]
theorem stF3 (R : Nat → St) (k : Nat) : stF R (k * 5 + 3) = .slice (R k).wi.ad (R k).wi.n (R k).wi.cap := by unfold stF; rw [if_neg (by omega), if_neg (by omega), if_neg (by omega), if_pos (by omega), show (k * 5 + 3) / 5 = k by omega]
theorem stF4 (R : Nat → St) (k : Nat) : stF R (k * 5 + 4) = .slice (R k).cs.ad (R k).cs.n (R k).cs.cap := by unfold stF; rw [if_neg (by omega), if_neg (by omega), if_neg (by omega), if_neg (by omega), show (k * 5 + 4) / 5 = k by omega]
/-- the cells of one -/
def StCell (w : World) (b o : Nat) (s : St) : Prop :=
  w.cell? ⟨b, o, none⟩ = some (.int .i64 s.ef) ∧ w.cell? ⟨b, o + 1, none⟩ = some (.slice s.wo.ad s.wo.n s.wo.cap) ∧ w.cell? ⟨b, o + 2, none⟩ = some (.slice s.wa.ad s.wa.n s.wa.cap) ∧ w.cell? ⟨b, o + 3, none⟩ = some (.slice s.wi.ad s.wi.n s.wi.cap) ∧ w.cell? ⟨b, o + 4, none⟩ = some (.slice s.cs.ad s.cs.n s.cs.cap)
def Sts (w : World) (a : Option Addr) (m cap : Nat) (R : Nat → St) : Prop :=
  m ≤ cap ∧ (m = 0 ∨ ∃ b off, a = some ⟨b, off, none⟩ ∧ b < w.heap.size ∧ ∀ k, k < m → StCell w b (off + k * 5) (R k)) ∧ ∀ k, k < m → StIn w (R k)
theorem StCell.below {w w' : World} {b o : Nat} {s : St} (h : StCell w b o s) (hb : Below w.heap.size w w') (hl : b < w.heap.size) : StCell w' b o s :=
  ⟨(hb.cell (p := ⟨b, o, none⟩) hl).trans h.1, (hb.cell (p := ⟨b, o + 1, none⟩) hl).trans h.2.1, (hb.cell (p := ⟨b, o + 2, none⟩) hl).trans h.2.2.1, (hb.cell (p := ⟨b, o + 3, none⟩) hl).trans h.2.2.2.1, (hb.cell (p := ⟨b, o + 4, none⟩) hl).trans h.2.2.2.2⟩
theorem Sts.below {w w' : World} {a : Option Addr} {m cap : Nat} {R : Nat → St} (h : Sts w a m cap R) (hb : Below w.heap.size w w') : Sts w' a m cap R := by
  refine ⟨h.1, ?_, fun k hk => (h.2.2 k hk).below hb⟩
  rcases h.2.1 with h0 | ⟨b, off, rfl, hl, hc⟩
  · exact .inl h0
  · exact .inr ⟨b, off, rfl, Nat.lt_of_lt_of_le hl hb.size, fun k hk => (hc k hk).below hb hl⟩
theorem StCell.of_row {w : World} {b : Nat} {t : TypeId} {m k : Nat} {R : Nat → St} (h : FRow w b t (m * 5) (stF R)) (hk : k < m) : StCell w b (0 + k * 5) (R k) := by
  have g0 := h.cell (p := k * 5) (by omega)
  have g1 := h.cell (p := k * 5 + 1) (by omega)
  have g2 := h.cell (p := k * 5 + 2) (by omega)
  have g3 := h.cell (p := k * 5 + 3) (by omega)
  have g4 := h.cell (p := k * 5 + 4) (by omega)
  rw [stF0] at g0
  rw [stF1] at g1
  rw [stF2] at g2
  rw [stF3] at g3
  rw [stF4] at g4
  simp only [Nat.zero_add]
  exact ⟨g0, g1, g2, g3, g4⟩
end Go.Proofs.YtkppgjndmbbobaaGreatDoor
namespace Go.Proofs.YtkppgjndmbbobaaGreatDoor
open Go.RowKit
end Go.Proofs.YtkppgjndmbbobaaGreatDoor
namespace Go.Proofs.YtkppgjndmbbobaaGreatDoor
open Go.RowKit
/-! When words, lists, conditions and statements are right. -/
/-! The specification's. -/
end Go.Proofs.YtkppgjndmbbobaaGreatDoor
namespace Go.Proofs.YtkppgjndmbbobaaGreatDoor
open Go.RowKit
/-! Lists of texts, joined. -/
def jl (ts : Nat → ByteArray) (n : Nat) : List (List UInt8) := (List.range n).map fun i => (ts i).data.toList
theorem jl_succ (ts : Nat → ByteArray) (n : Nat) : jl ts (n + 1) = jl ts n ++ [(ts n).data.toList] := by unfold jl; rw [List.range_succ]; simp
theorem join_snoc (sep x : List UInt8) : ∀ xs : List (List UInt8), xs ≠ [] → Lib.join (xs ++ [x]) sep = Lib.join xs sep ++ sep ++ x
  | [], h => absurd rfl h
  | y :: r, _ => by
    rw [List.cons_append, Lib.join_cons, Lib.join_cons]
    unfold Lib.joinTail
    rw [List.map_append, List.flatten_append]
    simp
end Go.Proofs.YtkppgjndmbbobaaGreatDoor
namespace Go.Proofs.YtkppgjndmbbobaaGreatDoor
open Go.RowKit
/-! Policies as texts. -/
end Go.Proofs.YtkppgjndmbbobaaGreatDoor
namespace Go.Proofs.YtkppgjndmbbobaaGreatDoor
open Go.RowKit
/-! The specification's UnEscape. -/
end Go.Proofs.YtkppgjndmbbobaaGreatDoor
namespace Go.Proofs.YtkppgjndmbbobaaGreatDoor
open Go.RowKit
/-! Slices of texts that a call owns (cut out of EncS3). -/
def OwnStrs (w : World) (base : Nat) (v : Value) (xs : List ByteArray) : Prop := w.ownsRow base 9 1 v xs.length (xs.map Value.string)
theorem OwnStrs.below {w w' : World} {base : Nat} {v : Value} {xs : List ByteArray} (h : OwnStrs w base v xs) (hb : Below w.heap.size w w') : OwnStrs w' base v xs := by
  refine ⟨h.1, ?_⟩
  rcases h.2 with h0 | ⟨g, cap, cur, he, hbg, hr, r⟩
  · exact Or.inl h0
  · exact Or.inr ⟨g, cap, cur, he, hbg, (hb.block g (show RowAt w g 9 cur from hr).lt).trans hr, r⟩
theorem OwnStrs.alloc {w : World} {base : Nat} {v : Value} {xs : List ByteArray} (h : OwnStrs w base v xs) (o : Obj) : OwnStrs (w.alloc o) base v xs := World.ownsRow.alloc h o
theorem OwnStrs.drew {w : World} {base : Nat} {v : Value} {xs : List ByteArray} (h : OwnStrs w base v xs) : OwnStrs w.drew base v xs := World.ownsRow.drew h
theorem OwnStrs.slice {w : World} {base : Nat} {v : Value} {xs : List ByteArray} (h : OwnStrs w base v xs) : ∃ a c, v = .slice a xs.length c := by
  rcases h.2 with ⟨h0, h1⟩ | ⟨g, cap, cur, he, _⟩
  · exact ⟨_, _, by rw [h0, h1]⟩
  · exact ⟨_, _, he⟩
theorem OwnStrs.strs {w : World} {base : Nat} {a : Option Addr} {n c : Nat} {xs : List ByteArray} {ts : Nat → ByteArray} (h : OwnStrs w base (.slice a n c) xs) (h0 : 0 < xs.length) (ht : ∀ i, i < xs.length → xs[i]? = some (ts i)) :
    ∃ g, a = some ⟨g, 0, none⟩ ∧ base ≤ g ∧ n = xs.length ∧ Strs w (some ⟨g, 0, none⟩) n c ts := by
  rcases h.2 with ⟨_, h1⟩ | ⟨g, cap, cur, he, hb, hr, hnc, hm, hsz, htk⟩
  · omega
  · cases he
    have R : RowAt w g 9 cur := hr
    refine ⟨g, rfl, hb, rfl, hnc, Or.inr ⟨g, 0, rfl, R.lt, fun i hi => ?_⟩⟩
    have := congrArg (·[i]?) htk
    simp only [List.getElem?_take] at this
    rw [if_pos (by omega), List.getElem?_map, ht i hi] at this
    rw [R.cell (0 + i), Nat.zero_add]
    simpa using this
theorem Strs.setRow {w : World} {b len cap : Nat} {ts : Nat → ByteArray} (h : Strs w (some ⟨b, 0, none⟩) len cap ts) (g : Nat) (c : Array Value) (hn : b ≠ g) : Strs (w.setRow g c) (some ⟨b, 0, none⟩) len cap ts := by
  refine ⟨h.1, ?_⟩
  rcases h.2 with h0 | ⟨b', off, he, h1, h2⟩
  · exact Or.inl h0
  · cases he
    refine Or.inr ⟨b, 0, rfl, by rw [setRow_size]; exact h1, fun i hi => ?_⟩
    rw [← h2 i hi]
    simp only [World.cell?, setRow_other w g b c hn]
theorem append_str2 {P : Program} (base : Nat) (wr : World) {ops : Array Oper} {rest : List Oper} {o : Oper} {a : Act} {Q : Exit → Act → World → Prop} (hgd : o.guard = none) (s x : Operand) (t : TypeId)
    (ho : o.op = .call { callee := .builtin .append, args := #[s, x], argTypes := #[t, t] })
    (ht : P.underlying t = some (.slice 9)) (hinfo : (P.info? 9).map (fun i => (i.zero, i.size, i.bytes)) = some (some (.string ⟨#[]⟩), 1, 16))
    (v : Value) (xs : List ByteArray) (y : ByteArray) (hs : a.eval s = v) (hown : OwnStrs wr base v xs) (hsz : base ≤ wr.heap.size)
    (hx : a.eval x = .slice (some ⟨wr.heap.size, 0, none⟩) 1 1) (hlen : xs.length ≤ 1048576)
    (h : ∀ v' w', OwnStrs w' base v' (xs ++ [y]) → wr.grownBy w' v.ownBlock → wpList P ops Q rest (a.put o.dst v') w') :
    wpList P ops Q (o :: rest) a (wr.alloc (.cells #[.string y] 9)) := by
  obtain ⟨i0, hi, hz0, hz1, hz2⟩ := info_parts hinfo
  refine wpList_append_own _ hgd s x t ho base 9 i0 (.string ⟨#[]⟩) 1 16 ht hi hz0 hz1 hz2 rfl (by decide) v _ _ hs (World.ownsRow.alloc hown _) ⟨wr.heap.size, 0, none⟩ 1 1 [.string y] hx rfl ?_ ?_ ?_ ?_ ?_ ?_
  · intro j u hj
    match j, hj with
    | 0, hj => simp at hj; subst hj; simp [Addr.add]
  · intro u hu; simp at hu; subst hu; rfl
  · unfold maxLen; omega
  · omega
  · simp; omega
  · intro v' w' h1 h2 h3
    exact h v' w' (by simpa [OwnStrs] using h1) (grown_trans (World.grownBy_alloc wr _ _) h2)
end Go.Proofs.YtkppgjndmbbobaaGreatDoor
