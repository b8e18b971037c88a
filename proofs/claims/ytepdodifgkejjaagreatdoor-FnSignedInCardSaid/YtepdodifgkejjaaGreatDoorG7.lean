import Derived.Test.YtepdodifgkejjaaGreatDoorG3
import Derived.Deep.CutRange
import Derived.Test.YtepdodifgkejjaaGreatDoorG4
import Derived.Test.YtepdodifgkejjaaGreatDoorBase
import Derived.Deep.AppendLies
import Derived.Test.YtepdodifgkejjaaGreatDoorG1
import Derived.Test.YtepdodifgkejjaaGreatDoorG1
import Derived.Test.YtepdodifgkejjaaGreatDoorG1
import Derived.WalkLawsBesides
import Derived.WalkSpells
import Derived.OpenShut
import Derived.BigQuiet
import Derived.Deep.QuietTactic
import Derived.Deep.RegionHeld3
import Derived.Test.YtepdodifgkejjaaGreatDoorG2
import Derived.Lib.Join
import Derived.Lib.ItoaNum
import Derived.Lib.ConvBytes
import Derived.Deep.RegionWith
namespace Go.Proofs.YtepdodifgkejjaaGreatDoor
open Go.RowKit
/-! The specification's UnEscape. -/
end Go.Proofs.YtepdodifgkejjaaGreatDoor
namespace Go.Proofs.YtepdodifgkejjaaGreatDoor
open Go.RowKit
/-! Slices of texts that a call owns (cut out of EncS3). -/
def OwnStrs (w : World) (base : Nat) (v : Value) (xs : List ByteArray) : Prop := w.ownsRow base 9 1 v xs.length (xs.map Value.string)
theorem OwnStrs.below {w w' : World} {base : Nat} {v : Value} {xs : List ByteArray} (h : OwnStrs w base v xs) (hb : Below w.heap.size w w') : OwnStrs w' base v xs := by
  refine ⟨h.1, ?_⟩
  rcases h.2 with h0 | ⟨g, cap, cur, he, hbg, hr, r⟩
  · exact Or.inl h0
  · exact Or.inr ⟨g, cap, cur, he, hbg, (hb.block g (show RowAt w g 9 cur from hr).lt).trans hr, r⟩
theorem OwnStrs.alloc {w : World} {base : Nat} {v : Value} {xs : List ByteArray} (h : OwnStrs w base v xs) (o : Obj) : OwnStrs (w.alloc o) base v xs := World.ownsRow.alloc h o
theorem OwnStrs.drew {w : World} {base : Nat} {v : Value} {xs : List ByteArray} (h : OwnStrs w base v xs) : OwnStrs w.drew base v xs := World.ownsRow.drew h
theorem OwnStrs.slice {w : World} {base : Nat} {v : Value} {xs : List ByteArray} (h : OwnStrs w base v xs) : ∃ a c, v = .slice a xs.length c := by
  rcases h.2 with ⟨h0, h1⟩ | ⟨g, cap, cur, he, _⟩
  · exact ⟨_, _, by rw [h0, h1]⟩
  · exact ⟨_, _, he⟩
theorem OwnStrs.ne {w : World} {base : Nat} {v : Value} {xs : List ByteArray} {c : Nat} (h : OwnStrs w base v xs) (hc : c < base) : some c ≠ v.ownBlock := by
  rcases h.2 with ⟨rfl, _⟩ | ⟨g, cap, cur, rfl, hb, _⟩
  · intro e; cases e
  · intro e
    have e2 : c = g := by simpa [Value.ownBlock] using e
    omega
theorem OwnStrs.strs {w : World} {base : Nat} {a : Option Addr} {n c : Nat} {xs : List ByteArray} {ts : Nat → ByteArray} (h : OwnStrs w base (.slice a n c) xs) (h0 : 0 < xs.length) (ht : ∀ i, i < xs.length → xs[i]? = some (ts i)) :
    ∃ g, a = some ⟨g, 0, none⟩ ∧ base ≤ g ∧ n = xs.length ∧ Strs w (some ⟨g, 0, none⟩) n c ts := by
  rcases h.2 with ⟨_, h1⟩ | ⟨g, cap, cur, he, hb, hr, hnc, hm, hsz, htk⟩
  · omega
  · cases he
    have R : RowAt w g 9 cur := hr
    refine ⟨g, rfl, hb, rfl, hnc, Or.inr ⟨g, 0, rfl, R.lt, fun i hi => ?_⟩⟩
    have := congrArg (·[i]?) htk
    simp only [List.getElem?_take] at this
    rw [if_pos (by omega), List.getElem?_map, ht i hi] at this
    rw [R.cell (0 + i), Nat.zero_add]
    simpa using this
theorem Strs.setRow {w : World} {b len cap : Nat} {ts : Nat → ByteArray} (h : Strs w (some ⟨b, 0, none⟩) len cap ts) (g : Nat) (c : Array Value) (hn : b ≠ g) : Strs (w.setRow g c) (some ⟨b, 0, none⟩) len cap ts := by
  refine ⟨h.1, ?_⟩
  rcases h.2 with h0 | ⟨b', off, he, h1, h2⟩
  · exact Or.inl h0
  · cases he
    refine Or.inr ⟨b, 0, rfl, by rw [setRow_size]; exact h1, fun i hi => ?_⟩
    rw [← h2 i hi]
    simp only [World.cell?, setRow_other w g b c hn]
theorem append_str2 {P : Program} (base : Nat) (wr : World) {ops : Array Oper} {rest : List Oper} {o : Oper} {a : Act} {Q : Exit → Act → World → Prop} (hgd : o.guard = none) (s x : Operand) (t : TypeId)
    (ho : o.op = .call { callee := .builtin .append, args := #[s, x], argTypes := #[t, t] })
    (ht : P.underlying t = some (.slice 9)) (hinfo : (P.info? 9).map (fun i => (i.zero, i.size, i.bytes)) = some (some (.string ⟨#[]⟩), 1, 16))
    (v : Value) (xs : List ByteArray) (y : ByteArray) (hs : a.eval s = v) (hown : OwnStrs wr base v xs) (hsz : base ≤ wr.heap.size)
    (hx : a.eval x = .slice (some ⟨wr.heap.size, 0, none⟩) 1 1) (hlen : xs.length ≤ 1048576)
    (h : ∀ v' w', OwnStrs w' base v' (xs ++ [y]) → wr.grownBy w' v.ownBlock → wpList P ops Q rest (a.put o.dst v') w') :
    wpList P ops Q (o :: rest) a (wr.alloc (.cells #[.string y] 9)) := by
  obtain ⟨i0, hi, hz0, hz1, hz2⟩ := info_parts hinfo
  refine wpList_append_own _ hgd s x t ho base 9 i0 (.string ⟨#[]⟩) 1 16 ht hi hz0 hz1 hz2 rfl (by decide) v _ _ hs (World.ownsRow.alloc hown _) ⟨wr.heap.size, 0, none⟩ 1 1 [.string y] hx rfl ?_ ?_ ?_ ?_ ?_ ?_
  · intro j u hj
    match j, hj with
    | 0, hj => simp at hj; subst hj; simp [Addr.add]
  · intro u hu; simp at hu; subst hu; rfl
  · unfold maxLen; omega
  · omega
  · simp; omega
  · intro v' w' h1 h2 h3
    exact h v' w' (by simpa [OwnStrs] using h1) (grown_trans (World.grownBy_alloc wr _ _) h2)
end Go.Proofs.YtepdodifgkejjaaGreatDoor
namespace Go.Proofs.YtepdodifgkejjaaGreatDoor
open Go.RowKit
/-! Condition: what the laws do with one (by lawrow.py). -/
structure Cn where
  kd : Int
  tx : ByteArray
  tm : Int
def Cn.row (o : Cn) : Array Value := #[.int .i64 (o).kd, .string (o).tx, .int .i64 (o).tm]
/-- a slice of them that is read -/
def Cns (w : World) (a : Option Addr) (n cap : Nat) (o : Nat → Cn) : Prop :=
  n ≤ cap ∧ (n = 0 ∨ ∃ b off, a = some ⟨b, off, none⟩ ∧ b < w.heap.size ∧ ∀ k, k < n → w.cell? ⟨b, off + k * 3, none⟩ = some (.int .i64 (o k).kd) ∧ w.cell? ⟨b, off + k * 3 + 1, none⟩ = some (.string (o k).tx) ∧ w.cell? ⟨b, off + k * 3 + 2, none⟩ = some (.int .i64 (o k).tm))
theorem Cns.below {w w' : World} {a : Option Addr} {n cap : Nat} {o : Nat → Cn} (h : Cns w a n cap o) (hb : Below w.heap.size w w') : Cns w' a n cap o := by
  refine ⟨h.1, ?_⟩
  rcases h.2 with h0 | ⟨b, off, rfl, h1, h2⟩
  · exact Or.inl h0
  · refine Or.inr ⟨b, off, rfl, Nat.lt_of_lt_of_le h1 hb.size, fun k hk => ?_⟩
    obtain ⟨c0, c1, c2⟩ := h2 k hk
    exact ⟨(hb.cell (p := ⟨b, _, none⟩) h1).trans c0, (hb.cell (p := ⟨b, _, none⟩) h1).trans c1, (hb.cell (p := ⟨b, _, none⟩) h1).trans c2⟩
end Go.Proofs.YtepdodifgkejjaaGreatDoor
namespace Go.Proofs.YtepdodifgkejjaaGreatDoor
open Go.RowKit
/-! Rows of Condition: what the laws do with them (by lawrow.py). -/
end Go.Proofs.YtepdodifgkejjaaGreatDoor
namespace Go.Proofs.YtepdodifgkejjaaGreatDoor
open Go.RowKit
/-! Statements: what the laws do with one. -/
/-- a slice of texts, of conditions -/
structure SS where
  ad : Option Addr
  n : Nat
  cap : Nat
  ts : Nat → ByteArray
structure CS where
  ad : Option Addr
  n : Nat
  cap : Nat
  o : Nat → Cn
structure St where
  ef : Int
  wo : SS
  wa : SS
  wi : SS
  cs : CS
def SS.v (s : SS) : Value := .slice s.ad s.n s.cap
def CS.v (s : CS) : Value := .slice s.ad s.n s.cap
def St.row (s : St) : Array Value := #[.int .i64 s.ef, .slice s.wo.ad s.wo.n s.wo.cap, .slice s.wa.ad s.wa.n s.wa.cap, .slice s.wi.ad s.wi.n s.wi.cap, .slice s.cs.ad s.cs.n s.cs.cap]
/-- what a statement's slices read as -/
structure StIn (w : World) (s : St) : Prop where
  wo : Strs w s.wo.ad s.wo.n s.wo.cap s.wo.ts
  wa : Strs w s.wa.ad s.wa.n s.wa.cap s.wa.ts
  wi : Strs w s.wi.ad s.wi.n s.wi.cap s.wi.ts
  cs : Cns w s.cs.ad s.cs.n s.cs.cap s.cs.o
theorem StIn.below {w w' : World} {s : St} (h : StIn w s) (hb : Below w.heap.size w w') : StIn w' s := ⟨h.wo.below hb, h.wa.below hb, h.wi.below hb, h.cs.below hb⟩
end Go.Proofs.YtepdodifgkejjaaGreatDoor
namespace Go.Proofs.YtepdodifgkejjaaGreatDoor
open Go.RowKit
/-! Statements made anew. -/
/-! Slices of statements. -/
/-- the cells of one -/
def StCell (w : World) (b o : Nat) (s : St) : Prop :=
  w.cell? ⟨b, o, none⟩ = some (.int .i64 s.ef) ∧ w.cell? ⟨b, o + 1, none⟩ = some (.slice s.wo.ad s.wo.n s.wo.cap) ∧ w.cell? ⟨b, o + 2, none⟩ = some (.slice s.wa.ad s.wa.n s.wa.cap) ∧ w.cell? ⟨b, o + 3, none⟩ = some (.slice s.wi.ad s.wi.n s.wi.cap) ∧ w.cell? ⟨b, o + 4, none⟩ = some (.slice s.cs.ad s.cs.n s.cs.cap)
def Sts (w : World) (a : Option Addr) (m cap : Nat) (R : Nat → St) : Prop :=
  m ≤ cap ∧ (m = 0 ∨ ∃ b off, a = some ⟨b, off, none⟩ ∧ b < w.heap.size ∧ ∀ k, k < m → StCell w b (off + k * 5) (R k)) ∧ ∀ k, k < m → StIn w (R k)
theorem StCell.below {w w' : World} {b o : Nat} {s : St} (h : StCell w b o s) (hb : Below w.heap.size w w') (hl : b < w.heap.size) : StCell w' b o s :=
  ⟨(hb.cell (p := ⟨b, o, none⟩) hl).trans h.1, (hb.cell (p := ⟨b, o + 1, none⟩) hl).trans h.2.1, (hb.cell (p := ⟨b, o + 2, none⟩) hl).trans h.2.2.1, (hb.cell (p := ⟨b, o + 3, none⟩) hl).trans h.2.2.2.1, (hb.cell (p := ⟨b, o + 4, none⟩) hl).trans h.2.2.2.2⟩
theorem Sts.below {w w' : World} {a : Option Addr} {m cap : Nat} {R : Nat → St} (h : Sts w a m cap R) (hb : Below w.heap.size w w') : Sts w' a m cap R := by
  refine ⟨h.1, ?_, fun k hk => (h.2.2 k hk).below hb⟩
  rcases h.2.1 with h0 | ⟨b, off, rfl, hl, hc⟩
  · exact .inl h0
  · exact .inr ⟨b, off, rfl, Nat.lt_of_lt_of_le hl hb.size, fun k hk => (hc k hk).below hb hl⟩
end Go.Proofs.YtepdodifgkejjaaGreatDoor
namespace Go.Proofs.YtepdodifgkejjaaGreatDoor
open Go.RowKit
end Go.Proofs.YtepdodifgkejjaaGreatDoor
namespace Go.Proofs.YtepdodifgkejjaaGreatDoor
open Go.RowKit
/-! When words, lists, conditions and statements are right. -/
/-! The specification's. -/
end Go.Proofs.YtepdodifgkejjaaGreatDoor
namespace Go.Proofs.YtepdodifgkejjaaGreatDoor
open Go.RowKit
/-! Lists of texts, joined. -/
def jl (ts : Nat → ByteArray) (n : Nat) : List (List UInt8) := (List.range n).map fun i => (ts i).data.toList
theorem jl_succ (ts : Nat → ByteArray) (n : Nat) : jl ts (n + 1) = jl ts n ++ [(ts n).data.toList] := by unfold jl; rw [List.range_succ]; simp
theorem join_snoc (sep x : List UInt8) : ∀ xs : List (List UInt8), xs ≠ [] → Lib.join (xs ++ [x]) sep = Lib.join xs sep ++ sep ++ x
  | [], h => absurd rfl h
  | y :: r, _ => by
    rw [List.cons_append, Lib.join_cons, Lib.join_cons]
    unfold Lib.joinTail
    rw [List.map_append, List.flatten_append]
    simp
end Go.Proofs.YtepdodifgkejjaaGreatDoor
namespace Go.Proofs.YtepdodifgkejjaaGreatDoor
open Go.RowKit
/-! Policies as texts. -/
def jn (ts : Nat → ByteArray) (n : Nat) : List UInt8 := Lib.join (jl ts n) [44]
theorem jn_one (ts : Nat → ByteArray) : jn ts 1 = (ts 0).data.toList := by unfold jn jl; exact Lib.join_one _ _
theorem jn_next (ts : Nat → ByteArray) (k : Nat) (hk : 0 < k) : jn ts (k + 1) = jn ts k ++ [44] ++ (ts k).data.toList := by
  unfold jn
  rw [jl_succ, join_snoc]
  intro e
  have := congrArg List.length e
  unfold jl at this; simp at this; omega
theorem jn_zero (ts : Nat → ByteArray) : jn ts 0 = [] := rfl
set_option maxRecDepth 20000 in
set_option maxHeartbeats 2000000 in
theorem sJoin (a : Option Addr) (n cap : Nat) (ts : Nat → ByteArray) (hn : n ≤ 20) (ht : ∀ i, i < n → (ts i).size ≤ 200) (w : World) (h : Strs w a n cap ts) :
    Calls Tryz.prog 51 #[.slice a n cap] w fun e w' => (∃ t : ByteArray, e = .returned (.string t) ∧ t.data.toList = jn ts n ∧ t.size ≤ 4020) ∧ w' = w := by
  have HT := hid ht
  clear ht
  go_enter Tryz.func51, Tryz.ntmps51
  go_wp2
  go_loopw [3, 4] (fun v i wr => ∃ (t : ByteArray) (k : Nat), k ≤ n ∧ v = .string t ∧ i = .int .i64 (k : Int) ∧ t.data.toList = jn ts k ∧ t.size ≤ k * 201 ∧ wr = w) (fun _ i _ => n - (intOf i).toNat)
  case atStart => exact ⟨⟨#[]⟩, 0, Nat.zero_le _, rfl, rfl, rfl, Nat.zero_le _, rfl⟩
  case round =>
    obtain ⟨t, k, hk, rfl, rfl, hl, hs, rfl⟩ := hrel
    have HL := hid hl
    clear hl
    by_cases hlt : k < n
    · have d3 : (k : Int) < (n : Int) := by omega
      have k0 : (0 : Int) ≤ (k : Int) := by omega
      rcases h.2 with h00 | ⟨b, off, rfl, hbl, hc⟩
      · omega
      have c0 := hc k hlt
      have st := HT.out k hlt
      have J1 := hid (jn_next ts k)
      obtain ⟨x, hx⟩ : ∃ x, ts k = x := ⟨_, rfl⟩
      rw [hx] at c0 st J1
      have HX := hid hx
      clear hx hc
      by_cases kz : k = 0
      · subst kz
        have c1 := c0
        rw [Nat.add_zero] at c1
        have E0 : Hid ((t ++ x).data.toList = jn ts 1) := by show _ = _; rw [ba_app, HL.out, jn_zero, jn_one, HX.out]; rfl
        have S0 : Hid ((t ++ x).size ≤ 1 * 201) := by show _ ≤ _; rw [sizeApp]; omega
        go_wp2
        go_roundw
        case rel => exact ⟨_, 1, by omega, rfl, by go_num, E0.out, S0.out, trivial⟩
        case measure => simp [intOf]; omega
      · have d4 : (0 : Int) < (k : Int) := by omega
        have E0 : Hid ((t ++ ⟨#[44]⟩ ++ x).data.toList = jn ts (k + 1)) := by show _ = _; rw [ba_app, ba_app, HL.out, J1.out (by omega)]
        have S0 : Hid ((t ++ ⟨#[44]⟩ ++ x).size ≤ (k + 1) * 201) := by show _ ≤ _; rw [sizeApp, sizeApp]; show t.size + 1 + x.size ≤ _; omega
        go_wp2
        go_roundw
        case rel => exact ⟨_, k + 1, by omega, rfl, by go_num, E0.out, S0.out, trivial⟩
        case measure => simp [intOf]; omega
    · have d3 : ¬ (k : Int) < (n : Int) := by omega
      have ek : k = n := by omega
      have HLn : Hid (t.data.toList = jn ts n) := by have := HL.out; rw [ek] at this; exact this
      have hs2 : t.size ≤ 4020 := by omega
      go_wp2
      go_ret
      exact ⟨⟨t, rfl, HLn.out, hs2⟩, rfl⟩
end Go.Proofs.YtepdodifgkejjaaGreatDoor
