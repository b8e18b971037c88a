import Derived.Test.YtmhkelfmciepaaaLG
import Derived.Test.YtmhkelfmciepaaaLawInts
namespace Go.Proofs.Ytmhkelfmciepaaa
open Go.RowKit
/-! The group as plain data: what both sides do with it. -/
structure Mb where
  tm : Int
  vt : Int
  ld : Bool
  cm : Nat
  lg : List Ge
  mt : List Int
structure Gop where
  kd : Int
  mb : Int
  dt : Int
  pe : List Int
  tx : ByteArray
abbrev Gst := Nat → Mb
def putM (s : Gst) (k : Nat) (m : Mb) : Gst := fun j => if j = k then m else s j
theorem putM_self (s : Gst) (k : Nat) (m : Mb) : putM s k m k = m := if_pos rfl
theorem putM_ne (s : Gst) (k : Nat) (m : Mb) {j : Nat} (h : j ≠ k) : putM s k m j = s j := if_neg h
theorem putM_putM (s : Gst) (k : Nat) (m m' : Mb) : putM (putM s k m) k m' = putM s k m' := by
  funext j; unfold putM; split <;> rfl
theorem putM_same (s : Gst) (k : Nat) : putM s k (s k) = s := by
  funext j; unfold putM; split
  · rename_i e; rw [e]
  · rfl
def gLast (l : List Ge) : Int := (l.getLastD ge0).tm
def gNewer (a b : List Ge) : Bool := decide (gLast b < gLast a) || (decide (gLast a = gLast b) && decide (b.length < a.length))
def gHave (mt : List Int) (n : Nat) : Nat := mt.countP fun x => decide ((n : Int) ≤ x)
theorem gHave_le (mt : List Int) (n : Nat) : gHave mt n ≤ mt.length := List.countP_le_length
/-- the greatest number up to k that counts; the Commit, if there is none above it -/
def gCnt (N : Nat) (m : Mb) : Nat → Nat
  | 0 => m.cm
  | k + 1 => if k + 1 ≤ m.cm then m.cm else if (m.lg.getD k ge0).tm = m.tm ∧ N < 2 * gHave m.mt (k + 1) then k + 1 else gCnt N m k
def gCount (N : Nat) (m : Mb) : Mb := { m with cm := gCnt N m m.lg.length }
/-- a member that is asked for its vote -/
def gLate (c m : Mb) : Mb := if m.tm < c.tm then { m with tm := c.tm, vt := -1, ld := false } else m
def gWill (c : Mb) (k : Nat) (m : Mb) : Bool := decide (m.tm = c.tm) && (decide (m.vt = -1) || decide (m.vt = k)) && !gNewer m.lg c.lg
def gVote (c : Mb) (k : Nat) (m : Mb) : Mb := if gWill c k (gLate c m) then { gLate c m with vt := k } else gLate c m
def gAsked (A : Nat → Bool) (p : Nat) : Nat → Bool := fun j => decide (j = p) || A j
/-- the peers, one by one -/
def gGath (k : Nat) : List Int → (Nat → Bool) → Gst → Nat → Gst × Nat
  | [], _, s, v => (s, v)
  | p :: r, A, s, v =>
    if A p.toNat then gGath k r A s v
    else gGath k r (gAsked A p.toNat) (putM s p.toNat (gVote (s k) k (s p.toNat))) (v + (gWill (s k) k (gLate (s k) (s p.toNat))).toNat)
def gIn (N : Nat) (x : Int) : Bool := decide (0 ≤ x) && decide (x < N)
def gStart (s : Gst) (k : Nat) : Gst := putM s k { s k with tm := (s k).tm + 1, vt := k, ld := false }
def gLead (N : Nat) (k : Nat) (m : Mb) : Mb := { m with ld := true, mt := (List.replicate N 0).set k (m.lg.length : Int) }
def gElect (N : Nat) (s : Gst) (k : Nat) (pe : List Int) : Gst × Gou :=
  if pe.all (gIn N) then
    let r := gGath k pe (fun j => decide (j = k)) (gStart s k) 1
    if N < 2 * r.2 then (putM r.1 k (gLead N k (r.1 k)), ⟨0, r.2, 0⟩) else (r.1, ⟨6, r.2, 0⟩)
  else (s, ⟨1, 0, 0⟩)
def gProp (N : Nat) (s : Gst) (k : Nat) (tx : ByteArray) : Gst × Gou :=
  if (s k).ld = false then (s, ⟨6, 0, 0⟩)
  else if 500 ≤ (s k).lg.length then (s, ⟨7, 0, 0⟩)
  else if 1000 < tx.size then (s, ⟨2, 0, 0⟩)
  else (putM s k (gCount N { s k with lg := (s k).lg ++ [⟨(s k).tm, tx⟩], mt := (s k).mt.set k ((s k).lg.length + 1 : Nat) }), ⟨0, 0, 0⟩)
/-- how many entries two logs share, by their terms -/
def gPart : List Ge → List Ge → Nat
  | a :: x, b :: y => if a.tm = b.tm then gPart x y + 1 else 0
  | _, _ => 0
theorem gPart_le : ∀ a b : List Ge, gPart a b ≤ a.length ∧ gPart a b ≤ b.length
  | [], b => by cases b <;> simp [gPart]
  | _ :: _, [] => by simp [gPart]
  | a :: x, b :: y => by
    have := gPart_le x y
    simp only [gPart]
    split <;> simp <;> omega
def gNext (a b : List Ge) : List Ge := if gPart a b = b.length then a else a.take (gPart a b) ++ b.drop (gPart a b)
def gCopy (N : Nat) (s : Gst) (k : Nat) (t : Int) : Gst × Gou :=
  if gIn N t = false ∨ t = k then (s, ⟨1, 0, 0⟩)
  else if (s k).ld = false then (s, ⟨6, 0, 0⟩)
  else if (s k).tm < (s t.toNat).tm then (putM s k { s k with tm := (s t.toNat).tm, vt := -1, ld := false }, ⟨13, 0, 0⟩)
  else
    let a := s t.toNat
    let lead := gCount N { s k with mt := (s k).mt.set t.toNat ((s k).lg.length : Int) }
    let nx := gNext a.lg (s k).lg
    (putM (putM s k lead) t.toNat { a with tm := (s k).tm, vt := if a.tm < (s k).tm then -1 else a.vt, ld := false, lg := nx, cm := max a.cm (min lead.cm nx.length) }, ⟨0, 0, 0⟩)
def gCrash (N : Nat) (s : Gst) (k : Nat) : Gst × Gou := (putM s k { s k with ld := false, cm := 0, mt := List.replicate N 0 }, ⟨0, 0, 0⟩)
def gDo (N : Nat) (s : Gst) (k : Nat) (o : Gop) : Gst × Gou :=
  if o.kd = 1 then gElect N s k o.pe else if o.kd = 2 then gProp N s k o.tx else if o.kd = 3 then gCopy N s k o.dt else if o.kd = 4 then gCrash N s k else (s, ⟨1, 0, 0⟩)
def gOne (N : Nat) (s : Gst) (o : Gop) : Gst × Gou :=
  if gIn N o.mb then
    let r := gDo N s o.mb.toNat o
    (r.1, { r.2 with cm := ((r.1 o.mb.toNat).cm : Int) })
  else (s, ⟨1, 0, 0⟩)
def mb0 (N : Nat) : Mb := ⟨0, -1, false, 0, [], List.replicate N 0⟩
def gRun (N : Nat) : List Gop → Gst × List Gou
  | os => os.foldl (fun r o => ((gOne N r.1 o).1, r.2 ++ [(gOne N r.1 o).2])) (fun _ => mb0 N, [])
/-- what holds of a member behind i operations -/
structure MbOk (N i : Nat) (m : Mb) : Prop where
  tm0 : 0 ≤ m.tm
  tm1 : m.tm ≤ i
  vt0 : -1 ≤ m.vt
  vt1 : m.vt < N
  lg : m.lg.length ≤ 500
  cm : m.cm ≤ m.lg.length
  mt : m.mt.length = N
  lt : ∀ e ∈ m.lg, 0 ≤ e.tm ∧ e.tm ≤ m.tm ∧ e.tx.size ≤ 1000
  mm : ∀ x ∈ m.mt, 0 ≤ x ∧ x ≤ 500
end Go.Proofs.Ytmhkelfmciepaaa
