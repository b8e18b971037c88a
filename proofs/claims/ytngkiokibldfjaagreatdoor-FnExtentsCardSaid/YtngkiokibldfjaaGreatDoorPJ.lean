import Derived.Test.YtngkiokibldfjaaGreatDoorPI
import Derived.Test.YtngkiokibldfjaaGreatDoorLawEx
import Derived.Test.YtngkiokibldfjaaGreatDoorPC
import Derived.Test.YtngkiokibldfjaaGreatDoorPA
import Derived.Test.YtngkiokibldfjaaGreatDoorPB
import Derived.Test.YtngkiokibldfjaaGreatDoorPB
import Derived.Deep.RegionHeld3
import Derived.Test.YtngkiokibldfjaaGreatDoorBase
import Derived.Deep.AppendLies
import Derived.Lib.AppendStr
namespace Go.Proofs.YtngkiokibldfjaaGreatDoor
open Go.RowKit
/-! The specification's l07Last, l07Held. -/
def keyAt (s : ByteArray) (L : List Fr) (k : Nat) : ByteArray := rcK s L[k]?
def goneAt (L : List Fr) (k : Nat) : Bool := rcG L[k]?
/-- the last of the first k records that has the key, or -1 -/
def lastF (s : ByteArray) (L : List Fr) (key : ByteArray) : Nat → Int
  | 0 => -1
  | k + 1 => if keyAt s L k = key then (k : Int) else lastF s L key k
/-- how many of the first k records are the last of their key and not gone -/
def heldF (s : ByteArray) (L : List Fr) : Nat → Nat
  | 0 => 0
  | k + 1 => heldF s L k + (if goneAt L k = false ∧ lastF s L (keyAt s L k) L.length = (k : Int) then 1 else 0)
theorem heldF_le (s : ByteArray) (L : List Fr) : ∀ k, heldF s L k ≤ k
  | 0 => Nat.le_refl _
  | k + 1 => by have := heldF_le s L k; unfold heldF; split <;> omega
theorem lastF_bd (s : ByteArray) (L : List Fr) (key : ByteArray) : ∀ k, -1 ≤ lastF s L key k ∧ lastF s L key k < (k : Int)
  | 0 => by unfold lastF; omega
  | k + 1 => by have := lastF_bd s L key k; unfold lastF; split <;> omega
theorem rcF_key (s : ByteArray) (L : List Fr) (k : Nat) (h : k < L.length) : rcF s L (k * 5) = .string (keyAt s L k) := by
  have hf : L[k]? = some L[k] := List.getElem?_eq_getElem h
  unfold rcF keyAt
  have := rcL_at s L k 0 L[k] hf (by decide); rw [Nat.add_zero] at this
  rw [this, hf]; rfl
theorem rcF_gone (s : ByteArray) (L : List Fr) (k : Nat) (h : k < L.length) : rcF s L (k * 5 + 1) = .bool (goneAt L k) := by
  have hf : L[k]? = some L[k] := List.getElem?_eq_getElem h
  unfold rcF goneAt
  rw [rcL_at s L k 1 L[k] hf (by decide), hf]; rfl
theorem ba_beq (a b : ByteArray) : (a.toList == b.toList) = decide (a = b) := by
  rw [Bool.eq_iff_iff]
  simp only [beq_iff_eq, decide_eq_true_eq]
  constructor
  · intro h; rw [ByteArray.toList_eq, ByteArray.toList_eq] at h; exact ba_ext h
  · rintro rfl; rfl
set_option maxRecDepth 20000 in
set_option maxHeartbeats 1000000 in
theorem sLast (s : ByteArray) (L : List Fr) (hl : L.length ≤ 1048576) (key : ByteArray) (a : Option Addr) (c : Nat) (w : World) (h : Rcs w a L.length c (rcF s L)) :
    Calls Tryz.prog 34 #[.slice a L.length c, .string key] w fun e w' => e = .returned (.int .i64 (lastF s L key L.length)) ∧ w' = w := by
  have HH := hid h
  clear h
  go_enter Tryz.func34, Tryz.ntmps34
  go_wp2_with fail
  go_loopw [5, 6] (fun x y wr => ∃ k : Nat, k ≤ L.length ∧ x = .int .i64 (lastF s L key k) ∧ y = .int .i64 (k : Nat) ∧ wr = w) (fun _ y _ => L.length - (intOf y).toNat)
  case atStart => exact ⟨0, Nat.zero_le _, rfl, rfl, rfl⟩
  case round =>
    obtain ⟨k, hk, rfl, rfl, rfl⟩ := hrel
    by_cases hlt : k < L.length
    · have hlt' : (k : Int) < (L.length : Int) := by omega
      have i0 : (0 : Int) ≤ (k : Int) := by omega
      rcases HH.out.2 with h00 | ⟨b, rfl, hbl, hc⟩
      · omega
      have c0 : wr.cell? ⟨b, k * 5, none⟩ = some (.string (keyAt s L k)) := by rw [← rcF_key s L k hlt]; exact hc _ (by omega)
      have E : Hid (lastF s L key (k + 1) = if keyAt s L k = key then (k : Int) else lastF s L key k) := rfl
      have bq := ba_beq (keyAt s L k) key
      obtain ⟨K, hK⟩ : ∃ K, K = keyAt s L k := ⟨_, rfl⟩
      rw [← hK] at c0 E bq
      obtain ⟨x, hx⟩ : ∃ x, x = lastF s L key k := ⟨_, rfl⟩
      rw [← hx] at E ⊢
      clear hc hK hx
      by_cases hq : K = key
      · have d : (K.toList == key.toList) = true := by rw [bq]; simpa using hq
        have E2 : Hid (lastF s L key (k + 1) = (k : Int)) := by show _ = _; rw [E.out, if_pos hq]
        clear E bq hq
        go_wp2
        go_roundw
        case rel => exact ⟨k + 1, by omega, by rw [E2.out], by go_num, by first | trivial | rfl⟩
        case measure => simp [intOf]; omega
      · have d : (K.toList == key.toList) = false := by rw [bq]; simpa using hq
        have E2 : Hid (lastF s L key (k + 1) = x) := by show _ = _; rw [E.out, if_neg hq]
        clear E bq hq
        go_wp2
        go_roundw
        case rel => exact ⟨k + 1, by omega, by rw [E2.out], by go_num, by first | trivial | rfl⟩
        case measure => simp [intOf]; omega
    · have hke : k = L.length := by omega
      have hlt' : ¬ (k : Int) < (L.length : Int) := by omega
      have E : Hid (lastF s L key k = lastF s L key L.length) := by show _ = _; rw [hke]
      clear hke
      go_wp2
      go_ret
      exact ⟨by rw [← E.out]; rfl, rfl⟩
set_option maxRecDepth 20000 in
set_option maxHeartbeats 1000000 in
theorem sHeld (s : ByteArray) (L : List Fr) (hl : L.length ≤ 1048576) (a : Option Addr) (c : Nat) (w : World) (h : Rcs w a L.length c (rcF s L)) :
    Calls Tryz.prog 36 #[.slice a L.length c] w fun e w' => e = .returned (.int .i64 (heldF s L L.length : Nat)) ∧ w' = w := by
  have HH := hid h
  clear h
  go_enter Tryz.func36, Tryz.ntmps36
  go_wp2_with fail
  go_loopw [3, 4] (fun x y wr => ∃ k : Nat, k ≤ L.length ∧ x = .int .i64 (heldF s L k : Nat) ∧ y = .int .i64 (k : Nat) ∧ wr = w) (fun _ y _ => L.length - (intOf y).toNat)
  case atStart => exact ⟨0, Nat.zero_le _, rfl, rfl, rfl⟩
  case round =>
    obtain ⟨k, hk, rfl, rfl, rfl⟩ := hrel
    by_cases hlt : k < L.length
    · have hlt' : (k : Int) < (L.length : Int) := by omega
      have i0 : (0 : Int) ≤ (k : Int) := by omega
      have LS := fun key => hid (sLast s L hl key a c wr HH.out)
      rcases HH.out.2 with h00 | ⟨b, rfl, hbl, hc⟩
      · omega
      have c0 : wr.cell? ⟨b, k * 5, none⟩ = some (.string (keyAt s L k)) := by rw [← rcF_key s L k hlt]; exact hc _ (by omega)
      have c1 : wr.cell? ⟨b, k * 5 + 1, none⟩ = some (.bool (goneAt L k)) := by rw [← rcF_gone s L k hlt]; exact hc _ (by omega)
      have E : Hid (heldF s L (k + 1) = heldF s L k + (if goneAt L k = false ∧ lastF s L (keyAt s L k) L.length = (k : Int) then 1 else 0)) := rfl
      have le := heldF_le s L k
      obtain ⟨K, hK⟩ : ∃ K, K = keyAt s L k := ⟨_, rfl⟩
      rw [← hK] at c0 E
      obtain ⟨x, hx⟩ : ∃ x, x = heldF s L k := ⟨_, rfl⟩
      rw [← hx] at E le ⊢
      obtain ⟨g, hg⟩ : ∃ g, g = goneAt L k := ⟨_, rfl⟩
      rw [← hg] at E c1
      have LK := LS K
      obtain ⟨y, hy⟩ : ∃ y, y = lastF s L K L.length := ⟨_, rfl⟩
      rw [← hy] at E LK
      clear hc hK hx hg hy LS
      cases g with
      | true =>
        have E2 : Hid (heldF s L (k + 1) = x) := by show _ = _; rw [E.out, if_neg (by simp)]; rfl
        clear E
        go_wp2
        go_roundw
        case rel => exact ⟨k + 1, by omega, by rw [E2.out], by go_num, by first | trivial | rfl⟩
        case measure => simp [intOf]; omega
      | false =>
        by_cases hq : y = (k : Int)
        · have E2 : Hid (heldF s L (k + 1) = x + 1) := by show _ = _; rw [E.out, if_pos ⟨rfl, hq⟩]
          have d : (y == (k : Int)) = true := by simpa using hq
          have HQ := hid hq
          clear E hq
          go_wp2_with fail
          refine LK.out.mono ?_
          rintro e w2 ⟨rfl, rfl⟩
          go_wp2
          go_roundw
          case rel => exact ⟨k + 1, by omega, by rw [E2.out]; go_num, by go_num, by first | trivial | rfl⟩
          case measure => simp [intOf]; omega
        · have E2 : Hid (heldF s L (k + 1) = x) := by show _ = _; rw [E.out, if_neg (by intro q; exact hq q.2)]; rfl
          have d : (y == (k : Int)) = false := by simpa using hq
          clear E hq
          go_wp2_with fail
          refine LK.out.mono ?_
          rintro e w2 ⟨rfl, rfl⟩
          go_wp2
          go_roundw
          case rel => exact ⟨k + 1, by omega, by rw [E2.out], by go_num, by first | trivial | rfl⟩
          case measure => simp [intOf]; omega
    · have hke : k = L.length := by omega
      have hlt' : ¬ (k : Int) < (L.length : Int) := by omega
      have E : Hid (heldF s L k = heldF s L L.length) := by show _ = _; rw [hke]
      clear hke
      go_wp2
      go_ret
      exact ⟨by rw [← E.out]; rfl, rfl⟩
end Go.Proofs.YtngkiokibldfjaaGreatDoor
namespace Go.Proofs.YtngkiokibldfjaaGreatDoor
open Go.RowKit
set_option linter.unusedVariables false
/-! An extent under operations, as plain data: chapter 8. -/
def lstN (d key : ByteArray) : Int := lastF d (sc d 0) key (sc d 0).length
theorem lstN_bd (d key : ByteArray) : -1 ≤ lstN d key ∧ lstN d key < ((sc d 0).length : Int) := lastF_bd _ _ _ _
/-- whether a key has data -/
def thrB (d key : ByteArray) : Bool := decide (0 ≤ lstN d key) && !(goneAt (sc d 0) (lstN d key).toNat)
def datN (d key : ByteArray) : ByteArray := rcD d (sc d 0)[(lstN d key).toNat]?
def hldN (d : ByteArray) : Nat := heldF d (sc d 0) (sc d 0).length
def decB (n : Nat) : ByteArray := ⟨(Lib.decDigits n).toArray⟩
/-- the marks between records, from a place on: L are the records from there on -/
def mrkN (d : ByteArray) : Nat → Nat → List Fr → List Nat
  | 0, _, _ => []
  | f + 1, p, L => if d.size ≤ p then [] else
    match L with
    | [] => if byteAt d p = 231 then p :: mrkN d f (p + 1) [] else mrkN d f (p + 1) []
    | r :: L' => if p = r.at' then mrkN d f r.next L' else if byteAt d p = 231 then p :: mrkN d f (p + 1) (r :: L') else mrkN d f (p + 1) (r :: L')
/-- what a scrub tells -/
def scrN (d : ByteArray) : List ByteArray := ((mrkN d (d.size + 1) 0 (sc d 0)).take 100).map decB
/-- what compaction leaves of the first k records -/
def cmpN (d : ByteArray) : Nat → ByteArray
  | 0 => ByteArray.empty
  | k + 1 => if goneAt (sc d 0) k = false ∧ lstN d (keyAt d (sc d 0) k) = (k : Int) then cmpN d k ++ recV (keyAt d (sc d 0) k) false (rcD d (sc d 0)[k]?) else cmpN d k
structure XOt where
  cd : Int
  dt : ByteArray
  ks : List ByteArray
  hl : Int
def putX (d : ByteArray) (sy : Nat) (t : ByteArray) (no : Bool) : ByteArray × Nat × Int :=
  if t.size = 0 then (d, sy, 1) else if 300000 < d.size + t.size then (d, sy, 7) else if no then (d, sy, 5) else (d ++ t, sy, 0)
def crsK (d : ByteArray) (sy : Nat) (kp : Int) : Int := if ((d.size : Int) - sy) < (if kp < 0 then 0 else kp) then (d.size : Int) - sy else (if kp < 0 then 0 else kp)
def rotN (d : ByteArray) (i : Nat) (t : Int) : ByteArray := ⟨(d.data.toList.set i (UInt8.ofNat (byteAt d i ^^^ t.toNat))).toArray⟩
def rotP (d : ByteArray) (i t : Int) : Prop := t < 1 ∨ 255 < t ∨ i < 0 ∨ (d.size : Int) ≤ i
instance (d : ByteArray) (i t : Int) : Decidable (rotP d i t) := inferInstanceAs (Decidable (_ ∨ _ ∨ _ ∨ _))
/-- an operation: the data and what is synced of them, and the answer -/
def xDo (d : ByteArray) (sy : Nat) (o : Op) : (ByteArray × Nat) × XOt :=
  let r : ByteArray × Nat × Int × ByteArray × List ByteArray :=
    if o.kd = 1 then ((putX d sy (recV o.ky false o.dt) false).1, (putX d sy (recV o.ky false o.dt) false).2.1, (putX d sy (recV o.ky false o.dt) false).2.2, ByteArray.empty, [])
    else if o.kd = 2 then ((putX d sy (recV o.ky true ⟨#[]⟩) (!thrB d o.ky)).1, (putX d sy (recV o.ky true ⟨#[]⟩) (!thrB d o.ky)).2.1, (putX d sy (recV o.ky true ⟨#[]⟩) (!thrB d o.ky)).2.2, ByteArray.empty, [])
    else if o.kd = 3 then (d, d.size, 0, ByteArray.empty, [])
    else if o.kd = 4 then (d.extract 0 (sy + (crsK d sy o.kp).toNat), sy + (crsK d sy o.kp).toNat, 0, ByteArray.empty, [])
    else if o.kd = 5 then (if rotP d o.at_ o.tn then (d, sy, 1, ByteArray.empty, []) else (rotN d o.at_.toNat o.tn, sy, 0, ByteArray.empty, []))
    else if o.kd = 6 then (if thrB d o.ky then (d, sy, 0, datN d o.ky, []) else (d, sy, 5, ByteArray.empty, []))
    else if o.kd = 7 then (d, sy, 0, ByteArray.empty, scrN d)
    else if o.kd = 8 then (cmpN d (sc d 0).length, (cmpN d (sc d 0).length).size, 0, ByteArray.empty, [])
    else (d, sy, 1, ByteArray.empty, [])
  ((r.1, r.2.1), ⟨r.2.2.1, r.2.2.2.1, r.2.2.2.2, (hldN r.1 : Int)⟩)
/-- behind i operations -/
def xRun (d : ByteArray) (sy : Nat) (o : Nat → Op) : Nat → (ByteArray × Nat) × List XOt
  | 0 => ((d, sy), [])
  | i + 1 => ((xDo (xRun d sy o i).1.1 (xRun d sy o i).1.2 (o i)).1, (xRun d sy o i).2 ++ [(xDo (xRun d sy o i).1.1 (xRun d sy o i).1.2 (o i)).2])
theorem xRun_len (d : ByteArray) (sy : Nat) (o : Nat → Op) : ∀ i, (xRun d sy o i).2.length = i
  | 0 => rfl
  | i + 1 => by
    show ((xRun d sy o i).2 ++ [_]).length = i + 1
    rw [List.length_append, xRun_len d sy o i]
    rfl
end Go.Proofs.YtngkiokibldfjaaGreatDoor
namespace Go.Proofs.YtngkiokibldfjaaGreatDoor
open Go.RowKit
theorem made_row (w : World) (t : TypeId) (zf : Nat → Value) (n k : Nat) (hk : 0 < k) : FRow (w.alloc (.cells (madeCells ((List.range k).map zf).toArray (n * k)) t)) w.heap.size t (n * k) (fun p => zf (p % k)) :=
  ⟨_, RowAt.new w _ _, by simp [madeCells], fun p hp => by
    have h2 : p % k < k := Nat.mod_lt _ hk
    simp [madeCells, hp, h2]⟩
/-! Slices of texts: what the laws do with them. -/
def Strs (w : World) (a : Option Addr) (len cap : Nat) (ts : Nat → ByteArray) : Prop :=
  len ≤ cap ∧ (len = 0 ∨ ∃ b off, a = some ⟨b, off, none⟩ ∧ b < w.heap.size ∧ ∀ i, i < len → w.cell? ⟨b, off + i, none⟩ = some (.string (ts i)))
theorem Strs.below {w w' : World} {a : Option Addr} {len cap : Nat} {ts : Nat → ByteArray} (h : Strs w a len cap ts) (hb : Below w.heap.size w w') : Strs w' a len cap ts := by
  refine ⟨h.1, ?_⟩
  rcases h.2 with h0 | ⟨b, off, rfl, h1, h2⟩
  · exact Or.inl h0
  · exact Or.inr ⟨b, off, rfl, Nat.lt_of_lt_of_le h1 hb.size, fun i hi => (hb.cell (p := ⟨b, off + i, none⟩) h1).trans (h2 i hi)⟩
theorem FRow.strs {w : World} {b n : Nat} {t : TypeId} {ts : Nat → ByteArray} (h : FRow w b t n (fun i => .string (ts i))) : Strs w (some ⟨b, 0, none⟩) n n ts :=
  ⟨Nat.le_refl _, Or.inr ⟨b, 0, rfl, h.lt, fun i hi => by rw [Nat.zero_add]; exact h.cell hi⟩⟩
theorem Tryz.infoS' : (Tryz.prog.info? 9).map (fun i => (i.zero, i.size, i.bytes)) = some (some (.string ⟨#[]⟩), 1, 16) := by kernel_rfl
theorem mkS' (w : World) (n : Nat) (hn : n ≤ 1048576) : (Instr.makeSlice 23 (.int .i64 n) (.int .i64 n)).run Tryz.prog w = .ok (.slice (some ⟨w.heap.size, 0, none⟩) n n) (w.alloc (.cells (madeCells #[.string ⟨#[]⟩] n) 9)) := by
  obtain ⟨i0, hi, hz0, hz1, hz2⟩ := info_parts Tryz.infoS'
  have := run_make (P := Tryz.prog) w 23 9 i0 _ Tryz.underlying23 hi hz0 .i64 .i64 n n (by omega) (Int.le_refl _) (by rw [hz2]; omega) (by omega)
  rw [this, hz1]
  simp only [Int.toNat_natCast, Value.cells, Nat.mul_one]
set_option maxRecDepth 20000 in
set_option maxHeartbeats 2000000 in
theorem eqStr (a : Option Addr) (len cap : Nat) (a' : Option Addr) (cap' : Nat) (ts ts' : Nat → ByteArray) (hl : len ≤ 1048576) (he : ∀ i, i < len → ts i = ts' i) (w : World) (h : Strs w a len cap ts) (h' : Strs w a' len cap' ts') :
    Calls Tryz.prog 81 #[.slice a len cap, .slice a' len cap'] w fun e w' => e = .returned (.bool true) ∧ ∃ k, w' = w.drewN k := by
  have HH := hid h
  have HH' := hid h'
  have HE := hid he
  have dn : ((len : Int) != (len : Int)) = false := by simp
  clear h h' he
  go_enter Tryz.func81, Tryz.ntmps81
  go_wp2_with fail
  go_loopw [5] (fun y wr => ∃ (k q : Nat), k ≤ len ∧ y = .int .i64 k ∧ wr = w.drewN q) (fun y _ => len - (intOf y).toNat)
  case atStart => exact ⟨0, 0, Nat.zero_le _, rfl, rfl⟩
  case round =>
    obtain ⟨k, q, hk, rfl, rfl⟩ := hrel
    by_cases hlt : k < len
    · have hlt' : (k : Int) < (len : Int) := by omega
      have k0 : (0 : Int) ≤ (k : Int) := by omega
      rcases HH.out.2 with h00 | ⟨b, off, rfl, hbl, hc⟩
      · omega
      rcases HH'.out.2 with h00 | ⟨b', off', rfl, hbl', hc'⟩
      · omega
      have c1 : w.cell? ⟨b, off + k, none⟩ = some (.string (ts k)) := hc k hlt
      have c2 : w.cell? ⟨b', off' + k, none⟩ = some (.string (ts k)) := by rw [HE.out k hlt]; exact hc' k hlt
      obtain ⟨t, ht⟩ : ∃ t, t = ts k := ⟨_, rfl⟩
      rw [← ht] at c1 c2
      clear hc hc' ht
      go_wp2_with fail
      go_quiet (fail)
      go_wp2
      -- @cut1
      go_roundw
      case rel => exact ⟨k + 1, _, by omega, by go_num, rfl⟩
      case measure => simp [intOf]; omega
    · have hlt' : ¬ (k : Int) < (len : Int) := by omega
      go_wp2
      go_ret
      exact ⟨rfl, q, rfl⟩
/-- a slice of texts as the row gives it -/
def IsStrs (w : World) (a : Option Addr) (len cap : Nat) (ts : Nat → ByteArray) : Prop :=
  (a = none ∧ len = 0 ∧ cap = 0) ∨ ∃ x : Addr, a = some x ∧ len ≤ cap ∧ cap ≤ maxLen ∧ ∀ i, i < len → w.cell? (x.add i) = some (.string (ts i)) ∧ (ts i).size ≤ maxLen
theorem IsStrs.len {w : World} {a : Option Addr} {len cap : Nat} {ts : Nat → ByteArray} (h : IsStrs w a len cap ts) : len ≤ 9223372036854775807 ∧ ∀ i, i < len → (ts i).size ≤ 9223372036854775807 := by
  rcases h with ⟨_, rfl, _⟩ | ⟨x, _, h1, h2, h3⟩
  · exact ⟨by omega, fun i hi => absurd hi (Nat.not_lt_zero _)⟩
  · unfold maxLen at h2 h3; exact ⟨by omega, fun i hi => by have := (h3 i hi).2; omega⟩
theorem Strs.of_is {w : World} {a : Option Addr} {len cap : Nat} {ts : Nat → ByteArray} (h : IsStrs w a len cap ts) : Strs w a len cap ts := by
  rcases h with ⟨rfl, rfl, rfl⟩ | ⟨x, rfl, h1, h2, hcell⟩
  · exact ⟨Nat.le_refl _, Or.inl rfl⟩
  · refine ⟨h1, ?_⟩
    by_cases h0 : len = 0
    · exact Or.inl h0
    · right
      obtain ⟨b, off, spot⟩ := x
      have hc := (hcell 0 (by omega)).1
      have hspot : spot = none := by simpa [Addr.add] using World.cell?_spot hc
      subst hspot
      have hadd : ∀ i, (⟨b, off, none⟩ : Addr).add i = ⟨b, off + i, none⟩ := by intro i; unfold Addr.add; split <;> simp_all
      refine ⟨b, off, rfl, ?_, fun i hi => ?_⟩
      · have := World.block_lt_of_cell? w _ hc; rw [hadd] at this; exact this
      · have := (hcell i hi).1
        rw [hadd] at this
        exact this
end Go.Proofs.YtngkiokibldfjaaGreatDoor
namespace Go.Proofs.YtngkiokibldfjaaGreatDoor
open Go.RowKit
/-! Slices of texts that a call owns (cut out of EncS3). -/
def OwnStrs (w : World) (base : Nat) (v : Value) (xs : List ByteArray) : Prop := w.ownsRow base 9 1 v xs.length (xs.map Value.string)
theorem OwnStrs.below {w w' : World} {base : Nat} {v : Value} {xs : List ByteArray} (h : OwnStrs w base v xs) (hb : Below w.heap.size w w') : OwnStrs w' base v xs := by
  refine ⟨h.1, ?_⟩
  rcases h.2 with h0 | ⟨g, cap, cur, he, hbg, hr, r⟩
  · exact Or.inl h0
  · exact Or.inr ⟨g, cap, cur, he, hbg, (hb.block g (show RowAt w g 9 cur from hr).lt).trans hr, r⟩
theorem OwnStrs.alloc {w : World} {base : Nat} {v : Value} {xs : List ByteArray} (h : OwnStrs w base v xs) (o : Obj) : OwnStrs (w.alloc o) base v xs := World.ownsRow.alloc h o
theorem OwnStrs.drew {w : World} {base : Nat} {v : Value} {xs : List ByteArray} (h : OwnStrs w base v xs) : OwnStrs w.drew base v xs := World.ownsRow.drew h
theorem OwnStrs.slice {w : World} {base : Nat} {v : Value} {xs : List ByteArray} (h : OwnStrs w base v xs) : ∃ a c, v = .slice a xs.length c := by
  rcases h.2 with ⟨h0, h1⟩ | ⟨g, cap, cur, he, _⟩
  · exact ⟨_, _, by rw [h0, h1]⟩
  · exact ⟨_, _, he⟩
theorem OwnStrs.ne {w : World} {base : Nat} {v : Value} {xs : List ByteArray} {c : Nat} (h : OwnStrs w base v xs) (hc : c < base) : some c ≠ v.ownBlock := by
  rcases h.2 with ⟨rfl, _⟩ | ⟨g, cap, cur, rfl, hb, _⟩
  · intro e; cases e
  · intro e
    have e2 : c = g := by simpa [Value.ownBlock] using e
    omega
theorem OwnStrs.strs {w : World} {base : Nat} {a : Option Addr} {n c : Nat} {xs : List ByteArray} {ts : Nat → ByteArray} (h : OwnStrs w base (.slice a n c) xs) (h0 : 0 < xs.length) (ht : ∀ i, i < xs.length → xs[i]? = some (ts i)) :
    ∃ g, a = some ⟨g, 0, none⟩ ∧ base ≤ g ∧ n = xs.length ∧ Strs w (some ⟨g, 0, none⟩) n c ts := by
  rcases h.2 with ⟨_, h1⟩ | ⟨g, cap, cur, he, hb, hr, hnc, hm, hsz, htk⟩
  · omega
  · cases he
    have R : RowAt w g 9 cur := hr
    refine ⟨g, rfl, hb, rfl, hnc, Or.inr ⟨g, 0, rfl, R.lt, fun i hi => ?_⟩⟩
    have := congrArg (·[i]?) htk
    simp only [List.getElem?_take] at this
    rw [if_pos (by omega), List.getElem?_map, ht i hi] at this
    rw [R.cell (0 + i), Nat.zero_add]
    simpa using this
theorem Strs.setRow {w : World} {b len cap : Nat} {ts : Nat → ByteArray} (h : Strs w (some ⟨b, 0, none⟩) len cap ts) (g : Nat) (c : Array Value) (hn : b ≠ g) : Strs (w.setRow g c) (some ⟨b, 0, none⟩) len cap ts := by
  refine ⟨h.1, ?_⟩
  rcases h.2 with h0 | ⟨b', off, he, h1, h2⟩
  · exact Or.inl h0
  · cases he
    refine Or.inr ⟨b, 0, rfl, by rw [setRow_size]; exact h1, fun i hi => ?_⟩
    rw [← h2 i hi]
    simp only [World.cell?, setRow_other w g b c hn]
theorem append_str2 {P : Program} (base : Nat) (wr : World) {ops : Array Oper} {rest : List Oper} {o : Oper} {a : Act} {Q : Exit → Act → World → Prop} (hgd : o.guard = none) (s x : Operand) (t : TypeId)
    (ho : o.op = .call { callee := .builtin .append, args := #[s, x], argTypes := #[t, t] })
    (ht : P.underlying t = some (.slice 9)) (hinfo : (P.info? 9).map (fun i => (i.zero, i.size, i.bytes)) = some (some (.string ⟨#[]⟩), 1, 16))
    (v : Value) (xs : List ByteArray) (y : ByteArray) (hs : a.eval s = v) (hown : OwnStrs wr base v xs) (hsz : base ≤ wr.heap.size)
    (hx : a.eval x = .slice (some ⟨wr.heap.size, 0, none⟩) 1 1) (hlen : xs.length ≤ 1048576)
    (h : ∀ v' w', OwnStrs w' base v' (xs ++ [y]) → wr.grownBy w' v.ownBlock → wpList P ops Q rest (a.put o.dst v') w') :
    wpList P ops Q (o :: rest) a (wr.alloc (.cells #[.string y] 9)) := by
  obtain ⟨i0, hi, hz0, hz1, hz2⟩ := info_parts hinfo
  refine wpList_append_own _ hgd s x t ho base 9 i0 (.string ⟨#[]⟩) 1 16 ht hi hz0 hz1 hz2 rfl (by decide) v _ _ hs (World.ownsRow.alloc hown _) ⟨wr.heap.size, 0, none⟩ 1 1 [.string y] hx rfl ?_ ?_ ?_ ?_ ?_ ?_
  · intro j u hj
    match j, hj with
    | 0, hj => simp at hj; subst hj; simp [Addr.add]
  · intro u hu; simp at hu; subst hu; rfl
  · unfold maxLen; omega
  · omega
  · simp; omega
  · intro v' w' h1 h2 h3
    exact h v' w' (by simpa [OwnStrs] using h1) (grown_trans (World.grownBy_alloc wr _ _) h2)
end Go.Proofs.YtngkiokibldfjaaGreatDoor
namespace Go.Proofs.YtngkiokibldfjaaGreatDoor
open Go.RowKit
/-! The program's putSum: a sum in four bytes. -/
set_option maxRecDepth 20000 in
set_option maxHeartbeats 1000000 in
theorem iFour (n : Int) (h0 : 0 ≤ n) (h1 : n ≤ 2147483647) (w : World) :
    Calls Tryz.prog 92 #[.int .i64 n] w fun e w' => e = .returned (.string (four n)) ∧ Below w.heap.size w w' := by
  have cv : (convert 22 9 (.slice (some ⟨w.heap.size, 0, none⟩) 4 4)).run Tryz.prog (w.alloc (.cells #[.int .u8 (n / 16777216), .int .u8 (n / 65536 % 256), .int .u8 (n / 256 % 256), .int .u8 (n % 256)] 5)) = .ok (.string (four n)) (w.alloc (.cells #[.int .u8 (n / 16777216), .int .u8 (n / 65536 % 256), .int .u8 (n / 256 % 256), .int .u8 (n % 256)] 5)) :=
    run_convert_bytes_arg (P := Tryz.prog) _ 22 5 Tryz.underlying22 Tryz.underlying5 w.heap.size 0 4 4 [n / 16777216, n / 65536 % 256, n / 256 % 256, n % 256] rfl (fun i hi => by
      have R := RowAt.new w 5 #[.int .u8 (n / 16777216), .int .u8 (n / 65536 % 256), .int .u8 (n / 256 % 256), .int .u8 (n % 256)]
      have hi4 : i < 4 := hi
      rcases (by omega : i = 0 ∨ i = 1 ∨ i = 2 ∨ i = 3) with rfl | rfl | rfl | rfl
      · exact R.cell 0
      · exact R.cell 1
      · exact R.cell 2
      · exact R.cell 3) 9 Tryz.underlying9
  go_enter Tryz.func92, Tryz.ntmps92
  go_wp2
  go_ret
  exact ⟨rfl, (Below.refl _ w).alloc (Nat.le_refl _) _⟩
end Go.Proofs.YtngkiokibldfjaaGreatDoor
namespace Go.Proofs.YtngkiokibldfjaaGreatDoor
open Go.RowKit
/-! The program's PutRecord. -/
def bytesI (s : ByteArray) : List Int := s.data.toList.map fun b => (b.toNat : Int)
theorem bytesI_length (s : ByteArray) : (bytesI s).length = s.size := by simp [bytesI]
theorem str_bytesI (s : ByteArray) : strOfNums (bytesI s) = s := by
  apply ByteArray.ext; apply Array.toList_inj.1
  rw [strOfNums_data]; unfold bytesI
  rw [List.map_map]
  have : ((fun n : Int => UInt8.ofNat n.toNat) ∘ fun b : UInt8 => (b.toNat : Int)) = id := by funext b; simp
  rw [this, List.map_id]
theorem str_append (xs ys : List Int) : strOfNums (xs ++ ys) = strOfNums xs ++ strOfNums ys := by
  apply ByteArray.ext; apply Array.toList_inj.1
  rw [strOfNums_data]
  have : (strOfNums xs ++ strOfNums ys).data.toList = (strOfNums xs).data.toList ++ (strOfNums ys).data.toList := by simp [ByteArray.data_append]
  rw [this, strOfNums_data, strOfNums_data, List.map_append]
/-- A text's bytes are appended to a row of bytes that the call owns. -/
theorem append_text {P : Program} (W0 wr : World) {ops : Array Oper} {rest : List Oper} {o : Oper} {a : Act} {Q : Exit → Act → World → Prop} (hgd : o.guard = none) (s x : Operand) (t u : TypeId)
    (ho : o.op = .call { callee := .builtin .append, args := #[s, x], argTypes := #[t, u] })
    (e : TypeId) (ht : P.underlying t = some (.slice e)) (hu : P.underlying u = some .string) (hinfo : (P.info? e).map (fun i => (i.zero, i.size, i.bytes)) = some (some (.int .u8 0), 1, 1))
    (v : Value) (xs : List Int) (b : ByteArray) (hs : a.eval s = v) (hown : OwnNums wr W0.heap.size e .u8 v xs) (hbel : Below W0.heap.size W0 wr)
    (hx : a.eval x = .string b) (hlen : xs.length + b.size ≤ 17592186044414)
    (h : ∀ v' w', OwnNums w' W0.heap.size e .u8 v' (xs ++ bytesI b) → Below W0.heap.size W0 w' → wpList P ops Q rest (a.put o.dst v') w') :
    wpList P ops Q (o :: rest) a wr := by
  obtain ⟨i0, hi, hz0, hz1, hz2⟩ := info_parts hinfo
  refine Go.Lib.wpList_append_own_string wr hgd s x t u ho W0.heap.size e i0 ht hu hi hz0 hz1 hz2 v xs.length _ hs hown b hx (by unfold maxLen; omega) (by omega) hbel.size ?_
  intro v' w' h1 h2 _
  refine h v' w' ?_ (hbel.grown h2 hbel.size fun k hk => (World.ownsRow.lt hown k hk).1)
  show w'.ownsRow W0.heap.size e 1 v' (xs ++ bytesI b).length ((xs ++ bytesI b).map (Value.int .u8))
  rw [List.length_append, bytesI_length, List.map_append]
  have : (bytesI b).map (Value.int .u8) = Go.Lib.strCells b := by unfold bytesI Go.Lib.strCells; rw [List.map_map]; rfl
  rw [this]; exact h1
/-- Some numbers, just laid in a block of their own, are appended. -/
theorem append_list {P : Program} (W0 wr : World) {ops : Array Oper} {rest : List Oper} {o : Oper} {a : Act} {Q : Exit → Act → World → Prop} (hgd : o.guard = none) (s x : Operand) (t : TypeId)
    (ho : o.op = .call { callee := .builtin .append, args := #[s, x], argTypes := #[t, t] })
    (e : TypeId) (k : IntKind) (bt : Nat) (ht : P.underlying t = some (.slice e)) (hinfo : (P.info? e).map (fun i => (i.zero, i.size, i.bytes)) = some (some (.int k 0), 1, bt)) (hbt : bt ≤ 8)
    (v : Value) (xs bs : List Int) (cs : Array Value) (hcs : cs = (bs.map (Value.int k)).toArray) (m : Nat) (hm : bs.length = m) (hm0 : 0 < m) (hs : a.eval s = v) (hown : OwnNums wr W0.heap.size e k v xs) (hbel : Below W0.heap.size W0 wr)
    (hx : a.eval x = .slice (some ⟨wr.heap.size, 0, none⟩) m m) (hlen : xs.length + m ≤ 17592186044414)
    (h : ∀ v' w', OwnNums w' W0.heap.size e k v' (xs ++ bs) → Below W0.heap.size W0 w' → wpList P ops Q rest (a.put o.dst v') w') :
    wpList P ops Q (o :: rest) a (wr.alloc (.cells cs e)) := by
  obtain ⟨i0, hi, hz0, hz1, hz2⟩ := info_parts hinfo
  have hsz := hbel.size
  subst hcs
  refine wpList_append_own _ hgd s x t ho W0.heap.size e i0 (.int k 0) 1 bt ht hi hz0 hz1 hz2 rfl (by decide) v _ _ hs (World.ownsRow.alloc hown _) ⟨wr.heap.size, 0, none⟩ m m (bs.map (Value.int k)) hx (by simp; omega) ?_ ?_ ?_ ?_ ?_ ?_
  · have := World.news_of_block (w := wr.alloc (.cells (bs.map (Value.int k)).toArray e)) (heap_alloc_new wr _); simpa using this
  · intro u hu; obtain ⟨y, _, rfl⟩ := List.mem_map.1 hu; rfl
  · unfold maxLen; omega
  · exact Nat.le_trans (Nat.mul_le_mul_left _ hbt) (by omega)
  · simp; omega
  · intro v' w' h1 h2 h3
    refine h v' w' (by subst hm; simpa [OwnNums] using h1) (((hbel.alloc hsz _).grown h2 (by simp; omega) fun k hk => (World.ownsRow.lt hown k hk).1))
def pre4 (s : ByteArray) : List Int := [] ++ [231] ++ bytesI s
def pre7 (g : Bool) (s t : ByteArray) : List Int := pre4 s ++ (if g then 1 else 0) :: bytesI t
theorem recT_nums (key : ByteArray) (gone : Bool) (data : ByteArray) : strOfNums (pre7 gone (putText key) (putText data)) = recT key gone data := by
  have e : pre7 gone (putText key) (putText data) = [231] ++ bytesI (putText key) ++ [if gone then 1 else 0] ++ bytesI (putText data) := by simp [pre7, pre4]
  unfold recT
  rw [e, str_append, str_append, str_append, str_bytesI, str_bytesI]
  cases gone <;> rfl
set_option maxRecDepth 20000 in
set_option maxHeartbeats 2000000 in
theorem iPutRec (key : ByteArray) (gone : Bool) (data : ByteArray) (hk : key.size ≤ 1048576) (hd : data.size ≤ 1048576) (w : World) :
    Calls Tryz.prog 71 #[.string key, .bool gone, .string data] w fun e w' => e = .returned (.string (recV key gone data)) ∧ Below w.heap.size w w' := by
  by_cases hok : RecOk key gone data
  case neg =>
    have E : Hid (recV key gone data = ByteArray.empty) := if_neg hok
    by_cases h0 : key.size < 1
    · have d0 := ba_empty key (by omega)
      go_enter Tryz.func71, Tryz.ntmps71
      go_wp2
      go_ret
      exact ⟨by rw [E.out]; rfl, Below.refl _ _⟩
    have d0 := ba_some key (by omega)
    by_cases h1 : 200 < key.size
    · have d1 : decide ((200 : Int) < ((key.size : Nat) : Int)) = true := by simp; omega
      go_enter Tryz.func71, Tryz.ntmps71
      go_wp2
      go_ret
      exact ⟨by rw [E.out]; rfl, Below.refl _ _⟩
    have d1 : decide ((200 : Int) < ((key.size : Nat) : Int)) = false := by simp; omega
    by_cases h2 : gone = true ∧ data.size ≠ 0
    · obtain ⟨rfl, h2⟩ := h2
      have d2 := ba_some data h2
      go_enter Tryz.func71, Tryz.ntmps71
      go_wp2
      go_ret
      exact ⟨by rw [E.out]; rfl, Below.refl _ _⟩
    have h3 : 100000 < data.size := Nat.lt_of_not_le fun q => hok ⟨by omega, by omega, fun e => Classical.byContradiction fun r => h2 ⟨e, r⟩, q⟩
    have d3 : decide ((100000 : Int) < ((data.size : Nat) : Int)) = true := by simp; omega
    cases gone with
    | true => exact absurd ⟨rfl, by omega⟩ h2
    | false =>
      go_enter Tryz.func71, Tryz.ntmps71
      go_wp2
      go_ret
      exact ⟨by rw [E.out]; rfl, Below.refl _ _⟩
  have E : Hid (recV key gone data = recT key gone data ++ four (sumOf (recT key gone data) 5)) := if_pos hok
  have hz := recT_size key gone data hok.2.1 hok.2.2.2
  have d0 := ba_some key (by have := hok.1; omega)
  have d1 : decide ((200 : Int) < ((key.size : Nat) : Int)) = false := by have := hok.2.1; simp; omega
  have d3 : decide ((100000 : Int) < ((data.size : Nat) : Int)) = false := by have := hok.2.2.2; simp; omega
  have P1 := fun w => hid (iptext_all key (by omega) w)
  have P2 := fun w => hid (iptext_all data (by omega) w)
  have z1 := putText_size key (by have := hok.2.1; omega)
  have z2 := putText_size data hok.2.2.2
  have SS := fun w => hid (isum_all (recT key gone data) 5 (by decide) (by omega) w)
  have sb := sumL_bd (recT key gone data).data.toList 6 (by decide) (by decide)
  have se : sumOf (recT key gone data) 5 = sumL 6 (recT key gone data).data.toList := by unfold sumOf; rw [if_neg (by omega)]; rfl
  have TN := hid (recT_nums key gone data)
  rw [se] at E SS
  obtain ⟨x, hx⟩ : ∃ x, x = sumL 6 (recT key gone data).data.toList := ⟨_, rfl⟩
  rw [← hx] at E SS sb
  obtain ⟨k1, hk1⟩ : ∃ s, s = putText key := ⟨_, rfl⟩
  obtain ⟨k2, hk2⟩ : ∃ s, s = putText data := ⟨_, rfl⟩
  obtain ⟨rt, hrt⟩ : ∃ s, s = recT key gone data := ⟨_, rfl⟩
  rw [← hk1] at P1 z1 TN
  rw [← hk2] at P2 z2 TN
  rw [← hrt] at E SS TN hz
  have HD : Hid (data.size ≤ 100000) := hok.2.2.2
  have HK : Hid (key.size ≤ 200) := hok.2.1
  have d2 : gone = true → data.toList.isEmpty = true := fun q => ba_empty data (hok.2.2.1 q)
  have Z1 : Hid (k1.size ≤ 209) := by have := HK.out; show _ ≤ _; omega
  have Z2 : Hid (k2.size ≤ 100009) := by have := HD.out; show _ ≤ _; omega
  have X0 : Hid (0 ≤ x) := sb.1
  have X1 : Hid (x ≤ 2147483647) := sb.2
  have KF := fun wx => hid (iFour x X0.out X1.out wx)
  have FZ := hid (four_size x)
  generalize four x = F4 at KF FZ E
  clear hk1 hk2 hrt hx se hok z1 z2 sb hz
  have hcap : IntKind.i64.wrap (211 + (data.size : Int)) = 211 + (data.size : Int) := by have := HD.out; simp [IntKind.wrap, IntKind.bits, IntKind.signed]; omega
  cases gone with
  | true =>
    have d2' := d2 rfl
    clear d2
    go_enter Tryz.func71, Tryz.ntmps71
    go_wp2_with (first | (refine make_nums w w rfl (.const (.int .i64 0)) (.tmp 30) 22 rfl 5 .u8 1 Tryz.underlying22 Tryz.info5 (by decide) .i64 .i64 (211 + (data.size : Int)) (211 + data.size) rfl rfl (by simp) ?_ (Below.refl _ _) ?_; (have := HD.out; omega)) | go_in)
    intro w1 hO1 hB1
    go_wp2_with (first | (at_builtin; (refine append_num w w1 rfl (.tmp 32) (.tmp 33) 22 rfl 5 .u8 1 Tryz.underlying22 Tryz.info5 (by decide) _ [] 231 rfl hO1 hB1 rfl ?_ ?_; (simp))) | go_in)
    intro v2 w2 hO2 hB2 _
    clear hO1 hB1
    go_wp2_with fail
    refine (P1 _).out.mono ?_
    rintro e w3 ⟨rfl, hb3⟩
    have hO3 : OwnNums w3 w.heap.size 5 .u8 v2 ([] ++ [231]) := World.ownsRow.kept hO2 (below_grown hb3 none) (Classical.em _)
    have hB3 : Below w.heap.size w w3 := hB2.trans (hb3.mono hB2.size)
    clear hO2 hB2 hb3
    go_wp2_with (first | (at_builtin; (refine append_text w w3 rfl (.tmp 35) (.tmp 37) 22 9 rfl 5 Tryz.underlying22 Tryz.underlying9 Tryz.info5 _ _ k1 rfl hO3 hB3 rfl ?_ ?_; (have := Z1.out; simp; omega))) | go_in)
    intro v4 w4 hO4 hB4
    clear hO3 hB3
    have L4 : Hid ((pre4 k1).length ≤ 210) := by have := Z1.out; show _ ≤ _; simp [pre4, bytesI_length]; omega
    have hO4 : OwnNums w4 w.heap.size 5 .u8 v4 (pre4 k1) := hO4
    go_wp2_with (first | (at_builtin; (refine append_num w w4 rfl (.tmp 40) (.tmp 41) 22 rfl 5 .u8 1 Tryz.underlying22 Tryz.info5 (by decide) _ _ 1 rfl hO4 hB4 rfl ?_ ?_; (have := L4.out; omega))) | go_in)
    intro v5 w5 hO5 hB5 _
    clear hO4 hB4
    go_wp2_with fail
    refine (P2 _).out.mono ?_
    rintro e w6 ⟨rfl, hb6⟩
    have hO6 := World.ownsRow.kept hO5 (below_grown hb6 none) (Classical.em _)
    have hB6 : Below w.heap.size w w6 := hB5.trans (hb6.mono hB5.size)
    clear hO5 hB5 hb6
    go_wp2_with (first | (at_builtin; (refine append_text w w6 rfl (.tmp 46) (.tmp 48) 22 9 rfl 5 Tryz.underlying22 Tryz.underlying9 Tryz.info5 _ _ k2 rfl hO6 hB6 rfl ?_ ?_; (have := L4.out; have := Z2.out; rw [List.length_append]; simp only [List.length_cons, List.length_nil]; omega))) | go_in)
    intro v7 w7 hO7 hB7
    clear hO6 hB6
    have hO7 : OwnNums w7 w.heap.size 5 .u8 v7 (pre7 true k1 k2) := hO7
    have L7 : Hid ((pre7 true k1 k2).length ≤ 110000) := by have := L4.out; have := Z2.out; show _ ≤ _; unfold pre7; rw [List.length_append, List.length_cons, bytesI_length k2]; omega
    have hcv := conv_owned w7 22 5 9 Tryz.underlying22 Tryz.underlying5 Tryz.underlying9 hO7
    rw [TN.out] at hcv
    go_wp2_with fail
    refine (SS _).out.mono ?_
    rintro e w8 ⟨rfl, rfl⟩
    go_wp2_with fail
    refine (KF _).out.mono ?_
    rintro e w9 ⟨rfl, hb9⟩
    have hO9 := World.ownsRow.kept hO7 (below_grown hb9 none) (Classical.em _)
    have hB9 : Below w.heap.size w w9 := hB7.trans (hb9.mono hB7.size)
    clear hO7 hB7 hb9
    go_wp2_with (first | (at_builtin; (refine append_text w w9 rfl (.tmp 53) (.tmp 55) 22 9 rfl 5 Tryz.underlying22 Tryz.underlying9 Tryz.info5 _ _ F4 rfl hO9 hB9 rfl ?_ ?_; (have := L7.out; have := FZ.out; omega))) | go_in)
    intro v10 w10 hO10 hB10
    have hcv9 := conv_owned w10 22 5 9 Tryz.underlying22 Tryz.underlying5 Tryz.underlying9 hO10
    rw [str_append, TN.out, str_bytesI] at hcv9
    clear hO10 hO9 hB9
    go_wp2
    go_ret
    exact ⟨by rw [E.out]; rfl, hB10⟩
  | false =>
    clear d2
    go_enter Tryz.func71, Tryz.ntmps71
    go_wp2_with (first | (refine make_nums w w rfl (.const (.int .i64 0)) (.tmp 30) 22 rfl 5 .u8 1 Tryz.underlying22 Tryz.info5 (by decide) .i64 .i64 (211 + (data.size : Int)) (211 + data.size) rfl rfl (by simp) ?_ (Below.refl _ _) ?_; (have := HD.out; omega)) | go_in)
    intro w1 hO1 hB1
    go_wp2_with (first | (at_builtin; (refine append_num w w1 rfl (.tmp 32) (.tmp 33) 22 rfl 5 .u8 1 Tryz.underlying22 Tryz.info5 (by decide) _ [] 231 rfl hO1 hB1 rfl ?_ ?_; (simp))) | go_in)
    intro v2 w2 hO2 hB2 _
    clear hO1 hB1
    go_wp2_with fail
    refine (P1 _).out.mono ?_
    rintro e w3 ⟨rfl, hb3⟩
    have hO3 : OwnNums w3 w.heap.size 5 .u8 v2 ([] ++ [231]) := World.ownsRow.kept hO2 (below_grown hb3 none) (Classical.em _)
    have hB3 : Below w.heap.size w w3 := hB2.trans (hb3.mono hB2.size)
    clear hO2 hB2 hb3
    go_wp2_with (first | (at_builtin; (refine append_text w w3 rfl (.tmp 35) (.tmp 37) 22 9 rfl 5 Tryz.underlying22 Tryz.underlying9 Tryz.info5 _ _ k1 rfl hO3 hB3 rfl ?_ ?_; (have := Z1.out; simp; omega))) | go_in)
    intro v4 w4 hO4 hB4
    clear hO3 hB3
    have L4 : Hid ((pre4 k1).length ≤ 210) := by have := Z1.out; show _ ≤ _; simp [pre4, bytesI_length]; omega
    have hO4 : OwnNums w4 w.heap.size 5 .u8 v4 (pre4 k1) := hO4
    go_wp2_with (first | (at_builtin; (refine append_num w w4 rfl (.tmp 43) (.tmp 44) 22 rfl 5 .u8 1 Tryz.underlying22 Tryz.info5 (by decide) _ _ 0 rfl hO4 hB4 rfl ?_ ?_; (have := L4.out; omega))) | go_in)
    intro v5 w5 hO5 hB5 _
    clear hO4 hB4
    go_wp2_with fail
    refine (P2 _).out.mono ?_
    rintro e w6 ⟨rfl, hb6⟩
    have hO6 := World.ownsRow.kept hO5 (below_grown hb6 none) (Classical.em _)
    have hB6 : Below w.heap.size w w6 := hB5.trans (hb6.mono hB5.size)
    clear hO5 hB5 hb6
    go_wp2_with (first | (at_builtin; (refine append_text w w6 rfl (.tmp 46) (.tmp 48) 22 9 rfl 5 Tryz.underlying22 Tryz.underlying9 Tryz.info5 _ _ k2 rfl hO6 hB6 rfl ?_ ?_; (have := L4.out; have := Z2.out; rw [List.length_append]; simp only [List.length_cons, List.length_nil]; omega))) | go_in)
    intro v7 w7 hO7 hB7
    clear hO6 hB6
    have hO7 : OwnNums w7 w.heap.size 5 .u8 v7 (pre7 false k1 k2) := hO7
    have L7 : Hid ((pre7 false k1 k2).length ≤ 110000) := by have := L4.out; have := Z2.out; show _ ≤ _; unfold pre7; rw [List.length_append, List.length_cons, bytesI_length k2]; omega
    have hcv := conv_owned w7 22 5 9 Tryz.underlying22 Tryz.underlying5 Tryz.underlying9 hO7
    rw [TN.out] at hcv
    go_wp2_with fail
    refine (SS _).out.mono ?_
    rintro e w8 ⟨rfl, rfl⟩
    go_wp2_with fail
    refine (KF _).out.mono ?_
    rintro e w9 ⟨rfl, hb9⟩
    have hO9 := World.ownsRow.kept hO7 (below_grown hb9 none) (Classical.em _)
    have hB9 : Below w.heap.size w w9 := hB7.trans (hb9.mono hB7.size)
    clear hO7 hB7 hb9
    go_wp2_with (first | (at_builtin; (refine append_text w w9 rfl (.tmp 53) (.tmp 55) 22 9 rfl 5 Tryz.underlying22 Tryz.underlying9 Tryz.info5 _ _ F4 rfl hO9 hB9 rfl ?_ ?_; (have := L7.out; have := FZ.out; omega))) | go_in)
    intro v10 w10 hO10 hB10
    have hcv9 := conv_owned w10 22 5 9 Tryz.underlying22 Tryz.underlying5 Tryz.underlying9 hO10
    rw [str_append, TN.out, str_bytesI] at hcv9
    clear hO10 hO9 hB9
    go_wp2
    go_ret
    exact ⟨by rw [E.out]; rfl, hB10⟩
end Go.Proofs.YtngkiokibldfjaaGreatDoor
