import Derived.Test.YtccokbfbkeknnaaSRec
import Derived.Test.YtccokbfbkeknnaaGetText
import Derived.Test.YtccokbfbkeknnaaOfL
import Derived.Test.YtccokbfbkeknnaaEscM
namespace Go.Proofs.Ytccokbfbkeknnaa
open Go.RowKit
/-! Sealing: streams, and what is sealed. -/
def sX (x : Int) : Nat → Int
  | 0 => x
  | k + 1 => sX x k * 48271 % 2147483647
theorem sX_bd (x : Int) (h0 : 0 ≤ x) (h1 : x ≤ 2147483647) : ∀ k, 0 ≤ sX x k ∧ sX x k ≤ 2147483647
  | 0 => ⟨h0, h1⟩
  | k + 1 => by show 0 ≤ sX x k * 48271 % 2147483647 ∧ _ ≤ _; have : sX x (k + 1) = sX x k * 48271 % 2147483647 := rfl; rw [this]; omega
/-- the stream's bytes -/
def stB (x : Int) : Nat → List UInt8
  | 0 => []
  | k + 1 => stB x k ++ [UInt8.ofNat (sX x (k + 1) / 256 % 256).toNat]
theorem stB_len (x : Int) : ∀ k, (stB x k).length = k
  | 0 => rfl
  | k + 1 => by show (stB x k ++ _).length = _; rw [List.length_append, stB_len x k]; rfl
theorem stB_app (x : Int) (m : Nat) : ∀ k, stB x (m + k) = stB x m ++ (stB x (m + k)).drop m
  | 0 => by rw [Nat.add_zero]; rw [List.drop_of_length_le (by rw [stB_len]; exact Nat.le_refl _)]; simp
  | k + 1 => by
    have ih := stB_app x m k
    have e : stB x (m + (k + 1)) = stB x (m + k) ++ [UInt8.ofNat (sX x (m + k + 1) / 256 % 256).toNat] := rfl
    rw [e, List.drop_append_of_le_length (by rw [stB_len]; omega), ← List.append_assoc, ← ih]
def keyP (k : ByteArray) : Prop := 1 ≤ k.size ∧ k.size ≤ 200
instance (k : ByteArray) : Decidable (keyP k) := by unfold keyP; infer_instance
def sx0 (key : ByteArray) (nonce : Int) : Int := sumOf (key ++ putNum nonce) 7
def stmL (key : ByteArray) (nonce : Int) (n : Nat) : List UInt8 := stB (sx0 key nonce) n
def stmP (key : ByteArray) (nonce size : Int) : Prop := keyP key ∧ 0 ≤ nonce ∧ 0 ≤ size ∧ size ≤ 200000
instance (key : ByteArray) (nonce size : Int) : Decidable (stmP key nonce size) := by unfold stmP; infer_instance
def stmV (key : ByteArray) (nonce size : Int) : List UInt8 := if stmP key nonce size then stmL key nonce size.toNat else []
/-- one list of bytes upon another -/
def xl (a b : List UInt8) : List UInt8 := List.zipWith (· ^^^ ·) a b
theorem xl_len (a b : List UInt8) : (xl a b).length = min a.length b.length := by unfold xl; simp
def xrL (t : List UInt8) (key : ByteArray) (nonce : Int) : List UInt8 := xl t (stmL key nonce t.length)
theorem xrL_len (t : List UInt8) (key : ByteArray) (nonce : Int) : (xrL t key nonce).length = t.length := by unfold xrL stmL; rw [xl_len, stB_len]; simp
theorem xl_xl (a : List UInt8) : ∀ b : List UInt8, a.length ≤ b.length → xl (xl a b) b = a := by
  induction a with
  | nil => intro b _; rfl
  | cons x a ih =>
    intro b hb
    cases b with
    | nil => simp at hb
    | cons y b =>
      have := ih b (by simpa using hb)
      unfold xl at this ⊢
      simp only [List.zipWith_cons_cons]
      rw [this]
      congr 1
      rw [UInt8.xor_assoc, UInt8.xor_self, UInt8.xor_zero]
theorem xrL_xrL (t : List UInt8) (key : ByteArray) (nonce : Int) : xrL (xrL t key nonce) key nonce = t := by
  have e : xrL (xrL t key nonce) key nonce = xl (xrL t key nonce) (stmL key nonce (xrL t key nonce).length) := rfl
  rw [e, xrL_len]
  exact xl_xl t _ (by unfold stmL; rw [stB_len]; exact Nat.le_refl _)
/-- the data key, wrapped -/
def wpL (m dk : ByteArray) (nonce : Int) : List UInt8 := xrL ((putText dk).data.toList ++ (four (sumOf (putText dk) 8)).data.toList) m nonce
def dtL (dk : ByteArray) (nonce : Int) (data : ByteArray) : List UInt8 := xrL (data.data.toList ++ (four (sumOf (dk ++ data) 6)).data.toList) dk nonce
def slV (c : Int) (w d : ByteArray) : Value := .agg #[.int .i64 c, .string w, .string d]
def sealO (m dk : ByteArray) (nonce : Int) (data : ByteArray) : Value :=
  if keyP m ∧ keyP dk ∧ 0 ≤ nonce then if data.size ≤ 100000 then slV 0 (ofL (wpL m dk nonce)) (ofL (dtL dk nonce data)) else slV 2 ⟨#[]⟩ ⟨#[]⟩ else slV 1 ⟨#[]⟩ ⟨#[]⟩
/-- the data key out of what is wrapped: a code, or the key -/
def unwO (m : ByteArray) (c : Int) (wr dt : ByteArray) (nonce : Int) : Int × ByteArray :=
  if keyP m ∧ 0 ≤ nonce ∧ c = 0 ∧ wr.size ≤ 300 ∧ dt.size ≤ 100004 then
    match getText (ofL (xrL wr.data.toList m nonce)) 0 with
    | none => (12, ⟨#[]⟩)
    | some (k, _) => if keyP k ∧ ofL (wpL m k nonce) = wr then (0, k) else (12, ⟨#[]⟩)
  else (1, ⟨#[]⟩)
def bsV (c : Int) (d : ByteArray) : Value := .agg #[.int .i64 c, .string d]
/-- what the data key opens -/
def opnD (k : ByteArray) (dt : ByteArray) (nonce : Int) : Value :=
  let t := xrL dt.data.toList k nonce
  if 4 ≤ t.length ∧ (four (sumOf (k ++ ofL (t.take (t.length - 4))) 6)).data.toList = t.drop (t.length - 4) then bsV 0 (ofL (t.take (t.length - 4))) else bsV 12 ⟨#[]⟩
def opnO (m : ByteArray) (c : Int) (wr dt : ByteArray) (nonce : Int) : Value :=
  if (unwO m c wr dt nonce).1 = 0 then opnD (unwO m c wr dt nonce).2 dt nonce else bsV (unwO m c wr dt nonce).1 ⟨#[]⟩
def rewO (old now : ByteArray) (c : Int) (wr dt : ByteArray) (nonce : Int) : Value :=
  if keyP now then if (unwO old c wr dt nonce).1 = 0 then slV 0 (ofL (wpL now (unwO old c wr dt nonce).2 nonce)) dt else slV (unwO old c wr dt nonce).1 ⟨#[]⟩ ⟨#[]⟩ else slV 1 ⟨#[]⟩ ⟨#[]⟩
theorem sum_bd (s : ByteArray) (seed : Int) : 0 ≤ sumOf s seed ∧ sumOf s seed ≤ 2147483647 := by
  unfold sumOf
  split
  · omega
  · exact sumL_bd _ _ (by omega) (by omega)
theorem sx0_bd (key : ByteArray) (nonce : Int) : 0 ≤ sx0 key nonce ∧ sx0 key nonce ≤ 2147483647 := sum_bd _ 7
theorem ni_stB (x : Int) (k : Nat) : ni (stB x (k + 1)) = ni (stB x k) ++ [sX x (k + 1) / 256 % 256] := by
  show ni (stB x k ++ _) = _
  rw [ni_app]
  congr 1
  show [((UInt8.ofNat (sX x (k + 1) / 256 % 256).toNat).toNat : Int)] = _
  rw [UInt8.toNat_ofNat']
  congr 1
  omega
end Go.Proofs.Ytccokbfbkeknnaa
