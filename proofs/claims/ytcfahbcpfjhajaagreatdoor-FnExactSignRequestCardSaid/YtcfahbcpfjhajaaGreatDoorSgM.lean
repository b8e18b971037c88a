import Derived.Test.YtcfahbcpfjhajaaGreatDoorSC
import Derived.Test.YtcfahbcpfjhajaaGreatDoorP1
import Derived.Test.YtcfahbcpfjhajaaGreatDoorS3
namespace Go.Proofs.YtcfahbcpfjhajaaGreatDoor
open Go.RowKit
/-! What signing a request gives (by gensign.py). -/
def sgH (r : Rq) : List Hp := hpList r.hs.o r.hs.n
noncomputable def sgQ1 (r : Rq) (id : ByteArray) (nw ls : Int) (ts : Nat → ByteArray) (m : Nat) : List Hp := hpList r.qs.o r.qs.n ++ [(⟨⟨#[120, 45, 105, 100]⟩, id⟩ : Hp), ⟨⟨#[120, 45, 102, 114, 111, 109]⟩, ofL (Lib.decDigits nw.toNat)⟩, ⟨⟨#[120, 45, 108, 97, 115, 116, 115]⟩, ofL (Lib.decDigits ls.toNat)⟩, ⟨⟨#[120, 45, 115, 105, 103, 110, 101, 100]⟩, ofL (jn ts m)⟩]
noncomputable def sgR1 (r : Rq) (id : ByteArray) (nw ls : Int) (ts : Nat → ByteArray) (m : Nat) : Rq := mkRq r.mt r.pt (sgQ1 r id nw ls ts m) (sgH r) r.bd
noncomputable def sgQ2 (r : Rq) (id sec : ByteArray) (nw ls : Int) (ts : Nat → ByteArray) (m : Nat) : List Hp := sgQ1 r id nw ls ts m ++ [(⟨⟨#[120, 45, 115, 117, 109]⟩, ofL (Lib.decDigits (sgS (sgR1 r id nw ls ts m) sec ts m).toNat)⟩ : Hp)]
noncomputable def sgR2 (r : Rq) (id sec : ByteArray) (nw ls : Int) (ts : Nat → ByteArray) (m : Nat) : Rq := mkRq r.mt r.pt (sgQ2 r id sec nw ls ts m) (sgH r) r.bd
def sgOk0 (r : Rq) (id sec : ByteArray) (nw ls : Int) (ts : Nat → ByteArray) (m : Nat) : Prop := rqP r ∧ idP id ∧ 1 ≤ sec.size ∧ sec.size ≤ 100 ∧ 0 ≤ nw ∧ nw ≤ 4102444800 ∧ 0 ≤ ls ∧ ls ≤ 4102444800 ∧ m ≤ 10 ∧ sgnP r.hs.n r.hs.o ts m
def sgOk (r : Rq) (id sec : ByteArray) (nw ls : Int) (ts : Nat → ByteArray) (m : Nat) : Prop := sgOk0 r id sec nw ls ts m ∧ (∀ i, i < r.qs.n → ¬ bgP (r.qs.o i).nm ⟨#[120, 45]⟩) ∧ rqP (sgR1 r id nw ls ts m) ∧ rqP (sgR2 r id sec nw ls ts m)
def AnsSg (w : World) (r : Rq) (id sec : ByteArray) (nw ls : Int) (ts : Nat → ByteArray) (m : Nat) (e : Ending) (w' : World) : Prop :=
  Below w.heap.size w w' ∧ ((sgOk r id sec nw ls ts m ∧ ∃ (a1 : Option Addr) (c1 : Nat) (a2 : Option Addr) (c2 B1 B2 : Nat), e = .returned (.agg #[.string r.mt, .string r.pt, .slice a1 (sgQ2 r id sec nw ls ts m).length c1, .slice a2 (sgH r).length c2, .string r.bd]) ∧ OwnHp w' B1 (.slice a1 (sgQ2 r id sec nw ls ts m).length c1) (sgQ2 r id sec nw ls ts m) ∧ OwnHp w' B2 (.slice a2 (sgH r).length c2) (sgH r) ∧ w.heap.size ≤ B1 ∧ w.heap.size ≤ B2 ∧ ((Value.slice a2 (sgH r).length c2).ownBlock = none ∨ (Value.slice a2 (sgH r).length c2).ownBlock ≠ (Value.slice a1 (sgQ2 r id sec nw ls ts m).length c1).ownBlock)) ∨ (¬ sgOk r id sec nw ls ts m ∧ e = .returned (.agg #[.string ⟨#[]⟩, .string ⟨#[]⟩, .slice none 0 0, .slice none 0 0, .string ⟨#[]⟩])))
theorem sgn_sz {r : Rq} (hr : rqP r) {ts : Nat → ByteArray} {m : Nat} (h : sgnP r.hs.n r.hs.o ts m) (i : Nat) (hi : i < m) : (ts i).size ≤ 60 := by
  obtain ⟨k, hk, e⟩ := (h.1 i hi).1
  rw [← e]
  exact (hr.2.2.2.2.2.2 k hk).1.2.1
theorem jn_sz (ts : Nat → ByteArray) : ∀ m, (∀ i, i < m → (ts i).size ≤ 60) → (jn ts m).length ≤ m * 61
  | 0, _ => by unfold jn jl; simp [Lib.join]
  | 1, h => by rw [jn_one]; have := h 0 (by omega); simp; omega
  | m + 2, h => by
    rw [jn_next ts (m + 1) (by omega)]
    have ih := jn_sz ts (m + 1) (fun i hi => h i (by omega))
    have h1 := h (m + 1) (by omega)
    have e : (ts (m + 1)).data.toList.length = (ts (m + 1)).size := by simp
    simp only [List.length_append, List.length_cons, List.length_nil]
    omega
theorem rqP_mkS {mt pt bd : ByteArray} {a a' : Option Addr} {c c' : Nat} {Q H : List Hp} : rqP ⟨mt, pt, ⟨a, Q.length, c, hAt Q⟩, ⟨a', H.length, c', hAt H⟩, bd⟩ ↔ rqP (mkRq mt pt Q H bd) := Iff.rfl
theorem rqV_mkS {mt pt bd : ByteArray} {a a' : Option Addr} {c c' : Nat} {Q H : List Hp} : rqV ⟨mt, pt, ⟨a, Q.length, c, hAt Q⟩, ⟨a', H.length, c', hAt H⟩, bd⟩ = rqV (mkRq mt pt Q H bd) := rfl
theorem sgQ1_sz {r : Rq} {id sec : ByteArray} {nw ls : Int} {ts : Nat → ByteArray} {m : Nat} (h : sgOk0 r id sec nw ls ts m) : ∀ x ∈ sgQ1 r id nw ls ts m, x.nm.size ≤ 1000 ∧ x.vl.size ≤ 1000 := by
  intro x hx
  unfold sgQ1 at hx
  rcases List.mem_append.1 hx with h1 | h1
  · obtain ⟨i, hi, rfl⟩ := hpList_mem h1
    have := h.1.2.2.2.2.2.1 i hi
    exact ⟨Nat.le_trans this.2.1 (by omega), this.2.2⟩
  · have d1 := dec_len nw.toNat (by have := h.2.2.2.2.2.1; omega)
    have d2 := dec_len ls.toNat (by have := h.2.2.2.2.2.2.2.1; omega)
    have d3 : (ofL (jn ts m)).size ≤ 1000 := by
      rw [ofL_size]
      have := jn_sz ts m (sgn_sz h.1 h.2.2.2.2.2.2.2.2.2)
      have := h.2.2.2.2.2.2.2.2.1
      omega
    have d0 : id.size ≤ 1000 := Nat.le_trans h.2.1.2.1 (by omega)
    simp only [List.mem_cons, List.not_mem_nil, or_false] at h1
    rcases h1 with rfl | rfl | rfl | rfl
    · exact ⟨by show (4 : Nat) ≤ 1000; omega, d0⟩
    · exact ⟨by show (6 : Nat) ≤ 1000; omega, by show (ofL _).size ≤ 1000; omega⟩
    · exact ⟨by show (7 : Nat) ≤ 1000; omega, by show (ofL _).size ≤ 1000; omega⟩
    · exact ⟨by show (8 : Nat) ≤ 1000; omega, d3⟩
theorem sgH_sz {r : Rq} (h : rqP r) : ∀ x ∈ sgH r, x.nm.size ≤ 1000 ∧ x.vl.size ≤ 1000 := by
  intro x hx
  obtain ⟨i, hi, rfl⟩ := hpList_mem hx
  have := h.2.2.2.2.2.2 i hi
  exact ⟨Nat.le_trans this.1.2.1 (by omega), this.2.1⟩
end Go.Proofs.YtcfahbcpfjhajaaGreatDoor
