import Derived.Shelf.SlIter.Nil
import Derived.Shelf.SortM.Plain
import Derived.Shelf.SortM.SortNone
import Derived.Test.YtkcjigelenofhaaGreatDoorG10
import Derived.Test.YtkcjigelenofhaaGreatDoorG5
import Derived.Test.YtkcjigelenofhaaGreatDoorG11
namespace Go.Proofs.YtkcjigelenofhaaGreatDoor
open Go.RowKit Go.Maps Go.Sort Go.Shelf
def kyKRen : Ren := ⟨fun x => if x = 7 then 135 else if x = 10 then 152 else x, fun x => if x = 0 then 0 else if x = 3 then 3 else if x = 4 then 4 else if x = 23 then 116 else if x = 26 then 9 else if x = 27 then 147 else if x = 28 then 148 else if x = 33 then 75 else x, fun x => x⟩
theorem kyKLays : SlLaysZ.n7 Tryz.prog kyKRen := { mixed := by kernel_rfl, f7 := ⟨ "maps.Keys[map[string]int,string,int]", by decide, by kernel_rfl⟩, f10 := ⟨ "maps.Keys[map[string]int,string,int]$1", by decide, by kernel_rfl⟩, t0 := by kernel_rfl, a0 := fun _ => by kernel_rfl, z0 := fun _ => by kernel_rfl, v0 := fun _ => by kernel_rfl, t4 := by kernel_rfl, a4 := fun _ => by kernel_rfl, z4 := fun _ => by kernel_rfl, v4 := fun _ => by kernel_rfl, t23 := by kernel_rfl, a23 := fun _ => by kernel_rfl, z23 := fun _ => by kernel_rfl, v23 := fun _ => by kernel_rfl, t26 := by kernel_rfl, a26 := fun _ => by kernel_rfl, z26 := fun _ => by kernel_rfl, v26 := fun _ => by kernel_rfl, t27 := by kernel_rfl, a27 := fun _ => by kernel_rfl, z27 := fun _ => by kernel_rfl, v27 := fun _ => by kernel_rfl, t28 := by kernel_rfl, a28 := fun _ => by kernel_rfl, z28 := fun _ => by kernel_rfl, v28 := fun _ => by kernel_rfl, t33 := by kernel_rfl, a33 := fun _ => by kernel_rfl, z33 := fun _ => by kernel_rfl, v33 := fun _ => by kernel_rfl }
def kySRen : Ren := ⟨fun x => if x = 6 then 134 else if x = 8 then 150 else if x = 9 then 151 else if x = 11 then 169 else x, fun x => if x = 0 then 0 else if x = 24 then 28 else if x = 26 then 9 else if x = 28 then 148 else if x = 33 then 75 else x, fun x => x⟩
theorem kySLays : SlLaysZ.n6 Tryz.prog kySRen := { mixed := by kernel_rfl, f6 := ⟨ "slices.Sorted[string]", by decide, by kernel_rfl⟩, f8 := ⟨ "slices.Collect[string]", by decide, by kernel_rfl⟩, f11 := ⟨ "slices.AppendSeq[[]string,string]", by decide, by kernel_rfl⟩, t0 := by kernel_rfl, a0 := fun _ => by kernel_rfl, z0 := fun _ => by kernel_rfl, v0 := fun _ => by kernel_rfl, t24 := by kernel_rfl, a24 := fun _ => by kernel_rfl, z24 := fun _ => by kernel_rfl, v24 := fun _ => by kernel_rfl, t26 := by kernel_rfl, a26 := fun _ => by kernel_rfl, z26 := fun _ => by kernel_rfl, v26 := fun _ => by kernel_rfl, t28 := by kernel_rfl, a28 := fun _ => by kernel_rfl, z28 := fun _ => by kernel_rfl, v28 := fun _ => by kernel_rfl, i26 := by kernel_rfl }
def kyORen : Ren := ⟨fun x => if x = 6 then 151 else if x = 8 then 171 else if x = 9 then 170 else if x = 19 then 194 else if x = 20 then 154 else if x = 21 then 185 else if x = 22 then 186 else if x = 23 then 187 else if x = 24 then 188 else if x = 25 then 189 else if x = 26 then 190 else if x = 27 then 191 else if x = 28 then 192 else if x = 29 then 193 else if x = 31 then 199 else if x = 32 then 200 else if x = 36 then 198 else if x = 37 then 201 else if x = 38 then 202 else if x = 39 then 203 else if x = 41 then 206 else x, fun x => if x = 0 then 0 else if x = 3 then 3 else if x = 4 then 4 else if x = 5 then 5 else if x = 9 then 9 else if x = 26 then 28 else if x = 27 then 28 else if x = 29 then 9 else if x = 32 then 165 else if x = 35 then 197 else if x = 36 then 198 else if x = 41 then 120 else if x = 44 then 170 else if x = 46 then 151 else if x = 53 then 208 else if x = 57 then 212 else if x = 63 then 216 else if x = 64 then 217 else x, fun x => x⟩
theorem kyOLays : SlLaysM.n6 Tryz.prog kyORen := { mixed := by kernel_rfl, f6 := ⟨ "slices.Sort[[]string,string]", by decide, by kernel_rfl⟩, f8 := by kernel_rfl, f9 := ⟨ "slices.pdqsortOrdered[string]", by decide, by kernel_rfl⟩, f19 := by kernel_rfl, f20 := by kernel_rfl, f21 := ⟨ "slices.insertionSortOrdered[string]", by decide, by kernel_rfl⟩, f22 := ⟨ "slices.heapSortOrdered[string]", by decide, by kernel_rfl⟩, f23 := ⟨ "slices.breakPatternsOrdered[string]", by decide, by kernel_rfl⟩, f24 := ⟨ "slices.choosePivotOrdered[string]", by decide, by kernel_rfl⟩, f25 := ⟨ "slices.reverseRangeOrdered[string]", by decide, by kernel_rfl⟩, f26 := ⟨ "slices.partialInsertionSortOrdered[string]", by decide, by kernel_rfl⟩, f27 := ⟨ "cmp.Less[string]", by decide, by kernel_rfl⟩, f28 := ⟨ "slices.partitionEqualOrdered[string]", by decide, by kernel_rfl⟩, f29 := ⟨ "slices.partitionOrdered[string]", by decide, by kernel_rfl⟩, f31 := by kernel_rfl, f32 := by kernel_rfl, f36 := ⟨ "slices.siftDownOrdered[string]", by decide, by kernel_rfl⟩, f37 := ⟨ "slices.medianAdjacentOrdered[string]", by decide, by kernel_rfl⟩, f38 := ⟨ "slices.medianOrdered[string]", by decide, by kernel_rfl⟩, f39 := ⟨ "cmp.isNaN[string]", by decide, by kernel_rfl⟩, f41 := ⟨ "slices.order2Ordered[string]", by decide, by kernel_rfl⟩, t0 := by kernel_rfl, a0 := fun _ => by kernel_rfl, z0 := fun _ => by kernel_rfl, v0 := fun _ => by kernel_rfl, t3 := by kernel_rfl, a3 := fun _ => by kernel_rfl, z3 := fun _ => by kernel_rfl, v3 := fun _ => by kernel_rfl, t4 := by kernel_rfl, a4 := fun _ => by kernel_rfl, z4 := fun _ => by kernel_rfl, v4 := fun _ => by kernel_rfl, t5 := by kernel_rfl, a5 := fun _ => by kernel_rfl, z5 := fun _ => by kernel_rfl, v5 := fun _ => by kernel_rfl, t9 := by kernel_rfl, a9 := fun _ => by kernel_rfl, z9 := fun _ => by kernel_rfl, v9 := fun _ => by kernel_rfl, t26 := by kernel_rfl, a26 := fun _ => by kernel_rfl, z26 := fun _ => by kernel_rfl, v26 := fun _ => by kernel_rfl, t27 := by kernel_rfl, a27 := fun _ => by kernel_rfl, z27 := fun _ => by kernel_rfl, v27 := fun _ => by kernel_rfl, t29 := by kernel_rfl, a29 := fun _ => by kernel_rfl, z29 := fun _ => by kernel_rfl, v29 := fun _ => by kernel_rfl, t32 := by kernel_rfl, a32 := fun _ => by kernel_rfl, z32 := fun _ => by kernel_rfl, v32 := fun _ => by kernel_rfl, t35 := by kernel_rfl, a35 := fun _ => by kernel_rfl, z35 := fun _ => by kernel_rfl, v35 := fun _ => by kernel_rfl, t36 := by kernel_rfl, a36 := fun _ => by kernel_rfl, z36 := fun _ => by kernel_rfl, v36 := fun _ => by kernel_rfl, t41 := by kernel_rfl, a41 := fun _ => by kernel_rfl, z41 := fun _ => by kernel_rfl, v41 := fun _ => by kernel_rfl, t44 := by kernel_rfl, a44 := fun _ => by kernel_rfl, z44 := fun _ => by kernel_rfl, v44 := fun _ => by kernel_rfl, t46 := by kernel_rfl, a46 := fun _ => by kernel_rfl, z46 := fun _ => by kernel_rfl, v46 := fun _ => by kernel_rfl, t53 := by kernel_rfl, a53 := fun _ => by kernel_rfl, z53 := fun _ => by kernel_rfl, v53 := fun _ => by kernel_rfl, t57 := by kernel_rfl, a57 := fun _ => by kernel_rfl, z57 := fun _ => by kernel_rfl, v57 := fun _ => by kernel_rfl, t63 := by kernel_rfl, a63 := fun _ => by kernel_rfl, z63 := fun _ => by kernel_rfl, v63 := fun _ => by kernel_rfl, t64 := by kernel_rfl, a64 := fun _ => by kernel_rfl, z64 := fun _ => by kernel_rfl, v64 := fun _ => by kernel_rfl }
theorem kySorts (m : Nat) : AnyZ.SortsIn Tryz.prog kySRen Fence.wide m :=
 ⟨fun blk off cap ss W hH hblk hsz => callsIn_wide.2 (AnyM.slices_Sort_string kyOLays blk off cap ss W hH hblk hsz),
  fun p cap W => callsIn_wide.2 (AnyM.slices_Sort_string_none kyOLays p cap W)⟩
theorem kyKeysIn (mb : Option Nat) (W : World) : CallsIn Fence.wide 5 Tryz.prog 135 #[.map mb] W fun e w' => e = .returned (.func (.func 152) #[] #[.pointer (some ⟨W.heap.size, 0, none⟩)]) ∧ w' = W.alloc (.cells #[.map mb] 116) :=
 AnyZ.keys_in kyKLays Fence.wide 5 trivial rfl mb W
set_option maxHeartbeats 1000000 in
theorem kySortedIn {H : Type} (b nn : Nat) (D0 : DataW H) (R : Value → Option (DataW H × List MemPlace)) (w : World) (hown : w.ownsMap Tryz.prog 9 R b nn D0) (hmax : Maps.size D0 ≤ maxLen) (hbytes : Maps.size D0 * 16 ≤ 140737488355328) :
 CallsIn Fence.wide 5 Tryz.prog 134 #[.func (.func 152) #[] #[.pointer (some ⟨w.heap.size, 0, none⟩)]] (w.alloc (.cells #[.map (some b)] 116)) fun e w' => ∃ (v : Value) (ss : List (List UInt8)), e = .returned v ∧ ss.Perm (strKeys D0) ∧
  w'.ownsRow (w.alloc (.cells #[.map (some b)] 116)).heap.size 9 1 v ss.length ((ss.mergeSort (fun x y => decide (x ≤ y))).map encStr) ∧ (v = .slice none 0 0 ↔ ss = []) ∧ Below (w.alloc (.cells #[.map (some b)] 116)).heap.size (w.alloc (.cells #[.map (some b)] 116)) w' := by
 have hbl := hown.lt
 have hseq : SeqGives Fence.wide 2 Tryz.prog 152 #[.pointer (some ⟨w.heap.size, 0, none⟩)] encStr (fun ss => ss.Perm (strKeys D0)) (Maps.size D0) (w.alloc (.cells #[.map (some b)] 116)) :=
  AnyZ.keys_gives (ρ := kyKRen) { kyKLays with } Fence.wide _ trivial rfl (by omega) w.heap.size b nn D0 _ (by simp) (by simp) (by
   obtain ⟨es, clock, hb, Ft, hs, hD⟩ := hown
   exact ⟨es, clock, (Below.heap_alloc _ _ b hbl).trans hb, Ft, hs, hD⟩)
 exact AnyZ.sorted_in kySLays Fence.wide 5 trivial trivial trivial trivial rfl (by omega) (kySorts _) (enters_of Tryz.func151 (by kernel_rfl) rfl) 152 #[.pointer (some ⟨w.heap.size, 0, none⟩)] trivial (enters_of Tryz.func152 (by kernel_rfl) rfl) _ _ hmax hbytes _ hseq
theorem kyKeys (mb : Option Nat) (W : World) : Calls Tryz.prog 135 #[.map mb] W fun e w' => e = .returned (.func (.func 152) #[] #[.pointer (some ⟨W.heap.size, 0, none⟩)]) ∧ w' = W.alloc (.cells #[.map mb] 116) :=
 callsIn_wide.1 (kyKeysIn mb W)
theorem kySorted {H : Type} (b nn : Nat) (D0 : DataW H) (R : Value → Option (DataW H × List MemPlace)) (w : World) (hown : w.ownsMap Tryz.prog 9 R b nn D0) (hmax : Maps.size D0 ≤ maxLen) (hbytes : Maps.size D0 * 16 ≤ 140737488355328) :
 Calls Tryz.prog 134 #[.func (.func 152) #[] #[.pointer (some ⟨w.heap.size, 0, none⟩)]] (w.alloc (.cells #[.map (some b)] 116)) fun e w' => ∃ (v : Value) (ss : List (List UInt8)), e = .returned v ∧ ss.Perm (strKeys D0) ∧
  w'.ownsRow (w.alloc (.cells #[.map (some b)] 116)).heap.size 9 1 v ss.length ((ss.mergeSort (fun x y => decide (x ≤ y))).map encStr) ∧ (v = .slice none 0 0 ↔ ss = []) ∧ Below (w.alloc (.cells #[.map (some b)] 116)).heap.size (w.alloc (.cells #[.map (some b)] 116)) w' :=
 callsIn_wide.1 (kySortedIn b nn D0 R w hown hmax hbytes)
theorem hpl_mem {o : Nat → Hp} {n : Nat} {p : Hp} (h : p ∈ hpList o n) : ∃ i, i < n ∧ o i = p := by
 unfold hpList at h
 obtain ⟨i, hi, e⟩ := List.mem_map.1 h
 exact ⟨i, List.mem_range.1 hi, e⟩
theorem plD_names {w : World} {b nn : Nat} (o : Nat → Hp) (n : Nat) (hd : ∀ i, i < n → ∀ k, k < i → (o i).nm ≠ (o k).nm) (hown : w.ownsMap Tryz.prog 9 (plainElem Tryz.prog 3) b nn (plD o n)) : ((hpList o n).map fun p => p.nm.data.toList).Perm (strKeys (plD o n)) := by
 obtain ⟨es, hes, hk⟩ := hown.keysOf
 obtain ⟨es', hes', hp⟩ := plD_tidy o n
 rw [hes] at hes'
 cases hes'
 have HM : ∀ x, Maps.has (plD o n) (.string x) = true ↔ ∃ i, i < n ∧ (o i).nm.data.toList = x := fun x => by
  rw [plD_has]
  constructor
  · rintro ⟨i, hi, e⟩
    exact ⟨i, hi, by unfold kN at e; injection e⟩
  · rintro ⟨i, hi, e⟩
    exact ⟨i, hi, by unfold kN; rw [e]⟩
 rw [hes] at HM ⊢
 refine perm_strKeys hp (fun p hp => ?_) ?_ (fun x => ?_)
 · obtain ⟨key, h⟩ := hk p hp
   obtain ⟨x, _, e, _⟩ := Maps.keyOf_str Tryz.underlying9 h
   exact ⟨x, e⟩
 · unfold hpList
   rw [List.map_map]
   refine List.pairwise_map.2 (List.nodup_range.imp_of_mem fun {i k} hi hk' hne e => ?_)
   have hi := List.mem_range.1 hi
   have hk' := List.mem_range.1 hk'
   have e2 : (o i).nm = (o k).nm := kN_inj.1 (show Lit.string _ = Lit.string _ from congrArg _ e)
   rcases Nat.lt_or_gt_of_ne hne with h1 | h1
   · exact hd k hk' i h1 e2.symm
   · exact hd i hi k h1 e2
 · rw [HM x]
   simp only [List.mem_map]
   constructor
   · rintro ⟨p, hp, e⟩
     obtain ⟨i, hi, rfl⟩ := hpl_mem hp
     exact ⟨i, hi, e⟩
   · rintro ⟨i, hi, e⟩
     exact ⟨o i, by unfold hpList; exact List.mem_map.2 ⟨i, List.mem_range.2 hi, rfl⟩, e⟩
theorem ba_list (x : ByteArray) : (⟨x.data.toList.toArray⟩ : ByteArray) = x := by cases x; simp
theorem selLen (L : List Hp) : (selL L.length L).length = L.length := (sel_perm _ _ rfl).length_eq
theorem ky_row {w : World} {base : Nat} {v : Value} (o : Nat → Hp) (n : Nat) {ss : List (List UInt8)} (hp : ss.Perm ((hpList o n).map fun p => p.nm.data.toList)) (h : w.ownsRow base 9 1 v ss.length ((ss.mergeSort (fun x y => decide (x ≤ y))).map encStr)) : OwnStrs w base v ((selL n (hpList o n)).map (·.nm)) := by
 have e1 := sel_names _ ss hp
 rw [hpList_len] at e1
 have e2 : ss.length = n := by rw [hp.length_eq, List.length_map, hpList_len]
 rw [e1, List.map_map, e2] at h
 have e3 : (selL n (hpList o n)).length = n := by have := selLen (hpList o n); rwa [hpList_len] at this
 have e4 : (encStr ∘ fun p : Hp => p.nm.data.toList) = (Value.string ∘ (·.nm)) := funext fun p => by show Value.string _ = Value.string _; rw [ba_list]
 unfold OwnStrs
 rw [List.map_map, List.length_map, e3, ← e4]
 exact h
theorem OwnHp.rowOf {w : World} {base : Nat} {v : Value} {L : List Hp} (h : OwnHp w base v L) : v.ownBlock = none ∨ ∃ g cs, v.ownBlock = some g ∧ RowAt w g 66 cs ∧ base ≤ g := by
 rcases h.2 with ⟨rfl, _⟩ | ⟨g, cap, cur, rfl, hb, hg, _⟩
 · exact .inl rfl
 · exact .inr ⟨g, cur, rfl, hg, hb⟩
theorem OwnStrs.keptHp {w w' : World} {b1 b2 : Nat} {v u : Value} {xs : List ByteArray} {L : List Hp} (h : OwnStrs w b1 v xs) (hu : OwnHp w b2 u L) (hg : w.grownBy w' u.ownBlock) : OwnStrs w' b1 v xs := by
 refine World.ownsRow.kept h hg ?_
 rcases hu.rowOf with e | ⟨g, cs, e, hr, _⟩
 · rw [e]; exact Classical.em _
 · rw [e]
   exact .inr (fun q => (OwnStrs.apart h hr (by decide)) q.symm)
theorem sel_has {o : Nat → Hp} {n k : Nat} (h : k < n) : ∃ i, i < n ∧ hAt (selL n (hpList o n)) k = o i := by
 have e3 := selLen (hpList o n)
 rw [hpList_len] at e3
 have hm : hAt (selL n (hpList o n)) k ∈ selL n (hpList o n) := hAt_mem (by rw [e3]; exact h)
 have := ((sel_perm n (hpList o n) (hpList_len _ _)).mem_iff).1 hm
 obtain ⟨i, hi, e⟩ := hpl_mem this
 exact ⟨i, hi, e.symm⟩
set_option maxRecDepth 20000 in
set_option maxHeartbeats 4000000 in
theorem iSBN (a : Option Addr) (n cap : Nat) (o : Nat → Hp) (hn : n ≤ 1000) (hs : ∀ i, i < n → (o i).nm.size ≤ 1048576) (hd : ∀ i, i < n → ∀ k, k < i → (o i).nm ≠ (o k).nm) (w : World) (h : Hps w a n cap o) :
 Calls Tryz.prog 115 #[.slice a n cap] w fun e w' => (∃ a' c', e = .returned (.slice a' n c') ∧ OwnHp w' w.heap.size (.slice a' n c') (selL n (hpList o n))) ∧ Below w.heap.size w w' := by
 have HH := hid h
 have HS := hid hs
 have HD := hid hd
 clear h hs hd
 obtain ⟨S, hS⟩ : ∃ S, S = selL n (hpList o n) := ⟨_, rfl⟩
 have lS : S.length = n := by rw [hS]; have := selLen (hpList o n); rwa [hpList_len] at this
 have HLS := hid lS
 have HSH : Hid (∀ k, k < n → ∃ i, i < n ∧ hAt S k = o i) := fun k hk => by rw [hS]; exact sel_has hk
 have HSV := hid hS
 rw [← hS]
 clear hS lS
 go_enter Tryz.func115, Tryz.ntmps115
 go_wp2_with fail
 refine (iPlaces a n cap o (by omega) HS.out w HH.out).mono ?_
 rintro e w1 ⟨b, rfl, hM1, hb1, hB1⟩
 have M1 := hid hM1
 have B1 := hid hB1
 have l1 : b < w1.heap.size := hM1.lt
 clear hM1 hB1
 go_wp2_with (refine make_hps (b + 1) w1 rfl _ (.tmp 10) 23 rfl Tryz.underlying23 Tryz.infoHpG .i64 .i64 (n : Int) n rfl rfl rfl (by omega) (by omega) ?_; intro w2 hO2 hg2)
 have O2 := hid hO2
 have M2 := hid (M1.out.kept hg2 (by simp))
 have B2 := hid (B1.out.grown hg2 B1.out.size (fun g hg => by cases hg))
 have s2 : w1.heap.size ≤ w2.heap.size := hg2.size
 clear hO2 hg2 M1 B1
 refine (kyKeys (some b) w2).mono ?_
 rintro e w3 ⟨rfl, hw3⟩
 obtain rfl := hw3
 go_wp2_with fail
 have hsz : Maps.size (plD o n) ≤ n := plD_size_le o n
 refine (kySorted b n (plD o n) _ w2 M2.out (by unfold maxLen; omega) (by omega)).mono ?_
 rintro e w4 ⟨v, ss, rfl, hP, hR, _, hB4⟩
 have N4 : Hid (OwnStrs w4 (w2.heap.size + 1) v (S.map (·.nm))) := by
  have := ky_row o n (hP.trans (plD_names o n HD.out M2.out).symm) hR
  rw [← HSV.out, World.size_alloc] at this
  exact this
 have A4 := hid ((World.ownsMap.alloc M2.out (.cells #[.map (some b)] 116)).kept (below_grown hB4 none) (by simp))
 have O4 := hid (OwnHp.next hB4 (World.ownsRow.alloc O2.out (.cells #[.map (some b)] 116)))
 have B4 : Hid (Below w.heap.size w w4) := (B2.out.alloc B2.out.size _).trans (hB4.mono (Nat.le_trans B2.out.size (by simp)))
 clear hB4 hR hP M2 O2 B2
 obtain ⟨aN, cN, rfl⟩ := N4.out.slice
 have lN : (S.map (·.nm)).length = n := by rw [List.length_map]; exact HLS.out
 rw [lN] at N4 ⊢
 replace lN := hid lN
 obtain ⟨V0, hV0⟩ : ∃ V, V = Value.slice (some ⟨w1.heap.size, 0, none⟩) 0 n := ⟨_, rfl⟩
 go_wp2_with fail
 go_loopw [16, 4] (fun q v wr => ∃ (k : Nat) (aL : Option Addr) (cL : Nat) (L : List Hp), k ≤ n ∧ q = .int .i64 (k : Int) ∧ L = S.take k ∧ v = .slice aL L.length cL ∧ OwnHp wr (b + 1) (.slice aL L.length cL) L ∧ wr.ownsMap Tryz.prog 9 (plainElem Tryz.prog 3) b n (plD o n) ∧ OwnStrs wr (w2.heap.size + 1) (.slice aN n cN) (S.map (·.nm)) ∧ w4.heap.size ≤ wr.heap.size ∧ Below w.heap.size w wr) (fun q _ _ => n - (intOf q).toNat)
 case atStart => exact ⟨0, _, _, [], Nat.zero_le _, rfl, rfl, rfl, O4.out, A4.out, N4.out, Nat.le_refl _, B4.out⟩
 case round =>
  clear O4 A4 N4 hV0
  obtain ⟨k, aL, cL, L, hk, rfl, hL, rfl, hO, hA, hN, hz, hB⟩ := hrel
  have HL := hid hL
  have HO := hid hO
  have HA := hid hA
  have HN := hid hN
  have HB := hid hB
  have zz : b + 1 ≤ wr.heap.size := by have := hA.lt; omega
  have lL : L.length ≤ 1000 := by rw [hL, List.length_take]; omega
  clear hL hO hA hN hB
  by_cases hlt : k < n
  · have d1 : (k : Int) < (n : Int) := by omega
    have k0 : (0 : Int) ≤ (k : Int) := by omega
    obtain ⟨i, hi, ei⟩ := HSH.out k hlt
    rcases (HH.out.below HB.out).2 with q0 | ⟨bb, off, rfl, hbl, hc⟩
    · omega
    obtain ⟨y0, y1⟩ := hc i hi
    have hsz2 := HS.out i hi
    obtain ⟨g, rfl, _, hnq, hST⟩ := HN.out.strs (ts := fun j => (hAt S j).nm) (by rw [lN.out]; omega) (fun j hj => by
     rw [lN.out] at hj
     rw [List.getElem?_map]
     unfold hAt
     rw [List.getD_eq_getElem?_getD, List.getElem?_eq_getElem (by rw [HLS.out]; exact hj)]
     rfl)
    rcases hST.2 with q0 | ⟨g', off', he', hgl, hgc⟩
    · omega
    cases he'
    have x0 := hgc k hlt
    rw [Nat.zero_add] at x0
    have NX : Hid (S.take (k + 1) = L ++ [o i]) := by
     show _ = _
     rw [HL.out, List.take_add_one, ← ei]
     unfold hAt
     rw [List.getD_eq_getElem?_getD, List.getElem?_eq_getElem (by rw [HLS.out]; exact hlt)]
     rfl
    have i1 : (i : Int) < (n : Int) := by omega
    have i0 : (0 : Int) ≤ (i : Int) := by omega
    have LK : (Instr.lookup 116 (.map (some b)) (.string (o i).nm) false).run Tryz.prog wr = .ok (.int .i64 (i : Int)) wr := by
     obtain ⟨c, hrun, hat, _⟩ := HA.out.lookup_int lawS Tryz.underlying116 Tryz.underlying3 (by kernel_rfl) (WideMaps.keyOf_string_mk (s := (o i).nm) Tryz.underlying9 (by unfold maxLen; omega))
     have e := plD_at o n HD.out i hi (.lit (.int .i64 0))
     unfold kN at e
     rw [e] at hat
     cases hat
     exact hrun
    dsimp only at x0
    rw [ei] at x0
    clear hnq
    clear hc hgc hST ei
    generalize o i = T at y0 y1 NX LK x0 hsz2
    obtain ⟨nm, vl⟩ := T
    dsimp only at y0 y1 x0 LK hsz2
    go_wp2_with (first | (at_builtin; refine append_hp1 (b + 1) wr rfl (.tmp 20) (.tmp 27) 23 rfl Tryz.underlying23 Tryz.infoHpG _ L nm vl rfl HO.out zz rfl (by omega) ?_; intro v' w' hO' hg') | go_in)
    have NB : some b ≠ (Value.slice aL L.length cL).ownBlock := by
     rcases HO.out.rowOf with e | ⟨g5, cs, e, _, hb5⟩
     · rw [e]; simp
     · rw [e]; simp; omega
    have N5 := hid (HN.out.keptHp HO.out hg')
    have A5 := hid (HA.out.kept hg' NB)
    have B5 : Hid (Below w.heap.size w w') := HB.out.grown hg' HB.out.size (fun g5 hg5 => by have := (World.ownsRow.lt HO.out _ hg5).1; omega)
    have z5 : w4.heap.size ≤ w'.heap.size := Nat.le_trans hz hg'.size
    obtain ⟨a5, c5, rfl, _⟩ := hO'.hps
    have O5 := hid hO'
    clear hO' hg' HO HA HN HB x0 y0 y1 LK NB
    go_wp2
    go_roundw
    case rel => exact ⟨k + 1, a5, c5, _, by omega, by go_num, NX.out.symm, rfl, O5.out, A5.out, N5.out, z5, B5.out⟩
    case measure => simp [intOf]; omega
  · have d1 : ¬ (k : Int) < (n : Int) := by omega
    have hkn : k = n := by omega
    subst hkn
    have eL : L = S := by rw [HL.out, ← HLS.out, List.take_length]
    have lk : L.length = k := by rw [eL]; exact HLS.out
    have FN : Hid ((∃ a' c', Ending.returned (Value.slice aL L.length cL) = .returned (.slice a' k c') ∧ OwnHp wr w.heap.size (.slice a' k c') S) ∧ Below w.heap.size w wr) := by
     refine ⟨⟨aL, cL, by rw [lk], ?_⟩, HB.out⟩
     have := HO.out
     rw [lk, eL] at this
     exact this.mono (by omega)
    clear HO HA HN HB eL lk
    go_wp2
    go_ret
    exact FN.out
end Go.Proofs.YtkcjigelenofhaaGreatDoor
