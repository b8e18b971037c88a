import Derived.Test.YteeadhcfippilaaDoorIFour
import Derived.Lib.AppendStr
namespace Go.Proofs.YteeadhcfippilaaDoor
open Go.RowKit
/-! The program's PutRecord. -/
def bytesI (s : ByteArray) : List Int := s.data.toList.map fun b => (b.toNat : Int)
theorem bytesI_length (s : ByteArray) : (bytesI s).length = s.size := by simp [bytesI]
theorem str_bytesI (s : ByteArray) : strOfNums (bytesI s) = s := by
  apply ByteArray.ext; apply Array.toList_inj.1
  rw [strOfNums_data]; unfold bytesI
  rw [List.map_map]
  have : ((fun n : Int => UInt8.ofNat n.toNat) ∘ fun b : UInt8 => (b.toNat : Int)) = id := by funext b; simp
  rw [this, List.map_id]
theorem str_append (xs ys : List Int) : strOfNums (xs ++ ys) = strOfNums xs ++ strOfNums ys := by
  apply ByteArray.ext; apply Array.toList_inj.1
  rw [strOfNums_data]
  have : (strOfNums xs ++ strOfNums ys).data.toList = (strOfNums xs).data.toList ++ (strOfNums ys).data.toList := by simp [ByteArray.data_append]
  rw [this, strOfNums_data, strOfNums_data, List.map_append]
/-- A text's bytes are appended to a row of bytes that the call owns. -/
theorem append_text {P : Program} (W0 wr : World) {ops : Array Oper} {rest : List Oper} {o : Oper} {a : Act} {Q : Exit → Act → World → Prop} (hgd : o.guard = none) (s x : Operand) (t u : TypeId)
    (ho : o.op = .call { callee := .builtin .append, args := #[s, x], argTypes := #[t, u] })
    (e : TypeId) (ht : P.underlying t = some (.slice e)) (hu : P.underlying u = some .string) (hinfo : (P.info? e).map (fun i => (i.zero, i.size, i.bytes)) = some (some (.int .u8 0), 1, 1))
    (v : Value) (xs : List Int) (b : ByteArray) (hs : a.eval s = v) (hown : OwnNums wr W0.heap.size e .u8 v xs) (hbel : Below W0.heap.size W0 wr)
    (hx : a.eval x = .string b) (hlen : xs.length + b.size ≤ 17592186044414)
    (h : ∀ v' w', OwnNums w' W0.heap.size e .u8 v' (xs ++ bytesI b) → Below W0.heap.size W0 w' → wpList P ops Q rest (a.put o.dst v') w') :
    wpList P ops Q (o :: rest) a wr := by
  obtain ⟨i0, hi, hz0, hz1, hz2⟩ := info_parts hinfo
  refine Go.Lib.wpList_append_own_string wr hgd s x t u ho W0.heap.size e i0 ht hu hi hz0 hz1 hz2 v xs.length _ hs hown b hx (by unfold maxLen; omega) (by omega) hbel.size ?_
  intro v' w' h1 h2 _
  refine h v' w' ?_ (hbel.grown h2 hbel.size fun k hk => (World.ownsRow.lt hown k hk).1)
  show w'.ownsRow W0.heap.size e 1 v' (xs ++ bytesI b).length ((xs ++ bytesI b).map (Value.int .u8))
  rw [List.length_append, bytesI_length, List.map_append]
  have : (bytesI b).map (Value.int .u8) = Go.Lib.strCells b := by unfold bytesI Go.Lib.strCells; rw [List.map_map]; rfl
  rw [this]; exact h1
/-- Some numbers, just laid in a block of their own, are appended. -/
theorem append_list {P : Program} (W0 wr : World) {ops : Array Oper} {rest : List Oper} {o : Oper} {a : Act} {Q : Exit → Act → World → Prop} (hgd : o.guard = none) (s x : Operand) (t : TypeId)
    (ho : o.op = .call { callee := .builtin .append, args := #[s, x], argTypes := #[t, t] })
    (e : TypeId) (k : IntKind) (bt : Nat) (ht : P.underlying t = some (.slice e)) (hinfo : (P.info? e).map (fun i => (i.zero, i.size, i.bytes)) = some (some (.int k 0), 1, bt)) (hbt : bt ≤ 8)
    (v : Value) (xs bs : List Int) (cs : Array Value) (hcs : cs = (bs.map (Value.int k)).toArray) (m : Nat) (hm : bs.length = m) (hm0 : 0 < m) (hs : a.eval s = v) (hown : OwnNums wr W0.heap.size e k v xs) (hbel : Below W0.heap.size W0 wr)
    (hx : a.eval x = .slice (some ⟨wr.heap.size, 0, none⟩) m m) (hlen : xs.length + m ≤ 17592186044414)
    (h : ∀ v' w', OwnNums w' W0.heap.size e k v' (xs ++ bs) → Below W0.heap.size W0 w' → wpList P ops Q rest (a.put o.dst v') w') :
    wpList P ops Q (o :: rest) a (wr.alloc (.cells cs e)) := by
  obtain ⟨i0, hi, hz0, hz1, hz2⟩ := info_parts hinfo
  have hsz := hbel.size
  subst hcs
  refine wpList_append_own _ hgd s x t ho W0.heap.size e i0 (.int k 0) 1 bt ht hi hz0 hz1 hz2 rfl (by decide) v _ _ hs (World.ownsRow.alloc hown _) ⟨wr.heap.size, 0, none⟩ m m (bs.map (Value.int k)) hx (by simp; omega) ?_ ?_ ?_ ?_ ?_ ?_
  · have := World.news_of_block (w := wr.alloc (.cells (bs.map (Value.int k)).toArray e)) (heap_alloc_new wr _); simpa using this
  · intro u hu; obtain ⟨y, _, rfl⟩ := List.mem_map.1 hu; rfl
  · unfold maxLen; omega
  · exact Nat.le_trans (Nat.mul_le_mul_left _ hbt) (by omega)
  · simp; omega
  · intro v' w' h1 h2 h3
    refine h v' w' (by subst hm; simpa [OwnNums] using h1) (((hbel.alloc hsz _).grown h2 (by simp; omega) fun k hk => (World.ownsRow.lt hown k hk).1))
def pre4 (s : ByteArray) : List Int := [] ++ [231] ++ bytesI s
def pre7 (g : Bool) (s t : ByteArray) : List Int := pre4 s ++ (if g then 1 else 0) :: bytesI t
theorem recT_nums (key : ByteArray) (gone : Bool) (data : ByteArray) : strOfNums (pre7 gone (putText key) (putText data)) = recT key gone data := by
  have e : pre7 gone (putText key) (putText data) = [231] ++ bytesI (putText key) ++ [if gone then 1 else 0] ++ bytesI (putText data) := by simp [pre7, pre4]
  unfold recT
  rw [e, str_append, str_append, str_append, str_bytesI, str_bytesI]
  cases gone <;> rfl
set_option maxRecDepth 20000 in
set_option maxHeartbeats 2000000 in
theorem iPutRec (key : ByteArray) (gone : Bool) (data : ByteArray) (hk : key.size ≤ 1048576) (hd : data.size ≤ 1048576) (w : World) :
    Calls Tryd.prog 5 #[.string key, .bool gone, .string data] w fun e w' => e = .returned (.string (recV key gone data)) ∧ Below w.heap.size w w' := by
  by_cases hok : RecOk key gone data
  case neg =>
    have E : Hid (recV key gone data = ByteArray.empty) := if_neg hok
    by_cases h0 : key.size < 1
    · have d0 := ba_empty key (by omega)
      go_enter Tryd.func5, Tryd.ntmps5
      go_wp2
      go_ret
      exact ⟨by rw [E.out]; rfl, Below.refl _ _⟩
    have d0 := ba_some key (by omega)
    by_cases h1 : 200 < key.size
    · have d1 : decide ((200 : Int) < ((key.size : Nat) : Int)) = true := by simp; omega
      go_enter Tryd.func5, Tryd.ntmps5
      go_wp2
      go_ret
      exact ⟨by rw [E.out]; rfl, Below.refl _ _⟩
    have d1 : decide ((200 : Int) < ((key.size : Nat) : Int)) = false := by simp; omega
    by_cases h2 : gone = true ∧ data.size ≠ 0
    · obtain ⟨rfl, h2⟩ := h2
      have d2 := ba_some data h2
      go_enter Tryd.func5, Tryd.ntmps5
      go_wp2
      go_ret
      exact ⟨by rw [E.out]; rfl, Below.refl _ _⟩
    have h3 : 100000 < data.size := Nat.lt_of_not_le fun q => hok ⟨by omega, by omega, fun e => Classical.byContradiction fun r => h2 ⟨e, r⟩, q⟩
    have d3 : decide ((100000 : Int) < ((data.size : Nat) : Int)) = true := by simp; omega
    cases gone with
    | true => exact absurd ⟨rfl, by omega⟩ h2
    | false =>
      go_enter Tryd.func5, Tryd.ntmps5
      go_wp2
      go_ret
      exact ⟨by rw [E.out]; rfl, Below.refl _ _⟩
  have E : Hid (recV key gone data = recT key gone data ++ four (sumOf (recT key gone data) 5)) := if_pos hok
  have hz := recT_size key gone data hok.2.1 hok.2.2.2
  have d0 := ba_some key (by have := hok.1; omega)
  have d1 : decide ((200 : Int) < ((key.size : Nat) : Int)) = false := by have := hok.2.1; simp; omega
  have d3 : decide ((100000 : Int) < ((data.size : Nat) : Int)) = false := by have := hok.2.2.2; simp; omega
  have P1 := fun w => hid (iptext_all key (by omega) w)
  have P2 := fun w => hid (iptext_all data (by omega) w)
  have z1 := putText_size key (by have := hok.2.1; omega)
  have z2 := putText_size data hok.2.2.2
  have SS := fun w => hid (isum_all (recT key gone data) 5 (by decide) (by omega) w)
  have sb := sumL_bd (recT key gone data).data.toList 6 (by decide) (by decide)
  have se : sumOf (recT key gone data) 5 = sumL 6 (recT key gone data).data.toList := by unfold sumOf; rw [if_neg (by omega)]; rfl
  have TN := hid (recT_nums key gone data)
  rw [se] at E SS
  obtain ⟨x, hx⟩ : ∃ x, x = sumL 6 (recT key gone data).data.toList := ⟨_, rfl⟩
  rw [← hx] at E SS sb
  obtain ⟨k1, hk1⟩ : ∃ s, s = putText key := ⟨_, rfl⟩
  obtain ⟨k2, hk2⟩ : ∃ s, s = putText data := ⟨_, rfl⟩
  obtain ⟨rt, hrt⟩ : ∃ s, s = recT key gone data := ⟨_, rfl⟩
  rw [← hk1] at P1 z1 TN
  rw [← hk2] at P2 z2 TN
  rw [← hrt] at E SS TN hz
  have HD : Hid (data.size ≤ 100000) := hok.2.2.2
  have HK : Hid (key.size ≤ 200) := hok.2.1
  have d2 : gone = true → data.toList.isEmpty = true := fun q => ba_empty data (hok.2.2.1 q)
  have Z1 : Hid (k1.size ≤ 209) := by have := HK.out; show _ ≤ _; omega
  have Z2 : Hid (k2.size ≤ 100009) := by have := HD.out; show _ ≤ _; omega
  have X0 : Hid (0 ≤ x) := sb.1
  have X1 : Hid (x ≤ 2147483647) := sb.2
  have KF := fun wx => hid (iFour x X0.out X1.out wx)
  have FZ := hid (four_size x)
  generalize four x = F4 at KF FZ E
  clear hk1 hk2 hrt hx se hok z1 z2 sb hz
  have hcap : IntKind.i64.wrap (211 + (data.size : Int)) = 211 + (data.size : Int) := by have := HD.out; simp [IntKind.wrap, IntKind.bits, IntKind.signed]; omega
  cases gone with
  | true =>
    have d2' := d2 rfl
    clear d2
    go_enter Tryd.func5, Tryd.ntmps5
    go_wp2_with (first | (refine make_nums w w rfl (.const (.int .i64 0)) (.tmp 30) 22 rfl 5 .u8 1 Tryd.underlying22 Tryd.info5 (by decide) .i64 .i64 (211 + (data.size : Int)) (211 + data.size) rfl rfl (by simp) ?_ (Below.refl _ _) ?_; (have := HD.out; omega)) | go_in)
    intro w1 hO1 hB1
    go_wp2_with (first | (at_builtin; (refine append_num w w1 rfl (.tmp 32) (.tmp 33) 22 rfl 5 .u8 1 Tryd.underlying22 Tryd.info5 (by decide) _ [] 231 rfl hO1 hB1 rfl ?_ ?_; (simp))) | go_in)
    intro v2 w2 hO2 hB2 _
    clear hO1 hB1
    go_wp2_with fail
    refine (P1 _).out.mono ?_
    rintro e w3 ⟨rfl, hb3⟩
    have hO3 : OwnNums w3 w.heap.size 5 .u8 v2 ([] ++ [231]) := World.ownsRow.kept hO2 (below_grown hb3 none) (Classical.em _)
    have hB3 : Below w.heap.size w w3 := hB2.trans (hb3.mono hB2.size)
    clear hO2 hB2 hb3
    go_wp2_with (first | (at_builtin; (refine append_text w w3 rfl (.tmp 35) (.tmp 37) 22 9 rfl 5 Tryd.underlying22 Tryd.underlying9 Tryd.info5 _ _ k1 rfl hO3 hB3 rfl ?_ ?_; (have := Z1.out; simp; omega))) | go_in)
    intro v4 w4 hO4 hB4
    clear hO3 hB3
    have L4 : Hid ((pre4 k1).length ≤ 210) := by have := Z1.out; show _ ≤ _; simp [pre4, bytesI_length]; omega
    have hO4 : OwnNums w4 w.heap.size 5 .u8 v4 (pre4 k1) := hO4
    go_wp2_with (first | (at_builtin; (refine append_num w w4 rfl (.tmp 40) (.tmp 41) 22 rfl 5 .u8 1 Tryd.underlying22 Tryd.info5 (by decide) _ _ 1 rfl hO4 hB4 rfl ?_ ?_; (have := L4.out; omega))) | go_in)
    intro v5 w5 hO5 hB5 _
    clear hO4 hB4
    go_wp2_with fail
    refine (P2 _).out.mono ?_
    rintro e w6 ⟨rfl, hb6⟩
    have hO6 := World.ownsRow.kept hO5 (below_grown hb6 none) (Classical.em _)
    have hB6 : Below w.heap.size w w6 := hB5.trans (hb6.mono hB5.size)
    clear hO5 hB5 hb6
    go_wp2_with (first | (at_builtin; (refine append_text w w6 rfl (.tmp 46) (.tmp 48) 22 9 rfl 5 Tryd.underlying22 Tryd.underlying9 Tryd.info5 _ _ k2 rfl hO6 hB6 rfl ?_ ?_; (have := L4.out; have := Z2.out; rw [List.length_append]; simp only [List.length_cons, List.length_nil]; omega))) | go_in)
    intro v7 w7 hO7 hB7
    clear hO6 hB6
    have hO7 : OwnNums w7 w.heap.size 5 .u8 v7 (pre7 true k1 k2) := hO7
    have L7 : Hid ((pre7 true k1 k2).length ≤ 110000) := by have := L4.out; have := Z2.out; show _ ≤ _; unfold pre7; rw [List.length_append, List.length_cons, bytesI_length k2]; omega
    have hcv := conv_owned w7 22 5 9 Tryd.underlying22 Tryd.underlying5 Tryd.underlying9 hO7
    rw [TN.out] at hcv
    go_wp2_with fail
    refine (SS _).out.mono ?_
    rintro e w8 ⟨rfl, rfl⟩
    go_wp2_with fail
    refine (KF _).out.mono ?_
    rintro e w9 ⟨rfl, hb9⟩
    have hO9 := World.ownsRow.kept hO7 (below_grown hb9 none) (Classical.em _)
    have hB9 : Below w.heap.size w w9 := hB7.trans (hb9.mono hB7.size)
    clear hO7 hB7 hb9
    go_wp2_with (first | (at_builtin; (refine append_text w w9 rfl (.tmp 53) (.tmp 55) 22 9 rfl 5 Tryd.underlying22 Tryd.underlying9 Tryd.info5 _ _ F4 rfl hO9 hB9 rfl ?_ ?_; (have := L7.out; have := FZ.out; omega))) | go_in)
    intro v10 w10 hO10 hB10
    have hcv9 := conv_owned w10 22 5 9 Tryd.underlying22 Tryd.underlying5 Tryd.underlying9 hO10
    rw [str_append, TN.out, str_bytesI] at hcv9
    clear hO10 hO9 hB9
    go_wp2
    go_ret
    exact ⟨by rw [E.out]; rfl, hB10⟩
  | false =>
    clear d2
    go_enter Tryd.func5, Tryd.ntmps5
    go_wp2_with (first | (refine make_nums w w rfl (.const (.int .i64 0)) (.tmp 30) 22 rfl 5 .u8 1 Tryd.underlying22 Tryd.info5 (by decide) .i64 .i64 (211 + (data.size : Int)) (211 + data.size) rfl rfl (by simp) ?_ (Below.refl _ _) ?_; (have := HD.out; omega)) | go_in)
    intro w1 hO1 hB1
    go_wp2_with (first | (at_builtin; (refine append_num w w1 rfl (.tmp 32) (.tmp 33) 22 rfl 5 .u8 1 Tryd.underlying22 Tryd.info5 (by decide) _ [] 231 rfl hO1 hB1 rfl ?_ ?_; (simp))) | go_in)
    intro v2 w2 hO2 hB2 _
    clear hO1 hB1
    go_wp2_with fail
    refine (P1 _).out.mono ?_
    rintro e w3 ⟨rfl, hb3⟩
    have hO3 : OwnNums w3 w.heap.size 5 .u8 v2 ([] ++ [231]) := World.ownsRow.kept hO2 (below_grown hb3 none) (Classical.em _)
    have hB3 : Below w.heap.size w w3 := hB2.trans (hb3.mono hB2.size)
    clear hO2 hB2 hb3
    go_wp2_with (first | (at_builtin; (refine append_text w w3 rfl (.tmp 35) (.tmp 37) 22 9 rfl 5 Tryd.underlying22 Tryd.underlying9 Tryd.info5 _ _ k1 rfl hO3 hB3 rfl ?_ ?_; (have := Z1.out; simp; omega))) | go_in)
    intro v4 w4 hO4 hB4
    clear hO3 hB3
    have L4 : Hid ((pre4 k1).length ≤ 210) := by have := Z1.out; show _ ≤ _; simp [pre4, bytesI_length]; omega
    have hO4 : OwnNums w4 w.heap.size 5 .u8 v4 (pre4 k1) := hO4
    go_wp2_with (first | (at_builtin; (refine append_num w w4 rfl (.tmp 43) (.tmp 44) 22 rfl 5 .u8 1 Tryd.underlying22 Tryd.info5 (by decide) _ _ 0 rfl hO4 hB4 rfl ?_ ?_; (have := L4.out; omega))) | go_in)
    intro v5 w5 hO5 hB5 _
    clear hO4 hB4
    go_wp2_with fail
    refine (P2 _).out.mono ?_
    rintro e w6 ⟨rfl, hb6⟩
    have hO6 := World.ownsRow.kept hO5 (below_grown hb6 none) (Classical.em _)
    have hB6 : Below w.heap.size w w6 := hB5.trans (hb6.mono hB5.size)
    clear hO5 hB5 hb6
    go_wp2_with (first | (at_builtin; (refine append_text w w6 rfl (.tmp 46) (.tmp 48) 22 9 rfl 5 Tryd.underlying22 Tryd.underlying9 Tryd.info5 _ _ k2 rfl hO6 hB6 rfl ?_ ?_; (have := L4.out; have := Z2.out; rw [List.length_append]; simp only [List.length_cons, List.length_nil]; omega))) | go_in)
    intro v7 w7 hO7 hB7
    clear hO6 hB6
    have hO7 : OwnNums w7 w.heap.size 5 .u8 v7 (pre7 false k1 k2) := hO7
    have L7 : Hid ((pre7 false k1 k2).length ≤ 110000) := by have := L4.out; have := Z2.out; show _ ≤ _; unfold pre7; rw [List.length_append, List.length_cons, bytesI_length k2]; omega
    have hcv := conv_owned w7 22 5 9 Tryd.underlying22 Tryd.underlying5 Tryd.underlying9 hO7
    rw [TN.out] at hcv
    go_wp2_with fail
    refine (SS _).out.mono ?_
    rintro e w8 ⟨rfl, rfl⟩
    go_wp2_with fail
    refine (KF _).out.mono ?_
    rintro e w9 ⟨rfl, hb9⟩
    have hO9 := World.ownsRow.kept hO7 (below_grown hb9 none) (Classical.em _)
    have hB9 : Below w.heap.size w w9 := hB7.trans (hb9.mono hB7.size)
    clear hO7 hB7 hb9
    go_wp2_with (first | (at_builtin; (refine append_text w w9 rfl (.tmp 53) (.tmp 55) 22 9 rfl 5 Tryd.underlying22 Tryd.underlying9 Tryd.info5 _ _ F4 rfl hO9 hB9 rfl ?_ ?_; (have := L7.out; have := FZ.out; omega))) | go_in)
    intro v10 w10 hO10 hB10
    have hcv9 := conv_owned w10 22 5 9 Tryd.underlying22 Tryd.underlying5 Tryd.underlying9 hO10
    rw [str_append, TN.out, str_bytesI] at hcv9
    clear hO10 hO9 hB9
    go_wp2
    go_ret
    exact ⟨by rw [E.out]; rfl, hB10⟩
end Go.Proofs.YteeadhcfippilaaDoor
