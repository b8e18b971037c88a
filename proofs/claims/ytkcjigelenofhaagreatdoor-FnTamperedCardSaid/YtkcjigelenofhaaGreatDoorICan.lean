import Derived.Test.YtkcjigelenofhaaGreatDoorG12
import Derived.Test.YtkcjigelenofhaaGreatDoorG6
import Derived.Shelf.Strings.BuilderK
namespace Go.Proofs.YtkcjigelenofhaaGreatDoor
open Go.RowKit Go.Maps
theorem qt_can (S : List Hp) : qtL (hAt S) S.length = canQ S := by
 unfold qtL canQ jl
 congr 1
 apply List.ext_getElem?
 intro i
 by_cases h : i < S.length
 · rw [List.getElem?_map, List.getElem?_range h, List.getElem?_map, List.getElem?_eq_getElem h]
   show some _ = some _
   congr 1
   show (ofL (prL (hAt S i))).data.toList = _
   rw [ofL_l]
   congr 1
   unfold hAt
   rw [List.getD_eq_getElem?_getD, List.getElem?_eq_getElem h]
   rfl
 · rw [List.getElem?_eq_none (by simp; omega), List.getElem?_eq_none (by simp; omega)]
theorem OwnHp.isC {w : World} {base : Nat} {a : Option Addr} {n c : Nat} {L : List Hp} (h : OwnHp w base (.slice a n c) L) (hn : n = L.length) : Hps w a n c (hAt L) := by
 subst hn
 obtain ⟨a2, c2, e, h2⟩ := h.hps
 cases e
 exact h2
theorem nxD {X w2 : World} (hb : Below X.drew.heap.size X.drew w2) : Below X.heap.size X w2 := (Below.refl _ X).drew.trans hb
theorem nxB {B : Nat} {X w2 : World} (hb : Below B X.drew w2) : Below B X w2 := (Below.refl _ X).drew.trans hb
theorem hv_has {o : Nat → Hp} {n : Nat} (hd : ∀ i, i < n → ∀ k, k < i → (o i).nm ≠ (o k).nm) {x : ByteArray} {i : Nat} (hi : i < n) (e : (o i).nm = x) : hvL o n x = (o i).vl := by
 have : fndTo o x n = some i := by
  refine fndTo_first hi (fun k hk q => ?_) e
  exact hd i hi k hk (by rw [e, q])
 unfold hvL
 rw [this]
theorem hv_not {o : Nat → Hp} {n : Nat} {x : ByteArray} (h : ¬ ∃ i, i < n ∧ (o i).nm = x) : hvL o n x = ⟨#[]⟩ := by
 unfold hvL
 rw [fndTo_none.2 fun i hi q => h ⟨i, hi, q⟩]
theorem hv_sz {o : Nat → Hp} {n : Nat} (hd : ∀ i, i < n → hdP (o i)) (x : ByteArray) : (hvL o n x).size ≤ 1000 := by
 unfold hvL
 cases e : fndTo o x n with
 | some i => exact (hd i (fndTo_some e).1).2.1
 | none => show (0 : Nat) ≤ 1000; omega
theorem sgL_lenC {o : Nat → Hp} {n : Nat} (hd : ∀ i, i < n → hdP (o i)) (ts : Nat → ByteArray) : ∀ m, (∀ i, i < m → (ts i).size ≤ 1000) → (sgL o n ts m).length ≤ m * 2002
 | 0, _ => by show (0 : Nat) ≤ _; omega
 | m + 1, h => by
  have ih := sgL_lenC hd ts m fun i hi => h i (by omega)
  have h1 := h m (by omega)
  have h2 := hv_sz hd (ts m)
  have e1 : (ts m).data.toList.length = (ts m).size := by simp
  have e2 : (hvL o n (ts m)).data.toList.length = (hvL o n (ts m)).size := by simp
  unfold sgL
  simp only [List.length_append, List.length_cons, List.length_nil]
  omega
def BldF (B b : Nat) (l : List UInt8) (w : World) : Prop := Lib.IsBuilderF (wrRen.t 72) (wrRen.t 5) B b (Lib.byteCells l) w
theorem BldF.of {B b : Nat} {l : List UInt8} {w : World} (h : Bld B b l w) : BldF B b l w := Lib.IsBuilderF.of h
theorem bAtF_below {T e : TypeId} {B b : Nat} {p : Value} {bs : List Value} {w w' : World} (h : Lib.BuilderAtF T e B b p bs w) (hb : Below w.heap.size w w') : Lib.BuilderAtF T e B b p bs w' := by
 have hlt := h.lt
 obtain ⟨h1, v, hc, ho, hn⟩ := h
 exact ⟨h1, v, (hb.block b hlt).trans hc, World.ownsRowF.kept ho (below_grown hb none) (Classical.em _), hn⟩
theorem BldF.below {B b : Nat} {l : List UInt8} {w w' : World} (h : BldF B b l w) (hb : Below w.heap.size w w') : BldF B b l w' := h.imp (fun h => bAtF_below h hb) (fun h => bAtF_below h hb)
theorem bldWriteK (B b : Nat) (l : List UInt8) (s : ByteArray) (w : World) (h : BldF B b l w) (hl : l.length + s.size ≤ 140737488355328) (hB : B ≤ w.heap.size) :
 Calls Tryz.prog 108 #[.pointer (some ⟨b, 0, none⟩), .string s] w fun e w' => e = .returned (.tuple #[.int .i64 s.size, .nilIface]) ∧ BldF B b (l ++ s.data.toList) w' ∧ Below B w w' ∧ Lib.OthersKept (wrRen.t 5) (some b) w w' := by
 refine (Any.Builder_WriteString_k wr_Lays_n166 wrExtra B b _ s w h (by rw [Lib.byteCells_length]; exact hl) hB).mono ?_
 rintro e w' ⟨rfl, h1, h2, h3⟩
 refine ⟨rfl, ?_, h2, h3⟩
 have e1 : Lib.byteCells (l ++ s.data.toList) = Lib.byteCells l ++ Lib.strCells s := by unfold Lib.byteCells Lib.strCells; simp
 unfold BldF
 rw [e1]
 exact Or.inr h1
theorem bldStrK (B b : Nat) (l : List UInt8) (w : World) (h : BldF B b l w) (h0 : l ≠ []) :
 Calls Tryz.prog 109 #[.pointer (some ⟨b, 0, none⟩)] w fun e w' => e = .returned (.string (ofL l)) ∧ Below B w w' := by
 refine (Any.Builder_String_k wr_Lays_n169 wrExtra B b l w h h0).mono ?_
 rintro e w' ⟨rfl, _, h2, _⟩
 exact ⟨rfl, h2⟩
theorem owns_others {H : Type} {P : Program} {k e : TypeId} {R : Value → Option (DataW H × List MemPlace)} {w w' : World} {b n m : Nat} {D : DataW H} (h : w.ownsMap P k R m n D) (hk : Lib.OthersKept e (some b) w w') (hne : m ≠ b) : w'.ownsMap P k R m n D := by
 obtain ⟨es, clock, hb, F, hs, rfl⟩ := h
 exact ⟨es, clock, hk m _ hb (fun q => hne (by injection q)) (fun c fz q => by cases q), F, hs, rfl⟩
set_option maxRecDepth 20000 in
set_option maxHeartbeats 4000000 in
theorem iCanonNo (mt pt : ByteArray) (a1 : Option Addr) (n1 c1 : Nat) (o1 : Nat → Hp) (a2 : Option Addr) (n2 c2 : Nat) (o2 : Nat → Hp) (bd : ByteArray) (hb : RqB ⟨mt, pt, ⟨a1, n1, c1, o1⟩, ⟨a2, n2, c2, o2⟩, bd⟩ 1048576) (hr : ¬ rqP ⟨mt, pt, ⟨a1, n1, c1, o1⟩, ⟨a2, n2, c2, o2⟩, bd⟩) (tA : Option Addr) (m mc : Nat) (w : World) (h : RqIn w ⟨mt, pt, ⟨a1, n1, c1, o1⟩, ⟨a2, n2, c2, o2⟩, bd⟩) :
 Calls Tryz.prog 84 #[.agg #[.string mt, .string pt, .slice a1 n1 c1, .slice a2 n2 c2, .string bd], .slice tA m mc] w fun e w' => e = .returned (.string ⟨#[]⟩) ∧ Below w.heap.size w w' := by
 have KF : ∀ wx, RqIn wx ⟨mt, pt, ⟨a1, n1, c1, o1⟩, ⟨a2, n2, c2, o2⟩, bd⟩ → Hid (Calls Tryz.prog 38 #[.agg #[.string mt, .string pt, .slice a1 n1 c1, .slice a2 n2 c2, .string bd]] wx fun e w' => e = .returned (.int .i64 1) ∧ Below wx.heap.size wx w') := fun wx hx => by
  have := iRqF ⟨mt, pt, ⟨a1, n1, c1, o1⟩, ⟨a2, n2, c2, o2⟩, bd⟩ hb wx hx
  rw [rqV_f hr] at this
  exact this
 have HI := hid h
 have J := Jn.box w 25 #[.string mt, .string pt, .slice a1 n1 c1, .slice a2 n2 c2, .string bd]
 obtain ⟨W0, hW0⟩ : ∃ W, W = w.alloc (.cells #[.string mt, .string pt, .slice a1 n1 c1, .slice a2 n2 c2, .string bd] 25) := ⟨_, rfl⟩
 rw [← hW0] at J
 clear h hb hr
 go_enter Tryz.func84, Tryz.ntmps84
 go_wp2_with fail
 rw [← hW0]
 clear hW0
 refine (KF _ (HI.out.below J.out.2)).out.mono ?_
 rintro e w2 ⟨rfl, hb2⟩
 have J2 := Jn.next hb2 J
 clear hb2 J
 go_wp2
 go_ret
 exact ⟨rfl, J2.out.2⟩
set_option maxRecDepth 20000 in
set_option maxHeartbeats 8000000 in
theorem iCanonYes (mt pt : ByteArray) (a1 : Option Addr) (n1 c1 : Nat) (o1 : Nat → Hp) (a2 : Option Addr) (n2 c2 : Nat) (o2 : Nat → Hp) (bd : ByteArray) (hr : rqP ⟨mt, pt, ⟨a1, n1, c1, o1⟩, ⟨a2, n2, c2, o2⟩, bd⟩) (tA : Option Addr) (m mc : Nat) (ts : Nat → ByteArray) (hm : m ≤ 10) (hts : ∀ i, i < m → (ts i).size ≤ 1000) (w : World) (hT : TB w) (h : RqIn w ⟨mt, pt, ⟨a1, n1, c1, o1⟩, ⟨a2, n2, c2, o2⟩, bd⟩) (hS : Strs w tA m mc ts) :
 Calls Tryz.prog 84 #[.agg #[.string mt, .string pt, .slice a1 n1 c1, .slice a2 n2 c2, .string bd], .slice tA m mc] w fun e w' => e = .returned (.string (ofL (canL ⟨mt, pt, ⟨a1, n1, c1, o1⟩, ⟨a2, n2, c2, o2⟩, bd⟩ ts m))) ∧ Below w.heap.size w w' := by
 have hmt := hr.1.2.1
 have hpt := hr.2.1.2.1
 have df1 := hid hr.2.2.1
 have df2 := hid hr.2.2.2.1
 have hbd := hr.2.2.2.2.1
 have qy := hid hr.2.2.2.2.2.1
 have hd := hid hr.2.2.2.2.2.2
 dsimp only at hmt hpt df1 df2 hbd qy hd
 have CL := hid (canL_len hr ts m hm hts)
 have KF : ∀ wx, RqIn wx ⟨mt, pt, ⟨a1, n1, c1, o1⟩, ⟨a2, n2, c2, o2⟩, bd⟩ → Hid (Calls Tryz.prog 38 #[.agg #[.string mt, .string pt, .slice a1 n1 c1, .slice a2 n2 c2, .string bd]] wx fun e w' => e = .returned (.int .i64 0) ∧ Below wx.heap.size wx w') := fun wx hx => by
  have hb : RqB ⟨mt, pt, ⟨a1, n1, c1, o1⟩, ⟨a2, n2, c2, o2⟩, bd⟩ 1048576 := by
   refine ⟨by dsimp only; omega, by dsimp only; omega, ⟨by have := df1.out.1; dsimp only; omega, fun i hi => ?_⟩, ⟨by have := df2.out.1; dsimp only; omega, fun i hi => ?_⟩, by dsimp only; omega⟩
   · have := qy.out i hi
     exact ⟨Nat.le_trans this.2.1 (by omega), Nat.le_trans this.2.2 (by omega)⟩
   · have := hd.out i hi
     exact ⟨Nat.le_trans this.1.2.1 (by omega), Nat.le_trans this.2.1 (by omega)⟩
  have := iRqF ⟨mt, pt, ⟨a1, n1, c1, o1⟩, ⟨a2, n2, c2, o2⟩, bd⟩ hb wx hx
  rw [rqV_t hr] at this
  exact this
 have KT := fun wx hx => hid (iContT tA m mc ts (by omega) (fun i hi => by have := hts i hi; omega) wx hx)
 have KE := fun wx => hid (iEsc pt (by omega) wx)
 have LE : (ofL (escV pt)).size ≤ 3000 := by rw [ofL_size]; have := escV_len pt; omega
 have KS := fun wx (hx : Hps wx a1 n1 c1 o1) => hid (iSBN a1 n1 c1 o1 (by have := df1.out.1; omega) (fun i hi => by have := (qy.out i hi).2.1; omega) df1.out.2 wx hx)
 obtain ⟨S, hSd⟩ : ∃ S, S = selL n1 (hpList o1 n1) := ⟨_, rfl⟩
 have lS : S.length = n1 := by rw [hSd]; have := selLen (hpList o1 n1); rwa [hpList_len] at this
 have qS : ∀ i, i < n1 → qyP (hAt S i) := fun i hi => by
  rw [hSd]
  obtain ⟨k, hk, e⟩ := sel_has (o := o1) hi
  rw [e]; exact qy.out k hk
 have KQ := fun wx a c (hx : Hps wx a n1 c (hAt S)) => hid (iQText a n1 c (hAt S) df1.out.1 qS wx hx)
 have e1 : qtL (hAt S) n1 = canQ S := by rw [← lS]; exact qt_can S
 have LQ : (ofL (canQ S)).size ≤ 100000 := by rw [ofL_size, ← e1]; have := qtL_len (hAt S) n1 qS; have := df1.out.1; omega
 rw [e1] at KQ
 have EC : Hid (canL ⟨mt, pt, ⟨a1, n1, c1, o1⟩, ⟨a2, n2, c2, o2⟩, bd⟩ ts m = (mt ++ ⟨#[10]⟩ ++ ofL (escV pt) ++ ⟨#[10]⟩ ++ ofL (canQ S) ++ ⟨#[10]⟩ : ByteArray).data.toList ++ sgL o2 n2 ts m ++ (ofL (Lib.decDigits (sumOf bd 3).toNat)).data.toList) := by
  show _ = _
  unfold canL
  dsimp only
  rw [ofL_l, ba_app, ba_app, ba_app, ba_app, ba_app, ofL_l, ofL_l, ← hSd]
 rw [← hSd] at KS
 have HLS := hid lS
 clear hSd e1 lS
 generalize ofL (escV pt) = ES at KE LE EC
 generalize ofL (canQ S) = QT at KQ LQ EC
 obtain ⟨b, hb⟩ : ∃ b : Nat, b = 0 := ⟨_, rfl⟩
 clear hb b
 have LF : (sumOf bd 3).toNat ≤ 4102444800 ∧ 0 ≤ sumOf bd 3 := by
  have eS : sumOf bd 3 = sumL (3 % 2147483647 + 1) bd.data.toList := by unfold sumOf; rw [if_neg (by omega)]
  have := sumL_bd bd.data.toList (3 % 2147483647 + 1) (by decide) (by decide)
  rw [eS]; omega
 have KSU := fun wx => hid (isum_all bd 3 (by omega) (by omega) wx)
 have KD := fun wx hx => hid (iDecm (sumOf bd 3).toNat LF.1 (sumOf bd 3) (by omega) wx hx)
 have LD : (ofL (Lib.decDigits (sumOf bd 3).toNat)).size ≤ 100 := by have := dec_len (sumOf bd 3).toNat (by omega); omega
 generalize ofL (Lib.decDigits (sumOf bd 3).toNat) = DD at KD LD EC
 generalize sumOf bd 3 = SV at KSU KD
 clear LF
 obtain ⟨X, hX⟩ : ∃ X, X = mt ++ ⟨#[10]⟩ ++ ES ++ ⟨#[10]⟩ ++ QT ++ ⟨#[10]⟩ := ⟨_, rfl⟩
 have LX : X.size ≤ 110000 := by rw [hX]; simp only [sizeApp]; show mt.size + 1 + ES.size + 1 + QT.size + 1 ≤ _; omega
 have lx : X.data.toList.length = X.size := by simp
 rw [← hX] at EC
 have z1 : ¬ 9223372036854775807 < mt.size + 1 := by omega
 have z2 : ¬ 9223372036854775807 < mt.size + 1 + ES.size := by omega
 have z3 : ¬ 9223372036854775807 < mt.size + 1 + ES.size + 1 := by omega
 have z4 : ¬ 9223372036854775807 < mt.size + 1 + ES.size + 1 + QT.size := by omega
 have z5 : ¬ 9223372036854775807 < mt.size + 1 + ES.size + 1 + QT.size + 1 := by omega
 have HX := hid hX
 have HLX := hid lx
 clear hX lx
 have HM2 := hid hd
 have HI := hid h
 have HQ0 := hid h.qs
 have HN := hid h.hs
 dsimp only at HQ0 HN
 have HTS := hid hts
 have HSS := hid hS
 have HTB := hid hT
 have KP := fun wx hx => hid (iPlaces a2 n2 c2 o2 (by have := df2.out.1; omega) (fun i hi => Nat.le_trans (hd.out i hi).1.2.1 (by omega)) wx hx)
 obtain ⟨RS, hRS⟩ : ∃ Q, Q = ofL (canL ⟨mt, pt, ⟨a1, n1, c1, o1⟩, ⟨a2, n2, c2, o2⟩, bd⟩ ts m) := ⟨_, rfl⟩
 rw [← hRS]
 have HRS : Hid (RS = ofL (X.data.toList ++ sgL o2 n2 ts m ++ DD.data.toList)) := by rw [hRS, EC.out]; exact rfl
 have J := Jn.box w 25 #[.string mt, .string pt, .slice a1 n1 c1, .slice a2 n2 c2, .string bd]
 obtain ⟨W0, hW0⟩ : ∃ W, W = w.alloc (.cells #[.string mt, .string pt, .slice a1 n1 c1, .slice a2 n2 c2, .string bd] 25) := ⟨_, rfl⟩
 rw [← hW0] at J
 have m30 : ¬ (30 : Int) < (m : Int) := by omega
 clear h hr hS hT hts hRS EC CL
 go_enter Tryz.func84, Tryz.ntmps84
 go_wp2_with fail
 rw [← hW0]
 clear hW0
 refine (KF _ (HI.out.below J.out.2)).out.mono ?_
 rintro e w1 ⟨rfl, hb1⟩
 replace J := Jn.next hb1 J
 clear hb1 KF
 go_wp2_with fail
 refine (KT _ (HSS.out.below J.out.2)).out.mono ?_
 rintro e w2 ⟨rfl, hw⟩
 obtain rfl := hw
 clear KT
 obtain ⟨b, hb⟩ : ∃ b, b = w2.heap.size := ⟨_, rfl⟩
 obtain ⟨W1, hW1⟩ : ∃ W, W = w2.alloc (.cells #[.pointer none, .slice none 0 0] 123) := ⟨_, rfl⟩
 have N1 : Hid (Bld b b [] W1) := by rw [hW1, hb]; exact bldNew w2
 have BW1 : Hid (Below w2.heap.size w2 W1) := by rw [hW1]; exact (Below.refl _ _).alloc (Nat.le_refl _) _
 have J1 := Jn.next BW1.out J
 have hbR : w.heap.size < b := by rw [hb]; exact J.out.1.lt
 have bz1 : b ≤ W1.heap.size := by rw [hb]; exact BW1.out.size
 have hbW : w.heap.size ≤ b := by omega
 go_upto_region 4 with fail
 rw [← hW1, ← hb]
 clear hW1 hb BW1 J
 have x0 : W1.cell? ⟨w.heap.size, 0, none⟩ = some (.string mt) := J1.out.1.cell 0
 have x1 : W1.cell? ⟨w.heap.size, 1, none⟩ = some (.string pt) := J1.out.1.cell 1
 have x2 : W1.cell? ⟨w.heap.size, 2, none⟩ = some (.slice a1 n1 c1) := J1.out.1.cell 2
 have NX : Hid (∀ wx, Bld b b [] wx → b ≤ wx.heap.size → Calls Tryz.prog 108 #[.pointer (some ⟨b, 0, none⟩), .string (mt ++ ⟨#[10]⟩ ++ ES ++ ⟨#[10]⟩ ++ QT ++ ⟨#[10]⟩)] wx fun e w' => e = .returned (.tuple #[.int .i64 (mt ++ ⟨#[10]⟩ ++ ES ++ ⟨#[10]⟩ ++ QT ++ ⟨#[10]⟩ : ByteArray).size, .nilIface]) ∧ Bld b b X.data.toList w' ∧ Below b wx w') := fun wx hN hz => by
  have := bldWrite b b [] X wx hN (by simp; omega) hz
  rw [List.nil_append] at this
  rw [← HX.out]
  exact this
 go_region_held3 (fun wx => wx.cell? ⟨w.heap.size, 0, none⟩ = some (.string mt) ∧ wx.cell? ⟨w.heap.size, 1, none⟩ = some (.string pt) ∧ wx.cell? ⟨w.heap.size, 2, none⟩ = some (.slice a1 n1 c1))
  (first | (go_keep; done) | exact ⟨J1.out.1.cell 0, J1.out.1.cell 1, J1.out.1.cell 2⟩)
  ((first
   | (go_at_call 113; refine (KE _).out.mono ?_; rintro e v1 ⟨rfl, hb2⟩; (first | replace J1 := Jn.next hb2 J1 | (replace hb2 := nxD hb2; replace J1 := Jn.next hb2 J1)); replace N1 := hid (N1.out.below hb2); replace bz1 := Nat.le_trans bz1 hb2.size)
   | (go_at_call 115; refine (KS _ (HQ0.out.below J1.out.2)).out.mono ?_; rintro e v1 ⟨⟨aS, cS, rfl, hOS⟩, hb2⟩; (first | replace J1 := Jn.next hb2 J1 | (replace hb2 := nxD hb2; replace J1 := Jn.next hb2 J1)); replace N1 := hid (N1.out.below hb2); replace bz1 := Nat.le_trans bz1 hb2.size; have HO := hid hOS; clear hOS)
   | (go_at_call 114; refine (KQ _ aS cS (OwnHp.isC HO.out HLS.out.symm)).out.mono ?_; rintro e v1 ⟨rfl, hb2⟩; (first | replace J1 := Jn.next hb2 J1 | (replace hb2 := nxD hb2; replace J1 := Jn.next hb2 J1)); replace N1 := hid (N1.out.below hb2); replace bz1 := Nat.le_trans bz1 hb2.size)
   | (go_at_call 108; refine (NX.out _ N1.out bz1).mono ?_; rintro e v1 ⟨rfl, hN2, hb2⟩; (first | replace J1 := Jn.nextB hb2 J1 hbR hbW | (replace hb2 := nxB hb2; replace J1 := Jn.nextB hb2 J1 hbR hbW)); have N2 := hid hN2; have bz2 : b ≤ v1.heap.size := Nat.le_trans bz1 hb2.size)))
 have P2 := hid (BldF.of N2.out)
 clear N2 hb2 hN2 NX HO KE KS KQ x0 x1 x2 z1 z2 z3 z4 z5
 have x3 : v1.cell? ⟨w.heap.size, 3, none⟩ = some (.slice a2 n2 c2) := J1.out.1.cell 3
 go_wp2_with fail
 refine (KP _ (HN.out.below J1.out.2)).out.mono ?_
 rintro e w5 ⟨bM, rfl, hM5, hbM, hB5⟩
 have J5 := Jn.next hB5 J1
 have N5 := hid (P2.out.below hB5)
 have bz5 : b ≤ w5.heap.size := Nat.le_trans bz2 hB5.size
 have M5 := hid hM5
 have bMb : b < bM := by
  have : b < v1.heap.size := by rcases P2.out with q | q <;> exact q.lt
  omega
 clear hB5 hM5 hbM P2 J1 bz2 x3 KP
 go_wp2_with fail
 go_loopw [43] (fun q wr => ∃ k : Nat, k ≤ m ∧ q = .int .i64 (k : Int) ∧ BldF b b (X.data.toList ++ sgL o2 n2 ts k) wr ∧ Jn w wr w.heap.size 25 #[.string mt, .string pt, .slice a1 n1 c1, .slice a2 n2 c2, .string bd] ∧ wr.ownsMap Tryz.prog 9 (plainElem Tryz.prog 3) bM n2 (plD o2 n2) ∧ b ≤ wr.heap.size) (fun q _ => m - (intOf q).toNat)
 case atStart => exact ⟨0, Nat.zero_le _, rfl, by simpa [sgL] using N5.out, J5.out, M5.out, bz5⟩
 case round =>
  clear N5 J5 M5 bz5
  obtain ⟨k, hk, rfl, hN, hJ, hM, hbz⟩ := hrel
  have N := hid hN
  have J := hid hJ
  have M := hid hM
  clear hN hJ hM
  have hsk := sgL_lenC HM2.out ts k (fun i hi => HTS.out i (by omega))
  have LK : Hid ((X.data.toList ++ sgL o2 n2 ts k).length ≤ 200000) := by show _ ≤ _; rw [List.length_append, HLX.out]; omega
  clear hsk
  by_cases hlt : k < m
  · have d1 : (k : Int) < (m : Int) := by omega
    have k0 : (0 : Int) ≤ (k : Int) := by omega
    rcases (HSS.out.below J.out.2).2 with q0 | ⟨bb, off, rfl, hbl, hc⟩
    · omega
    have y0 := hc k hlt
    have hT1 := HTS.out k hlt
    have HKY : Hid (keyOf Tryz.prog 9 (.string (ts k)) = some (.string (ts k).data.toList)) := WideMaps.keyOf_string_mk Tryz.underlying9 (by unfold maxLen; omega)
    have NXT : Hid (sgL o2 n2 ts (k + 1) = sgL o2 n2 ts k ++ (ts k).data.toList ++ [58] ++ (hvL o2 n2 (ts k)).data.toList ++ [10]) := rfl
    by_cases hf : ∃ i, i < n2 ∧ (o2 i).nm = ts k
    · obtain ⟨i, hi, ei⟩ := hf
      have HV : Hid (hvL o2 n2 (ts k) = (o2 i).vl) := hv_has df2.out.2 hi ei
      have HBB : Hid (Maps.has (plD o2 n2) (.string (ts k).data.toList) = true) := (plD_has o2 _ n2).2 ⟨i, hi, by unfold kN; rw [ei]⟩
      have HAT : Hid (∀ z, (plD o2 n2).atKey (.string (ts k).data.toList) z = .lit (.int .i64 (i : Int))) := fun z => by rw [← ei]; exact plD_at o2 n2 df2.out.2 i hi z
      have hv1 := (HM2.out i hi).2.1
      have i1 : (i : Int) < (n2 : Int) := by omega
      have i0 : (0 : Int) ≤ (i : Int) := by omega
      rw [HV.out] at NXT
      obtain ⟨KL, hKL⟩ : ∃ K, K = Lit.string (ts k).data.toList := ⟨_, rfl⟩
      rw [← hKL] at HKY HBB HAT
      clear hKL hc HV ei
      have WS := fun wx hN hz => hid (bldWriteK b b (X.data.toList ++ sgL o2 n2 ts k) (ts k ++ ⟨#[58]⟩) wx hN (by have := LK.out; rw [sizeApp]; show _ + (_ + 1) ≤ _; omega) hz)
      have EW : Hid (X.data.toList ++ sgL o2 n2 ts k ++ (ts k ++ ⟨#[58]⟩ : ByteArray).data.toList ++ (o2 i).vl.data.toList ++ (⟨#[10]⟩ : ByteArray).data.toList = X.data.toList ++ sgL o2 n2 ts (k + 1)) := by show _ = _; rw [NXT.out, ba_app]; simp
      have L2 : Hid ((X.data.toList ++ sgL o2 n2 ts k ++ (ts k ++ ⟨#[58]⟩ : ByteArray).data.toList).length ≤ 300000) := by
       have := LK.out
       have e : (ts k ++ ⟨#[58]⟩ : ByteArray).data.toList.length = (ts k).size + 1 := by rw [ba_app]; simp
       show _ ≤ _; rw [List.length_append, e]; omega
      have WV := fun wx hN hz => hid (bldWriteK b b (X.data.toList ++ sgL o2 n2 ts k ++ (ts k ++ ⟨#[58]⟩ : ByteArray).data.toList) (o2 i).vl wx hN (by have := L2.out; omega) hz)
      have L3 : Hid ((X.data.toList ++ sgL o2 n2 ts k ++ (ts k ++ ⟨#[58]⟩ : ByteArray).data.toList ++ (o2 i).vl.data.toList).length ≤ 400000) := by
       have := L2.out
       have e : (o2 i).vl.data.toList.length = (o2 i).vl.size := by simp
       show _ ≤ _; rw [List.length_append, e]; omega
      have WE := fun wx hN hz => hid (bldWriteK b b (X.data.toList ++ sgL o2 n2 ts k ++ (ts k ++ ⟨#[58]⟩ : ByteArray).data.toList ++ (o2 i).vl.data.toList) ⟨#[10]⟩ wx hN (by have := L3.out; show _ + 1 ≤ _; omega) hz)
      have CELL : ∀ wx, Hps wx a2 n2 c2 o2 → ∃ b2 off2, a2 = some ⟨b2, off2, none⟩ ∧ wx.cell? ⟨b2, off2 + i * 2 + 1, none⟩ = some (.string (o2 i).vl) := fun wx hx => by
       rcases hx.2 with q0 | ⟨b2, off2, e2, _, hc2⟩
       · omega
       · exact ⟨b2, off2, e2, (hc2 i hi).2⟩
      have HC := hid CELL
      clear CELL
      generalize (o2 i).vl = VV at WV WE EW HC hv1
      generalize ts k = T at y0 HKY WS WV WE EW hT1
      have zz : ¬ 9223372036854775807 < T.size + 1 := by omega
      clear L2 L3 NXT
      go_wp2_with fail
      refine (WS _ N.out hbz).out.mono ?_
      rintro e wW ⟨rfl, hN2, hB2, hK2⟩
      have MW := hid (owns_others M.out hK2 (by omega))
      have JW := Jn.nextB hB2 J hbR hbW
      have bW : b ≤ wW.heap.size := Nat.le_trans hbz hB2.size
      have NW := hid hN2
      clear hN2 hB2 hK2 M J N hbz WS y0
      have x3 : wW.cell? ⟨w.heap.size, 3, none⟩ = some (.slice a2 n2 c2) := JW.out.1.cell 3
      obtain ⟨b2, off2, ea, yv⟩ := HC.out wW (HN.out.below JW.out.2)
      have HEA := hid ea
      clear ea HC
      rw [HEA.out] at x3
      have HZ : Hid ((zeroValue 3).run Tryz.prog wW = .ok (.int .i64 0) wW) := by show (zeroValue 3).run Tryz.prog wW = .ok (.int .i64 0) wW; kernel_rfl
      go_wp2_with (first | (at_lookup; refine wpList_lookup_own_ok_int _ rfl _ _ 116 rfl 9 3 .i64 lawS Tryz.underlying116 Tryz.underlying3 HZ.out bM n2 (plD o2 n2) rfl MW.out (.string T) KL rfl HKY.out ?_; intro c hat hwc; rw [HBB.out]; rw [HAT.out] at hat; injection hat with hat; injection hat with _ hat; subst hat; clear hwc) | fail)
      refine (WV _ NW.out bW).out.mono ?_
      rintro e w6 ⟨rfl, hN2, hB2, hK2⟩
      have M6 := hid (owns_others MW.out hK2 (by omega))
      have J6 := Jn.nextB hB2 JW hbR hbW
      have b6 : b ≤ w6.heap.size := Nat.le_trans bW hB2.size
      have N6 := hid hN2
      clear hN2 hB2 hK2 MW JW NW bW WV x3 yv HZ
      go_wp2_with fail
      refine (WE _ N6.out b6).out.mono ?_
      rintro e w7 ⟨rfl, hN2, hB2, hK2⟩
      have M7 := hid (owns_others M6.out hK2 (by omega))
      have J7 := Jn.nextB hB2 J6 hbR hbW
      have b7 : b ≤ w7.heap.size := Nat.le_trans b6 hB2.size
      rw [EW.out] at hN2
      have N7 := hid hN2
      clear hN2 hB2 hK2 M6 J6 N6 b6 WE
      go_wp2
      go_roundw
      case rel => exact ⟨k + 1, by omega, by go_num, N7.out, J7.out, M7.out, b7⟩
      case measure => simp [intOf]; omega
    · have HV : Hid (hvL o2 n2 (ts k) = ⟨#[]⟩) := hv_not hf
      have HBB : Hid (Maps.has (plD o2 n2) (.string (ts k).data.toList) = false) := by
       show _ = _
       apply Bool.eq_false_iff.2
       intro q
       obtain ⟨i, hi, e⟩ := (plD_has o2 _ n2).1 q
       exact hf ⟨i, hi, ba_eqL (by unfold kN at e; injection e)⟩
      rw [HV.out] at NXT
      obtain ⟨KL, hKL⟩ : ∃ K, K = Lit.string (ts k).data.toList := ⟨_, rfl⟩
      rw [← hKL] at HKY HBB
      clear hKL hc HV hf
      have WS := fun wx hN hz => hid (bldWriteK b b (X.data.toList ++ sgL o2 n2 ts k) (ts k ++ ⟨#[58]⟩) wx hN (by have := LK.out; rw [sizeApp]; show _ + (_ + 1) ≤ _; omega) hz)
      have EW : Hid (X.data.toList ++ sgL o2 n2 ts k ++ (ts k ++ ⟨#[58]⟩ : ByteArray).data.toList ++ (⟨#[10]⟩ : ByteArray).data.toList = X.data.toList ++ sgL o2 n2 ts (k + 1)) := by show _ = _; rw [NXT.out, ba_app]; simp
      have L2 : Hid ((X.data.toList ++ sgL o2 n2 ts k ++ (ts k ++ ⟨#[58]⟩ : ByteArray).data.toList).length ≤ 300000) := by
       have := LK.out
       have e : (ts k ++ ⟨#[58]⟩ : ByteArray).data.toList.length = (ts k).size + 1 := by rw [ba_app]; simp
       show _ ≤ _; rw [List.length_append, e]; omega
      have WE := fun wx hN hz => hid (bldWriteK b b (X.data.toList ++ sgL o2 n2 ts k ++ (ts k ++ ⟨#[58]⟩ : ByteArray).data.toList) ⟨#[10]⟩ wx hN (by have := L2.out; show _ + 1 ≤ _; omega) hz)
      generalize ts k = T at y0 HKY WS WE EW hT1
      have zz : ¬ 9223372036854775807 < T.size + 1 := by omega
      clear L2 NXT
      go_wp2_with fail
      refine (WS _ N.out hbz).out.mono ?_
      rintro e wW ⟨rfl, hN2, hB2, hK2⟩
      have MW := hid (owns_others M.out hK2 (by omega))
      have JW := Jn.nextB hB2 J hbR hbW
      have bW : b ≤ wW.heap.size := Nat.le_trans hbz hB2.size
      have NW := hid hN2
      clear hN2 hB2 hK2 M J N hbz WS y0
      have HZ : Hid ((zeroValue 3).run Tryz.prog wW = .ok (.int .i64 0) wW) := by show (zeroValue 3).run Tryz.prog wW = .ok (.int .i64 0) wW; kernel_rfl
      go_wp2_with (first | (at_lookup; refine wpList_lookup_own_ok_int _ rfl _ _ 116 rfl 9 3 .i64 lawS Tryz.underlying116 Tryz.underlying3 HZ.out bM n2 (plD o2 n2) rfl MW.out (.string T) KL rfl HKY.out ?_; intro c hat hwc; rw [HBB.out]; clear hat hwc) | fail)
      refine (WE _ NW.out bW).out.mono ?_
      rintro e w7 ⟨rfl, hN2, hB2, hK2⟩
      have M7 := hid (owns_others MW.out hK2 (by omega))
      have J7 := Jn.nextB hB2 JW hbR hbW
      have b7 : b ≤ w7.heap.size := Nat.le_trans bW hB2.size
      rw [EW.out] at hN2
      have N7 := hid hN2
      clear hN2 hB2 hK2 MW JW NW bW WE
      go_wp2
      go_roundw
      case rel => exact ⟨k + 1, by omega, by go_num, N7.out, J7.out, M7.out, b7⟩
      case measure => simp [intOf]; omega
  · have d1 : ¬ (k : Int) < (m : Int) := by omega
    have ek : k = m := by omega
    subst ek
    have x4 : wr.cell? ⟨w.heap.size, 4, none⟩ = some (.string bd) := J.out.1.cell 4
    go_wp2_with fail
    refine (KSU _).out.mono ?_
    rintro e w6 ⟨rfl, hw⟩
    obtain rfl := hw
    go_wp2_with fail
    refine (KD _ (HTB.out.below J.out.2)).out.mono ?_
    rintro e w7 ⟨rfl, hB7⟩
    have J7 := Jn.next hB7 J
    have N7 := hid (N.out.below hB7)
    have b7 : b ≤ w7.heap.size := Nat.le_trans hbz hB7.size
    clear hB7 J N M x4 hbz
    go_wp2_with fail
    refine (bldWriteK b b _ DD w7 N7.out (by have := LK.out; omega) b7).mono ?_
    rintro e w8 ⟨rfl, hN8, hB8, _⟩
    have J8 := Jn.nextB hB8 J7 hbR hbW
    have N8 := hid hN8
    clear hN8 hB8 J7 N7
    have KZ := hid (bldStrK b b _ w8 N8.out (by
     intro q
     have e1 := congrArg List.length q
     rw [List.length_append, List.length_append, HLX.out, HX.out] at e1
     simp only [sizeApp] at e1
     have e2 : (⟨#[10]⟩ : ByteArray).size = 1 := rfl
     rw [e2] at e1
     simp at e1))
    rw [← HRS.out] at KZ
    go_wp2_with fail
    refine KZ.out.mono ?_
    rintro e w9 ⟨rfl, hB9⟩
    have J9 := Jn.nextB hB9 J8 hbR hbW
    clear J8 N8 KZ hB9
    go_wp2
    go_ret
    exact ⟨rfl, J9.out.2⟩
end Go.Proofs.YtkcjigelenofhaaGreatDoor
