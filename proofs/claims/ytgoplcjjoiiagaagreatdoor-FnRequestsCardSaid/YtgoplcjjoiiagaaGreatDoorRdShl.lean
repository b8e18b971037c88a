import Derived.Shelf.Strings.Cut
import Derived.Shelf.Strings.Search3
import Derived.Shelf.Strconv.ParseIntPublic10
import Derived.Shelf.Strconv.Itoa4
import Derived.Shelf.Vars
import Derived.Lib.ParseIntBTie
import Derived.Lib.AtoiErrMem
import Derived.Test.YtgoplcjjoiiagaaGreatDoorS3
namespace Go.Proofs.YtgoplcjjoiiagaaGreatDoor
open Go.RowKit Go.Shelf
/-! strings.Cut, strings.Index, strconv.ParseInt, strconv.FormatInt off the shelf. -/
theorem maxLen_shaped (w : World) (h : w.ShapedOpen Tryz.prog) : ∃ m, w.cell? ⟨1, 0, none⟩ = some (.int .i64 m) :=
  cell_of_shapedOpen_int (zero := #[.int .i64 0]) (t := 3) h (of_decide_eq_true (by kernel_rfl)) (by kernel_rfl) rfl (by kernel_rfl) (by kernel_rfl) Tryz.underlying3
def rdRen : Ren := ⟨fun x => if x = 129 then 120 else if x = 143 then 147 else if x = 145 then 97 else if x = 171 then 152 else if x = 173 then 55 else if x = 174 then 116 else if x = 205 then 151 else if x = 217 then 109 else if x = 219 then 130 else if x = 220 then 115 else if x = 224 then 137 else if x = 225 then 138 else if x = 243 then 153 else if x = 245 then 132 else if x = 246 then 84 else if x = 247 then 131 else if x = 266 then 124 else if x = 267 then 140 else if x = 279 then 142 else if x = 280 then 143 else if x = 281 then 144 else if x = 282 then 145 else if x = 283 then 105 else if x = 284 then 106 else if x = 285 then 107 else if x = 286 then 108 else if x = 287 then 141 else if x = 314 then 148 else if x = 316 then 117 else if x = 317 then 119 else if x = 318 then 121 else if x = 319 then 122 else if x = 320 then 123 else if x = 321 then 149 else if x = 322 then 150 else if x = 337 then 134 else if x = 338 then 135 else x, fun x => if x = 0 then 0 else if x = 2 then 2 else if x = 3 then 3 else if x = 4 then 4 else if x = 5 then 5 else if x = 9 then 9 else if x = 20 then 20 else if x = 21 then 21 else if x = 37 then 22 else if x = 46 then 93 else if x = 51 then 140 else if x = 53 then 125 else if x = 59 then 116 else if x = 75 then 50 else if x = 80 then 57 else if x = 85 then 135 else if x = 127 then 89 else if x = 143 then 173 else if x = 145 then 175 else if x = 146 then 167 else if x = 167 then 159 else if x = 168 then 162 else if x = 171 then 124 else if x = 173 then 128 else if x = 175 then 160 else if x = 210 then 171 else if x = 212 then 139 else if x = 213 then 141 else if x = 232 then 165 else if x = 233 then 166 else x, fun x => if x = 1 then 1 else if x = 15 then 6 else if x = 16 then 7 else if x = 17 then 0 else if x = 18 then 4 else if x = 19 then 5 else x⟩
theorem rd_Lays_n145 : Lays.n145 Tryz.prog rdRen := { mixed := by kernel_rfl, f145 := by kernel_rfl, f217 := by kernel_rfl, f219 := by kernel_rfl, f220 := by kernel_rfl, f224 := by kernel_rfl, f225 := by kernel_rfl, f266 := by kernel_rfl, f267 := by kernel_rfl, f314 := by kernel_rfl, t3 := by kernel_rfl, a3 := fun _ => by kernel_rfl, z3 := fun _ => by kernel_rfl, v3 := fun _ => by kernel_rfl, t4 := by kernel_rfl, a4 := fun _ => by kernel_rfl, z4 := fun _ => by kernel_rfl, v4 := fun _ => by kernel_rfl, t5 := by kernel_rfl, a5 := fun _ => by kernel_rfl, z5 := fun _ => by kernel_rfl, v5 := fun _ => by kernel_rfl, t9 := by kernel_rfl, a9 := fun _ => by kernel_rfl, z9 := fun _ => by kernel_rfl, v9 := fun _ => by kernel_rfl, t46 := by kernel_rfl, a46 := fun _ => by kernel_rfl, z46 := fun _ => by kernel_rfl, v46 := fun _ => by kernel_rfl, t51 := by kernel_rfl, a51 := fun _ => by kernel_rfl, z51 := fun _ => by kernel_rfl, v51 := fun _ => by kernel_rfl, t59 := by kernel_rfl, a59 := fun _ => by kernel_rfl, z59 := fun _ => by kernel_rfl, v59 := fun _ => by kernel_rfl, t146 := by kernel_rfl, a146 := fun _ => by kernel_rfl, z146 := fun _ => by kernel_rfl, v146 := fun _ => by kernel_rfl, g1 := by kernel_rfl }
theorem rd_Lays_n143 : Lays.n143 Tryz.prog rdRen := { mixed := by kernel_rfl, f143 := by kernel_rfl, f217 := by kernel_rfl, f219 := by kernel_rfl, f224 := by kernel_rfl, f225 := by kernel_rfl, f266 := by kernel_rfl, f267 := by kernel_rfl, f314 := by kernel_rfl, t3 := by kernel_rfl, a3 := fun _ => by kernel_rfl, z3 := fun _ => by kernel_rfl, v3 := fun _ => by kernel_rfl, t4 := by kernel_rfl, a4 := fun _ => by kernel_rfl, z4 := fun _ => by kernel_rfl, v4 := fun _ => by kernel_rfl, t5 := by kernel_rfl, a5 := fun _ => by kernel_rfl, z5 := fun _ => by kernel_rfl, v5 := fun _ => by kernel_rfl, t9 := by kernel_rfl, a9 := fun _ => by kernel_rfl, z9 := fun _ => by kernel_rfl, v9 := fun _ => by kernel_rfl, t46 := by kernel_rfl, a46 := fun _ => by kernel_rfl, z46 := fun _ => by kernel_rfl, v46 := fun _ => by kernel_rfl, t51 := by kernel_rfl, a51 := fun _ => by kernel_rfl, z51 := fun _ => by kernel_rfl, v51 := fun _ => by kernel_rfl, t146 := by kernel_rfl, a146 := fun _ => by kernel_rfl, z146 := fun _ => by kernel_rfl, v146 := fun _ => by kernel_rfl, g1 := by kernel_rfl }
theorem rd_Lays_n174 : Lays.n174 Tryz.prog rdRen := { mixed := by kernel_rfl, f129 := by kernel_rfl, f171 := by kernel_rfl, f174 := by kernel_rfl, f205 := by kernel_rfl, f243 := by kernel_rfl, f245 := by kernel_rfl, f246 := by kernel_rfl, f247 := by kernel_rfl, f279 := by kernel_rfl, f280 := by kernel_rfl, f281 := by kernel_rfl, f282 := by kernel_rfl, f283 := by kernel_rfl, f284 := by kernel_rfl, f285 := by kernel_rfl, f286 := by kernel_rfl, f287 := by kernel_rfl, f316 := by kernel_rfl, f317 := by kernel_rfl, f318 := by kernel_rfl, f319 := by kernel_rfl, f320 := by kernel_rfl, f321 := by kernel_rfl, f322 := by kernel_rfl, f337 := by kernel_rfl, f338 := by kernel_rfl, t0 := by kernel_rfl, a0 := fun _ => by kernel_rfl, z0 := fun _ => by kernel_rfl, v0 := fun _ => by kernel_rfl, t2 := by kernel_rfl, a2 := fun _ => by kernel_rfl, z2 := fun _ => by kernel_rfl, v2 := fun _ => by kernel_rfl, t3 := by kernel_rfl, a3 := fun _ => by kernel_rfl, z3 := fun _ => by kernel_rfl, v3 := fun _ => by kernel_rfl, t4 := by kernel_rfl, a4 := fun _ => by kernel_rfl, z4 := fun _ => by kernel_rfl, v4 := fun _ => by kernel_rfl, t5 := by kernel_rfl, a5 := fun _ => by kernel_rfl, z5 := fun _ => by kernel_rfl, v5 := fun _ => by kernel_rfl, t9 := by kernel_rfl, a9 := fun _ => by kernel_rfl, z9 := fun _ => by kernel_rfl, v9 := fun _ => by kernel_rfl, t20 := by kernel_rfl, a20 := fun _ => by kernel_rfl, z20 := fun _ => by kernel_rfl, v20 := fun _ => by kernel_rfl, t21 := by kernel_rfl, a21 := fun _ => by kernel_rfl, z21 := fun _ => by kernel_rfl, v21 := fun _ => by kernel_rfl, t37 := by kernel_rfl, a37 := fun _ => by kernel_rfl, z37 := fun _ => by kernel_rfl, v37 := fun _ => by kernel_rfl, t46 := by kernel_rfl, a46 := fun _ => by kernel_rfl, z46 := fun _ => by kernel_rfl, v46 := fun _ => by kernel_rfl, t51 := by kernel_rfl, a51 := fun _ => by kernel_rfl, z51 := fun _ => by kernel_rfl, v51 := fun _ => by kernel_rfl, t53 := by kernel_rfl, a53 := fun _ => by kernel_rfl, z53 := fun _ => by kernel_rfl, v53 := fun _ => by kernel_rfl, t75 := by kernel_rfl, a75 := fun _ => by kernel_rfl, z75 := fun _ => by kernel_rfl, v75 := fun _ => by kernel_rfl, t85 := by kernel_rfl, a85 := fun _ => by kernel_rfl, z85 := fun _ => by kernel_rfl, v85 := fun _ => by kernel_rfl, t127 := by kernel_rfl, a127 := fun _ => by kernel_rfl, z127 := fun _ => by kernel_rfl, v127 := fun _ => by kernel_rfl, t143 := by kernel_rfl, a143 := fun _ => by kernel_rfl, z143 := fun _ => by kernel_rfl, v143 := fun _ => by kernel_rfl, t145 := by kernel_rfl, a145 := fun _ => by kernel_rfl, z145 := fun _ => by kernel_rfl, v145 := fun _ => by kernel_rfl, t167 := by kernel_rfl, a167 := fun _ => by kernel_rfl, z167 := fun _ => by kernel_rfl, v167 := fun _ => by kernel_rfl, t168 := by kernel_rfl, a168 := fun _ => by kernel_rfl, z168 := fun _ => by kernel_rfl, v168 := fun _ => by kernel_rfl, t171 := by kernel_rfl, a171 := fun _ => by kernel_rfl, z171 := fun _ => by kernel_rfl, v171 := fun _ => by kernel_rfl, t173 := by kernel_rfl, a173 := fun _ => by kernel_rfl, z173 := fun _ => by kernel_rfl, v173 := fun _ => by kernel_rfl, t175 := by kernel_rfl, a175 := fun _ => by kernel_rfl, z175 := fun _ => by kernel_rfl, v175 := fun _ => by kernel_rfl, t210 := by kernel_rfl, a210 := fun _ => by kernel_rfl, z210 := fun _ => by kernel_rfl, v210 := fun _ => by kernel_rfl, t212 := by kernel_rfl, a212 := fun _ => by kernel_rfl, z212 := fun _ => by kernel_rfl, v212 := fun _ => by kernel_rfl, t213 := by kernel_rfl, a213 := fun _ => by kernel_rfl, z213 := fun _ => by kernel_rfl, t232 := by kernel_rfl, a232 := fun _ => by kernel_rfl, z232 := fun _ => by kernel_rfl, v232 := fun _ => by kernel_rfl, t233 := by kernel_rfl, a233 := fun _ => by kernel_rfl, z233 := fun _ => by kernel_rfl, v233 := fun _ => by kernel_rfl, g15 := by kernel_rfl, g16 := by kernel_rfl, g17 := by kernel_rfl, g18 := by kernel_rfl, g19 := by kernel_rfl }
theorem rd_LaysM_n174 : LaysM.n174 Tryz.prog rdRen := { rd_Lays_n174 with t80 := by kernel_rfl, a80 := fun _ => by kernel_rfl, z80 := fun _ => by kernel_rfl, v80 := fun _ => by kernel_rfl, i0 := by kernel_rfl, i2 := by kernel_rfl, i3 := by kernel_rfl, i4 := by kernel_rfl, i5 := by kernel_rfl, i9 := by kernel_rfl, i20 := by kernel_rfl, i21 := by kernel_rfl, i37 := by kernel_rfl, i46 := by kernel_rfl, i51 := by kernel_rfl, i53 := by kernel_rfl, i75 := by kernel_rfl, i80 := by kernel_rfl, i85 := by kernel_rfl, i127 := by kernel_rfl, i143 := by kernel_rfl, i145 := by kernel_rfl, i167 := by kernel_rfl, i168 := by kernel_rfl, i171 := by kernel_rfl, i173 := by kernel_rfl, i175 := by kernel_rfl, i210 := by kernel_rfl, i212 := by kernel_rfl, i232 := by kernel_rfl, i233 := by kernel_rfl, m15 := by kernel_rfl, m16 := by kernel_rfl, m17 := by kernel_rfl, m18 := by kernel_rfl, m19 := by kernel_rfl }
theorem rd_LaysC_n174 : LaysC.n174 Tryz.prog rdRen := { rd_LaysM_n174 with c0 := by kernel_rfl, c2 := by kernel_rfl, c3 := by kernel_rfl, c4 := by kernel_rfl, c5 := by kernel_rfl, c9 := by kernel_rfl, c20 := by kernel_rfl, c21 := by kernel_rfl, c37 := by kernel_rfl, c46 := by kernel_rfl, c51 := by kernel_rfl, c53 := by kernel_rfl, c75 := by kernel_rfl, c80 := by kernel_rfl, c85 := by kernel_rfl, c127 := by kernel_rfl, c143 := by kernel_rfl, c145 := by kernel_rfl, c167 := by kernel_rfl, c168 := by kernel_rfl, c171 := by kernel_rfl, c173 := by kernel_rfl, c175 := by kernel_rfl, c210 := by kernel_rfl, c212 := by kernel_rfl, c213 := by kernel_rfl, c232 := by kernel_rfl, c233 := by kernel_rfl }
theorem rd_Lays_n173 : Lays.n173 Tryz.prog rdRen := { mixed := by kernel_rfl, f129 := by kernel_rfl, f173 := by kernel_rfl, f246 := by kernel_rfl, f283 := by kernel_rfl, f284 := by kernel_rfl, f285 := by kernel_rfl, f286 := by kernel_rfl, f317 := by kernel_rfl, f318 := by kernel_rfl, f319 := by kernel_rfl, f320 := by kernel_rfl, f337 := by kernel_rfl, f338 := by kernel_rfl, t0 := by kernel_rfl, a0 := fun _ => by kernel_rfl, z0 := fun _ => by kernel_rfl, v0 := fun _ => by kernel_rfl, t2 := by kernel_rfl, a2 := fun _ => by kernel_rfl, z2 := fun _ => by kernel_rfl, v2 := fun _ => by kernel_rfl, t3 := by kernel_rfl, a3 := fun _ => by kernel_rfl, z3 := fun _ => by kernel_rfl, v3 := fun _ => by kernel_rfl, t4 := by kernel_rfl, a4 := fun _ => by kernel_rfl, z4 := fun _ => by kernel_rfl, v4 := fun _ => by kernel_rfl, t5 := by kernel_rfl, a5 := fun _ => by kernel_rfl, z5 := fun _ => by kernel_rfl, v5 := fun _ => by kernel_rfl, t9 := by kernel_rfl, a9 := fun _ => by kernel_rfl, z9 := fun _ => by kernel_rfl, v9 := fun _ => by kernel_rfl, t20 := by kernel_rfl, a20 := fun _ => by kernel_rfl, z20 := fun _ => by kernel_rfl, v20 := fun _ => by kernel_rfl, t37 := by kernel_rfl, a37 := fun _ => by kernel_rfl, z37 := fun _ => by kernel_rfl, v37 := fun _ => by kernel_rfl, t46 := by kernel_rfl, a46 := fun _ => by kernel_rfl, z46 := fun _ => by kernel_rfl, v46 := fun _ => by kernel_rfl, t51 := by kernel_rfl, a51 := fun _ => by kernel_rfl, z51 := fun _ => by kernel_rfl, v51 := fun _ => by kernel_rfl, t53 := by kernel_rfl, a53 := fun _ => by kernel_rfl, z53 := fun _ => by kernel_rfl, v53 := fun _ => by kernel_rfl, t171 := by kernel_rfl, a171 := fun _ => by kernel_rfl, z171 := fun _ => by kernel_rfl, v171 := fun _ => by kernel_rfl, t173 := by kernel_rfl, a173 := fun _ => by kernel_rfl, z173 := fun _ => by kernel_rfl, v173 := fun _ => by kernel_rfl, t212 := by kernel_rfl, a212 := fun _ => by kernel_rfl, z212 := fun _ => by kernel_rfl, v212 := fun _ => by kernel_rfl, t213 := by kernel_rfl, a213 := fun _ => by kernel_rfl, z213 := fun _ => by kernel_rfl, t232 := by kernel_rfl, a232 := fun _ => by kernel_rfl, z232 := fun _ => by kernel_rfl, v232 := fun _ => by kernel_rfl, t233 := by kernel_rfl, a233 := fun _ => by kernel_rfl, z233 := fun _ => by kernel_rfl, v233 := fun _ => by kernel_rfl, g17 := by kernel_rfl, g18 := by kernel_rfl, g19 := by kernel_rfl }
theorem rd_LaysM_n173 : LaysM.n173 Tryz.prog rdRen := { rd_Lays_n173 with i0 := by kernel_rfl, i2 := by kernel_rfl, i3 := by kernel_rfl, i4 := by kernel_rfl, i5 := by kernel_rfl, i9 := by kernel_rfl, i20 := by kernel_rfl, i37 := by kernel_rfl, i46 := by kernel_rfl, i51 := by kernel_rfl, i53 := by kernel_rfl, i171 := by kernel_rfl, i173 := by kernel_rfl, i212 := by kernel_rfl, i232 := by kernel_rfl, i233 := by kernel_rfl, m17 := by kernel_rfl, m18 := by kernel_rfl, m19 := by kernel_rfl }
theorem index_cutP (p : List UInt8) : ∀ l : List UInt8, (Lib.index l p = -1 ∧ cutP p l = none) ∨ ∃ i : Nat, Lib.index l p = (i : Int) ∧ i + p.length ≤ l.length ∧ cutP p l = some (l.take i, l.drop (i + p.length))
  | [] => by
    cases p with
    | nil => exact .inr ⟨0, rfl, by simp, by simp [cutP]⟩
    | cons x r => exact .inl ⟨rfl, by simp [cutP]⟩
  | x :: r => by
    by_cases h : p <+: x :: r
    · have hb : p.isPrefixOf (x :: r) = true := by simpa using h
      refine .inr ⟨0, ?_, ?_, ?_⟩
      · unfold Lib.index; simp [hb]
      · have := h.length_le; omega
      · rw [cutP_hit h]; simp
    · have hb : ¬ p.isPrefixOf (x :: r) = true := fun q => h (by simpa using q)
      rcases index_cutP p r with ⟨h1, h2⟩ | ⟨i, h1, h2, h3⟩
      · refine .inl ⟨?_, ?_⟩
        · unfold Lib.index; rw [if_neg hb, h1, if_pos (by rfl)]
        · rw [cutP_miss h, h2]; rfl
      · refine .inr ⟨i + 1, ?_, by simp; omega, ?_⟩
        · unfold Lib.index
          rw [if_neg hb, h1, if_neg (by simp)]
          omega
        · rw [cutP_miss h, h3]
          simp only [Option.map_some, List.take_succ_cons]
          rw [show i + 1 + p.length = (i + p.length) + 1 by omega, List.drop_succ_cons]
/-- what strings.Cut gives -/
def cutV (p l : List UInt8) : List UInt8 × List UInt8 × Bool := match cutP p l with
  | some (a, b) => (a, b, true)
  | none => (l, [], false)
theorem cut_cutV (p l : List UInt8) : Lib.cut l p = cutV p l := by
  unfold Lib.cut cutV
  rcases index_cutP p l with ⟨h1, h2⟩ | ⟨i, h1, _, h3⟩
  · rw [h1, h2, if_neg (by omega)]
  · rw [h1, h3, if_pos (by omega)]
    simp
/-- what the reading of requests wants of the library's variables -/
structure RdV (w : World) : Prop where
  mx : ∃ m, w.cell? ⟨1, 0, none⟩ = some (.int .i64 m)
  sx : ∃ ev : Value, w.cell? ⟨6, 0, none⟩ = some ev ∧ (ev = .nilIface ∨ ∃ te pe, ev = .iface te pe)
  rg : ∃ ev : Value, w.cell? ⟨7, 0, none⟩ = some ev ∧ (ev = .nilIface ∨ ∃ te pe, ev = .iface te pe)
  tb : Lib.TabIs Tryz.prog w "internal/strconv.uint64pow10" .u64 Lib.pow10Tab
theorem cell_lt {w : World} {b : Nat} {v : Value} (h : w.cell? ⟨b, 0, none⟩ = some v) : b < w.heap.size := by
  rcases Nat.lt_or_ge b w.heap.size with h1 | h1
  · exact h1
  · rw [World.cell?, Array.getElem?_eq_none h1] at h; cases h
theorem tab_below {w w' : World} (h : Lib.TabIs Tryz.prog w "internal/strconv.uint64pow10" .u64 Lib.pow10Tab) (hb : Below w.heap.size w w') : Lib.TabIs Tryz.prog w' "internal/strconv.uint64pow10" .u64 Lib.pow10Tab := by
  unfold Lib.TabIs World.var? at h ⊢
  have hg : Tryz.prog.globalNamed "internal/strconv.uint64pow10" = some 0 := by kernel_rfl
  rw [hg] at h ⊢
  simp only [Option.bind_some] at h ⊢
  have hlt : 0 < w.heap.size := by
    rcases Nat.lt_or_ge 0 w.heap.size with h' | h'
    · exact h'
    · rw [Array.getElem?_eq_none h'] at h; cases h
  rw [hb.block _ hlt]
  exact h
theorem RdV.below {w w' : World} (h : RdV w) (hb : Below w.heap.size w w') : RdV w' := by
  obtain ⟨⟨m, h1⟩, ⟨e1, h2, k2⟩, ⟨e2, h3, k3⟩, h4⟩ := h
  exact ⟨⟨m, (hb.cell (cell_lt h1)).trans h1⟩, ⟨e1, (hb.cell (cell_lt h2)).trans h2, k2⟩, ⟨e2, (hb.cell (cell_lt h3)).trans h3, k3⟩, tab_below h4 hb⟩
theorem RdV.drew {w : World} (h : RdV w) : RdV w.drew := ⟨h.mx, h.sx, h.rg, h.tb⟩
theorem iCutS (s sep : ByteArray) (hs : s.size ≤ 1048576) (w : World) (hv : RdV w) :
    Calls Tryz.prog 97 #[.string s, .string sep] w fun e w' => e = .returned (.tuple #[.string (ofL (cutV sep.data.toList s.data.toList).1), .string (ofL (cutV sep.data.toList s.data.toList).2.1), .bool (cutV sep.data.toList s.data.toList).2.2]) ∧ ∃ n, w' = w.drewN n := by
  obtain ⟨m, hm⟩ := hv.mx
  have := Any.strings_Cut rd_Lays_n145 s sep m w (by omega) hm
  rw [cut_cutV] at this
  exact this
theorem iIndexS (s sep : ByteArray) (hs : s.size ≤ 1048576) (w : World) (hv : RdV w) :
    Calls Tryz.prog 147 #[.string s, .string sep] w fun e w' => e = .returned (.int .i64 (Lib.index s.data.toList sep.data.toList)) ∧ w' = w := by
  obtain ⟨m, hm⟩ := hv.mx
  exact Any.strings_Index rd_Lays_n143 s sep m w (by omega) hm
end Go.Proofs.YtgoplcjjoiiagaaGreatDoor
