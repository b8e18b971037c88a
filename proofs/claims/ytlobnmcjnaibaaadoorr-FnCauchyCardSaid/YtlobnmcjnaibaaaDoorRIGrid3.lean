import Derived.Test.YtlobnmcjnaibaaaDoorRIGrid
import Derived.Test.YtlobnmcjnaibaaaDoorRIFault
import Derived.Test.YtlobnmcjnaibaaaDoorRSCau
import Derived.Test.YtlobnmcjnaibaaaDoorRLawMx
namespace Go.Proofs.YtlobnmcjnaibaaaDoorR
open Go.RowKit
theorem take_setN {xs ys : List Nat} {k : Nat} (hx : k < xs.length) (hy : k < ys.length) (h : ys.take k = xs.take k) : (ys.set k (xs.getD k 0)).take (k + 1) = xs.take (k + 1) := take_set_nl hx hy h rfl
theorem u8_of {x : Nat} (h : x < 256) : IntKind.u8.wrap (x : Int) = (x : Int) := by rw [IntKind.wrap_u8']; omega
set_option maxRecDepth 20000 in
set_option maxHeartbeats 1000000 in
theorem igridOf (R C : Nat) (q : Nat) (hq : Hid ((R : Int) * (C : Int) = (q : Int))) (hl : q ≤ 1048576) (xs : List Nat) (hs : Small xs) (a : Option Addr) (cap : Nat) (w : World) (h : Ints .i64 w a q cap (nl xs)) :
    Calls Tryd.prog 23 #[mxv R C a q cap] w fun e w' => ∃ g, e = .returned (grv R C g q) ∧ w.heap.size ≤ g ∧ Gr w' g xs ∧ Below w.heap.size w w' := by
  have hxl : xs.length = q := by have := h.1; rwa [nl_len] at this
  have HH := hid h
  have HS := hid hs
  clear h hs
  go_enter Tryd.func23, Tryd.ntmps23
  go_wp2_with fail
  refine (inewB R C q _ hq hl).mono ?_
  rintro e w1 ⟨g, rfl, hg, hG, hb⟩
  simp only [size_al] at hg hb
  have b1 : Hid (RowAt w1 w.heap.size 25 #[.int .i64 R, .int .i64 C, .slice a q cap]) := ((RowAt.new w _ _).alloc _).below hb (by omega)
  have b2 : Hid (RowAt w1 (w.heap.size + 1) 46 #[.int .i64 0, .int .i64 0, .slice none 0 0]) := (RowAt.next (w.alloc _) _ _ (by rw [size_al])).below hb (by omega)
  have L1 : Hid (Below w.heap.size w w1) := (((Below.refl _ _).alloc (Nat.le_refl _) _).alloc (by rw [size_al]; omega) _).trans (hb.mono (by omega))
  have HG := hid hG
  have hgl : g < w1.heap.size := hG.lt
  have hs1 : w.heap.size + 1 < w1.heap.size := b2.out.lt
  clear hb hG
  have c0 := (b1.out.alloc (.cells #[.int .i64 R, .int .i64 C, .slice (some ⟨g, 0, none⟩) q q] 46)).cell 2
  go_wp2
  go_loopw [14] (fun y wr => ∃ (k : Nat) (ys : List Nat), k ≤ q ∧ ys.length = q ∧ ys.take k = xs.take k ∧ y = .int .i64 k ∧ Gr wr g ys ∧ RowAt wr (w.heap.size + 1) 46 #[.int .i64 0, .int .i64 0, .slice none 0 0] ∧ RowAt wr w1.heap.size 46 #[.int .i64 R, .int .i64 C, .slice (some ⟨g, 0, none⟩) q q] ∧ Below w.heap.size w wr) (fun y _ => q - (intOf y).toNat)
  case atStart => exact ⟨0, List.replicate q 0, Nat.zero_le _, List.length_replicate, rfl, rfl, HG.out.alloc _, b2.out.alloc _, RowAt.new w1 _ _, L1.out.alloc L1.out.size _⟩
  case round =>
    obtain ⟨k, ys, hk, hyl, hyt, rfl, hGr, r2, r3, hbel⟩ := hrel
    have HT := hid hyt
    have R2 := hid r2
    have HB := hid hbel
    have HGr := hid hGr
    clear hyt c0 hGr hbel r2
    by_cases hlt : k < q
    · rcases HH.out.2.2 with h00 | ⟨b, off, rfl, hbl, hc⟩
      · omega
      · have c1 : wr.cell? ⟨b, off + k, none⟩ = some (.int .i64 ((nl xs).getD k 0)) := (HB.out.cell (p := ⟨b, off + k, none⟩) hbl).trans (hc k hlt)
        rw [nl_at] at c1
        have c2 := HGr.out.cell (i := k) (by omega)
        have f2 := HGr.out.free k
        have c3 := r3.cell 2
        have hlt' : (k : Int) < (q : Int) := by omega
        have hsm : xs.getD k 0 < 256 := HS.out k
        have HS' := hid (take_setN (xs := xs) (ys := ys) (k := k) (by omega) (by omega) HT.out)
        have HW := hid (HGr.out.set k (xs.getD k 0))
        have HR2 : Hid (RowAt (wr.setCell ⟨g, k, none⟩ (.int .u8 ((xs.getD k 0 : Nat) : Int))) (w.heap.size + 1) 46 #[.int .i64 0, .int .i64 0, .slice none 0 0]) := R2.out.other _ _ (by dsimp only; omega)
        have HR3 : Hid (RowAt (wr.setCell ⟨g, k, none⟩ (.int .u8 ((xs.getD k 0 : Nat) : Int))) w1.heap.size 46 #[.int .i64 R, .int .i64 C, .slice (some ⟨g, 0, none⟩) q q]) := r3.other _ _ (by dsimp only; omega)
        have HB' : Hid (Below w.heap.size w (wr.setCell ⟨g, k, none⟩ (.int .u8 ((xs.getD k 0 : Nat) : Int)))) := HB.out.setCell (by show w.heap.size ≤ g; omega) _
        obtain ⟨x, hx⟩ : ∃ x, x = xs.getD k 0 := ⟨_, rfl⟩
        rw [← hx] at c1 HW HS' hsm HR2 HR3 HB'
        have hw := u8_of hsm
        clear hx hc
        go_wp2
        go_roundw
        case rel => exact ⟨k + 1, ys.set k x, by omega, by rw [List.length_set]; exact hyl, HS'.out, by go_num, HW.out, HR2.out, HR3.out, HB'.out⟩
        case measure => simp [intOf]; omega
    · have hke : k = q := by omega
      subst hke
      have HE : Hid (ys = xs) := by
        have := HT.out
        rw [List.take_of_length_le (by omega), List.take_of_length_le (by omega)] at this; exact this
      go_wp2_with (first
        | refine wpList_load_row rfl 46 (.tmp 3) rfl w1.heap.size rfl _ _ _ _ r3 Tryd.underlying46 rfl (by kernel_rfl) ?_
        | refine wpList_store_row rfl 46 (.tmp 2) (.tmp 26) rfl (w.heap.size + 1) #[.int .i64 R, .int .i64 C, .slice (some ⟨g, 0, none⟩) k k] rfl rfl _ _ R2.out (by kernel_rfl) rfl (one3 _ _ _ _ _) ?_)
      refine bodyPost_ret (v := grv R C g k) ?_ rfl ⟨g, rfl, by omega, ?_, ?_⟩
      · exact results_cell_row Tryd.results23 _ _ (w.heap.size + 1) _ _ _ _ rfl (R2.out.setRow _) Tryd.underlying46 rfl (by kernel_rfl)
      · rw [← HE.out]; exact HGr.out.otherRow _ _ (by omega)
      · exact below_setRow HB.out _ _ (by omega)
set_option maxRecDepth 20000 in
set_option maxHeartbeats 1000000 in
theorem imatrix (R C g : Nat) (q : Nat) (hl : q ≤ 1048576) (xs : List Nat) (hs : Small xs) (w : World) (h : Gr w g xs) (hxl : xs.length = q) :
    Calls Tryd.prog 25 #[grv R C g q] w fun e w' => ∃ b, e = .returned (mxv R C (some ⟨b, 0, none⟩) q q) ∧ w.heap.size ≤ b ∧ Wr .i64 w' b 0 (nl xs) ∧ Below w.heap.size w w' := by
  have hmk := fun w => mk64 w q (by omega)
  have HH := hid h
  have HS := hid hs
  have hgl := h.lt
  clear h hs
  go_enter Tryd.func25, Tryd.ntmps25
  go_wp2
  go_loopw [13] (fun y wr => ∃ (k : Nat) (ys : List Nat), k ≤ q ∧ ys.length = q ∧ ys.take k = xs.take k ∧ y = .int .i64 k ∧ Wr .i64 wr (w.heap.size + 1 + 1) 0 (nl ys) ∧ RowAt wr w.heap.size 46 #[.int .i64 R, .int .i64 C, .slice (some ⟨g, 0, none⟩) q q] ∧ RowAt wr (w.heap.size + 1) 25 #[.int .i64 0, .int .i64 0, .slice none 0 0] ∧ Below w.heap.size w wr) (fun y _ => q - (intOf y).toNat)
  case atStart =>
    refine ⟨0, List.replicate q 0, Nat.zero_le _, List.length_replicate, rfl, rfl, ?_, ((RowAt.new w _ _).alloc _).alloc _, (RowAt.next (w.alloc _) _ _ (by rw [size_al])).alloc _, (((Below.refl _ _).alloc (Nat.le_refl _) _).alloc (by rw [size_al]; omega) _).alloc (by rw [size_al, size_al]; omega) _⟩
    rw [nl_zeros]; exact Wr.of (RowAt.next ((w.alloc _).alloc _) _ _ (by rw [size_al, size_al]))
  case round =>
    obtain ⟨k, ys, hk, hyl, hyt, rfl, hW, r1, r2, hbel⟩ := hrel
    have HT := hid hyt
    have R1 := hid r1
    have R2 := hid r2
    have HB := hid hbel
    have HW := hid hW
    clear hyt hW hbel r1 r2 hmk
    by_cases hlt : k < q
    · have c1 : wr.cell? ⟨g, k, none⟩ = some (.int .u8 ((xs.getD k 0 : Nat) : Int)) := (HH.out.below HB.out hgl).cell (by omega)
      have c2 := HW.out.cell (i := k) (by rw [nl_len]; omega)
      rw [Nat.zero_add] at c2
      have f2 := HW.out.free k
      have hlt' : (k : Int) < (q : Int) := by omega
      have hsm : xs.getD k 0 < 256 := HS.out k
      have HS' := hid (take_setN (xs := xs) (ys := ys) (k := k) (by omega) (by omega) HT.out)
      have HW' : Hid (Wr .i64 (wr.setCell ⟨w.heap.size + 1 + 1, k, none⟩ (.int .i64 ((xs.getD k 0 : Nat) : Int))) (w.heap.size + 1 + 1) 0 (nl (ys.set k (xs.getD k 0)))) := by
        have := HW.out.set k ((xs.getD k 0 : Nat) : Int) (by rw [nl_len]; omega)
        rw [Nat.zero_add, nl_set] at this; exact this
      have HR1 : Hid (RowAt (wr.setCell ⟨w.heap.size + 1 + 1, k, none⟩ (.int .i64 ((xs.getD k 0 : Nat) : Int))) w.heap.size 46 #[.int .i64 R, .int .i64 C, .slice (some ⟨g, 0, none⟩) q q]) := R1.out.other _ _ (by dsimp only; omega)
      have HR2 : Hid (RowAt (wr.setCell ⟨w.heap.size + 1 + 1, k, none⟩ (.int .i64 ((xs.getD k 0 : Nat) : Int))) (w.heap.size + 1) 25 #[.int .i64 0, .int .i64 0, .slice none 0 0]) := R2.out.other _ _ (by dsimp only; omega)
      have HB' : Hid (Below w.heap.size w (wr.setCell ⟨w.heap.size + 1 + 1, k, none⟩ (.int .i64 ((xs.getD k 0 : Nat) : Int)))) := HB.out.setCell (by show w.heap.size ≤ w.heap.size + 1 + 1; omega) _
      obtain ⟨x, hx⟩ : ∃ x, x = xs.getD k 0 := ⟨_, rfl⟩
      rw [← hx] at c1 HW' HS' hsm HR1 HR2 HB'
      have hw := wrap_small (x : Int) (by omega) (by omega)
      clear hx
      go_wp2
      go_roundw
      case rel => exact ⟨k + 1, ys.set k x, by omega, by rw [List.length_set]; exact hyl, HS'.out, by go_num, HW'.out, HR1.out, HR2.out, HB'.out⟩
      case measure => simp [intOf]; omega
    · have hke : k = q := by omega
      subst hke
      have HE : Hid (ys = xs) := by
        have := HT.out
        rw [List.take_of_length_le (by omega), List.take_of_length_le (by omega)] at this; exact this
      have c0 := R1.out.cell 0
      have c1 := R1.out.cell 1
      go_wp2_with (refine wpList_store_row rfl 25 (.tmp 2) (.tmp 29) rfl (w.heap.size + 1) #[.int .i64 R, .int .i64 C, .slice (some ⟨w.heap.size + 1 + 1, 0, none⟩) k k] rfl rfl _ _ R2.out (by kernel_rfl) rfl (one3 _ _ _ _ _) ?_)
      refine bodyPost_ret (v := mxv R C (some ⟨w.heap.size + 1 + 1, 0, none⟩) k k) ?_ rfl ⟨w.heap.size + 1 + 1, rfl, by omega, ?_, ?_⟩
      · exact results_cell_row Tryd.results25 _ _ (w.heap.size + 1) _ _ _ _ rfl (R2.out.setRow _) Tryd.underlying25 rfl (by kernel_rfl)
      · rw [← HE.out]; exact wr_setRow HW.out _ (by omega)
      · exact below_setRow HB.out _ _ (by omega)
end Go.Proofs.YtlobnmcjnaibaaaDoorR
