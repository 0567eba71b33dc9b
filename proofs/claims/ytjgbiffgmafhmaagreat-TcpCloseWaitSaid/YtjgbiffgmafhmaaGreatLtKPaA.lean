/-
  Parts of a stream, copied and compared.
-/
import Derived.Test.YtjgbiffgmafhmaaGreatLtKDp
import Derived.Test.YtjgbiffgmafhmaaGreatLtKReB
import Derived.Test.YtjgbiffgmafhmaaGreatLtKOw
import Derived.Test.YtjgbiffgmafhmaaGreatLtKGq
import Derived.Laws.ResultCell
namespace Go.Proofs.YtjgbiffgmafhmaaGreat
open Go.RowKit
set_option maxRecDepth 100000 in
set_option maxHeartbeats 4000000 in
theorem copyPart_any (s : Int) (v : Value) (l : List UInt8) (w : World) (hl : l.length ≤ 1000000) (hv : Sl w v l) :
    Calls Tryz.prog 97 #[.agg #[.int .i64 s, v]] w fun e w' => ∃ v', e = .returned (.agg #[.int .i64 s, v']) ∧ Below w.heap.size w w' ∧ w'.ownsRow w.heap.size 5 1 v' l.length (l.map B8) := by
  obtain ⟨ao, cap, rfl, -⟩ := id hv
  have HV := Lib.hid hv; clear hv
  go_enter Tryz.func97, Tryz.ntmps97
  go_wp2_with fail
  go_at_call 29
  refine calls_gen (fun W => Below w.heap.size w W ∧ W.cell? ⟨w.heap.size + 2, 0, none⟩ = some (.int .i64 s) ∧ (∃ u, W.cell? ⟨w.heap.size + 2, 1, none⟩ = some u) ∧ (∀ k, W.frozen? ⟨w.heap.size + 2, k, none⟩ = false) ∧ w.heap.size + 2 < W.heap.size ∧ (∃ u, W.cell? ⟨w.heap.size + 1, 0, none⟩ = some u) ∧ (∃ u, W.cell? ⟨w.heap.size + 1, 1, none⟩ = some u) ∧ (∀ k, W.frozen? ⟨w.heap.size + 1, k, none⟩ = false)) ⟨(((Below.refl _ w).alloc (Nat.le_refl _) _).alloc (by simp) _).alloc (by simp; omega) _, by simp [go_sem], by simp [go_sem], by intro k; simp [go_sem], by simp, by simp [go_sem], by simp [go_sem], by intro k; simp [go_sem]⟩ ?_
  rintro W ⟨hbW, c0, c1, hfr, hsW, b0, b1, hfb⟩
  refine (copyBytes_any _ l W hl (HV.out.below hbW)).mono ?_
  rintro e w1 ⟨v1, rfl, hb1, ho1⟩
  obtain ⟨u1, c1⟩ := c1
  obtain ⟨x0, b0⟩ := b0
  obtain ⟨x1, b1⟩ := b1
  obtain ⟨ao1, cap1, rfl⟩ := own_slice ho1
  have hsW1 : w.heap.size + 1 < W.heap.size := by omega
  have d0 := (hb1.cell (p := ⟨w.heap.size + 2, 0, none⟩) hsW).trans c0
  have a0 := (hb1.cell (p := ⟨w.heap.size + 1, 0, none⟩) hsW1).trans b0
  have g0 := (hb1.frozen (p := ⟨w.heap.size + 1, 0, none⟩) hsW1).trans (hfb 0)
  have d1 := (hb1.cell (p := ⟨w.heap.size + 2, 1, none⟩) hsW).trans c1
  have a1 := (hb1.cell (p := ⟨w.heap.size + 1, 1, none⟩) hsW1).trans b1
  have g1 := (hb1.frozen (p := ⟨w.heap.size + 1, 1, none⟩) hsW1).trans (hfb 1)
  have f1 := (hb1.frozen (p := ⟨w.heap.size + 2, 1, none⟩) hsW).trans (hfr 1)
  clear c0 b0 c1 b1 hfr hfb
  have hb4 : Below w.heap.size w w1 := hbW.trans (hb1.mono (by omega))
  have HB := Lib.hid hb4; have HO := Lib.hid ho1; have HB1 := Lib.hid hb1; have HBW := Lib.hid hbW
  clear hb4 ho1 hb1 hbW
  go_wp2
  have hp : w.heap.size + 1 + 1 < W.heap.size := hsW
  have ho := ownsRow_setCell_below (ownsRow_setCell_below (ownsRow_setCell_below HO.out (a := ⟨w.heap.size + 1 + 1, 1, none⟩) hp (.slice ao1 l.length cap1)) (a := ⟨w.heap.size + 1, 0, none⟩) hsW1 (.int .i64 s)) (a := ⟨w.heap.size + 1, 1, none⟩) hsW1 (.slice ao1 l.length cap1)
  refine bodyPost_ret (v := .agg #[.int .i64 s, .slice ao1 l.length cap1]) ?_ rfl ⟨_, rfl, ?_, own_mono ho (by omega)⟩
  · simp [results, Tryz.results97, go_sem, a0, a1]
  · exact ((HB.out.setCell (by simp; omega) _).setCell (by simp) _).setCell (by simp) _
set_option maxRecDepth 100000 in
set_option maxHeartbeats 4000000 in
theorem eqPart_same (s : Int) (v1 v2 : Value) (l : List UInt8) (w : World) (hl : l.length ≤ 1000000) (h1 : Sl w v1 l) (h2 : Sl w v2 l) :
    Calls Tryz.prog 123 #[.agg #[.int .i64 s, v1], .agg #[.int .i64 s, v2]] w fun e w' => e = .returned (.bool true) ∧ Below w.heap.size w w' := by
  obtain ⟨ao1, cap1, rfl, -⟩ := id h1
  obtain ⟨ao2, cap2, rfl, -⟩ := id h2
  have H1 := Lib.hid h1; have H2 := Lib.hid h2; clear h1 h2
  go_enter Tryz.func123, Tryz.ntmps123
  go_wp2_with fail
  go_at_call 59
  refine (eqBytes_same _ _ l _ hl ((H1.out.alloc _).alloc _) ((H2.out.alloc _).alloc _)).mono ?_
  rintro e w' ⟨rfl, m, rfl⟩
  go_wp2
  go_ret
  exact ⟨by simp, bdrew (((Below.refl _ w).alloc (Nat.le_refl _) _).alloc (by simp) _) m⟩
def KPart : DK EP := ⟨2, fun x v => [.int .i64 x.s, v], fun x => x.d, by decide, fun _ _ => rfl, fun x v h u hu => by
  simp only [List.mem_cons, List.not_mem_nil, or_false] at hu
  rcases hu with rfl | rfl <;> first | rfl | exact h⟩
theorem infoPart : (Tryz.prog.info? 83).map (fun i => (i.zero, i.size, i.bytes)) = some (some (.agg #[.int .i64 0, .slice none 0 0]), 2, 32) := by kernel_rfl
theorem newsPart_alloc (W : World) (x : EP) (v : Value) : ∀ j u, (KPart.row x v)[j]? = some u → (W.alloc (.cells #[.int .i64 x.s, v] 83)).cell? ((⟨W.heap.size, 0, none⟩ : Addr).add j) = some u := by
  intro j u hj
  have e : ((⟨W.heap.size, 0, none⟩ : Addr).add j) = ⟨W.heap.size, j, none⟩ := by unfold Addr.add; split <;> simp_all
  rw [e]
  show (W.alloc (.cells ((KPart.row x v).toArray) 83)).cell? ⟨W.heap.size, j, none⟩ = some u
  have := (rowAt_alloc W (KPart.row x v) 83).cell hj
  exact this
set_option maxRecDepth 100000 in
set_option maxHeartbeats 4000000 in
theorem copyParts_any (v : Value) (L : List EP) (w : World) (hl : L.length ≤ 1000000) (hd : ∀ x ∈ L, x.d.length ≤ 1000000) (hv : KPart.Sl w v L) :
    Calls Tryz.prog 62 #[v] w fun e w' => ∃ v' PL, e = .returned v' ∧ PL.map Prod.fst = L ∧ DOwn KPart 83 w' w.heap.size v' PL ∧ Below w.heap.size w w' := by
  obtain ⟨ao, cap, rfl, -, -, -, hB⟩ := hv
  have HB := Lib.hid hB; have HD := Lib.hid hd; clear hB hd
  obtain ⟨i0, hi, hz0, hz1, hz2⟩ := info_parts infoPart
  go_enter Tryz.func62, Tryz.ntmps62
  go_wp2
  go_loopw [3, 4] (fun m i wr => ∃ (k : Nat) (PL : List (EP × Value)), k ≤ L.length ∧ i = .int .i64 k ∧ Below w.heap.size w wr ∧ PL.map Prod.fst = L.take k ∧ DOwn KPart 83 wr w.heap.size m PL) (fun _ i _ => L.length - (intOf i).toNat)
  case atStart => exact ⟨0, [], by omega, rfl, Below.refl _ _, rfl, DOwn.nil _ _ _ _⟩
  case round =>
    obtain ⟨k, PL, hk, rfl, hbl, hPL, hown⟩ := hrel
    have HP := Lib.hid hPL
    have HO := Lib.hid hown
    have HNP := Lib.hid (show PL.length = k by have := congrArg List.length hPL; rw [List.length_map, List.length_take] at this; omega)
    obtain ⟨am, cm, rfl⟩ := hown.slice
    clear hPL hown
    by_cases hlt : k < L.length
    · obtain ⟨b, off, rfl, hbw, hBB⟩ := HB.out (by intro h; simp [h] at hlt)
      obtain ⟨x, hx⟩ : ∃ x, L[k]? = some x := ⟨_, List.getElem?_eq_getElem hlt⟩
      have HT := Lib.hid (show L.take (k + 1) = L.take k ++ [x] by rw [List.take_add_one, hx]; rfl)
      obtain ⟨vd, hsd, hcd⟩ := hBB k x hx
      have d0 := (hbl.cell (p := ⟨b, off + k * 2, none⟩) hbw).trans (hcd 0 _ rfl)
      have d1 := (hbl.cell (p := ⟨b, off + k * 2 + 1, none⟩) hbw).trans (hcd 1 _ rfl)
      have hxd := HD.out x (List.mem_of_getElem? hx)
      have C1 := Lib.hid (copyPart_any x.s vd x.d wr hxd (hsd.below hbl))
      obtain ⟨av, cv, rfl, -⟩ := id hsd
      have HW := Lib.hid hbl
      clear hx hBB hsd hcd hbl
      go_wp2_with fail
      (with_reducible refine C1.out.mono ?_)
      rintro e w4 ⟨v4, rfl, hb4, ho4⟩
      have HW4 := Lib.hid (HW.out.trans (hb4.mono HW.out.size))
      obtain ⟨xs, hxs⟩ : ∃ xs, (PL.map (fun q => KPart.row q.1 q.2)).flatten = xs := ⟨_, rfl⟩
      have HXS := Lib.hid hxs
      have hoa := World.ownsRow.alloc (below_own HO.out.row hb4) (Obj.cells #[.int .i64 x.s, v4] 83)
      rw [hxs, HNP.out] at hoa
      have HOA := Lib.hid hoa
      have HNA := Lib.hid (newsPart_alloc w4 x v4)
      have HBA := Lib.hid (HW4.out.alloc HW4.out.size (Obj.cells #[.int .i64 x.s, v4] 83))
      have HB4 := Lib.hid (hb4.alloc hb4.size (Obj.cells #[.int .i64 x.s, v4] 83))
      have HD4 := Lib.hid (World.ownsRow.alloc ho4 (Obj.cells #[.int .i64 x.s, v4] 83))
      obtain ⟨av4, cv4, rfl⟩ := own_slice ho4
      have HR1 := Lib.hid (KPart.one x (.slice av4 x.d.length cv4) rfl)
      clear hxs hoa hb4 ho4 d0 d1
      rw [HNP.out]
      go_wp2_with (first | (at_builtin; refine wpList_append_at _ rfl _ _ 23 rfl w.heap.size 83 i0 (.agg #[.int .i64 0, .slice none 0 0]) 2 32 Tryz.underlying23 hi hz0 hz1 hz2 rfl (by decide) _ _ _ rfl HOA.out ⟨w4.heap.size, 0, none⟩ 1 1 (KPart.row x (.slice av4 x.d.length cv4)) rfl rfl HNA.out HR1.out (by unfold maxLen; omega) (by omega) HBA.out.size ?_))
      intro v' w1 hown' hgrow hat
      have HN := Lib.hid (HO.out.snoc HW.out.size HB4.out HD4.out (show w1.ownsRow w.heap.size 83 KPart.n v' (PL.length + 1) ((PL.map (fun q => KPart.row q.1 q.2)).flatten ++ KPart.row x (.slice av4 x.d.length cv4)) by rw [HXS.out, HNP.out]; exact hown') ((Grew.refl _ _).app0 (by rw [HNP.out]; exact hgrow) (by rw [HNP.out]; simpa using hat)))
      have HB11 := Lib.hid (HBA.out.grown hgrow HBA.out.size (by intro k hk; exact (HOA.out.lt k hk).1))
      clear hown' hgrow hat
      go_wp2
      go_roundw
      case rel => exact ⟨k + 1, PL ++ [(x, .slice av4 x.d.length cv4)], by omega, by go_num, HB11.out, by rw [HT.out, List.map_append, HP.out]; rfl, HN.out⟩
      case measure => simp [intOf]; omega
    · have HPE := Lib.hid (show PL.map Prod.fst = L by rw [HP.out, List.take_of_length_le (by omega)])
      have HW := Lib.hid hbl
      clear hbl
      go_wp2
      go_ret
      exact ⟨_, PL, rfl, HPE.out, HO.out, HW.out⟩
set_option maxRecDepth 100000 in
set_option maxHeartbeats 4000000 in
theorem eqParts_same (v1 v2 : Value) (L : List EP) (w : World) (hl : L.length ≤ 1000000) (hd : ∀ x ∈ L, x.d.length ≤ 1000000) (h1 : KPart.Sl w v1 L) (h2 : KPart.Sl w v2 L) :
    Calls Tryz.prog 115 #[v1, v2] w fun e w' => e = .returned (.bool true) ∧ Below w.heap.size w w' := by
  obtain ⟨ao1, cap1, rfl, -, -, -, hB1⟩ := h1
  obtain ⟨ao2, cap2, rfl, -, -, -, hB2⟩ := h2
  have HB1 := Lib.hid hB1; have HB2 := Lib.hid hB2; have HD := Lib.hid hd; clear hB1 hB2 hd
  go_enter Tryz.func115, Tryz.ntmps115
  go_wp2
  go_loopw [5] (fun i wr => ∃ (k : Nat), k ≤ L.length ∧ i = .int .i64 k ∧ Below w.heap.size w wr) (fun i _ => L.length - (intOf i).toNat)
  case atStart => exact ⟨0, by omega, rfl, Below.refl _ _⟩
  case round =>
    obtain ⟨k, hk, rfl, hbl⟩ := hrel
    by_cases hlt : k < L.length
    · obtain ⟨b1, off1, rfl, hbw1, hBB1⟩ := HB1.out (by intro h; simp [h] at hlt)
      obtain ⟨b2, off2, rfl, hbw2, hBB2⟩ := HB2.out (by intro h; simp [h] at hlt)
      obtain ⟨x, hx⟩ : ∃ x, L[k]? = some x := ⟨_, List.getElem?_eq_getElem hlt⟩
      obtain ⟨vd1, hsd1, hcd1⟩ := hBB1 k x hx
      obtain ⟨vd2, hsd2, hcd2⟩ := hBB2 k x hx
      have e0 := (hbl.cell (p := ⟨b1, off1 + k * 2, none⟩) hbw1).trans (hcd1 0 _ rfl)
      have e1 := (hbl.cell (p := ⟨b1, off1 + k * 2 + 1, none⟩) hbw1).trans (hcd1 1 _ rfl)
      have f0 := (hbl.cell (p := ⟨b2, off2 + k * 2, none⟩) hbw2).trans (hcd2 0 _ rfl)
      have f1 := (hbl.cell (p := ⟨b2, off2 + k * 2 + 1, none⟩) hbw2).trans (hcd2 1 _ rfl)
      have hxd := HD.out x (List.mem_of_getElem? hx)
      have CQ := Lib.hid (grown_call (v := .bool true) (fun g : Grown wr => eqPart_same x.s vd1 vd2 x.d g.w hxd ((hsd1.below hbl).below g.low) ((hsd2.below hbl).below g.low)))
      have hw1 : b1 < wr.heap.size := Nat.lt_of_lt_of_le hbw1 hbl.size
      have hw2 : b2 < wr.heap.size := Nat.lt_of_lt_of_le hbw2 hbl.size
      have ge0 := Grown.cell e0 hw1
      have gf0 := Grown.cell f0 hw2
      have ge1 := Grown.cell e1 hw1
      have gf1 := Grown.cell f1 hw2
      obtain ⟨av1, cv1, rfl, -⟩ := id hsd1
      obtain ⟨av2, cv2, rfl, -⟩ := id hsd2
      have HW := Lib.hid hbl
      clear hx hBB1 hBB2 hsd1 hsd2 hcd1 hcd2 hbl e0 e1 f0 f1
      go_wp2_with fail
      refine wp_region_grown (by kernel_rfl) (by kernel_rfl) ?_
      repeat (go_big_quiet_step (exact CQ.out _))
      refine wpQuiet_nil ?_
      rintro _ ⟨g4, rfl⟩
      have HW4 := Lib.hid (HW.out.trans (g4.low.mono HW.out.size))
      go_wp2
      go_roundw
      case rel => exact ⟨k + 1, by omega, by go_num, HW4.out⟩
      case measure => simp [intOf]; omega
    · have HW := Lib.hid hbl
      clear hbl
      go_wp2
      go_ret
      exact ⟨rfl, HW.out⟩

end Go.Proofs.YtjgbiffgmafhmaaGreat
