/-
  Parts of a stream, copied and compared.
-/
import Derived.Test.YtjgbiffgmafhmaaLtODp
import Derived.Test.YtjgbiffgmafhmaaLtOReB
import Derived.Test.YtjgbiffgmafhmaaLtOOw
import Derived.Test.YtjgbiffgmafhmaaLtOGq
import Derived.Laws.ResultCell
namespace Go.Proofs.Ytjgbiffgmafhmaa
open Go.RowKit
set_option maxRecDepth 100000 in
set_option maxHeartbeats 4000000 in
theorem copyPart_any (s : Int) (v : Value) (l : List UInt8) (w : World) (hl : l.length ≤ 1000000) (hv : Sl w v l) :
    Calls Try.prog 72 #[.agg #[.int .i64 s, v]] w fun e w' => ∃ v', e = .returned (.agg #[.int .i64 s, v']) ∧ Below w.heap.size w w' ∧ w'.ownsRow w.heap.size 5 1 v' l.length (l.map B8) := by
  obtain ⟨ao, cap, rfl, -⟩ := id hv
  have HV := Lib.hid hv; clear hv
  go_enter Try.func72, Try.ntmps72
  go_wp2_with fail
  go_at_call 19
  refine calls_gen (fun W => Below w.heap.size w W ∧ W.cell? ⟨w.heap.size + 2, 0, none⟩ = some (.int .i64 s) ∧ (∃ u, W.cell? ⟨w.heap.size + 2, 1, none⟩ = some u) ∧ (∀ k, W.frozen? ⟨w.heap.size + 2, k, none⟩ = false) ∧ w.heap.size + 2 < W.heap.size ∧ (∃ u, W.cell? ⟨w.heap.size + 1, 0, none⟩ = some u) ∧ (∃ u, W.cell? ⟨w.heap.size + 1, 1, none⟩ = some u) ∧ (∀ k, W.frozen? ⟨w.heap.size + 1, k, none⟩ = false)) ⟨(((Below.refl _ w).alloc (Nat.le_refl _) _).alloc (by simp) _).alloc (by simp; omega) _, by simp [go_sem], by simp [go_sem], by intro k; simp [go_sem], by simp, by simp [go_sem], by simp [go_sem], by intro k; simp [go_sem]⟩ ?_
  rintro W ⟨hbW, c0, c1, hfr, hsW, b0, b1, hfb⟩
  refine (copyBytes_any _ l W hl (HV.out.below hbW)).mono ?_
  rintro e w1 ⟨v1, rfl, hb1, ho1⟩
  obtain ⟨u1, c1⟩ := c1
  obtain ⟨x0, b0⟩ := b0
  obtain ⟨x1, b1⟩ := b1
  obtain ⟨ao1, cap1, rfl⟩ := own_slice ho1
  have hsW1 : w.heap.size + 1 < W.heap.size := by omega
  have d0 := (hb1.cell (p := ⟨w.heap.size + 2, 0, none⟩) hsW).trans c0
  have a0 := (hb1.cell (p := ⟨w.heap.size + 1, 0, none⟩) hsW1).trans b0
  have g0 := (hb1.frozen (p := ⟨w.heap.size + 1, 0, none⟩) hsW1).trans (hfb 0)
  have d1 := (hb1.cell (p := ⟨w.heap.size + 2, 1, none⟩) hsW).trans c1
  have a1 := (hb1.cell (p := ⟨w.heap.size + 1, 1, none⟩) hsW1).trans b1
  have g1 := (hb1.frozen (p := ⟨w.heap.size + 1, 1, none⟩) hsW1).trans (hfb 1)
  have f1 := (hb1.frozen (p := ⟨w.heap.size + 2, 1, none⟩) hsW).trans (hfr 1)
  clear c0 b0 c1 b1 hfr hfb
  have hb4 : Below w.heap.size w w1 := hbW.trans (hb1.mono (by omega))
  have HB := Lib.hid hb4; have HO := Lib.hid ho1; have HB1 := Lib.hid hb1; have HBW := Lib.hid hbW
  clear hb4 ho1 hb1 hbW
  go_wp2
  have hp : w.heap.size + 1 + 1 < W.heap.size := hsW
  have ho := ownsRow_setCell_below (ownsRow_setCell_below (ownsRow_setCell_below HO.out (a := ⟨w.heap.size + 1 + 1, 1, none⟩) hp (.slice ao1 l.length cap1)) (a := ⟨w.heap.size + 1, 0, none⟩) hsW1 (.int .i64 s)) (a := ⟨w.heap.size + 1, 1, none⟩) hsW1 (.slice ao1 l.length cap1)
  refine bodyPost_ret (v := .agg #[.int .i64 s, .slice ao1 l.length cap1]) ?_ rfl ⟨_, rfl, ?_, own_mono ho (by omega)⟩
  · simp [results, Try.results72, go_sem, a0, a1]
  · exact ((HB.out.setCell (by simp; omega) _).setCell (by simp) _).setCell (by simp) _
def KPart : DK EP := ⟨2, fun x v => [.int .i64 x.s, v], fun x => x.d, by decide, fun _ _ => rfl, fun x v h u hu => by
  simp only [List.mem_cons, List.not_mem_nil, or_false] at hu
  rcases hu with rfl | rfl <;> first | rfl | exact h⟩
theorem infoPart : (Try.prog.info? 58).map (fun i => (i.zero, i.size, i.bytes)) = some (some (.agg #[.int .i64 0, .slice none 0 0]), 2, 32) := by kernel_rfl
theorem newsPart_alloc (W : World) (x : EP) (v : Value) : ∀ j u, (KPart.row x v)[j]? = some u → (W.alloc (.cells #[.int .i64 x.s, v] 58)).cell? ((⟨W.heap.size, 0, none⟩ : Addr).add j) = some u := by
  intro j u hj
  have e : ((⟨W.heap.size, 0, none⟩ : Addr).add j) = ⟨W.heap.size, j, none⟩ := by unfold Addr.add; split <;> simp_all
  rw [e]
  show (W.alloc (.cells ((KPart.row x v).toArray) 58)).cell? ⟨W.heap.size, j, none⟩ = some u
  have := (rowAt_alloc W (KPart.row x v) 58).cell hj
  exact this
set_option maxRecDepth 100000 in
set_option maxHeartbeats 4000000 in
theorem copyParts_any (v : Value) (L : List EP) (w : World) (hl : L.length ≤ 1000000) (hd : ∀ x ∈ L, x.d.length ≤ 1000000) (hv : KPart.Sl w v L) :
    Calls Try.prog 45 #[v] w fun e w' => ∃ v' PL, e = .returned v' ∧ PL.map Prod.fst = L ∧ DOwn KPart 58 w' w.heap.size v' PL ∧ Below w.heap.size w w' := by
  obtain ⟨ao, cap, rfl, -, -, -, hB⟩ := hv
  have HB := Lib.hid hB; have HD := Lib.hid hd; clear hB hd
  obtain ⟨i0, hi, hz0, hz1, hz2⟩ := info_parts infoPart
  go_enter Try.func45, Try.ntmps45
  go_wp2
  go_loopw [3, 4] (fun m i wr => ∃ (k : Nat) (PL : List (EP × Value)), k ≤ L.length ∧ i = .int .i64 k ∧ Below w.heap.size w wr ∧ PL.map Prod.fst = L.take k ∧ DOwn KPart 58 wr w.heap.size m PL) (fun _ i _ => L.length - (intOf i).toNat)
  case atStart => exact ⟨0, [], by omega, rfl, Below.refl _ _, rfl, DOwn.nil _ _ _ _⟩
  case round =>
    obtain ⟨k, PL, hk, rfl, hbl, hPL, hown⟩ := hrel
    have HP := Lib.hid hPL
    have HO := Lib.hid hown
    have HNP := Lib.hid (show PL.length = k by have := congrArg List.length hPL; rw [List.length_map, List.length_take] at this; omega)
    obtain ⟨am, cm, rfl⟩ := hown.slice
    clear hPL hown
    by_cases hlt : k < L.length
    · obtain ⟨b, off, rfl, hbw, hBB⟩ := HB.out (by intro h; simp [h] at hlt)
      obtain ⟨x, hx⟩ : ∃ x, L[k]? = some x := ⟨_, List.getElem?_eq_getElem hlt⟩
      have HT := Lib.hid (show L.take (k + 1) = L.take k ++ [x] by rw [List.take_add_one, hx]; rfl)
      obtain ⟨vd, hsd, hcd⟩ := hBB k x hx
      have d0 := (hbl.cell (p := ⟨b, off + k * 2, none⟩) hbw).trans (hcd 0 _ rfl)
      have d1 := (hbl.cell (p := ⟨b, off + k * 2 + 1, none⟩) hbw).trans (hcd 1 _ rfl)
      have hxd := HD.out x (List.mem_of_getElem? hx)
      have C1 := Lib.hid (copyPart_any x.s vd x.d wr hxd (hsd.below hbl))
      obtain ⟨av, cv, rfl, -⟩ := id hsd
      have HW := Lib.hid hbl
      clear hx hBB hsd hcd hbl
      go_wp2_with fail
      (with_reducible refine C1.out.mono ?_)
      rintro e w4 ⟨v4, rfl, hb4, ho4⟩
      have HW4 := Lib.hid (HW.out.trans (hb4.mono HW.out.size))
      obtain ⟨xs, hxs⟩ : ∃ xs, (PL.map (fun q => KPart.row q.1 q.2)).flatten = xs := ⟨_, rfl⟩
      have HXS := Lib.hid hxs
      have hoa := World.ownsRow.alloc (below_own HO.out.row hb4) (Obj.cells #[.int .i64 x.s, v4] 58)
      rw [hxs, HNP.out] at hoa
      have HOA := Lib.hid hoa
      have HNA := Lib.hid (newsPart_alloc w4 x v4)
      have HBA := Lib.hid (HW4.out.alloc HW4.out.size (Obj.cells #[.int .i64 x.s, v4] 58))
      have HB4 := Lib.hid (hb4.alloc hb4.size (Obj.cells #[.int .i64 x.s, v4] 58))
      have HD4 := Lib.hid (World.ownsRow.alloc ho4 (Obj.cells #[.int .i64 x.s, v4] 58))
      obtain ⟨av4, cv4, rfl⟩ := own_slice ho4
      have HR1 := Lib.hid (KPart.one x (.slice av4 x.d.length cv4) rfl)
      clear hxs hoa hb4 ho4 d0 d1
      rw [HNP.out]
      go_wp2_with (first | (at_builtin; refine wpList_append_at _ rfl _ _ 22 rfl w.heap.size 58 i0 (.agg #[.int .i64 0, .slice none 0 0]) 2 32 Try.underlying22 hi hz0 hz1 hz2 rfl (by decide) _ _ _ rfl HOA.out ⟨w4.heap.size, 0, none⟩ 1 1 (KPart.row x (.slice av4 x.d.length cv4)) rfl rfl HNA.out HR1.out (by unfold maxLen; omega) (by omega) HBA.out.size ?_))
      intro v' w1 hown' hgrow hat
      have HN := Lib.hid (HO.out.snoc HW.out.size HB4.out HD4.out (show w1.ownsRow w.heap.size 58 KPart.n v' (PL.length + 1) ((PL.map (fun q => KPart.row q.1 q.2)).flatten ++ KPart.row x (.slice av4 x.d.length cv4)) by rw [HXS.out, HNP.out]; exact hown') ((Grew.refl _ _).app0 (by rw [HNP.out]; exact hgrow) (by rw [HNP.out]; simpa using hat)))
      have HB11 := Lib.hid (HBA.out.grown hgrow HBA.out.size (by intro k hk; exact (HOA.out.lt k hk).1))
      clear hown' hgrow hat
      go_wp2
      go_roundw
      case rel => exact ⟨k + 1, PL ++ [(x, .slice av4 x.d.length cv4)], by omega, by go_num, HB11.out, by rw [HT.out, List.map_append, HP.out]; rfl, HN.out⟩
      case measure => simp [intOf]; omega
    · have HPE := Lib.hid (show PL.map Prod.fst = L by rw [HP.out, List.take_of_length_le (by omega)])
      have HW := Lib.hid hbl
      clear hbl
      go_wp2
      go_ret
      exact ⟨_, PL, rfl, HPE.out, HO.out, HW.out⟩
end Go.Proofs.Ytjgbiffgmafhmaa
