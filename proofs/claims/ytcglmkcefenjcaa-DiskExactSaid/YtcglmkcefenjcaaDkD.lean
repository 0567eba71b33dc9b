/-
  A disk's requests: the library's Delete over a row of our own.
-/
import Derived.Test.YtcglmkcefenjcaaRowOps
import Derived.Test.YtcglmkcefenjcaaOz
import Derived.Test.YtcglmkcefenjcaaOw2
import Derived.StillTailTactics
namespace Go.Proofs.Ytcglmkcefenjcaa
open Go.RowKit
theorem infoReq : (Try.prog.info? 136).map (fun i => (i.zero, i.size, i.bytes)) = some (some (.agg #[.int .i64 0, .int .i64 0, .int .i64 0, .slice none 0 0]), 4, 48) := by kernel_rfl
theorem zero_request (w : World) : (zeroValue 136).run Try.prog w = .ok (.agg #[.int .i64 0, .int .i64 0, .int .i64 0, .slice none 0 0]) w := by
  obtain ⟨i0, hi, hz0, hz1, hz2⟩ := info_parts infoReq
  simp [zeroValue, typeInfo, hi, hz0]
theorem size_request : (Try.prog.info? 136).map (·.size) = some 4 := by kernel_rfl
/-- The cells of a row, from one place on. -/
theorem row_cells {w : World} {g : Nat} {cur : Array Value} {t : TypeId} {fr : Nat × Nat} (hg : w.heap[g]? = some (.cells cur t fr)) (o n : Nat) : ∀ j v, ((cur.toList.drop o).take n)[j]? = some v → w.cell? ((⟨g, o, none⟩ : Addr).add j) = some v := by
  intro j v hj
  have hadd : (⟨g, o, none⟩ : Addr).add j = ⟨g, o + j, none⟩ := by unfold Addr.add; split <;> simp_all
  rw [hadd, cell_of_row w g (o + j) cur t fr hg]
  rw [List.getElem?_take] at hj
  split at hj
  · rw [List.getElem?_drop] at hj; simpa using hj
  · cases hj
set_option maxRecDepth 100000 in
set_option maxHeartbeats 2000000 in
theorem rqDelete_row (g cap m i : Nat) (cur : Array Value) (w : World) (hg : w.heap[g]? = some (.cells cur 136 (0, 0))) (hcs : cur.size = cap * 4) (hi : i ≤ m) (hn : m + 1 ≤ cap) (_hc : cap ≤ maxLen) (h1 : ∀ v ∈ cur.toList.take ((m + 1) * 4), v.oneCell' = true) :
    Calls Try.prog 78 #[.slice (some ⟨g, 0, none⟩) (m + 1) cap, .int .i64 i, .int .i64 ((i + 1 : Nat) : Int)] w fun e w' => e = .returned (.slice (some ⟨g, 0, none⟩) m cap) ∧
      ∃ cur', cur'.size = cur.size ∧ cur'.toList.take (m * 4) = cur.toList.take (i * 4) ++ (cur.toList.drop ((i + 1) * 4)).take ((m - i) * 4) ∧ w' = (w.setRow g cur').drew := by
  unfold maxLen at _hc
  obtain ⟨i0, hi0, hz0, hz1, hz2⟩ := info_parts infoReq
  obtain ⟨xs, hxs⟩ : ∃ xs, xs = (cur.toList.drop ((i + 1) * 4)).take ((m - i) * 4) := ⟨_, rfl⟩
  have hxl : xs.length = (m - i) * 4 := by rw [hxs]; simp; omega
  obtain ⟨ad, had⟩ : ∃ ad : Addr, ad = (if cap = i + 1 then ⟨g, 0, none⟩ else (⟨g, 0, none⟩ : Addr).add ((i + 1) * 4)) := ⟨_, rfl⟩
  have hA := run_append_room (P := Try.prog) w.drew 126 126 136 i0 Try.underlying126 hi0 g i cap cur hg ad (m - i) (cap - (i + 1)) xs
    (by rw [hz1, hxl]) (by
      rw [had, hxs]
      split
      · rw [show m - i = 0 by omega]; simp
      · rw [show (⟨g, 0, none⟩ : Addr).add ((i + 1) * 4) = ⟨g, (i + 1) * 4, none⟩ by simp [Addr.add]]
        exact row_cells hg _ _) (by
      intro v hv
      refine h1 v ?_
      rw [← List.take_append_drop ((i + 1) * 4) (cur.toList.take ((m + 1) * 4)), List.mem_append]
      right
      rw [List.drop_take, show (m + 1) * 4 - (i + 1) * 4 = (m - i) * 4 by omega, ← hxs]
      exact hv) (by omega) (by rw [hz1, hxl]; omega)
  rw [hz1, hxl, show i + (m - i) = m by omega, setRow_drew] at hA
  obtain ⟨c1, hc1⟩ : ∃ c1 : Array Value, c1 = (cur.toList.take (i * 4) ++ xs ++ cur.toList.drop (i * 4 + (m - i) * 4)).toArray := ⟨_, rfl⟩
  rw [← hc1] at hA
  have hs1 : c1.size = cap * 4 := by rw [hc1]; simp [hxl]; omega
  have hg1 : (w.setRow g c1).drew.heap[g]? = some (.cells c1 136 (0, 0)) := setRow_heap w g cur c1 _ _ hg
  obtain ⟨zs, hzl, hC⟩ := ro_clear (P := Try.prog) (w.setRow g c1).drew 126 136 0 _ 4 Try.underlying126 zero_request rfl (by decide) g (m * 4) 1 (cap - m) c1 _ (by decide) hg1 (by rw [hs1]; omega) (by decide)
  rw [setRow_drew, setRow_setRow] at hC
  obtain ⟨c2, hc2⟩ : ∃ c2 : Array Value, c2 = (c1.toList.take (m * 4) ++ zs ++ c1.toList.drop (m * 4 + 1 * 4)).toArray := ⟨_, rfl⟩
  rw [← hc2] at hC
  have hc1l : c1.toList.length = cap * 4 := by simpa using hs1
  have hs2 : c2.size = cur.size := by rw [hc2, hcs]; simp [hzl, hs1]; omega
  have ht2 : c2.toList.take (m * 4) = cur.toList.take (i * 4) ++ xs := by
    rw [hc2]
    simp only [List.append_assoc]
    rw [List.take_append_of_le_length (by simp [hs1]; omega), List.take_take, Nat.min_self, hc1]
    simp only [List.append_assoc]
    rw [List.take_append, List.length_take, List.take_take, List.take_append_of_le_length (by rw [hxl]; simp; omega), List.take_of_length_le (l := xs) (by rw [hxl]; simp; omega), Nat.min_eq_right (by omega)]
  have HA := Lib.hid hA
  have HC := Lib.hid hC
  have HT := Lib.hid ht2
  have HX := Lib.hid hxs
  have HS := Lib.hid hs2
  have HD := Lib.hid had
  have hmi : (i == m + 1) = false := by simp; omega
  clear hA hC ht2 hxs hs2 had hg1 hs1 hc1 hc2 hc1l hzl hxl hcs hg h1
  go_enter Try.func78, Try.ntmps78
  go_wp2
  refine wp_region_still_tail 6 (by kernel_rfl) (by kernel_rfl) ?_
  simp only [List.take_succ_cons, List.take_zero, List.drop_succ_cons, List.drop_zero]
  change wpStill _ _ w.drew _ _ _
  still_step
  still_step
  refine still_run _ 22 _ rfl rfl (run_sliceOp1 rfl rfl (ro_slice_to _ _ _ Try.underlying126 hi0 _ _ _ _ (by omega))) ?_
  still_step
  still_step
  refine still_run _ 25 (.slice (some ad) (m - i) (cap - (i + 1))) rfl rfl (run_sliceLo (u1 := .slice (some ⟨g, 0, none⟩) (m + 1) cap) _ rfl (show _ = Value.int .i64 ((i + 1 : Nat) : Int) from rfl) (by
    rw [ro_slice_from _ _ _ 4 Try.underlying126 size_request _ _ _ _ (by omega), ← HD.out, show m + 1 - (i + 1) = m - i by omega])) ?_
  refine wpStill_nil ?_
  change wpList _ _ _ _ _ w.drew
  go_wp2_with (first | (at_builtin; refine Lib.wpList_append_run _ rfl _ _ _ _ rfl _ _ rfl rfl _ _ HA.out ?_) | (refine wpList_clear_run _ rfl _ _ rfl _ ?hx _ HC.out ?_))
  case hx => simp [Act.eval]
  go_ret
  exact ⟨rfl, c2, HS.out, by rw [HT.out, HX.out], rfl⟩
end Go.Proofs.Ytcglmkcefenjcaa
