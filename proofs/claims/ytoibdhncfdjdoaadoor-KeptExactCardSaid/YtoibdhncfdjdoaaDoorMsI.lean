/-
  Lists of Message: the library's Insert of one into a row of our own.
-/
import Derived.Test.YtoibdhncfdjdoaaDoorMsD
namespace Go.Proofs.YtoibdhncfdjdoaaDoor
open Go.RowKit
theorem flatten_take (n : Nat) : ∀ (L : List (List Value)), (∀ q ∈ L, q.length = n) → ∀ k, (L.take k).flatten = L.flatten.take (k * n) := by
  intro L
  induction L with
  | nil => intro _ k; simp
  | cons x t ih =>
    intro hl k
    have hx : x.length = n := hl x (by simp)
    cases k with
    | zero => simp
    | succ k =>
      rw [List.take_succ_cons, List.flatten_cons, List.flatten_cons, ih (fun q hq => hl q (by simp [hq])), Nat.succ_mul, List.take_append, List.take_of_length_le (l := x) (by omega)]
      congr 2; omega
theorem flatten_drop (n : Nat) : ∀ (L : List (List Value)), (∀ q ∈ L, q.length = n) → ∀ k, (L.drop k).flatten = L.flatten.drop (k * n) := by
  intro L
  induction L with
  | nil => intro _ k; simp
  | cons x t ih =>
    intro hl k
    have hx : x.length = n := hl x (by simp)
    cases k with
    | zero => simp
    | succ k =>
      rw [List.drop_succ_cons, List.flatten_cons, ih (fun q hq => hl q (by simp [hq])), Nat.succ_mul, List.drop_append, List.drop_eq_nil_of_le (show x.length ≤ k * n + n by omega), List.nil_append]
      congr 1; omega
theorem add_off (g o k : Nat) : (⟨g, o, none⟩ : Addr).add k = ⟨g, o + k, none⟩ := by unfold Addr.add; split <;> simp_all
/-- The cells of another block stay where a row is written. -/
theorem cells_other {w : World} {q g : Nat} {cur : Array Value} {t : TypeId} {fr : Nat × Nat} (hq : w.heap[q]? = some (.cells cur t fr)) (h : q ≠ g) (cs : Array Value) : ∀ j v, cur.toList[j]? = some v → (w.setRow g cs).drew.cell? ((⟨q, 0, none⟩ : Addr).add j) = some v := by
  intro j v hj
  rw [add_off]
  have h2 : (w.setRow g cs).drew.heap[q]? = some (.cells cur t fr) := (setRow_other w g q cs h).trans hq
  rw [cell_of_row _ q (0 + j) cur t fr h2]
  simpa using hj
set_option maxRecDepth 100000 in
set_option maxHeartbeats 2000000 in
theorem msInsert_shift (g cap n i q : Nat) (cur : Array Value) (x : EMessage) (w : World) (hg : w.heap[g]? = some (.cells cur 60 (0, 0))) (hcs : cur.size = cap * 4) (hi : i < n) (hn : n + 1 ≤ cap) (hc : cap ≤ maxLen) (h1 : ∀ v ∈ cur.toList.take (n * 4), v.oneCell' = true)
    (hq : w.heap[q]? = some (.cells (rowMessage x).toArray 60 (0, 0))) (hqg : q ≠ g) :
    Calls Tryd.prog 58 #[.slice (some ⟨g, 0, none⟩) n cap, .int .i64 i, .slice (some ⟨q, 0, none⟩) 1 1] w fun e w' => e = .returned (.slice (some ⟨g, 0, none⟩) (n + 1) cap) ∧
      ∃ cur', cur'.size = cur.size ∧ cur'.toList.take ((n + 1) * 4) = cur.toList.take (i * 4) ++ rowMessage x ++ (cur.toList.drop (i * 4)).take ((n - i) * 4) ∧ w' = (w.setRow g cur').drew := by
  unfold maxLen at hc
  obtain ⟨i0, hi0, hz0, hz1, hz2⟩ := info_parts infoMessage
  have hov : ∀ lb cb, (callFunc 72 #[.slice (some ⟨q, 0, none⟩) 1 1, .slice (some ⟨g, (i + 1) * 4, none⟩) lb cb]).run Tryd.prog w = .ok (.value (.bool false)) w := fun lb cb => by
    rw [run_callFunc_extern Tryd.func72 (by kernel_rfl) (by kernel_rfl) (by kernel_rfl) (e := Extern.SlicesOverlaps.overlaps #[53, 53] #[4]) (by kernel_rfl),
      Lib.run_overlaps_apart w 53 4 60 Tryd.underlying53 4 (fun w => by simp [sizeOf, typeInfo, hi0, hz1]) ⟨q, 0, none⟩ ⟨g, (i + 1) * 4, none⟩ 1 1 lb cb hqg 60 60 4 (cap * 4) (by simp [World.shape?, hq]) (by simp [World.shape?, hg, hcs]) (by omega) (by simp [World.frozen?, hq]) (by simp [World.frozen?, hq])]
    rfl
  obtain ⟨xs, hxs⟩ : ∃ xs, xs = (cur.toList.drop (i * 4)).take ((n - i) * 4) := ⟨_, rfl⟩
  have hxl : xs.length = (n - i) * 4 := by rw [hxs]; simp; omega
  have hx1 : ∀ v ∈ xs, v.oneCell' = true := by
    intro v hv
    refine h1 v ?_
    rw [← List.take_append_drop (i * 4) (cur.toList.take (n * 4)), List.mem_append]
    right
    rw [List.drop_take, show n * 4 - i * 4 = (n - i) * 4 by omega, ← hxs]
    exact hv
  have hC1 := ro_copy (P := Tryd.prog) w.drew 53 53 3 60 4 g ((i + 1) * 4) (n - i) (cap - (i + 1)) ⟨g, i * 4, none⟩ (n + 1 - i) (cap - i) cur _ xs Tryd.underlying53 size_message hg (n - i) (Nat.min_eq_right (by omega))
    hxl (by rw [hxs]; exact row_cells hg _ _) (by rw [hxl]; omega) hx1
  rw [hxl, setRow_drew] at hC1
  obtain ⟨c1, hc1⟩ : ∃ c1 : Array Value, c1 = (cur.toList.take ((i + 1) * 4) ++ xs ++ cur.toList.drop ((i + 1) * 4 + (n - i) * 4)).toArray := ⟨_, rfl⟩
  rw [← hc1] at hC1
  have hs1 : c1.size = cap * 4 := by rw [hc1]; simp [hxl]; omega
  have hg1 : (w.setRow g c1).drew.heap[g]? = some (.cells c1 60 (0, 0)) := setRow_heap w g cur c1 _ _ hg
  have hC2 := ro_copy (P := Tryd.prog) (w.setRow g c1).drew 53 53 3 60 4 g (i * 4) (n + 1 - i) (cap - i) ⟨q, 0, none⟩ 1 1 c1 _ (rowMessage x) Tryd.underlying53 size_message hg1 1 (Nat.min_eq_left (by omega))
    rfl (cells_other hq hqg c1) (by rw [hs1]; show i * 4 + 4 ≤ _; omega) (by simp [Value.oneCell'])
  rw [setRow_drew, setRow_setRow] at hC2
  obtain ⟨c2, hc2⟩ : ∃ c2 : Array Value, c2 = (c1.toList.take (i * 4) ++ rowMessage x ++ c1.toList.drop (i * 4 + (rowMessage x).length)).toArray := ⟨_, rfl⟩
  rw [← hc2] at hC2
  have hs2 : c2.size = cur.size := by rw [hc2, hcs]; simp [hs1]; omega
  have ht2 : c2.toList.take ((n + 1) * 4) = cur.toList.take (i * 4) ++ rowMessage x ++ xs := by
    have e1 : c1.toList.take (i * 4) = cur.toList.take (i * 4) := by
      rw [hc1, List.append_assoc, List.take_append_of_le_length (by simp; omega), List.take_take, Nat.min_eq_left (by omega)]
    have e2 : c1.toList.drop (i * 4 + 4) = xs ++ cur.toList.drop ((i + 1) * 4 + (n - i) * 4) := by
      rw [hc1]
      simp only [List.append_assoc]
      rw [List.drop_left' (by simp; omega)]
    have hl3 : (rowMessage x).length = 4 := rfl
    rw [hc2, hl3]
    simp only []
    rw [e1, e2, ← List.append_assoc, List.take_left' (by simp [hxl]; omega)]
  have H1 := Lib.hid hC1
  have H2 := Lib.hid hC2
  have HT := Lib.hid ht2
  have HX := Lib.hid hxs
  have HS := Lib.hid hs2
  have hni : ¬ i = n := by omega
  have hin : ((i : Int) == (n : Int)) = false := by simp; omega
  have hgt : ¬ cap < n + 1 := by omega
  clear hC1 hC2 ht2 hxs hs2 hg1 hs1 hc1 hc2 hxl hcs hg h1 hx1
  go_enter Tryd.func58, Tryd.ntmps58
  go_wp2
  clear hov
  refine wp_region_still_tail 8 (by kernel_rfl) (by kernel_rfl) ?_
  simp only [List.take_succ_cons, List.take_zero, List.drop_succ_cons, List.drop_zero]
  change wpStill _ _ w.drew _ _ _
  still_step
  still_step
  still_step
  refine still_run _ 72 (.int .i64 ((i : Int) + 1)) rfl rfl (run_binOp rfl rfl (by simp [go_sem]) (by have := wrap_i64 ((i : Int) + 1) (by omega) (by omega); simp [go_sem, this])) ?_
  refine still_run _ 73 (.slice (some ⟨g, (i + 1) * 4, none⟩) (n - i) (cap - (i + 1))) rfl rfl (run_sliceLo (u1 := .slice (some ⟨g, 0, none⟩) (n + 1) cap) _ rfl (show _ = Value.int .i64 ((i + 1 : Nat) : Int) from rfl) (by
    rw [ro_slice_from _ _ _ 4 Tryd.underlying53 size_message _ _ _ _ (by omega), if_neg (by omega), add_off, Nat.zero_add, show n + 1 - (i + 1) = n - i by omega])) ?_
  still_step
  still_step
  refine still_run _ 76 (.slice (some ⟨g, i * 4, none⟩) (n + 1 - i) (cap - i)) rfl rfl (run_sliceLo (u1 := .slice (some ⟨g, 0, none⟩) (n + 1) cap) _ rfl (show _ = Value.int .i64 ((i : Nat) : Int) from rfl) (by
    rw [ro_slice_from _ _ _ 4 Tryd.underlying53 size_message _ _ _ _ (by omega), if_neg (by omega), add_off, Nat.zero_add])) ?_
  refine wpStill_nil ?_
  change wpList _ _ _ _ _ w.drew
  go_wp2_with (first | (refine wpList_copy_ro _ rfl _ _ _ _ rfl _ _ rfl rfl H1.out ?_) | (refine wpList_copy_ro _ rfl _ _ _ _ rfl _ _ rfl rfl H2.out ?_))
  go_ret
  exact ⟨rfl, c2, HS.out, by rw [HT.out, HX.out], rfl⟩
set_option maxRecDepth 100000 in
set_option maxHeartbeats 2000000 in
theorem msInsert_grow (g cap n i q : Nat) (cur : Array Value) (x : EMessage) (w : World) (hg : w.heap[g]? = some (.cells cur 60 (0, 0))) (hcs : cur.size = cap * 4) (hi : i < n) (hn : n = cap) (hc : n ≤ 1000000) (h1 : ∀ v ∈ cur.toList.take (n * 4), v.oneCell' = true)
    (hq : w.heap[q]? = some (.cells (rowMessage x).toArray 60 (0, 0))) :
    Calls Tryd.prog 58 #[.slice (some ⟨g, 0, none⟩) n cap, .int .i64 i, .slice (some ⟨q, 0, none⟩) 1 1] w fun e w' => ∃ cap' cur', e = .returned (.slice (some ⟨w.heap.size, 0, none⟩) (n + 1) cap') ∧ n + 1 ≤ cap' ∧ cap' ≤ maxLen ∧
      cur'.size = cap' * 4 ∧ cur'.toList.take ((n + 1) * 4) = cur.toList.take (i * 4) ++ rowMessage x ++ (cur.toList.drop (i * 4)).take ((n - i) * 4) ∧ w' = (w.drew.alloc (.cells cur' 60)).drew := by
  obtain ⟨i0, hi0, hz0, hz1, hz2⟩ := info_parts infoMessage
  have hgl : g < w.heap.size := (Array.getElem?_eq_some_iff.1 hg).1
  have hql : q < w.heap.size := (Array.getElem?_eq_some_iff.1 hq).1
  obtain ⟨ys, hys⟩ : ∃ ys, ys = (cur.toList.drop 0).take (i * 4) := ⟨_, rfl⟩
  have hyl : ys.length = i * 4 := by rw [hys]; simp; omega
  have hZ := ro_zeros (P := Tryd.prog) w 53 3 53 60 i0 _ .i64 .i64 4 Tryd.underlying53 Tryd.underlying3 hi0 hz0 hz1 (by decide) ⟨g, 0, none⟩ i cap ys hyl (by rw [hys]; exact row_cells hg 0 (i * 4)) (n + 1 - i) (by omega) (by omega) (by omega) (by rw [hz2]; omega)
  have hge := grownCap_ge w (i + (n + 1 - i)) cap 60
  have hle := grownCap_le_maxLen w (i + (n + 1 - i)) cap 60 (by unfold maxLen; omega)
  generalize grownCap w (i + (n + 1 - i)) cap 60 = K at hZ hge hle
  rw [show i + (n + 1 - i) = n + 1 by omega] at hZ hge
  obtain ⟨c0, hc0⟩ : ∃ c0 : Array Value, c0 = ys.toArray ++ Builtin.zeroCells (Value.agg #[.string ByteArray.empty, .string ByteArray.empty, .int .i64 0, .bool false]).cells (n + 1 - i) ++ Builtin.zeroCells (Value.agg #[.string ByteArray.empty, .string ByteArray.empty, .int .i64 0, .bool false]).cells (K - (n + 1)) := ⟨_, rfl⟩
  rw [← hc0] at hZ
  have hs0 : c0.size = K * 4 := by rw [hc0]; simp [size_zeroCells, hyl, Value.cells]; omega
  have ht0 : c0.toList.take (i * 4) = ys := by
    rw [hc0]; simp only [Array.toList_append, List.append_assoc]
    rw [List.take_left' hyl]
  obtain ⟨p, hp⟩ : ∃ p, p = w.heap.size := ⟨_, rfl⟩
  rw [← hp] at hZ ⊢
  obtain ⟨W1, hW1⟩ : ∃ W1, W1 = w.drew.alloc (.cells c0 60) := ⟨_, rfl⟩
  rw [← hW1] at hZ
  have hg1 : W1.heap[p]? = some (.cells c0 60 (0, 0)) := by rw [hW1, hp]; exact heap_alloc_new w.drew _
  have hold : ∀ k, k < p → W1.heap[k]? = w.heap[k]? := fun k hk => by rw [hW1]; exact heap_alloc_old w.drew _ (show k < w.heap.size by omega)
  have hq1 : W1.heap[q]? = some (.cells (rowMessage x).toArray 60 (0, 0)) := (hold q (by omega)).trans hq
  have hgg1 : W1.heap[g]? = some (.cells cur 60 (0, 0)) := (hold g (by omega)).trans hg
  have hC1 := ro_copy (P := Tryd.prog) W1 53 53 3 60 4 p (i * 4) (n + 1 - i) (K - i) ⟨q, 0, none⟩ 1 1 c0 _ (rowMessage x) Tryd.underlying53 size_message hg1 1 (Nat.min_eq_left (by omega))
    rfl (by have := row_cells hq1 0 4; simpa using this) (by rw [hs0]; show i * 4 + 4 ≤ _; omega) (by simp [Value.oneCell'])
  obtain ⟨c1, hc1⟩ : ∃ c1 : Array Value, c1 = (c0.toList.take (i * 4) ++ rowMessage x ++ c0.toList.drop (i * 4 + (rowMessage x).length)).toArray := ⟨_, rfl⟩
  rw [← hc1] at hC1
  have hs1 : c1.size = K * 4 := by rw [hc1]; simp [hs0]; omega
  have hg2 : (W1.setRow p c1).drew.heap[p]? = some (.cells c1 60 (0, 0)) := setRow_heap W1 p c0 c1 _ _ hg1
  have hgg2 : (W1.setRow p c1).drew.heap[g]? = some (.cells cur 60 (0, 0)) := (setRow_other W1 p g c1 (by omega)).trans hgg1
  obtain ⟨xs, hxs⟩ : ∃ xs, xs = (cur.toList.drop (i * 4)).take ((n - i) * 4) := ⟨_, rfl⟩
  have hxl : xs.length = (n - i) * 4 := by rw [hxs]; simp; omega
  have hx1 : ∀ v ∈ xs, v.oneCell' = true := by
    intro v hv
    refine h1 v ?_
    rw [← List.take_append_drop (i * 4) (cur.toList.take (n * 4)), List.mem_append]
    right
    rw [List.drop_take, show n * 4 - i * 4 = (n - i) * 4 by omega, ← hxs]
    exact hv
  have hC2 := ro_copy (P := Tryd.prog) (W1.setRow p c1).drew 53 53 3 60 4 p ((i + 1) * 4) (n - i) (K - (i + 1)) ⟨g, i * 4, none⟩ (n - i) (cap - i) c1 _ xs Tryd.underlying53 size_message hg2 (n - i) (Nat.min_self _)
    hxl (by rw [hxs]; exact row_cells hgg2 _ _) (by rw [hs1, hxl]; omega) hx1
  rw [setRow_drew, setRow_setRow] at hC2
  obtain ⟨c2, hc2⟩ : ∃ c2 : Array Value, c2 = (c1.toList.take ((i + 1) * 4) ++ xs ++ c1.toList.drop ((i + 1) * 4 + xs.length)).toArray := ⟨_, rfl⟩
  rw [← hc2] at hC2
  have hs2 : c2.size = K * 4 := by rw [hc2]; simp [hs1, hxl]; omega
  have hl3 : (rowMessage x).length = 4 := rfl
  have ht2 : c2.toList.take ((n + 1) * 4) = cur.toList.take (i * 4) ++ rowMessage x ++ xs := by
    have e1 : c1.toList.take ((i + 1) * 4) = cur.toList.take (i * 4) ++ rowMessage x := by
      rw [hc1]
      simp only []
      rw [List.take_left' (by rw [List.length_append, List.length_take, hl3, Array.length_toList, hs0]; omega), ht0, hys, List.drop_zero]
    rw [hc2]
    simp only []
    rw [e1, List.take_left' (by rw [List.length_append, List.length_append, hl3, hxl, List.length_take, Array.length_toList]; omega)]
  have hW2 : (W1.setRow p c2).drew = (w.drew.alloc (.cells c2 60)).drew := by
    rw [hW1, hp]
    have : (w.drew.alloc (.cells c0 60)).setRow w.heap.size c2 = w.drew.alloc (.cells c2 60) := setRow_alloc w.drew c0 c2 _
    rw [this]
  have HZ := Lib.hid hZ
  have H1 := Lib.hid hC1
  have H2 := Lib.hid hC2
  have HF := Lib.hid (show c2.size = K * 4 ∧ c2.toList.take ((n + 1) * 4) = cur.toList.take (i * 4) ++ rowMessage x ++ (cur.toList.drop (i * 4)).take ((n - i) * 4) ∧ (W1.setRow p c2).drew = (w.drew.alloc (.cells c2 60)).drew from ⟨hs2, by rw [ht2, hxs], hW2⟩)
  have hni : ¬ i = n := by omega
  have hin : ((i : Int) == (n : Int)) = false := by simp; omega
  have hgt : cap < n + 1 := by omega
  have HLE := Lib.hid hle
  clear hZ hC1 hC2 ht2 hxs hs2 hg1 hs1 hc1 hc2 hxl hcs hg h1 hx1 hW2 hgg1 hgg2 hq1 hold hW1 hp ht0 hs0 hc0 hyl hys hql hgl hq hg2 hle
  unfold maxLen at HLE
  subst hn
  go_enter Tryd.func58, Tryd.ntmps58
  go_wp2_with (first | (at_builtin; refine Lib.wpList_append_run _ rfl _ _ _ _ rfl _ _ rfl ?hx _ _ HZ.out ?_) | (refine wpList_copy_ro _ rfl _ _ _ _ rfl _ _ rfl rfl H1.out ?_))
  case hx =>
    show Value.int .i64 ((n : Int) + 1 - (i : Int)) = Value.int .i64 ((n + 1 - i : Nat) : Int)
    congr 1; omega
  refine wp_region_still_tail 8 (by kernel_rfl) (by kernel_rfl) ?_
  simp only [List.take_succ_cons, List.take_zero, List.drop_succ_cons, List.drop_zero]
  change wpStill _ _ (W1.setRow p c1).drew _ _ _
  still_step
  still_step
  still_step
  refine still_run _ 49 (.int .i64 ((i : Int) + 1)) rfl rfl (run_binOp rfl rfl (by simp [go_sem]) (by have := wrap_i64 ((i : Int) + 1) (by omega) (by omega); simp [go_sem, this])) ?_
  refine still_run _ 50 (.slice (some ⟨p, (i + 1) * 4, none⟩) (n - i) (K - (i + 1))) rfl rfl (run_sliceLo (u1 := .slice (some ⟨p, 0, none⟩) (n + 1) K) _ rfl (show _ = Value.int .i64 ((i + 1 : Nat) : Int) from rfl) (by
    rw [ro_slice_from _ _ _ 4 Tryd.underlying53 size_message _ _ _ _ (by omega), if_neg (by omega), add_off, Nat.zero_add, show n + 1 - (i + 1) = n - i by omega])) ?_
  still_step
  still_step
  refine still_run _ 53 (.slice (some ⟨g, i * 4, none⟩) (n - i) (n - i)) rfl rfl (run_sliceLo (u1 := .slice (some ⟨g, 0, none⟩) n n) _ rfl (show _ = Value.int .i64 ((i : Nat) : Int) from rfl) (by
    rw [ro_slice_from _ _ _ 4 Tryd.underlying53 size_message _ _ _ _ (by omega), if_neg (by omega), add_off, Nat.zero_add])) ?_
  refine wpStill_nil ?_
  change wpList _ _ _ _ _ (W1.setRow p c1).drew
  go_wp2_with (refine wpList_copy_ro _ rfl _ _ _ _ rfl _ _ rfl rfl H2.out ?_)
  go_ret
  exact ⟨K, c2, rfl, hge, by unfold maxLen; exact HLE.out, HF.out.1, HF.out.2.1, HF.out.2.2⟩
set_option maxRecDepth 100000 in
set_option maxHeartbeats 2000000 in
theorem msInsert_end (base n q : Nat) (v : Value) (xs : List Value) (x : EMessage) (w : World) (hown : w.ownsRow base 60 4 v n xs) (hbase : base ≤ w.heap.size) (hc : n ≤ 1000000)
    (hq : w.heap[q]? = some (.cells (rowMessage x).toArray 60 (0, 0))) :
    Calls Tryd.prog 58 #[v, .int .i64 n, .slice (some ⟨q, 0, none⟩) 1 1] w fun e w' => ∃ v', e = .returned v' ∧ w'.ownsRow base 60 4 v' (n + 1) (xs ++ rowMessage x) ∧ Grew w w' v v' := by
  obtain ⟨i0, hi0, hz0, hz1, hz2⟩ := info_parts infoMessage
  obtain ⟨v', w', hA, hown', hgr, hv'⟩ := run_append_at (P := Tryd.prog) w base 53 53 60 i0 _ 4 48 Tryd.underlying53 hi0 hz0 hz1 hz2 rfl (by decide) v n xs hown ⟨q, 0, none⟩ 1 1 (rowMessage x) rfl
    (by have := row_cells hq 0 4; simpa using this) (by simp [Value.oneCell']) (by unfold maxLen; omega) (by omega) hbase
  have hG := (Grew.refl w v).app0 hgr hv'
  obtain ⟨ao, cap, hvs⟩ := own_slice hown
  have hcap : n ≤ cap := by
    rcases hown.2 with ⟨h, h0⟩ | ⟨g, c, cur, h, h2, h3, h4, -⟩
    · omega
    · rw [hvs] at h; injection h with h5 h6 h7; omega
  have HA := Lib.hid hA
  have HO := Lib.hid hown'
  have HG := Lib.hid hG
  clear hA hown' hgr hv' hown hG hq
  subst hvs
  by_cases hcn : n = cap
  · subst hcn
    go_enter Tryd.func58, Tryd.ntmps58
    go_wp2_with (at_builtin; refine Lib.wpList_append_run _ rfl _ _ _ _ rfl _ _ rfl rfl _ _ HA.out ?_)
    go_ret
    exact ⟨_, rfl, HO.out, HG.out⟩
  · have hcn' : ¬ cap = n := fun h => hcn h.symm
    go_enter Tryd.func58, Tryd.ntmps58
    go_wp2_with (at_builtin; refine Lib.wpList_append_run _ rfl _ _ _ _ rfl _ _ rfl rfl _ _ HA.out ?_)
    go_ret
    exact ⟨_, rfl, HO.out, HG.out⟩
/-- Insert of one into a row of our own. -/
theorem msInsert_any (base n i q : Nat) (v : Value) (L : List EMessage) (x : EMessage) (w : World) (hown : w.ownsRow base 60 4 v n (L.map rowMessage).flatten) (hbase : base ≤ w.heap.size) (hc : n ≤ 1000000) (hi : i ≤ n)
    (hq : w.heap[q]? = some (.cells (rowMessage x).toArray 60 (0, 0))) (hqv : v.ownBlock ≠ some q) :
    Calls Tryd.prog 58 #[v, .int .i64 i, .slice (some ⟨q, 0, none⟩) 1 1] w fun e w' => ∃ v', e = .returned v' ∧ w'.ownsRow base 60 4 v' (n + 1) ((L.take i ++ x :: L.drop i).map rowMessage).flatten ∧ Grew w w' v v' := by
  have hL3 : ∀ r ∈ L.map rowMessage, r.length = 4 := by intro r hr; obtain ⟨y, -, rfl⟩ := List.mem_map.1 hr; rfl
  have hn : n = L.length := by simpa using (SlR.of_own (by decide) hL3 hown).2
  have htk : ∀ k, ((L.take k).map rowMessage).flatten = ((L.map rowMessage).flatten).take (k * 4) := by
    intro k
    rw [List.map_take, flatten_take 4 _ hL3]
  have hdr : ∀ k, ((L.drop k).map rowMessage).flatten = ((L.map rowMessage).flatten).drop (k * 4) := by
    intro k
    rw [List.map_drop, flatten_drop 4 _ hL3]
  have hgoal : ((L.take i ++ x :: L.drop i).map rowMessage).flatten = ((L.map rowMessage).flatten).take (i * 4) ++ rowMessage x ++ ((L.map rowMessage).flatten).drop (i * 4) := by
    rw [List.map_append, List.map_cons, List.flatten_append, List.flatten_cons, htk, hdr, List.append_assoc]
  rw [hgoal]
  have hfl : ((L.map rowMessage).flatten).length = n * 4 := by rw [flatten_len _ hL3, List.length_map, hn]
  have hone : ∀ u ∈ (L.map rowMessage).flatten, u.oneCell' = true := by
    intro u hu
    obtain ⟨r, hr, hu⟩ := List.mem_flatten.1 hu
    obtain ⟨y, -, rfl⟩ := List.mem_map.1 hr
    simp at hu
    rcases hu with rfl | rfl | rfl | rfl <;> rfl
  generalize (L.map rowMessage).flatten = xs at *
  by_cases hin : i = n
  · subst hin
    rw [List.take_of_length_le (by omega), List.drop_eq_nil_of_le (by omega), List.append_nil]
    exact msInsert_end base i q v xs x w hown hbase hc hq
  · rcases hown.2 with ⟨rfl, h0⟩ | ⟨g, cap, cur, rfl, hbg, hg, hnc, hcm, hcs, htake⟩
    · omega
    · have hgq : q ≠ g := fun h => hqv (by simp [Value.ownBlock, h])
      have e1 : cur.toList.take (i * 4) = xs.take (i * 4) := by rw [← htake, List.take_take, Nat.min_eq_left (by omega)]
      have e2 : (cur.toList.drop (i * 4)).take ((n - i) * 4) = xs.drop (i * 4) := by rw [← htake, List.drop_take]; congr 1; omega
      have hlt : (xs.take (i * 4) ++ rowMessage x ++ xs.drop (i * 4)).length = (n + 1) * 4 := by
        rw [List.length_append, List.length_append, List.length_take, List.length_drop, hfl]
        show min _ _ + 4 + _ = _
        omega
      by_cases hroom : n + 1 ≤ cap
      · refine (msInsert_shift g cap n i q cur x w hg hcs (by omega) hroom hcm (by rw [htake]; exact hone) hq hgq).mono ?_
        rintro e w' ⟨rfl, c2, hs2, ht2, rfl⟩
        refine ⟨_, rfl, ⟨hlt, .inr ⟨g, cap, c2, rfl, hbg, setRow_heap w g cur c2 _ _ hg, hroom, hcm, by rw [hs2, hcs], by rw [ht2, e1, e2]⟩⟩, ⟨rfl, rfl, rfl, by show w.heap.size ≤ (w.setRow g c2).heap.size; rw [setRow_size]; exact Nat.le_refl _, fun k _ hk => setRow_other w g k c2 (fun e => hk (by simp [Value.ownBlock, e]))⟩, .inl rfl⟩
      · refine (msInsert_grow g cap n i q cur x w hg hcs (by omega) (by omega) (by omega) (by rw [htake]; exact hone) hq).mono ?_
        rintro e w' ⟨cap', c2, rfl, hge, hle, hs2, ht2, rfl⟩
        refine ⟨_, rfl, ⟨hlt, .inr ⟨w.heap.size, cap', c2, rfl, hbase, heap_alloc_new w.drew _, hge, hle, hs2, by rw [ht2, e1, e2]⟩⟩, ⟨rfl, rfl, rfl, by show w.heap.size ≤ (w.drew.alloc _).heap.size; simp, fun k hk _ => heap_alloc_old w.drew _ (show k < w.heap.size from hk)⟩, .inr ⟨w.heap.size, rfl, Nat.le_refl _⟩⟩
end Go.Proofs.YtoibdhncfdjdoaaDoor
