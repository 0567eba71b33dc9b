/-
  Neighbours: whether a list may be a table.
-/
import Derived.Test.YtcomaacfhfnipaaArpB
import Derived.Test.YtcomaacfhfnipaaOw2
namespace Go.Proofs.Ytcomaacfhfnipaa
open Go.RowKit
def ipB (n : Int) : Bool := decide (0 ≤ n ∧ n < 4294967296)
def macB (n : Int) : Bool := decide (0 ≤ n ∧ n < 281474976710656)
def okB : Int → List Nb → Bool
  | _, [] => true
  | last, q :: r => decide (last < q.ip) && ipB q.ip && macB q.mac && decide (0 ≤ q.age) && decide (q.age ≤ 600) && okB q.ip r
def tabB (L : List Nb) : Bool := decide (L.length ≤ 16) && okB (-1) L
theorem tabB_long {L : List Nb} (h : 16 < L.length) : tabB L = false := by simp [tabB]; intro h2; omega
theorem tabB_short {L : List Nb} (h : L.length ≤ 16) : tabB L = okB (-1) L := by simp [tabB, h]
theorem drop_cons {L : List Nb} {k : Nat} {q : Nb} (h : L[k]? = some q) : L.drop k = q :: L.drop (k + 1) := by
  obtain ⟨hk, rfl⟩ := List.getElem?_eq_some_iff.1 h
  exact List.drop_eq_getElem_cons hk
theorem okB_cons {last : Int} {q : Nb} {r : List Nb} (h1 : decide (q.ip ≤ last) = false) (h2 : ipB q.ip = true) (h3 : macB q.mac = true) (h4 : decide (q.age < 0) = false) (h5 : decide (600 < q.age) = false) : okB last (q :: r) = okB q.ip r := by
  simp only [decide_eq_false_iff_not] at h1 h4 h5
  simp [okB, h2, h3, show last < q.ip by omega, show 0 ≤ q.age by omega, show q.age ≤ 600 by omega]
theorem okB_bad0 {last : Int} {q : Nb} {r : List Nb} (h1 : decide (q.ip ≤ last) = true) : okB last (q :: r) = false := by
  simp only [decide_eq_true_eq] at h1
  simp [okB, show ¬ last < q.ip by omega]
theorem okB_bad1 {last : Int} {q : Nb} {r : List Nb} (h1 : ipB q.ip = false) : okB last (q :: r) = false := by simp [okB, h1]
theorem okB_bad2 {last : Int} {q : Nb} {r : List Nb} (h1 : macB q.mac = false) : okB last (q :: r) = false := by simp [okB, h1]
theorem okB_bad3 {last : Int} {q : Nb} {r : List Nb} (h1 : decide (q.age < 0) = true) : okB last (q :: r) = false := by
  simp only [decide_eq_true_eq] at h1
  simp [okB, show ¬ 0 ≤ q.age by omega]
theorem okB_bad4 {last : Int} {q : Nb} {r : List Nb} (h1 : decide (600 < q.age) = true) : okB last (q :: r) = false := by
  simp only [decide_eq_true_eq] at h1
  simp [okB, show ¬ q.age ≤ 600 by omega]
theorem isIP_any (n : Int) (w : World) : Calls Try.prog 41 #[.int .i64 n] w fun e w' => e = .returned (.bool (ipB n)) ∧ w = w' := by
  by_cases h : 0 ≤ n
  · go_enter Try.func41, Try.ntmps41
    go_wp2
    go_ret
    exact ⟨by simp [ipB, h], rfl⟩
  · go_enter Try.func41, Try.ntmps41
    go_wp2
    go_ret
    exact ⟨by simp [ipB]; omega, rfl⟩
theorem isMac_any (n : Int) (w : World) : Calls Try.prog 40 #[.int .i64 n] w fun e w' => e = .returned (.bool (macB n)) ∧ w = w' := by
  by_cases h : 0 ≤ n
  · go_enter Try.func40, Try.ntmps40
    go_wp2
    go_ret
    exact ⟨by simp [macB, h], rfl⟩
  · go_enter Try.func40, Try.ntmps40
    go_wp2
    go_ret
    exact ⟨by simp [macB]; omega, rfl⟩
theorem addI (x y : Int) (w : World) (h1 : -9223372036854775808 ≤ x + y) (h2 : x + y < 9223372036854775808) : (binOp .add 3 (.int .i64 x) (.int .i64 y)).run Try.prog w = .ok (.int .i64 (x + y)) w := by
  have := wrap_i64 (x + y) h1 h2
  simp [go_sem, this]
theorem run_indexNb (ao : Option Addr) (b off n cap k : Nat) (hao : ao = some ⟨b, off, none⟩) (hk : k < n) (w : World) : (Instr.indexAt 48 (.slice ao n cap) (.int .i64 (k : Int))).run Try.prog w = .ok (.pointer (some ⟨b, off + k * 3, none⟩)) w := by
  subst hao
  have h2 : ¬ n ≤ k := by omega
  simp [go_sem, Instr.indexAt, h2]
theorem nb_range {w W : World} {b o : Nat} {q : Nb} (e0 : W.cell? ⟨b, o, none⟩ = w.cell? ⟨b, o, none⟩) (e1 : W.cell? ⟨b, o + 1, none⟩ = w.cell? ⟨b, o + 1, none⟩) (e2 : W.cell? ⟨b, o + 2, none⟩ = w.cell? ⟨b, o + 2, none⟩)
    (c0 : w.cell? ⟨b, o, none⟩ = some (.int .i64 q.ip)) (c1 : w.cell? ⟨b, o + 1, none⟩ = some (.int .i64 q.mac)) (c2 : w.cell? ⟨b, o + 2, none⟩ = some (.int .i64 q.age)) : W.rangeAt b o [.int .i64 q.ip, .int .i64 q.mac, .int .i64 q.age] := by
  intro j v hj
  match j, hj with
  | 0, hj => simp at hj; subst hj; exact e0.trans c0
  | 1, hj => simp at hj; subst hj; exact e1.trans c1
  | 2, hj => simp at hj; subst hj; exact e2.trans c2
  | j + 3, hj => simp at hj
set_option maxRecDepth 100000 in
set_option maxHeartbeats 4000000 in
theorem isTable_any (v : Value) (L : List Nb) (w : World) (hv : SlOf w 3 Nb.At v L) (hl : L.length ≤ 140737488351232) :
    Calls Try.prog 49 #[v] w fun e w' => e = .returned (.bool (tabB L)) ∧ Below w.heap.size w w' := by
  have hb0 := Below.refl w.heap.size w
  obtain ⟨ao, cap, rfl, -, -, -, hB⟩ := hv
  have HB := Lib.hid hB; clear hB
  refine ow_enter 45 Try.func49 rfl Try.ntmps49 (by simp) ?_
  rintro a hsz hdf hargs
  have s_0 : a.tmps[0]? = some (.slice ao L.length cap) := hargs 0 _ rfl
  clear hargs
  refine wp_seq ?_
  refine ow_region [_] rfl (by intro o ho; simp only [List.mem_cons, List.not_mem_nil, or_false] at ho; subst ho; rfl) ?_
  refine ow_run 2 (.bool false) _ rfl (run_assignOp (eval_cst _ _)) ?_
  refine fresh (C := fun x W => wpRun _ [] x W _) (fun x X => _ = X ∧ x.tmps.size = 45 ∧ x.defers = [] ∧ x.tmps[0]? = some (.slice ao L.length cap) ∧ x.tmps[2]? = some (.bool false)) ⟨rfl, (by simp only [put_size]; exact hsz), (by simp only [put_defers]; exact hdf), (pf1 (by decide) s_0), (put_get _ _ _ (by rw [hsz]; decide))⟩ ?_
  clear hsz hdf s_0
  rintro a _ ⟨rfl, hsz, hdf, s_0, s_2⟩
  refine ow_then ?_
  refine wp_scope_end rfl rfl fun J' HJ => ?_
  refine wpSpine_seq rfl fun K hK2 => ?_
  refine ow_region [_] rfl (by intro o ho; simp only [List.mem_cons, List.not_mem_nil, or_false] at ho; subst ho; rfl) ?_
  refine ow_run 3 (.int .i64 (-1)) _ rfl (run_assignOp (eval_cst _ _)) ?_
  refine fresh (C := fun x W => wpRun _ [] x W _) (fun x X => _ = X ∧ x.tmps.size = 45 ∧ x.defers = [] ∧ x.tmps[0]? = some (.slice ao L.length cap) ∧ x.tmps[2]? = some (.bool false) ∧ x.tmps[3]? = some (.int .i64 (-1))) ⟨rfl, (by simp only [put_size]; exact hsz), (by simp only [put_defers]; exact hdf), (pf1 (by decide) s_0), (pf1 (by decide) s_2), (put_get _ _ _ (by rw [hsz]; decide))⟩ ?_
  clear hsz hdf s_0 s_2
  rintro a _ ⟨rfl, hsz, hdf, s_0, s_2, s_3⟩
  refine ow_then (hK2 _ _ ?_)
  refine wpSpine_seq rfl fun K hK4 => ?_
  refine wp_seq ?_
  refine ow_region [_, _, _] rfl (by intro o ho; simp only [List.mem_cons, List.not_mem_nil, or_false] at ho; rcases ho with rfl | rfl | rfl <;> rfl) ?_
  refine ow_run 6 (.slice ao L.length cap) _ rfl (run_moveOp (eval_of s_0)) ?_
  refine ow_run 7 (.int .i64 ((L.length : Nat) : Int)) _ rfl (run_lenOp Try.underlying48 (eval_of (put_get _ _ _ (by rw [hsz]; decide)))) ?_
  refine ow_run 8 (.bool (decide (16 < ((L.length : Nat) : Int)))) _ rfl (run_binOp (eval_of (put_get _ _ _ (by simp only [put_size]; rw [hsz]; decide))) (eval_cst _ _) (by simp [go_sem]) (by simp [go_sem])) ?_
  refine fresh (C := fun x W => wpRun _ [] x W _) (fun x X => _ = X ∧ x.tmps.size = 45 ∧ x.defers = [] ∧ x.tmps[0]? = some (.slice ao L.length cap) ∧ x.tmps[2]? = some (.bool false) ∧ x.tmps[3]? = some (.int .i64 (-1)) ∧ x.tmps[8]? = some (.bool (decide (16 < ((L.length : Nat) : Int))))) ⟨rfl, (by simp only [put_size]; exact hsz), (by simp only [put_defers]; exact hdf), (pf1 (by decide) (pf2 (by decide) s_0)), (pf1 (by decide) (pf2 (by decide) s_2)), (pf1 (by decide) (pf2 (by decide) s_3)), (put_get _ _ _ (by simp only [put_size]; rw [hsz]; decide))⟩ ?_
  clear hsz hdf s_0 s_2 s_3
  rintro a _ ⟨rfl, hsz, hdf, s_0, s_2, s_3, s_8⟩
  refine ow_then ?_
  rcases Bool.eq_false_or_eq_true ((decide (16 < ((L.length : Nat) : Int)))) with hb_6 | hb_6
  · skip
    refine ow_true (eval_of (flag_of s_8 hb_6)) ?_
    refine wp_goto ?_
    refine ow_then_goto (ow_jump (HJ _ _ ?_))
    refine wp_seq ?_
    refine ow_region [_, _] rfl (by intro o ho; simp only [List.mem_cons, List.not_mem_nil, or_false] at ho; rcases ho with rfl | rfl <;> rfl) ?_
    refine ow_run 44 (.bool false) _ rfl (run_moveOp (eval_of s_2)) ?_
    refine ow_run 2 (.bool false) _ rfl (run_assignOp (eval_of (put_get _ _ _ (by rw [hsz]; decide)))) ?_
    refine fresh (C := fun x W => wpRun _ [] x W _) (fun x X => _ = X ∧ x.tmps.size = 45 ∧ x.defers = [] ∧ x.tmps[2]? = some (.bool false)) ⟨rfl, (by simp only [put_size]; exact hsz), (by simp only [put_defers]; exact hdf), (put_get _ _ _ (by simp only [put_size]; rw [hsz]; decide))⟩ ?_
    clear hsz hdf s_0 s_2 s_3 s_8
    rintro a _ ⟨rfl, hsz, hdf, s_2⟩
    refine ow_then ?_
    refine wp_ret ?_
    refine ow_nogoto_ret ?_
    exact ow_ret1 rfl hdf s_2 ⟨by rw [show tabB L = false from (by have h := hb_6; simp only [decide_eq_true_eq] at h; exact tabB_long (by omega))], hb0⟩
  · skip
    refine ow_false (eval_of (flag_of s_8 hb_6)) ?_
    refine wp_skip ?_
    refine ow_then (hK4 _ _ ?_)
    refine wpSpine_seq rfl fun K hK8 => ?_
    refine wp_seq ?_
    refine ow_region [_, _, _] rfl (by intro o ho; simp only [List.mem_cons, List.not_mem_nil, or_false] at ho; rcases ho with rfl | rfl | rfl <;> rfl) ?_
    refine ow_run 9 (.slice ao L.length cap) _ rfl (run_moveOp (eval_of s_0)) ?_
    refine ow_run 10 (.int .i64 ((L.length : Nat) : Int)) _ rfl (run_lenOp Try.underlying48 (eval_of (put_get _ _ _ (by rw [hsz]; decide)))) ?_
    refine ow_run 11 (.int .i64 0) _ rfl (run_moveOp (eval_cst _ _)) ?_
    refine fresh (C := fun x W => wpRun _ [] x W _) (fun x X => _ = X ∧ x.tmps.size = 45 ∧ x.defers = [] ∧ x.tmps[2]? = some (.bool false) ∧ x.tmps[3]? = some (.int .i64 (-1)) ∧ x.tmps[9]? = some (.slice ao L.length cap) ∧ x.tmps[10]? = some (.int .i64 ((L.length : Nat) : Int)) ∧ x.tmps[11]? = some (.int .i64 0)) ⟨rfl, (by simp only [put_size]; exact hsz), (by simp only [put_defers]; exact hdf), (pf1 (by decide) (pf2 (by decide) s_2)), (pf1 (by decide) (pf2 (by decide) s_3)), (pf2 (by decide) (put_get _ _ _ (by rw [hsz]; decide))), (pf1 (by decide) (put_get _ _ _ (by simp only [put_size]; rw [hsz]; decide))), (put_get _ _ _ (by simp only [put_size]; rw [hsz]; decide))⟩ ?_
    clear hsz hdf s_0 s_2 s_3 s_8
    rintro a _ ⟨rfl, hsz, hdf, s_2, s_3, s_9, s_10, s_11⟩
    refine ow_then ?_
    refine wp_block ?_
    refine ow_loop (fun N a W => ∃ (k : Nat) (last : Int), N = L.length - k ∧ k ≤ L.length ∧ okB (-1) L = okB last (L.drop k) ∧ a.tmps.size = 45 ∧ a.defers = [] ∧ a.tmps[2]? = some (.bool false) ∧ a.tmps[3]? = some (.int .i64 last) ∧ a.tmps[9]? = some (.slice ao L.length cap) ∧ a.tmps[10]? = some (.int .i64 ((L.length : Nat) : Int)) ∧ a.tmps[11]? = some (.int .i64 ((k : Nat) : Int)) ∧ Below w.heap.size w W) _ ⟨0, (-1), rfl, (Nat.zero_le _), rfl, hsz, hdf, s_2, (by first | exact s_3 | (rw [s_3]; congr 2; first | rfl | omega | (push_cast; omega)) | (rw [s_3]; first | rfl | (simp; try omega))), s_9, s_10, (by first | exact s_11 | (rw [s_11]; congr 2; first | rfl | omega | (push_cast; omega)) | (rw [s_11]; first | rfl | (simp; try omega))), hb0⟩ ?_
    clear hsz hdf s_2 s_3 s_9 s_10 s_11
    rintro N a W10 ⟨k, last, rfl, hkl, hok, hsz, hdf, s_2, s_3, s_9, s_10, s_11, hbW10⟩
    intro K12 hK12
    refine wp_seq ?_
    refine ow_region [_] rfl (by intro o ho; simp only [List.mem_cons, List.not_mem_nil, or_false] at ho; subst ho; rfl) ?_
    refine ow_run 12 (.bool (decide (((k : Nat) : Int) < ((L.length : Nat) : Int)))) _ rfl (run_binOp (eval_of s_11) (eval_of s_10) (by simp [go_sem]) (by simp [go_sem])) ?_
    refine fresh (C := fun x W => wpRun _ [] x W _) (fun x X => _ = X ∧ x.tmps.size = 45 ∧ x.defers = [] ∧ x.tmps[2]? = some (.bool false) ∧ x.tmps[3]? = some (.int .i64 last) ∧ x.tmps[9]? = some (.slice ao L.length cap) ∧ x.tmps[10]? = some (.int .i64 ((L.length : Nat) : Int)) ∧ x.tmps[11]? = some (.int .i64 ((k : Nat) : Int)) ∧ x.tmps[12]? = some (.bool (decide (((k : Nat) : Int) < ((L.length : Nat) : Int))))) ⟨rfl, (by simp only [put_size]; exact hsz), (by simp only [put_defers]; exact hdf), (pf1 (by decide) s_2), (pf1 (by decide) s_3), (pf1 (by decide) s_9), (pf1 (by decide) s_10), (pf1 (by decide) s_11), (put_get _ _ _ (by rw [hsz]; decide))⟩ ?_
    clear hsz hdf s_2 s_9 s_10 s_11 s_3
    rintro a _ ⟨rfl, hsz, hdf, s_2, s_3, s_9, s_10, s_11, s_12⟩
    refine ow_then ?_
    refine wp_seq ?_
    rcases Bool.eq_false_or_eq_true ((decide (((k : Nat) : Int) < ((L.length : Nat) : Int)))) with hb_14 | hb_14
    · skip
      refine ow_true (eval_of (flag_of s_12 hb_14)) ?_
      refine wp_skip ?_
      refine ow_then ?_
      refine wp_seq ?_
      refine wp_block ?_
      refine wp_seq ?_
      refine ow_region [_, _, _, _] rfl (by intro o ho; simp only [List.mem_cons, List.not_mem_nil, or_false] at ho; rcases ho with rfl | rfl | rfl | rfl <;> rfl) ?_
      have hlt : k < L.length := by have h := hb_14; simp only [decide_eq_true_eq] at h; omega
      obtain ⟨b, off, hao, hbw, hBB⟩ := HB.out (by intro h; simp [h] at hlt)
      obtain ⟨q, hq⟩ : ∃ q, L[k]? = some q := ⟨_, List.getElem?_eq_getElem hlt⟩
      obtain ⟨c0, c1, c2⟩ := hBB k q hq
      clear hBB
      refine ow_run 13 (.pointer (some ⟨b, (off + k * 3), none⟩)) _ rfl (run_indexOp (eval_of s_9) (eval_of s_11) (run_indexNb ao b off L.length cap k hao hlt _)) ?_
      refine ow_run 14 (.agg #[.int .i64 q.ip, .int .i64 q.mac, .int .i64 q.age]) _ rfl (run_loadOp (eval_of (put_get _ _ _ (by rw [hsz]; decide))) (run_loadAt_mid W10 b (off + k * 3) 61 [.int .i64 q.ip, .int .i64 q.mac, .int .i64 q.age] _ (nb_range (hbW10.cell (p := ⟨b, off + k * 3, none⟩) hbw) (hbW10.cell (p := ⟨b, off + k * 3 + 1, none⟩) hbw) (hbW10.cell (p := ⟨b, off + k * 3 + 2, none⟩) hbw) c0 c1 c2) Try.underlying61 rfl (by kernel_rfl))) ?_
      obtain ⟨q15, hq15⟩ : ∃ x, x = W10.heap.size := ⟨_, rfl⟩
      refine ow_run 5 (.pointer (some ⟨q15, 0, none⟩)) (W10.alloc (.cells #[.int .i64 0, .int .i64 0, .int .i64 0] 61)) rfl (by rw [hq15]; exact (run_allocOp (by simp [go_sem, Instr.alloc]))) ?_
      have hqq15 : w.heap.size ≤ q15 := by rw [hq15]; exact hbW10.size
      refine fresh (C := fun x W => wpRun _ _ x W _) (fun x X => _ = x ∧ Below w.heap.size w X ∧ RowAt X q15 [.int .i64 0, .int .i64 0, .int .i64 0]) ⟨rfl, (hbW10.alloc hbW10.size _), (by rw [hq15]; exact rowAt_alloc _ [.int .i64 0, .int .i64 0, .int .i64 0] _)⟩ ?_
      rintro _ W16 ⟨rfl, hbW16, rW16_0⟩
      clear hq15
      refine ow_skip _ rfl (run_storeOp (eval_of (put_get _ _ _ (by simp only [put_size]; rw [hsz]; decide))) (eval_of (pf1 (by decide) (put_get _ _ _ (by simp only [put_size]; rw [hsz]; decide)))) (run_storeN (xs := [.int .i64 q.ip, .int .i64 q.mac, .int .i64 q.age]) rW16_0 (by simp) (by kernel_rfl) rfl)) ?_
      refine fresh (C := fun x W => wpRun _ _ x W _) (fun x X => _ = x ∧ Below w.heap.size w X ∧ RowAt X q15 [.int .i64 q.ip, .int .i64 q.mac, .int .i64 q.age]) ⟨rfl, (below_sets (by omega) _ _ _ hbW16), (RowAt.sets [.int .i64 q.ip, .int .i64 q.mac, .int .i64 q.age] 0 _ _ rW16_0 (by simp))⟩ ?_
      rintro _ W17 ⟨rfl, hbW17, rW17_0⟩
      refine fresh (C := fun x W => wpRun _ [] x W _) (fun x X => _ = X ∧ x.tmps.size = 45 ∧ x.defers = [] ∧ x.tmps[2]? = some (.bool false) ∧ x.tmps[3]? = some (.int .i64 last) ∧ x.tmps[5]? = some (.pointer (some ⟨q15, 0, none⟩)) ∧ x.tmps[9]? = some (.slice ao L.length cap) ∧ x.tmps[10]? = some (.int .i64 ((L.length : Nat) : Int)) ∧ x.tmps[11]? = some (.int .i64 ((k : Nat) : Int))) ⟨rfl, (by simp only [put_size]; exact hsz), (by simp only [put_defers]; exact hdf), (pf1 (by decide) (pf2 (by decide) s_2)), (pf1 (by decide) (pf2 (by decide) s_3)), (put_get _ _ _ (by simp only [put_size]; rw [hsz]; decide)), (pf1 (by decide) (pf2 (by decide) s_9)), (pf1 (by decide) (pf2 (by decide) s_10)), (pf1 (by decide) (pf2 (by decide) s_11))⟩ ?_
      clear hsz hdf s_2 s_3 s_9 s_10 s_11 s_12
      rintro a _ ⟨rfl, hsz, hdf, s_2, s_3, s_5, s_9, s_10, s_11⟩
      refine ow_then ?_
      refine wp_seq ?_
      refine wp_seq ?_
      refine owl_region [_, _, _, _, _, _, _, _, _, _, _, _, _, _, _, _, _, _, _, _, _, _, _, _, _, _] rfl ?_
      refine owl_run (wanted_none rfl) 15 (.pointer (some ⟨q15, 0, none⟩)) _ rfl (run_fieldAddr (eval_of s_5) (by simp [go_sem, Instr.fieldAt])) ?_
      refine owl_run (wanted_none rfl) 16 (.int .i64 q.ip) _ rfl (run_loadOp (eval_of (put_get _ _ _ (by rw [hsz]; decide))) (by simp [go_sem, Instr.loadAt, rW17_0.cell (j := 0) rfl])) ?_
      refine owl_run (wanted_none rfl) 17 (.int .i64 last) _ rfl (run_moveOp (eval_of (pf2 (by decide) s_3))) ?_
      refine owl_run (wanted_none rfl) 18 (.bool (decide (q.ip ≤ last))) _ rfl (run_binOp (eval_of (pf1 (by decide) (put_get _ _ _ (by simp only [put_size]; rw [hsz]; decide)))) (eval_of (put_get _ _ _ (by simp only [put_size]; rw [hsz]; decide))) (by simp [go_sem]) (by simp [go_sem])) ?_
      refine owl_run (wanted_none rfl) 19 (.bool (decide (q.ip ≤ last))) _ rfl (run_moveOp (eval_of (put_get _ _ _ (by simp only [put_size]; rw [hsz]; decide)))) ?_
      rcases Bool.eq_false_or_eq_true ((decide (q.ip ≤ last))) with hb_19 | hb_19
      · skip
        refine owg_no 4 19 false true rfl (by kernel_rfl) (flag_of (put_get _ _ _ (by simp only [put_size]; rw [hsz]; decide)) hb_19) (by decide) 20 rfl ?_
        refine owg_no 4 19 false true rfl (by kernel_rfl) (flag_of (pf1 (by decide) (put_get _ _ _ (by simp only [put_size]; rw [hsz]; decide))) hb_19) (by decide) 21 rfl ?_
        refine owg_no 4 19 false true rfl (by kernel_rfl) (flag_of (pf2 (by decide) (put_get _ _ _ (by simp only [put_size]; rw [hsz]; decide))) hb_19) (by decide) 22 rfl ?_
        refine owg_no 4 19 false true rfl (by kernel_rfl) (flag_of (pf1 (by decide) (pf2 (by decide) (put_get _ _ _ (by simp only [put_size]; rw [hsz]; decide)))) hb_19) (by decide) 23 rfl ?_
        refine owl_run (wanted_none rfl) 24 (.bool true) _ rfl (run_pickT (eval_cast (eval_of (pf4 (by decide) (put_get _ _ _ (by simp only [put_size]; rw [hsz]; decide)))) hb_19) (eval_cst _ _)) ?_
        refine owl_run (wanted_none rfl) 25 (.bool true) _ rfl (run_moveOp (eval_of (put_get _ _ _ (by simp only [put_size]; rw [hsz]; decide)))) ?_
        refine owg_no 10 25 false true rfl (by kernel_rfl) (put_get _ _ _ (by simp only [put_size]; rw [hsz]; decide)) (by decide) 26 rfl ?_
        refine owg_no 10 25 false true rfl (by kernel_rfl) (pf1 (by decide) (put_get _ _ _ (by simp only [put_size]; rw [hsz]; decide))) (by decide) 27 rfl ?_
        refine owg_no 10 25 false true rfl (by kernel_rfl) (pf2 (by decide) (put_get _ _ _ (by simp only [put_size]; rw [hsz]; decide))) (by decide) 28 rfl ?_
        refine owg_no 10 25 false true rfl (by kernel_rfl) (pf1 (by decide) (pf2 (by decide) (put_get _ _ _ (by simp only [put_size]; rw [hsz]; decide)))) (by decide) 29 rfl ?_
        refine owl_run (wanted_none rfl) 30 (.bool true) _ rfl (run_pickT (eval_of (pf4 (by decide) (put_get _ _ _ (by simp only [put_size]; rw [hsz]; decide)))) (eval_cst _ _)) ?_
        refine owl_run (wanted_none rfl) 31 (.bool true) _ rfl (run_moveOp (eval_of (put_get _ _ _ (by simp only [put_size]; rw [hsz]; decide)))) ?_
        refine owg_no 16 31 false true rfl (by kernel_rfl) (put_get _ _ _ (by simp only [put_size]; rw [hsz]; decide)) (by decide) 32 rfl ?_
        refine owg_no 16 31 false true rfl (by kernel_rfl) (pf1 (by decide) (put_get _ _ _ (by simp only [put_size]; rw [hsz]; decide))) (by decide) 33 rfl ?_
        refine owg_no 16 31 false true rfl (by kernel_rfl) (pf2 (by decide) (put_get _ _ _ (by simp only [put_size]; rw [hsz]; decide))) (by decide) 34 rfl ?_
        refine owl_run (wanted_none rfl) 35 (.bool true) _ rfl (run_pickT (eval_of (pf1 (by decide) (pf2 (by decide) (put_get _ _ _ (by simp only [put_size]; rw [hsz]; decide))))) (eval_cst _ _)) ?_
        refine owl_run (wanted_none rfl) 36 (.bool true) _ rfl (run_moveOp (eval_of (put_get _ _ _ (by simp only [put_size]; rw [hsz]; decide)))) ?_
        refine owg_no 21 36 false true rfl (by kernel_rfl) (put_get _ _ _ (by simp only [put_size]; rw [hsz]; decide)) (by decide) 37 rfl ?_
        refine owg_no 21 36 false true rfl (by kernel_rfl) (pf1 (by decide) (put_get _ _ _ (by simp only [put_size]; rw [hsz]; decide))) (by decide) 38 rfl ?_
        refine owg_no 21 36 false true rfl (by kernel_rfl) (pf2 (by decide) (put_get _ _ _ (by simp only [put_size]; rw [hsz]; decide))) (by decide) 39 rfl ?_
        refine owl_run (wanted_none rfl) 40 (.bool true) _ rfl (run_pickT (eval_of (pf1 (by decide) (pf2 (by decide) (put_get _ _ _ (by simp only [put_size]; rw [hsz]; decide))))) (eval_cst _ _)) ?_
        refine fresh (C := fun x W => WL _ _ _ [] x W) (fun x X => _ = X ∧ x.tmps.size = 45 ∧ x.defers = [] ∧ x.tmps[2]? = some (.bool false) ∧ x.tmps[5]? = some (.pointer (some ⟨q15, 0, none⟩)) ∧ x.tmps[9]? = some (.slice ao L.length cap) ∧ x.tmps[10]? = some (.int .i64 ((L.length : Nat) : Int)) ∧ x.tmps[11]? = some (.int .i64 ((k : Nat) : Int)) ∧ x.tmps[40]? = some (.bool true)) ⟨rfl, (by simp only [put_size]; exact hsz), (by simp only [put_defers]; exact hdf), (pf2 (by decide) (pf8 (by decide) (pf16 (by decide) s_2))), (pf2 (by decide) (pf8 (by decide) (pf16 (by decide) s_5))), (pf2 (by decide) (pf8 (by decide) (pf16 (by decide) s_9))), (pf2 (by decide) (pf8 (by decide) (pf16 (by decide) s_10))), (pf2 (by decide) (pf8 (by decide) (pf16 (by decide) s_11))), (put_get _ _ _ (by simp only [put_size]; rw [hsz]; decide))⟩ ?_
        clear hsz hdf s_2 s_3 s_5 s_9 s_10 s_11
        rintro a _ ⟨rfl, hsz, hdf, s_2, s_5, s_9, s_10, s_11, s_40⟩
        refine wl_done ?_
        refine ow_then ?_
        refine ow_true (eval_of s_40) ?_
        refine wp_goto ?_
        refine ow_then_goto ?_
        refine ow_blk_goto _ ?_
        refine ow_then_goto ?_
        refine ow_then_goto ?_
        refine ow_blk_goto _ ?_
        refine ow_then_goto (ow_jump (HJ _ _ ?_))
        refine wp_seq ?_
        refine ow_region [_, _] rfl (by intro o ho; simp only [List.mem_cons, List.not_mem_nil, or_false] at ho; rcases ho with rfl | rfl <;> rfl) ?_
        refine ow_run 44 (.bool false) _ rfl (run_moveOp (eval_of s_2)) ?_
        refine ow_run 2 (.bool false) _ rfl (run_assignOp (eval_of (put_get _ _ _ (by rw [hsz]; decide)))) ?_
        refine fresh (C := fun x W => wpRun _ [] x W _) (fun x X => _ = X ∧ x.tmps.size = 45 ∧ x.defers = [] ∧ x.tmps[2]? = some (.bool false)) ⟨rfl, (by simp only [put_size]; exact hsz), (by simp only [put_defers]; exact hdf), (put_get _ _ _ (by simp only [put_size]; rw [hsz]; decide))⟩ ?_
        clear hsz hdf s_2 s_5 s_9 s_10 s_11 s_40
        rintro a _ ⟨rfl, hsz, hdf, s_2⟩
        refine ow_then ?_
        refine wp_ret ?_
        refine ow_nogoto_ret ?_
        exact ow_ret1 rfl hdf s_2 ⟨by rw [show tabB L = false from ((tabB_short (by have h := hb_6; simp only [decide_eq_false_iff_not] at h; omega)).trans (hok.trans (by rw [drop_cons hq]; exact okB_bad0 hb_19)))], hbW17⟩
      · skip
        refine owg_run 4 19 false rfl (by kernel_rfl) (flag_of (put_get _ _ _ (by simp only [put_size]; rw [hsz]; decide)) hb_19) 20 (.pointer (some ⟨q15, 0, none⟩)) _ rfl (run_fieldAddr (eval_of (pf1 (by decide) (pf4 (by decide) s_5))) (by simp [go_sem, Instr.fieldAt])) ?_
        refine owg_run 4 19 false rfl (by kernel_rfl) (flag_of (pf1 (by decide) (put_get _ _ _ (by simp only [put_size]; rw [hsz]; decide))) hb_19) 21 (.int .i64 q.ip) _ rfl (run_loadOp (eval_of (put_get _ _ _ (by simp only [put_size]; rw [hsz]; decide))) (by simp [go_sem, Instr.loadAt, rW17_0.cell (j := 0) rfl])) ?_
        refine owg_call 4 19 false rfl (by kernel_rfl) (flag_of (pf2 (by decide) (put_get _ _ _ (by simp only [put_size]; rw [hsz]; decide))) hb_19) 22 (fun v X => v = .bool (ipB q.ip) ∧ W17 = X) rfl _ _ (run_callOp Try.func41 rfl rfl (arr1 (eval_of (put_get _ _ _ (by simp only [put_size]; rw [hsz]; decide))))) ((isIP_any _ _).mono fun e X h => ⟨_, h.1, rfl, h.2⟩) ?_
        rintro _ _ ⟨rfl, rfl⟩
        refine owg_run 4 19 false rfl (by kernel_rfl) (flag_of (pf1 (by decide) (pf2 (by decide) (put_get _ _ _ (by simp only [put_size]; rw [hsz]; decide)))) hb_19) 23 (.bool (!(ipB q.ip))) _ rfl (run_notOp (eval_of (put_get _ _ _ (by simp only [put_size]; rw [hsz]; decide)))) ?_
        refine owl_run (wanted_none rfl) 24 (.bool (!(ipB q.ip))) _ rfl (run_pickF (eval_cast (eval_of (pf4 (by decide) (put_get _ _ _ (by simp only [put_size]; rw [hsz]; decide)))) hb_19) (eval_of (put_get _ _ _ (by simp only [put_size]; rw [hsz]; decide)))) ?_
        refine owl_run (wanted_none rfl) 25 (.bool (!(ipB q.ip))) _ rfl (run_moveOp (eval_of (put_get _ _ _ (by simp only [put_size]; rw [hsz]; decide)))) ?_
        rcases Bool.eq_false_or_eq_true ((ipB q.ip)) with hb_22 | hb_22
        · skip
          refine owg_run 10 25 false rfl (by kernel_rfl) (flag_of (put_get _ _ _ (by simp only [put_size]; rw [hsz]; decide)) (not_of hb_22)) 26 (.pointer (some ⟨q15, 1, none⟩)) _ rfl (run_fieldAddr (eval_of (pf1 (by decide) (pf2 (by decide) (pf8 (by decide) s_5)))) (by simp [go_sem, Instr.fieldAt])) ?_
          refine owg_run 10 25 false rfl (by kernel_rfl) (flag_of (pf1 (by decide) (put_get _ _ _ (by simp only [put_size]; rw [hsz]; decide))) (not_of hb_22)) 27 (.int .i64 q.mac) _ rfl (run_loadOp (eval_of (put_get _ _ _ (by simp only [put_size]; rw [hsz]; decide))) (by simp [go_sem, Instr.loadAt, rW17_0.cell (j := 1) rfl])) ?_
          refine owg_call 10 25 false rfl (by kernel_rfl) (flag_of (pf2 (by decide) (put_get _ _ _ (by simp only [put_size]; rw [hsz]; decide))) (not_of hb_22)) 28 (fun v X => v = .bool (macB q.mac) ∧ W17 = X) rfl _ _ (run_callOp Try.func40 rfl rfl (arr1 (eval_of (put_get _ _ _ (by simp only [put_size]; rw [hsz]; decide))))) ((isMac_any _ _).mono fun e X h => ⟨_, h.1, rfl, h.2⟩) ?_
          rintro _ _ ⟨rfl, rfl⟩
          refine owg_run 10 25 false rfl (by kernel_rfl) (flag_of (pf1 (by decide) (pf2 (by decide) (put_get _ _ _ (by simp only [put_size]; rw [hsz]; decide)))) (not_of hb_22)) 29 (.bool (!(macB q.mac))) _ rfl (run_notOp (eval_of (put_get _ _ _ (by simp only [put_size]; rw [hsz]; decide)))) ?_
          refine owl_run (wanted_none rfl) 30 (.bool (!(macB q.mac))) _ rfl (run_pickF (eval_cast (eval_of (pf4 (by decide) (put_get _ _ _ (by simp only [put_size]; rw [hsz]; decide)))) (not_of hb_22)) (eval_of (put_get _ _ _ (by simp only [put_size]; rw [hsz]; decide)))) ?_
          refine owl_run (wanted_none rfl) 31 (.bool (!(macB q.mac))) _ rfl (run_moveOp (eval_of (put_get _ _ _ (by simp only [put_size]; rw [hsz]; decide)))) ?_
          rcases Bool.eq_false_or_eq_true ((macB q.mac)) with hb_23 | hb_23
          · skip
            refine owg_run 16 31 false rfl (by kernel_rfl) (flag_of (put_get _ _ _ (by simp only [put_size]; rw [hsz]; decide)) (not_of hb_23)) 32 (.pointer (some ⟨q15, 2, none⟩)) _ rfl (run_fieldAddr (eval_of (pf1 (by decide) (pf16 (by decide) s_5))) (by simp [go_sem, Instr.fieldAt])) ?_
            refine owg_run 16 31 false rfl (by kernel_rfl) (flag_of (pf1 (by decide) (put_get _ _ _ (by simp only [put_size]; rw [hsz]; decide))) (not_of hb_23)) 33 (.int .i64 q.age) _ rfl (run_loadOp (eval_of (put_get _ _ _ (by simp only [put_size]; rw [hsz]; decide))) (by simp [go_sem, Instr.loadAt, rW17_0.cell (j := 2) rfl])) ?_
            refine owg_run 16 31 false rfl (by kernel_rfl) (flag_of (pf2 (by decide) (put_get _ _ _ (by simp only [put_size]; rw [hsz]; decide))) (not_of hb_23)) 34 (.bool (decide (q.age < 0))) _ rfl (run_binOp (eval_of (put_get _ _ _ (by simp only [put_size]; rw [hsz]; decide))) (eval_cst _ _) (by simp [go_sem]) (by simp [go_sem])) ?_
            refine owl_run (wanted_none rfl) 35 (.bool (decide (q.age < 0))) _ rfl (run_pickF (eval_cast (eval_of (pf1 (by decide) (pf2 (by decide) (put_get _ _ _ (by simp only [put_size]; rw [hsz]; decide))))) (not_of hb_23)) (eval_of (put_get _ _ _ (by simp only [put_size]; rw [hsz]; decide)))) ?_
            refine owl_run (wanted_none rfl) 36 (.bool (decide (q.age < 0))) _ rfl (run_moveOp (eval_of (put_get _ _ _ (by simp only [put_size]; rw [hsz]; decide)))) ?_
            rcases Bool.eq_false_or_eq_true ((decide (q.age < 0))) with hb_24 | hb_24
            · skip
              refine owg_no 21 36 false true rfl (by kernel_rfl) (flag_of (put_get _ _ _ (by simp only [put_size]; rw [hsz]; decide)) hb_24) (by decide) 37 rfl ?_
              refine owg_no 21 36 false true rfl (by kernel_rfl) (flag_of (pf1 (by decide) (put_get _ _ _ (by simp only [put_size]; rw [hsz]; decide))) hb_24) (by decide) 38 rfl ?_
              refine owg_no 21 36 false true rfl (by kernel_rfl) (flag_of (pf2 (by decide) (put_get _ _ _ (by simp only [put_size]; rw [hsz]; decide))) hb_24) (by decide) 39 rfl ?_
              refine owl_run (wanted_none rfl) 40 (.bool true) _ rfl (run_pickT (eval_cast (eval_of (pf1 (by decide) (pf2 (by decide) (put_get _ _ _ (by simp only [put_size]; rw [hsz]; decide))))) hb_24) (eval_cst _ _)) ?_
              refine fresh (C := fun x W => WL _ _ _ [] x W) (fun x X => _ = X ∧ x.tmps.size = 45 ∧ x.defers = [] ∧ x.tmps[2]? = some (.bool false) ∧ x.tmps[5]? = some (.pointer (some ⟨q15, 0, none⟩)) ∧ x.tmps[9]? = some (.slice ao L.length cap) ∧ x.tmps[10]? = some (.int .i64 ((L.length : Nat) : Int)) ∧ x.tmps[11]? = some (.int .i64 ((k : Nat) : Int)) ∧ x.tmps[40]? = some (.bool true)) ⟨rfl, (by simp only [put_size]; exact hsz), (by simp only [put_defers]; exact hdf), (pf2 (by decide) (pf8 (by decide) (pf16 (by decide) s_2))), (pf2 (by decide) (pf8 (by decide) (pf16 (by decide) s_5))), (pf2 (by decide) (pf8 (by decide) (pf16 (by decide) s_9))), (pf2 (by decide) (pf8 (by decide) (pf16 (by decide) s_10))), (pf2 (by decide) (pf8 (by decide) (pf16 (by decide) s_11))), (put_get _ _ _ (by simp only [put_size]; rw [hsz]; decide))⟩ ?_
              clear hsz hdf s_2 s_3 s_5 s_9 s_10 s_11
              rintro a _ ⟨rfl, hsz, hdf, s_2, s_5, s_9, s_10, s_11, s_40⟩
              refine wl_done ?_
              refine ow_then ?_
              refine ow_true (eval_of s_40) ?_
              refine wp_goto ?_
              refine ow_then_goto ?_
              refine ow_blk_goto _ ?_
              refine ow_then_goto ?_
              refine ow_then_goto ?_
              refine ow_blk_goto _ ?_
              refine ow_then_goto (ow_jump (HJ _ _ ?_))
              refine wp_seq ?_
              refine ow_region [_, _] rfl (by intro o ho; simp only [List.mem_cons, List.not_mem_nil, or_false] at ho; rcases ho with rfl | rfl <;> rfl) ?_
              refine ow_run 44 (.bool false) _ rfl (run_moveOp (eval_of s_2)) ?_
              refine ow_run 2 (.bool false) _ rfl (run_assignOp (eval_of (put_get _ _ _ (by rw [hsz]; decide)))) ?_
              refine fresh (C := fun x W => wpRun _ [] x W _) (fun x X => _ = X ∧ x.tmps.size = 45 ∧ x.defers = [] ∧ x.tmps[2]? = some (.bool false)) ⟨rfl, (by simp only [put_size]; exact hsz), (by simp only [put_defers]; exact hdf), (put_get _ _ _ (by simp only [put_size]; rw [hsz]; decide))⟩ ?_
              clear hsz hdf s_2 s_5 s_9 s_10 s_11 s_40
              rintro a _ ⟨rfl, hsz, hdf, s_2⟩
              refine ow_then ?_
              refine wp_ret ?_
              refine ow_nogoto_ret ?_
              exact ow_ret1 rfl hdf s_2 ⟨by rw [show tabB L = false from ((tabB_short (by have h := hb_6; simp only [decide_eq_false_iff_not] at h; omega)).trans (hok.trans (by rw [drop_cons hq]; exact okB_bad3 hb_24)))], hbW17⟩
            · skip
              refine owg_run 21 36 false rfl (by kernel_rfl) (flag_of (put_get _ _ _ (by simp only [put_size]; rw [hsz]; decide)) hb_24) 37 (.pointer (some ⟨q15, 2, none⟩)) _ rfl (run_fieldAddr (eval_of (pf2 (by decide) (pf4 (by decide) (pf16 (by decide) s_5)))) (by simp [go_sem, Instr.fieldAt])) ?_
              refine owg_run 21 36 false rfl (by kernel_rfl) (flag_of (pf1 (by decide) (put_get _ _ _ (by simp only [put_size]; rw [hsz]; decide))) hb_24) 38 (.int .i64 q.age) _ rfl (run_loadOp (eval_of (put_get _ _ _ (by simp only [put_size]; rw [hsz]; decide))) (by simp [go_sem, Instr.loadAt, rW17_0.cell (j := 2) rfl])) ?_
              refine owg_run 21 36 false rfl (by kernel_rfl) (flag_of (pf2 (by decide) (put_get _ _ _ (by simp only [put_size]; rw [hsz]; decide))) hb_24) 39 (.bool (decide (600 < q.age))) _ rfl (run_binOp (eval_of (put_get _ _ _ (by simp only [put_size]; rw [hsz]; decide))) (eval_cst _ _) (by simp [go_sem]) (by simp [go_sem])) ?_
              refine owl_run (wanted_none rfl) 40 (.bool (decide (600 < q.age))) _ rfl (run_pickF (eval_cast (eval_of (pf1 (by decide) (pf2 (by decide) (put_get _ _ _ (by simp only [put_size]; rw [hsz]; decide))))) hb_24) (eval_of (put_get _ _ _ (by simp only [put_size]; rw [hsz]; decide)))) ?_
              refine fresh (C := fun x W => WL _ _ _ [] x W) (fun x X => _ = X ∧ x.tmps.size = 45 ∧ x.defers = [] ∧ x.tmps[2]? = some (.bool false) ∧ x.tmps[5]? = some (.pointer (some ⟨q15, 0, none⟩)) ∧ x.tmps[9]? = some (.slice ao L.length cap) ∧ x.tmps[10]? = some (.int .i64 ((L.length : Nat) : Int)) ∧ x.tmps[11]? = some (.int .i64 ((k : Nat) : Int)) ∧ x.tmps[40]? = some (.bool (decide (600 < q.age)))) ⟨rfl, (by simp only [put_size]; exact hsz), (by simp only [put_defers]; exact hdf), (pf2 (by decide) (pf8 (by decide) (pf16 (by decide) s_2))), (pf2 (by decide) (pf8 (by decide) (pf16 (by decide) s_5))), (pf2 (by decide) (pf8 (by decide) (pf16 (by decide) s_9))), (pf2 (by decide) (pf8 (by decide) (pf16 (by decide) s_10))), (pf2 (by decide) (pf8 (by decide) (pf16 (by decide) s_11))), (put_get _ _ _ (by simp only [put_size]; rw [hsz]; decide))⟩ ?_
              clear hsz hdf s_2 s_3 s_5 s_9 s_10 s_11
              rintro a _ ⟨rfl, hsz, hdf, s_2, s_5, s_9, s_10, s_11, s_40⟩
              refine wl_done ?_
              refine ow_then ?_
              rcases Bool.eq_false_or_eq_true ((decide (600 < q.age))) with hb_28 | hb_28
              · skip
                refine ow_true (eval_of (flag_of s_40 hb_28)) ?_
                refine wp_goto ?_
                refine ow_then_goto ?_
                refine ow_blk_goto _ ?_
                refine ow_then_goto ?_
                refine ow_then_goto ?_
                refine ow_blk_goto _ ?_
                refine ow_then_goto (ow_jump (HJ _ _ ?_))
                refine wp_seq ?_
                refine ow_region [_, _] rfl (by intro o ho; simp only [List.mem_cons, List.not_mem_nil, or_false] at ho; rcases ho with rfl | rfl <;> rfl) ?_
                refine ow_run 44 (.bool false) _ rfl (run_moveOp (eval_of s_2)) ?_
                refine ow_run 2 (.bool false) _ rfl (run_assignOp (eval_of (put_get _ _ _ (by rw [hsz]; decide)))) ?_
                refine fresh (C := fun x W => wpRun _ [] x W _) (fun x X => _ = X ∧ x.tmps.size = 45 ∧ x.defers = [] ∧ x.tmps[2]? = some (.bool false)) ⟨rfl, (by simp only [put_size]; exact hsz), (by simp only [put_defers]; exact hdf), (put_get _ _ _ (by simp only [put_size]; rw [hsz]; decide))⟩ ?_
                clear hsz hdf s_2 s_5 s_9 s_10 s_11 s_40
                rintro a _ ⟨rfl, hsz, hdf, s_2⟩
                refine ow_then ?_
                refine wp_ret ?_
                refine ow_nogoto_ret ?_
                exact ow_ret1 rfl hdf s_2 ⟨by rw [show tabB L = false from ((tabB_short (by have h := hb_6; simp only [decide_eq_false_iff_not] at h; omega)).trans (hok.trans (by rw [drop_cons hq]; exact okB_bad4 hb_28)))], hbW17⟩
              · skip
                refine ow_false (eval_of (flag_of s_40 hb_28)) ?_
                refine wp_skip ?_
                refine ow_then ?_
                refine ow_region [_, _, _] rfl (by intro o ho; simp only [List.mem_cons, List.not_mem_nil, or_false] at ho; rcases ho with rfl | rfl | rfl <;> rfl) ?_
                refine ow_run 41 (.pointer (some ⟨q15, 0, none⟩)) _ rfl (run_fieldAddr (eval_of s_5) (by simp [go_sem, Instr.fieldAt])) ?_
                refine ow_run 42 (.int .i64 q.ip) _ rfl (run_loadOp (eval_of (put_get _ _ _ (by rw [hsz]; decide))) (by simp [go_sem, Instr.loadAt, rW17_0.cell (j := 0) rfl])) ?_
                refine ow_run 3 (.int .i64 q.ip) _ rfl (run_assignOp (eval_of (put_get _ _ _ (by simp only [put_size]; rw [hsz]; decide)))) ?_
                refine fresh (C := fun x W => wpRun _ [] x W _) (fun x X => _ = X ∧ x.tmps.size = 45 ∧ x.defers = [] ∧ x.tmps[2]? = some (.bool false) ∧ x.tmps[3]? = some (.int .i64 q.ip) ∧ x.tmps[9]? = some (.slice ao L.length cap) ∧ x.tmps[10]? = some (.int .i64 ((L.length : Nat) : Int)) ∧ x.tmps[11]? = some (.int .i64 ((k : Nat) : Int))) ⟨rfl, (by simp only [put_size]; exact hsz), (by simp only [put_defers]; exact hdf), (pf1 (by decide) (pf2 (by decide) s_2)), (put_get _ _ _ (by simp only [put_size]; rw [hsz]; decide)), (pf1 (by decide) (pf2 (by decide) s_9)), (pf1 (by decide) (pf2 (by decide) s_10)), (pf1 (by decide) (pf2 (by decide) s_11))⟩ ?_
                clear hsz hdf s_2 s_5 s_9 s_10 s_11 s_40
                rintro a _ ⟨rfl, hsz, hdf, s_2, s_3, s_9, s_10, s_11⟩
                refine ow_blk _ ?_
                refine ow_then ?_
                refine ow_region [_, _] rfl (by intro o ho; simp only [List.mem_cons, List.not_mem_nil, or_false] at ho; rcases ho with rfl | rfl <;> rfl) ?_
                refine ow_run 43 (.int .i64 (((k : Nat) : Int) + 1)) _ rfl (run_binOp (eval_of s_11) (eval_cst _ _) (by simp [go_sem]) (addI _ _ _ (by omega) (by omega))) ?_
                refine ow_run 11 (.int .i64 (((k : Nat) : Int) + 1)) _ rfl (run_moveOp (eval_of (put_get _ _ _ (by rw [hsz]; decide)))) ?_
                refine fresh (C := fun x W => wpRun _ [] x W _) (fun x X => _ = X ∧ x.tmps.size = 45 ∧ x.defers = [] ∧ x.tmps[2]? = some (.bool false) ∧ x.tmps[3]? = some (.int .i64 q.ip) ∧ x.tmps[9]? = some (.slice ao L.length cap) ∧ x.tmps[10]? = some (.int .i64 ((L.length : Nat) : Int)) ∧ x.tmps[11]? = some (.int .i64 (((k : Nat) : Int) + 1))) ⟨rfl, (by simp only [put_size]; exact hsz), (by simp only [put_defers]; exact hdf), (pf2 (by decide) s_2), (pf2 (by decide) s_3), (pf2 (by decide) s_9), (pf2 (by decide) s_10), (put_get _ _ _ (by simp only [put_size]; rw [hsz]; decide))⟩ ?_
                clear hsz hdf s_2 s_3 s_9 s_10 s_11
                rintro a _ ⟨rfl, hsz, hdf, s_2, s_3, s_9, s_10, s_11⟩
                exact ow_then (hK12 _ _ _ (by omega) ⟨(k + 1), q.ip, rfl, (by omega), (by rw [hok, drop_cons hq]; exact okB_cons hb_19 hb_22 hb_23 hb_24 hb_28), hsz, hdf, s_2, (by first | exact s_3 | (rw [s_3]; congr 2; first | rfl | omega | (push_cast; omega)) | (rw [s_3]; first | rfl | (simp; try omega))), s_9, s_10, (by first | exact s_11 | (rw [s_11]; congr 2; first | rfl | omega | (push_cast; omega)) | (rw [s_11]; first | rfl | (simp; try omega))), hbW17⟩)
          · skip
            refine owg_no 16 31 false true rfl (by kernel_rfl) (flag_of (put_get _ _ _ (by simp only [put_size]; rw [hsz]; decide)) (not_of hb_23)) (by decide) 32 rfl ?_
            refine owg_no 16 31 false true rfl (by kernel_rfl) (flag_of (pf1 (by decide) (put_get _ _ _ (by simp only [put_size]; rw [hsz]; decide))) (not_of hb_23)) (by decide) 33 rfl ?_
            refine owg_no 16 31 false true rfl (by kernel_rfl) (flag_of (pf2 (by decide) (put_get _ _ _ (by simp only [put_size]; rw [hsz]; decide))) (not_of hb_23)) (by decide) 34 rfl ?_
            refine owl_run (wanted_none rfl) 35 (.bool true) _ rfl (run_pickT (eval_cast (eval_of (pf1 (by decide) (pf2 (by decide) (put_get _ _ _ (by simp only [put_size]; rw [hsz]; decide))))) (not_of hb_23)) (eval_cst _ _)) ?_
            refine owl_run (wanted_none rfl) 36 (.bool true) _ rfl (run_moveOp (eval_of (put_get _ _ _ (by simp only [put_size]; rw [hsz]; decide)))) ?_
            refine owg_no 21 36 false true rfl (by kernel_rfl) (put_get _ _ _ (by simp only [put_size]; rw [hsz]; decide)) (by decide) 37 rfl ?_
            refine owg_no 21 36 false true rfl (by kernel_rfl) (pf1 (by decide) (put_get _ _ _ (by simp only [put_size]; rw [hsz]; decide))) (by decide) 38 rfl ?_
            refine owg_no 21 36 false true rfl (by kernel_rfl) (pf2 (by decide) (put_get _ _ _ (by simp only [put_size]; rw [hsz]; decide))) (by decide) 39 rfl ?_
            refine owl_run (wanted_none rfl) 40 (.bool true) _ rfl (run_pickT (eval_of (pf1 (by decide) (pf2 (by decide) (put_get _ _ _ (by simp only [put_size]; rw [hsz]; decide))))) (eval_cst _ _)) ?_
            refine fresh (C := fun x W => WL _ _ _ [] x W) (fun x X => _ = X ∧ x.tmps.size = 45 ∧ x.defers = [] ∧ x.tmps[2]? = some (.bool false) ∧ x.tmps[5]? = some (.pointer (some ⟨q15, 0, none⟩)) ∧ x.tmps[9]? = some (.slice ao L.length cap) ∧ x.tmps[10]? = some (.int .i64 ((L.length : Nat) : Int)) ∧ x.tmps[11]? = some (.int .i64 ((k : Nat) : Int)) ∧ x.tmps[40]? = some (.bool true)) ⟨rfl, (by simp only [put_size]; exact hsz), (by simp only [put_defers]; exact hdf), (pf2 (by decide) (pf8 (by decide) (pf16 (by decide) s_2))), (pf2 (by decide) (pf8 (by decide) (pf16 (by decide) s_5))), (pf2 (by decide) (pf8 (by decide) (pf16 (by decide) s_9))), (pf2 (by decide) (pf8 (by decide) (pf16 (by decide) s_10))), (pf2 (by decide) (pf8 (by decide) (pf16 (by decide) s_11))), (put_get _ _ _ (by simp only [put_size]; rw [hsz]; decide))⟩ ?_
            clear hsz hdf s_2 s_3 s_5 s_9 s_10 s_11
            rintro a _ ⟨rfl, hsz, hdf, s_2, s_5, s_9, s_10, s_11, s_40⟩
            refine wl_done ?_
            refine ow_then ?_
            refine ow_true (eval_of s_40) ?_
            refine wp_goto ?_
            refine ow_then_goto ?_
            refine ow_blk_goto _ ?_
            refine ow_then_goto ?_
            refine ow_then_goto ?_
            refine ow_blk_goto _ ?_
            refine ow_then_goto (ow_jump (HJ _ _ ?_))
            refine wp_seq ?_
            refine ow_region [_, _] rfl (by intro o ho; simp only [List.mem_cons, List.not_mem_nil, or_false] at ho; rcases ho with rfl | rfl <;> rfl) ?_
            refine ow_run 44 (.bool false) _ rfl (run_moveOp (eval_of s_2)) ?_
            refine ow_run 2 (.bool false) _ rfl (run_assignOp (eval_of (put_get _ _ _ (by rw [hsz]; decide)))) ?_
            refine fresh (C := fun x W => wpRun _ [] x W _) (fun x X => _ = X ∧ x.tmps.size = 45 ∧ x.defers = [] ∧ x.tmps[2]? = some (.bool false)) ⟨rfl, (by simp only [put_size]; exact hsz), (by simp only [put_defers]; exact hdf), (put_get _ _ _ (by simp only [put_size]; rw [hsz]; decide))⟩ ?_
            clear hsz hdf s_2 s_5 s_9 s_10 s_11 s_40
            rintro a _ ⟨rfl, hsz, hdf, s_2⟩
            refine ow_then ?_
            refine wp_ret ?_
            refine ow_nogoto_ret ?_
            exact ow_ret1 rfl hdf s_2 ⟨by rw [show tabB L = false from ((tabB_short (by have h := hb_6; simp only [decide_eq_false_iff_not] at h; omega)).trans (hok.trans (by rw [drop_cons hq]; exact okB_bad2 hb_23)))], hbW17⟩
        · skip
          refine owg_no 10 25 false true rfl (by kernel_rfl) (flag_of (put_get _ _ _ (by simp only [put_size]; rw [hsz]; decide)) (not_of hb_22)) (by decide) 26 rfl ?_
          refine owg_no 10 25 false true rfl (by kernel_rfl) (flag_of (pf1 (by decide) (put_get _ _ _ (by simp only [put_size]; rw [hsz]; decide))) (not_of hb_22)) (by decide) 27 rfl ?_
          refine owg_no 10 25 false true rfl (by kernel_rfl) (flag_of (pf2 (by decide) (put_get _ _ _ (by simp only [put_size]; rw [hsz]; decide))) (not_of hb_22)) (by decide) 28 rfl ?_
          refine owg_no 10 25 false true rfl (by kernel_rfl) (flag_of (pf1 (by decide) (pf2 (by decide) (put_get _ _ _ (by simp only [put_size]; rw [hsz]; decide)))) (not_of hb_22)) (by decide) 29 rfl ?_
          refine owl_run (wanted_none rfl) 30 (.bool true) _ rfl (run_pickT (eval_cast (eval_of (pf4 (by decide) (put_get _ _ _ (by simp only [put_size]; rw [hsz]; decide)))) (not_of hb_22)) (eval_cst _ _)) ?_
          refine owl_run (wanted_none rfl) 31 (.bool true) _ rfl (run_moveOp (eval_of (put_get _ _ _ (by simp only [put_size]; rw [hsz]; decide)))) ?_
          refine owg_no 16 31 false true rfl (by kernel_rfl) (put_get _ _ _ (by simp only [put_size]; rw [hsz]; decide)) (by decide) 32 rfl ?_
          refine owg_no 16 31 false true rfl (by kernel_rfl) (pf1 (by decide) (put_get _ _ _ (by simp only [put_size]; rw [hsz]; decide))) (by decide) 33 rfl ?_
          refine owg_no 16 31 false true rfl (by kernel_rfl) (pf2 (by decide) (put_get _ _ _ (by simp only [put_size]; rw [hsz]; decide))) (by decide) 34 rfl ?_
          refine owl_run (wanted_none rfl) 35 (.bool true) _ rfl (run_pickT (eval_of (pf1 (by decide) (pf2 (by decide) (put_get _ _ _ (by simp only [put_size]; rw [hsz]; decide))))) (eval_cst _ _)) ?_
          refine owl_run (wanted_none rfl) 36 (.bool true) _ rfl (run_moveOp (eval_of (put_get _ _ _ (by simp only [put_size]; rw [hsz]; decide)))) ?_
          refine owg_no 21 36 false true rfl (by kernel_rfl) (put_get _ _ _ (by simp only [put_size]; rw [hsz]; decide)) (by decide) 37 rfl ?_
          refine owg_no 21 36 false true rfl (by kernel_rfl) (pf1 (by decide) (put_get _ _ _ (by simp only [put_size]; rw [hsz]; decide))) (by decide) 38 rfl ?_
          refine owg_no 21 36 false true rfl (by kernel_rfl) (pf2 (by decide) (put_get _ _ _ (by simp only [put_size]; rw [hsz]; decide))) (by decide) 39 rfl ?_
          refine owl_run (wanted_none rfl) 40 (.bool true) _ rfl (run_pickT (eval_of (pf1 (by decide) (pf2 (by decide) (put_get _ _ _ (by simp only [put_size]; rw [hsz]; decide))))) (eval_cst _ _)) ?_
          refine fresh (C := fun x W => WL _ _ _ [] x W) (fun x X => _ = X ∧ x.tmps.size = 45 ∧ x.defers = [] ∧ x.tmps[2]? = some (.bool false) ∧ x.tmps[5]? = some (.pointer (some ⟨q15, 0, none⟩)) ∧ x.tmps[9]? = some (.slice ao L.length cap) ∧ x.tmps[10]? = some (.int .i64 ((L.length : Nat) : Int)) ∧ x.tmps[11]? = some (.int .i64 ((k : Nat) : Int)) ∧ x.tmps[40]? = some (.bool true)) ⟨rfl, (by simp only [put_size]; exact hsz), (by simp only [put_defers]; exact hdf), (pf2 (by decide) (pf8 (by decide) (pf16 (by decide) s_2))), (pf2 (by decide) (pf8 (by decide) (pf16 (by decide) s_5))), (pf2 (by decide) (pf8 (by decide) (pf16 (by decide) s_9))), (pf2 (by decide) (pf8 (by decide) (pf16 (by decide) s_10))), (pf2 (by decide) (pf8 (by decide) (pf16 (by decide) s_11))), (put_get _ _ _ (by simp only [put_size]; rw [hsz]; decide))⟩ ?_
          clear hsz hdf s_2 s_3 s_5 s_9 s_10 s_11
          rintro a _ ⟨rfl, hsz, hdf, s_2, s_5, s_9, s_10, s_11, s_40⟩
          refine wl_done ?_
          refine ow_then ?_
          refine ow_true (eval_of s_40) ?_
          refine wp_goto ?_
          refine ow_then_goto ?_
          refine ow_blk_goto _ ?_
          refine ow_then_goto ?_
          refine ow_then_goto ?_
          refine ow_blk_goto _ ?_
          refine ow_then_goto (ow_jump (HJ _ _ ?_))
          refine wp_seq ?_
          refine ow_region [_, _] rfl (by intro o ho; simp only [List.mem_cons, List.not_mem_nil, or_false] at ho; rcases ho with rfl | rfl <;> rfl) ?_
          refine ow_run 44 (.bool false) _ rfl (run_moveOp (eval_of s_2)) ?_
          refine ow_run 2 (.bool false) _ rfl (run_assignOp (eval_of (put_get _ _ _ (by rw [hsz]; decide)))) ?_
          refine fresh (C := fun x W => wpRun _ [] x W _) (fun x X => _ = X ∧ x.tmps.size = 45 ∧ x.defers = [] ∧ x.tmps[2]? = some (.bool false)) ⟨rfl, (by simp only [put_size]; exact hsz), (by simp only [put_defers]; exact hdf), (put_get _ _ _ (by simp only [put_size]; rw [hsz]; decide))⟩ ?_
          clear hsz hdf s_2 s_5 s_9 s_10 s_11 s_40
          rintro a _ ⟨rfl, hsz, hdf, s_2⟩
          refine ow_then ?_
          refine wp_ret ?_
          refine ow_nogoto_ret ?_
          exact ow_ret1 rfl hdf s_2 ⟨by rw [show tabB L = false from ((tabB_short (by have h := hb_6; simp only [decide_eq_false_iff_not] at h; omega)).trans (hok.trans (by rw [drop_cons hq]; exact okB_bad1 hb_22)))], hbW17⟩
    · skip
      refine ow_false (eval_of (flag_of s_12 hb_14)) ?_
      refine wp_exit ?_
      refine ow_then_exit ?_
      refine ow_then_exit ?_
      refine ow_blk_exit _ ?_
      refine ow_then (hK8 _ _ ?_)
      refine wpSpine_seq rfl fun K hK36 => ?_
      refine ow_region [_] rfl (by intro o ho; simp only [List.mem_cons, List.not_mem_nil, or_false] at ho; subst ho; rfl) ?_
      refine ow_run 2 (.bool true) _ rfl (run_assignOp (eval_cst _ _)) ?_
      refine fresh (C := fun x W => wpRun _ [] x W _) (fun x X => _ = X ∧ x.tmps.size = 45 ∧ x.defers = [] ∧ x.tmps[2]? = some (.bool true)) ⟨rfl, (by simp only [put_size]; exact hsz), (by simp only [put_defers]; exact hdf), (put_get _ _ _ (by rw [hsz]; decide))⟩ ?_
      clear hsz hdf s_2 s_3 s_9 s_10 s_11 s_12
      rintro a _ ⟨rfl, hsz, hdf, s_2⟩
      refine ow_then (hK36 _ _ ?_)
      refine wpSpine_label (HJ _ _ ?_)
      refine wp_seq ?_
      refine ow_region [_, _] rfl (by intro o ho; simp only [List.mem_cons, List.not_mem_nil, or_false] at ho; rcases ho with rfl | rfl <;> rfl) ?_
      refine ow_run 44 (.bool true) _ rfl (run_moveOp (eval_of s_2)) ?_
      refine ow_run 2 (.bool true) _ rfl (run_assignOp (eval_of (put_get _ _ _ (by rw [hsz]; decide)))) ?_
      refine fresh (C := fun x W => wpRun _ [] x W _) (fun x X => _ = X ∧ x.tmps.size = 45 ∧ x.defers = [] ∧ x.tmps[2]? = some (.bool true)) ⟨rfl, (by simp only [put_size]; exact hsz), (by simp only [put_defers]; exact hdf), (put_get _ _ _ (by simp only [put_size]; rw [hsz]; decide))⟩ ?_
      clear hsz hdf s_2
      rintro a _ ⟨rfl, hsz, hdf, s_2⟩
      refine ow_then ?_
      refine wp_ret ?_
      refine ow_nogoto_ret ?_
      exact ow_ret1 rfl hdf s_2 ⟨by rw [show tabB L = true from ((tabB_short (by have h := hb_6; simp only [decide_eq_false_iff_not] at h; omega)).trans (hok.trans (by have h := hb_14; simp only [decide_eq_false_iff_not] at h; rw [List.drop_eq_nil_of_le (by omega)]; rfl)))], hbW10⟩
end Go.Proofs.Ytcomaacfhfnipaa
