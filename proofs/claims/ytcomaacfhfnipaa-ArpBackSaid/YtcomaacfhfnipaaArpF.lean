/-
  Neighbours: whether a list may be a table, to the reference.
-/
import Derived.Test.YtcomaacfhfnipaaArpE
namespace Go.Proofs.Ytcomaacfhfnipaa
open Go.RowKit
def ageB (n : Int) : Bool := decide (0 ≤ n ∧ n ≤ 600)
theorem zNum_any (n m : Int) (w : World) : Calls Try.prog 48 #[.int .i64 n, .int .i64 m] w fun e w' => e = .returned (.bool (decide (0 ≤ n ∧ n ≤ m))) ∧ w = w' := by
  by_cases h : 0 ≤ n
  · go_enter Try.func48, Try.ntmps48
    go_wp2
    go_ret
    exact ⟨by simp [h], rfl⟩
  · go_enter Try.func48, Try.ntmps48
    go_wp2
    go_ret
    exact ⟨by simp; omega, rfl⟩
theorem zWord_any (n : Int) (w : World) : Calls Try.prog 33 #[.int .i64 n] w fun e w' => e = .returned (.bool (ipB n)) ∧ w = w' := by
  have C := Lib.hid (zNum_any n 4294967295 w)
  have HE := Lib.hid (show decide (0 ≤ n ∧ n ≤ 4294967295) = ipB n by unfold ipB; simp only [decide_eq_decide]; omega)
  go_enter Try.func33, Try.ntmps33
  go_wp2_with fail
  refine C.out.mono ?_
  rintro e w' ⟨rfl, rfl⟩
  rw [HE.out]
  go_wp2
  go_ret
  exact ⟨rfl, rfl⟩
theorem zMac_any (n : Int) (w : World) : Calls Try.prog 34 #[.int .i64 n] w fun e w' => e = .returned (.bool (macB n)) ∧ w = w' := by
  have C := Lib.hid (zNum_any n 281474976710655 w)
  have HE := Lib.hid (show decide (0 ≤ n ∧ n ≤ 281474976710655) = macB n by unfold macB; simp only [decide_eq_decide]; omega)
  go_enter Try.func34, Try.ntmps34
  go_wp2_with fail
  refine C.out.mono ?_
  rintro e w' ⟨rfl, rfl⟩
  rw [HE.out]
  go_wp2
  go_ret
  exact ⟨rfl, rfl⟩
theorem zAge_any (n : Int) (w : World) : Calls Try.prog 48 #[.int .i64 n, .int .i64 600] w fun e w' => e = .returned (.bool (ageB n)) ∧ w = w' := zNum_any n 600 w
theorem subK (k : Nat) (w : World) (h : 1 ≤ k) (h2 : k < 4611686018427387904) : (binOp .sub 3 (.int .i64 (k : Int)) (.int .i64 1)).run Try.prog w = .ok (.int .i64 ((k - 1 : Nat) : Int)) w := by
  have := wrap_i64 ((k : Int) - 1) (by omega) (by omega)
  have e : ((k - 1 : Nat) : Int) = (k : Int) - 1 := by omega
  rw [e]
  simp [go_sem, this]
/-- The last address ahead of place k. -/
def lastN (L : List Nb) (k : Nat) : Int := if k = 0 then -1 else (L.getD (k - 1) ⟨0, 0, 0⟩).ip
theorem lastN_at {L : List Nb} {k : Nat} {p : Nb} (hk : k ≠ 0) (h : L[k - 1]? = some p) : lastN L k = p.ip := by
  unfold lastN; rw [if_neg hk, List.getD_eq_getElem?_getD, h]; rfl
theorem lastN_ge {L : List Nb} {k : Nat} {p q : Nb} (hk : 1 ≤ k) (h : L[k - 1]? = some p) (h2 : decide (q.ip ≤ p.ip) = true) : q.ip ≤ lastN L k := by
  rw [lastN_at (by omega) h]; simpa using h2
theorem lastN_lt {L : List Nb} {k : Nat} {p q : Nb} (h : L[k - 1]? = some p) (h2 : decide (q.ip ≤ p.ip) = false) (hk : k ≠ 0 := by assumption) : lastN L k < q.ip := by
  rw [lastN_at hk h]; simpa using h2
theorem okN_cons {L : List Nb} {k : Nat} {q : Nb} (hok : okB (-1) L = okB (lastN L k) (L.drop k)) (hq : L[k]? = some q) (h1 : ipB q.ip = true) (h2 : macB q.mac = true) (h3 : ageB q.age = true) (h4 : k ≠ 0 → lastN L k < q.ip) : okB (-1) L = okB (lastN L (k + 1)) (L.drop (k + 1)) := by
  rw [hok, drop_cons hq]
  have hl : lastN L (k + 1) = q.ip := lastN_at (by omega) (by simpa using hq)
  have h5 : lastN L k < q.ip := by
    by_cases hk : k = 0
    · have h1' := h1
      simp only [ipB, decide_eq_true_eq] at h1'
      unfold lastN; rw [if_pos hk]; omega
    · exact h4 hk
  simp only [ageB, decide_eq_true_eq] at h3
  simp [okB, h1, h2, h3, h5, hl]
theorem okN_ip {last : Int} {q : Nb} {r : List Nb} (h : ipB q.ip = false) : okB last (q :: r) = false := by simp [okB, h]
theorem okN_mac {last : Int} {q : Nb} {r : List Nb} (h : macB q.mac = false) : okB last (q :: r) = false := by simp [okB, h]
theorem okN_age {last : Int} {q : Nb} {r : List Nb} (h : ageB q.age = false) : okB last (q :: r) = false := by
  simp only [ageB, decide_eq_false_iff_not] at h
  by_cases h0 : 0 ≤ q.age <;> simp [okB, h0]
  intro _ _ _ h6; omega
theorem okN_last {last : Int} {q : Nb} {r : List Nb} (h : q.ip ≤ last) : okB last (q :: r) = false := by
  simp [okB, show ¬ last < q.ip by omega]
set_option maxRecDepth 100000 in
set_option maxHeartbeats 4000000 in
theorem refTable_any (v : Value) (L : List Nb) (w : World) (hv : SlOf w 3 Nb.At v L) (hl : L.length ≤ 140737488351232) :
    Calls Try.prog 26 #[v] w fun e w' => e = .returned (.bool (tabB L)) ∧ Below w.heap.size w w' := by
  have hb0 := Below.refl w.heap.size w
  obtain ⟨ao, cap, rfl, -, -, -, hB⟩ := hv
  have HB := Lib.hid hB; clear hB
  refine ow_enter 56 Try.func26 rfl Try.ntmps26 (by simp) ?_
  rintro a hsz hdf hargs
  have s_0 : a.tmps[0]? = some (.slice ao L.length cap) := hargs 0 _ rfl
  clear hargs
  refine wp_seq ?_
  refine ow_region [_] rfl (by intro o ho; simp only [List.mem_cons, List.not_mem_nil, or_false] at ho; subst ho; rfl) ?_
  refine ow_run 2 (.bool false) _ rfl (run_assignOp (eval_cst _ _)) ?_
  refine fresh (C := fun x W => wpRun _ [] x W _) (fun x X => _ = X ∧ x.tmps.size = 56 ∧ x.defers = [] ∧ x.tmps[0]? = some (.slice ao L.length cap)) ⟨rfl, (by simp only [put_size]; exact hsz), (by simp only [put_defers]; exact hdf), (pf1 (by decide) s_0)⟩ ?_
  clear hsz hdf s_0
  rintro a _ ⟨rfl, hsz, hdf, s_0⟩
  refine ow_then ?_
  refine wp_seq ?_
  refine wp_seq ?_
  refine ow_region [_, _, _] rfl (by intro o ho; simp only [List.mem_cons, List.not_mem_nil, or_false] at ho; rcases ho with rfl | rfl | rfl <;> rfl) ?_
  refine ow_run 4 (.slice ao L.length cap) _ rfl (run_moveOp (eval_of s_0)) ?_
  refine ow_run 5 (.int .i64 ((L.length : Nat) : Int)) _ rfl (run_lenOp Try.underlying48 (eval_of (put_get _ _ _ (by rw [hsz]; decide)))) ?_
  refine ow_run 6 (.bool (decide (16 < ((L.length : Nat) : Int)))) _ rfl (run_binOp (eval_of (put_get _ _ _ (by simp only [put_size]; rw [hsz]; decide))) (eval_cst _ _) (by simp [go_sem]) (by simp [go_sem])) ?_
  refine fresh (C := fun x W => wpRun _ [] x W _) (fun x X => _ = X ∧ x.tmps.size = 56 ∧ x.defers = [] ∧ x.tmps[0]? = some (.slice ao L.length cap) ∧ x.tmps[6]? = some (.bool (decide (16 < ((L.length : Nat) : Int))))) ⟨rfl, (by simp only [put_size]; exact hsz), (by simp only [put_defers]; exact hdf), (pf1 (by decide) (pf2 (by decide) s_0)), (put_get _ _ _ (by simp only [put_size]; rw [hsz]; decide))⟩ ?_
  clear hsz hdf s_0
  rintro a _ ⟨rfl, hsz, hdf, s_0, s_6⟩
  refine ow_then ?_
  rcases Bool.eq_false_or_eq_true ((decide (16 < ((L.length : Nat) : Int)))) with hb_3 | hb_3
  · skip
    refine ow_true (eval_of (flag_of s_6 hb_3)) ?_
    refine wp_seq ?_
    refine ow_region [_] rfl (by intro o ho; simp only [List.mem_cons, List.not_mem_nil, or_false] at ho; subst ho; rfl) ?_
    refine ow_run 2 (.bool false) _ rfl (run_assignOp (eval_cst _ _)) ?_
    refine fresh (C := fun x W => wpRun _ [] x W _) (fun x X => _ = X ∧ x.tmps.size = 56 ∧ x.defers = [] ∧ x.tmps[2]? = some (.bool false)) ⟨rfl, (by simp only [put_size]; exact hsz), (by simp only [put_defers]; exact hdf), (put_get _ _ _ (by rw [hsz]; decide))⟩ ?_
    clear hsz hdf s_0 s_6
    rintro a _ ⟨rfl, hsz, hdf, s_2⟩
    refine ow_then ?_
    refine wp_ret ?_
    refine ow_then_ret ?_
    exact ow_ret1 rfl hdf s_2 ⟨by rw [show tabB L = false from (by have h := hb_3; simp only [decide_eq_true_eq] at h; exact tabB_long (by omega))], hb0⟩
  · skip
    refine ow_false (eval_of (flag_of s_6 hb_3)) ?_
    refine wp_skip ?_
    refine ow_then ?_
    refine wp_seq ?_
    refine wp_seq ?_
    refine ow_region [_] rfl (by intro o ho; simp only [List.mem_cons, List.not_mem_nil, or_false] at ho; subst ho; rfl) ?_
    refine ow_run 3 (.int .i64 0) _ rfl (run_assignOp (eval_cst _ _)) ?_
    refine fresh (C := fun x W => wpRun _ [] x W _) (fun x X => _ = X ∧ x.tmps.size = 56 ∧ x.defers = [] ∧ x.tmps[0]? = some (.slice ao L.length cap) ∧ x.tmps[3]? = some (.int .i64 0)) ⟨rfl, (by simp only [put_size]; exact hsz), (by simp only [put_defers]; exact hdf), (pf1 (by decide) s_0), (put_get _ _ _ (by rw [hsz]; decide))⟩ ?_
    clear hsz hdf s_0 s_6
    rintro a _ ⟨rfl, hsz, hdf, s_0, s_3⟩
    refine ow_then ?_
    refine wp_block ?_
    refine ow_loop (fun N a W => ∃ (k : Nat), N = L.length - k ∧ k ≤ L.length ∧ okB (-1) L = okB (lastN L k) (L.drop k) ∧ a.tmps.size = 56 ∧ a.defers = [] ∧ a.tmps[0]? = some (.slice ao L.length cap) ∧ a.tmps[3]? = some (.int .i64 ((k : Nat) : Int)) ∧ Below w.heap.size w W) _ ⟨0, rfl, (Nat.zero_le _), rfl, hsz, hdf, s_0, (by first | exact s_3 | (rw [s_3]; congr 2; first | rfl | omega | (push_cast; omega)) | (rw [s_3]; first | rfl | (simp; try omega))), hb0⟩ ?_
    clear hsz hdf s_0 s_3
    rintro N a W6 ⟨k, rfl, hkl, hok, hsz, hdf, s_0, s_3, hbW6⟩
    intro K8 hK8
    refine wp_seq ?_
    refine wp_seq ?_
    refine ow_region [_, _, _, _] rfl (by intro o ho; simp only [List.mem_cons, List.not_mem_nil, or_false] at ho; rcases ho with rfl | rfl | rfl | rfl <;> rfl) ?_
    refine ow_run 7 (.int .i64 ((k : Nat) : Int)) _ rfl (run_moveOp (eval_of s_3)) ?_
    refine ow_run 8 (.slice ao L.length cap) _ rfl (run_moveOp (eval_of (pf1 (by decide) s_0))) ?_
    refine ow_run 9 (.int .i64 ((L.length : Nat) : Int)) _ rfl (run_lenOp Try.underlying48 (eval_of (put_get _ _ _ (by simp only [put_size]; rw [hsz]; decide)))) ?_
    refine ow_run 10 (.bool (decide (((k : Nat) : Int) < ((L.length : Nat) : Int)))) _ rfl (run_binOp (eval_of (pf2 (by decide) (put_get _ _ _ (by rw [hsz]; decide)))) (eval_of (put_get _ _ _ (by simp only [put_size]; rw [hsz]; decide))) (by simp [go_sem]) (by simp [go_sem])) ?_
    refine fresh (C := fun x W => wpRun _ [] x W _) (fun x X => _ = X ∧ x.tmps.size = 56 ∧ x.defers = [] ∧ x.tmps[0]? = some (.slice ao L.length cap) ∧ x.tmps[3]? = some (.int .i64 ((k : Nat) : Int)) ∧ x.tmps[10]? = some (.bool (decide (((k : Nat) : Int) < ((L.length : Nat) : Int))))) ⟨rfl, (by simp only [put_size]; exact hsz), (by simp only [put_defers]; exact hdf), (pf4 (by decide) s_0), (pf4 (by decide) s_3), (put_get _ _ _ (by simp only [put_size]; rw [hsz]; decide))⟩ ?_
    clear hsz hdf s_0 s_3
    rintro a _ ⟨rfl, hsz, hdf, s_0, s_3, s_10⟩
    refine ow_then ?_
    rcases Bool.eq_false_or_eq_true ((decide (((k : Nat) : Int) < ((L.length : Nat) : Int)))) with hb_10 | hb_10
    · skip
      refine ow_true (eval_of (flag_of s_10 hb_10)) ?_
      refine wp_skip ?_
      refine ow_then ?_
      refine wp_seq ?_
      refine wp_block ?_
      refine wp_seq ?_
      have hlt : k < L.length := by have h := hb_10; simp only [decide_eq_true_eq] at h; omega
      obtain ⟨b, off, hao, hbw, hBB⟩ := HB.out (by intro h; simp [h] at hlt)
      obtain ⟨q, hq⟩ : ∃ q, L[k]? = some q := ⟨_, List.getElem?_eq_getElem hlt⟩
      have hlt1 : k - 1 < L.length := by omega
      obtain ⟨p, e1⟩ : ∃ q, L[k - 1]? = some q := ⟨_, List.getElem?_eq_getElem hlt1⟩
      obtain ⟨c0, c1, c2⟩ := hBB k q hq
      obtain ⟨e0, -, -⟩ := hBB (k - 1) p e1
      clear hBB
      rcases Bool.eq_false_or_eq_true ((decide (0 < ((k : Nat) : Int)))) with hb_11 | hb_11
      · skip
        have hk0 : 1 ≤ k := by have h := hb_11; simp only [decide_eq_true_eq] at h; omega
        refine ah_region (fun W => Below w.heap.size w W) (by kernel_rfl) 43 rfl ?_
        refine fresh (C := fun x W => AH _ _ _ _ _ _ x W) (fun x X => _ = x ∧ Below w.heap.size w X) ⟨rfl, (hbW6.trans (((Below.refl _ W6).drew).mono hbW6.size))⟩ ?_
        rintro _ W12 ⟨rfl, hbW12⟩
        refine ah_takeW 0 13 (.slice ao L.length cap) rfl (wanted_none rfl) rfl (by kernel_rfl) (by kernel_rfl) (by kernel_rfl) (fun _ _ _ h => h) hbW12 (fun W hW => by have hbW12 := hW; exact (run_moveOp (eval_of s_0))) ?_
        refine ah_takeW 1 14 (.int .i64 ((k : Nat) : Int)) rfl (wanted_none rfl) rfl (by kernel_rfl) (by kernel_rfl) (by kernel_rfl) (fun _ _ _ h => h) hbW12 (fun W hW => by have hbW12 := hW; exact (run_moveOp (eval_of (pf1 (by decide) s_3)))) ?_
        refine ah_takeW 2 15 (.pointer (some ⟨b, (off + k * 3), none⟩)) rfl (wanted_none rfl) rfl (by kernel_rfl) (by kernel_rfl) (by kernel_rfl) (fun _ _ _ h => h) hbW12 (fun W hW => by have hbW12 := hW; exact (run_indexOp (eval_of (pf1 (by decide) (put_get _ _ _ (by rw [hsz]; decide)))) (eval_of (put_get _ _ _ (by simp only [put_size]; rw [hsz]; decide))) (run_indexNb ao b off L.length cap k hao hlt _))) ?_
        refine ah_takeW 3 16 (.pointer (some ⟨b, (off + k * 3), none⟩)) rfl (wanted_none rfl) rfl (by kernel_rfl) (by kernel_rfl) (by kernel_rfl) (fun _ _ _ h => h) hbW12 (fun W hW => by have hbW12 := hW; exact (run_fieldAddr (eval_of (put_get _ _ _ (by simp only [put_size]; rw [hsz]; decide))) (by simp [go_sem, Instr.fieldAt]))) ?_
        refine ah_takeW 4 17 (.int .i64 q.ip) rfl (wanted_none rfl) rfl (by kernel_rfl) (by kernel_rfl) (by kernel_rfl) (fun _ _ _ h => h) hbW12 (fun W hW => by have hbW12 := hW; exact (run_loadOp (eval_of (put_get _ _ _ (by simp only [put_size]; rw [hsz]; decide))) (by simp [go_sem, Instr.loadAt, (hbW12.cell (p := ⟨b, (off + k * 3), none⟩) hbw).trans c0]))) ?_
        refine ah_one 5 (by kernel_rfl) ?_
        refine ao_call rfl (wanted_none rfl) 18 (fun v X => v = .bool (ipB q.ip) ∧ W12 = X) rfl _ _ (run_callOp Try.func33 rfl rfl (arr1 (eval_of (put_get _ _ _ (by simp only [put_size]; rw [hsz]; decide))))) ((zWord_any _ _).mono fun e X h => ⟨_, h.1, rfl, h.2⟩) ?_
        rintro _ _ ⟨rfl, rfl⟩
        refine ⟨hbW12, ?_⟩
        refine ah_takeW 6 19 (.bool (!(ipB q.ip))) rfl (wanted_none rfl) rfl (by kernel_rfl) (by kernel_rfl) (by kernel_rfl) (fun _ _ _ h => h) hbW12 (fun W hW => by have hbW12 := hW; exact (run_notOp (eval_of (put_get _ _ _ (by simp only [put_size]; rw [hsz]; decide))))) ?_
        refine ah_takeW 7 20 (.bool (!(ipB q.ip))) rfl (wanted_none rfl) rfl (by kernel_rfl) (by kernel_rfl) (by kernel_rfl) (fun _ _ _ h => h) hbW12 (fun W hW => by have hbW12 := hW; exact (run_moveOp (eval_of (put_get _ _ _ (by simp only [put_size]; rw [hsz]; decide))))) ?_
        rcases Bool.eq_false_or_eq_true ((ipB q.ip)) with hb_13 | hb_13
        · skip
          refine ah_takeW 8 21 (.slice ao L.length cap) rfl (wanted_yes rfl (by kernel_rfl) (flag_of (put_get _ _ _ (by simp only [put_size]; rw [hsz]; decide)) (not_of hb_13))) rfl (by kernel_rfl) (by kernel_rfl) (by kernel_rfl) (fun _ _ _ h => h) hbW12 (fun W hW => by have hbW12 := hW; exact (run_moveOp (eval_of (pf8 (by decide) s_0)))) ?_
          refine ah_takeW 9 22 (.int .i64 ((k : Nat) : Int)) rfl (wanted_yes rfl (by kernel_rfl) (flag_of (pf1 (by decide) (put_get _ _ _ (by simp only [put_size]; rw [hsz]; decide))) (not_of hb_13))) rfl (by kernel_rfl) (by kernel_rfl) (by kernel_rfl) (fun _ _ _ h => h) hbW12 (fun W hW => by have hbW12 := hW; exact (run_moveOp (eval_of (pf1 (by decide) (pf8 (by decide) s_3))))) ?_
          refine ah_takeW 10 23 (.pointer (some ⟨b, (off + k * 3), none⟩)) rfl (wanted_yes rfl (by kernel_rfl) (flag_of (pf2 (by decide) (put_get _ _ _ (by simp only [put_size]; rw [hsz]; decide))) (not_of hb_13))) rfl (by kernel_rfl) (by kernel_rfl) (by kernel_rfl) (fun _ _ _ h => h) hbW12 (fun W hW => by have hbW12 := hW; exact (run_indexOp (eval_of (pf1 (by decide) (put_get _ _ _ (by simp only [put_size]; rw [hsz]; decide)))) (eval_of (put_get _ _ _ (by simp only [put_size]; rw [hsz]; decide))) (run_indexNb ao b off L.length cap k hao hlt _))) ?_
          refine ah_takeW 11 24 (.pointer (some ⟨b, ((off + k * 3) + 1), none⟩)) rfl (wanted_yes rfl (by kernel_rfl) (flag_of (pf1 (by decide) (pf2 (by decide) (put_get _ _ _ (by simp only [put_size]; rw [hsz]; decide)))) (not_of hb_13))) rfl (by kernel_rfl) (by kernel_rfl) (by kernel_rfl) (fun _ _ _ h => h) hbW12 (fun W hW => by have hbW12 := hW; exact (run_fieldAddr (eval_of (put_get _ _ _ (by simp only [put_size]; rw [hsz]; decide))) (by simp [go_sem, Instr.fieldAt]))) ?_
          refine ah_takeW 12 25 (.int .i64 q.mac) rfl (wanted_yes rfl (by kernel_rfl) (flag_of (pf4 (by decide) (put_get _ _ _ (by simp only [put_size]; rw [hsz]; decide))) (not_of hb_13))) rfl (by kernel_rfl) (by kernel_rfl) (by kernel_rfl) (fun _ _ _ h => h) hbW12 (fun W hW => by have hbW12 := hW; exact (run_loadOp (eval_of (put_get _ _ _ (by simp only [put_size]; rw [hsz]; decide))) (by simp [go_sem, Instr.loadAt, (hbW12.cell (p := ⟨b, ((off + k * 3) + 1), none⟩) hbw).trans c1]))) ?_
          refine ah_one 13 (by kernel_rfl) ?_
          refine ao_call rfl (wanted_yes rfl (by kernel_rfl) (flag_of (pf1 (by decide) (pf4 (by decide) (put_get _ _ _ (by simp only [put_size]; rw [hsz]; decide)))) (not_of hb_13))) 26 (fun v X => v = .bool (macB q.mac) ∧ W12 = X) rfl _ _ (run_callOp Try.func34 rfl rfl (arr1 (eval_of (put_get _ _ _ (by simp only [put_size]; rw [hsz]; decide))))) ((zMac_any _ _).mono fun e X h => ⟨_, h.1, rfl, h.2⟩) ?_
          rintro _ _ ⟨rfl, rfl⟩
          refine ⟨hbW12, ?_⟩
          refine ah_takeW 14 27 (.bool (!(macB q.mac))) rfl (wanted_yes rfl (by kernel_rfl) (flag_of (pf2 (by decide) (pf4 (by decide) (put_get _ _ _ (by simp only [put_size]; rw [hsz]; decide)))) (not_of hb_13))) rfl (by kernel_rfl) (by kernel_rfl) (by kernel_rfl) (fun _ _ _ h => h) hbW12 (fun W hW => by have hbW12 := hW; exact (run_notOp (eval_of (put_get _ _ _ (by simp only [put_size]; rw [hsz]; decide))))) ?_
          refine ah_takeW 15 28 (.bool (!(macB q.mac))) rfl (wanted_none rfl) rfl (by kernel_rfl) (by kernel_rfl) (by kernel_rfl) (fun _ _ _ h => h) hbW12 (fun W hW => by have hbW12 := hW; exact (run_pickF (eval_cast (eval_of (pf1 (by decide) (pf2 (by decide) (pf4 (by decide) (put_get _ _ _ (by simp only [put_size]; rw [hsz]; decide)))))) (not_of hb_13)) (eval_of (put_get _ _ _ (by simp only [put_size]; rw [hsz]; decide))))) ?_
          refine ah_takeW 16 29 (.bool (!(macB q.mac))) rfl (wanted_none rfl) rfl (by kernel_rfl) (by kernel_rfl) (by kernel_rfl) (fun _ _ _ h => h) hbW12 (fun W hW => by have hbW12 := hW; exact (run_moveOp (eval_of (put_get _ _ _ (by simp only [put_size]; rw [hsz]; decide))))) ?_
          rcases Bool.eq_false_or_eq_true ((macB q.mac)) with hb_14 | hb_14
          · skip
            refine ah_takeW 17 30 (.slice ao L.length cap) rfl (wanted_yes rfl (by kernel_rfl) (flag_of (put_get _ _ _ (by simp only [put_size]; rw [hsz]; decide)) (not_of hb_14))) rfl (by kernel_rfl) (by kernel_rfl) (by kernel_rfl) (fun _ _ _ h => h) hbW12 (fun W hW => by have hbW12 := hW; exact (run_moveOp (eval_of (pf1 (by decide) (pf16 (by decide) s_0))))) ?_
            refine ah_takeW 18 31 (.int .i64 ((k : Nat) : Int)) rfl (wanted_yes rfl (by kernel_rfl) (flag_of (pf1 (by decide) (put_get _ _ _ (by simp only [put_size]; rw [hsz]; decide))) (not_of hb_14))) rfl (by kernel_rfl) (by kernel_rfl) (by kernel_rfl) (fun _ _ _ h => h) hbW12 (fun W hW => by have hbW12 := hW; exact (run_moveOp (eval_of (pf2 (by decide) (pf16 (by decide) s_3))))) ?_
            refine ah_takeW 19 32 (.pointer (some ⟨b, (off + k * 3), none⟩)) rfl (wanted_yes rfl (by kernel_rfl) (flag_of (pf2 (by decide) (put_get _ _ _ (by simp only [put_size]; rw [hsz]; decide))) (not_of hb_14))) rfl (by kernel_rfl) (by kernel_rfl) (by kernel_rfl) (fun _ _ _ h => h) hbW12 (fun W hW => by have hbW12 := hW; exact (run_indexOp (eval_of (pf1 (by decide) (put_get _ _ _ (by simp only [put_size]; rw [hsz]; decide)))) (eval_of (put_get _ _ _ (by simp only [put_size]; rw [hsz]; decide))) (run_indexNb ao b off L.length cap k hao hlt _))) ?_
            refine ah_takeW 20 33 (.pointer (some ⟨b, ((off + k * 3) + 2), none⟩)) rfl (wanted_yes rfl (by kernel_rfl) (flag_of (pf1 (by decide) (pf2 (by decide) (put_get _ _ _ (by simp only [put_size]; rw [hsz]; decide)))) (not_of hb_14))) rfl (by kernel_rfl) (by kernel_rfl) (by kernel_rfl) (fun _ _ _ h => h) hbW12 (fun W hW => by have hbW12 := hW; exact (run_fieldAddr (eval_of (put_get _ _ _ (by simp only [put_size]; rw [hsz]; decide))) (by simp [go_sem, Instr.fieldAt]))) ?_
            refine ah_takeW 21 34 (.int .i64 q.age) rfl (wanted_yes rfl (by kernel_rfl) (flag_of (pf4 (by decide) (put_get _ _ _ (by simp only [put_size]; rw [hsz]; decide))) (not_of hb_14))) rfl (by kernel_rfl) (by kernel_rfl) (by kernel_rfl) (fun _ _ _ h => h) hbW12 (fun W hW => by have hbW12 := hW; exact (run_loadOp (eval_of (put_get _ _ _ (by simp only [put_size]; rw [hsz]; decide))) (by simp [go_sem, Instr.loadAt, (hbW12.cell (p := ⟨b, ((off + k * 3) + 2), none⟩) hbw).trans c2]))) ?_
            refine ah_one 22 (by kernel_rfl) ?_
            refine ao_call rfl (wanted_yes rfl (by kernel_rfl) (flag_of (pf1 (by decide) (pf4 (by decide) (put_get _ _ _ (by simp only [put_size]; rw [hsz]; decide)))) (not_of hb_14))) 35 (fun v X => v = .bool (ageB q.age) ∧ W12 = X) rfl _ _ (run_callOp Try.func48 rfl rfl (arr2 (eval_of (put_get _ _ _ (by simp only [put_size]; rw [hsz]; decide))) (eval_cst _ _))) ((zAge_any _ _).mono fun e X h => ⟨_, h.1, rfl, h.2⟩) ?_
            rintro _ _ ⟨rfl, rfl⟩
            refine ⟨hbW12, ?_⟩
            refine ah_takeW 23 36 (.bool (!(ageB q.age))) rfl (wanted_yes rfl (by kernel_rfl) (flag_of (pf2 (by decide) (pf4 (by decide) (put_get _ _ _ (by simp only [put_size]; rw [hsz]; decide)))) (not_of hb_14))) rfl (by kernel_rfl) (by kernel_rfl) (by kernel_rfl) (fun _ _ _ h => h) hbW12 (fun W hW => by have hbW12 := hW; exact (run_notOp (eval_of (put_get _ _ _ (by simp only [put_size]; rw [hsz]; decide))))) ?_
            refine ah_takeW 24 37 (.bool (!(ageB q.age))) rfl (wanted_none rfl) rfl (by kernel_rfl) (by kernel_rfl) (by kernel_rfl) (fun _ _ _ h => h) hbW12 (fun W hW => by have hbW12 := hW; exact (run_pickF (eval_cast (eval_of (pf1 (by decide) (pf2 (by decide) (pf4 (by decide) (put_get _ _ _ (by simp only [put_size]; rw [hsz]; decide)))))) (not_of hb_14)) (eval_of (put_get _ _ _ (by simp only [put_size]; rw [hsz]; decide))))) ?_
            refine ah_takeW 25 38 (.bool (!(ageB q.age))) rfl (wanted_none rfl) rfl (by kernel_rfl) (by kernel_rfl) (by kernel_rfl) (fun _ _ _ h => h) hbW12 (fun W hW => by have hbW12 := hW; exact (run_moveOp (eval_of (put_get _ _ _ (by simp only [put_size]; rw [hsz]; decide))))) ?_
            rcases Bool.eq_false_or_eq_true ((ageB q.age)) with hb_15 | hb_15
            · skip
              refine ah_takeW 26 39 (.int .i64 ((k : Nat) : Int)) rfl (wanted_yes rfl (by kernel_rfl) (flag_of (put_get _ _ _ (by simp only [put_size]; rw [hsz]; decide)) (not_of hb_15))) rfl (by kernel_rfl) (by kernel_rfl) (by kernel_rfl) (fun _ _ _ h => h) hbW12 (fun W hW => by have hbW12 := hW; exact (run_moveOp (eval_of (pf2 (by decide) (pf8 (by decide) (pf16 (by decide) s_3)))))) ?_
              refine ah_takeW 27 40 (.bool (decide (0 < ((k : Nat) : Int)))) rfl (wanted_yes rfl (by kernel_rfl) (flag_of (pf1 (by decide) (put_get _ _ _ (by simp only [put_size]; rw [hsz]; decide))) (not_of hb_15))) rfl (by kernel_rfl) (by kernel_rfl) (by kernel_rfl) (fun _ _ _ h => h) hbW12 (fun W hW => by have hbW12 := hW; exact (run_binOp (eval_of (put_get _ _ _ (by simp only [put_size]; rw [hsz]; decide))) (eval_cst _ _) (by simp [go_sem]) (by simp [go_sem]))) ?_
              refine ah_takeW 28 41 (.bool (decide (0 < ((k : Nat) : Int)))) rfl (wanted_yes rfl (by kernel_rfl) (flag_of (pf2 (by decide) (put_get _ _ _ (by simp only [put_size]; rw [hsz]; decide))) (not_of hb_15))) rfl (by kernel_rfl) (by kernel_rfl) (by kernel_rfl) (fun _ _ _ h => h) hbW12 (fun W hW => by have hbW12 := hW; exact (run_moveOp (eval_of (put_get _ _ _ (by simp only [put_size]; rw [hsz]; decide))))) ?_
              refine ah_takeW 29 42 (.slice ao L.length cap) rfl (wanted_yes rfl (by kernel_rfl) (flag_of (put_get _ _ _ (by simp only [put_size]; rw [hsz]; decide)) hb_11)) rfl (by kernel_rfl) (by kernel_rfl) (by kernel_rfl) (fun _ _ _ h => h) hbW12 (fun W hW => by have hbW12 := hW; exact (run_moveOp (eval_of (pf1 (by decide) (pf4 (by decide) (pf8 (by decide) (pf16 (by decide) s_0))))))) ?_
              refine ah_takeW 30 43 (.int .i64 ((k : Nat) : Int)) rfl (wanted_yes rfl (by kernel_rfl) (flag_of (pf1 (by decide) (put_get _ _ _ (by simp only [put_size]; rw [hsz]; decide))) hb_11)) rfl (by kernel_rfl) (by kernel_rfl) (by kernel_rfl) (fun _ _ _ h => h) hbW12 (fun W hW => by have hbW12 := hW; exact (run_moveOp (eval_of (pf2 (by decide) (pf4 (by decide) (pf8 (by decide) (pf16 (by decide) s_3))))))) ?_
              refine ah_takeW 31 44 (.int .i64 (((k - 1 : Nat) : Nat) : Int)) rfl (wanted_yes rfl (by kernel_rfl) (flag_of (pf2 (by decide) (put_get _ _ _ (by simp only [put_size]; rw [hsz]; decide))) hb_11)) rfl (by kernel_rfl) (by kernel_rfl) (by kernel_rfl) (fun _ _ _ h => h) hbW12 (fun W hW => by have hbW12 := hW; exact (run_binOp (eval_of (put_get _ _ _ (by simp only [put_size]; rw [hsz]; decide))) (eval_cst _ _) (by simp [go_sem]) (subK k _ hk0 (by omega)))) ?_
              refine ah_takeW 32 45 (.pointer (some ⟨b, (off + (k - 1) * 3), none⟩)) rfl (wanted_yes rfl (by kernel_rfl) (flag_of (pf1 (by decide) (pf2 (by decide) (put_get _ _ _ (by simp only [put_size]; rw [hsz]; decide)))) hb_11)) rfl (by kernel_rfl) (by kernel_rfl) (by kernel_rfl) (fun _ _ _ h => h) hbW12 (fun W hW => by have hbW12 := hW; exact (run_indexOp (eval_of (pf2 (by decide) (put_get _ _ _ (by simp only [put_size]; rw [hsz]; decide)))) (eval_of (put_get _ _ _ (by simp only [put_size]; rw [hsz]; decide))) (run_indexNb ao b off L.length cap (k - 1) hao hlt1 _))) ?_
              refine ah_takeW 33 46 (.pointer (some ⟨b, (off + (k - 1) * 3), none⟩)) rfl (wanted_yes rfl (by kernel_rfl) (flag_of (pf4 (by decide) (put_get _ _ _ (by simp only [put_size]; rw [hsz]; decide))) hb_11)) rfl (by kernel_rfl) (by kernel_rfl) (by kernel_rfl) (fun _ _ _ h => h) hbW12 (fun W hW => by have hbW12 := hW; exact (run_fieldAddr (eval_of (put_get _ _ _ (by simp only [put_size]; rw [hsz]; decide))) (by simp [go_sem, Instr.fieldAt]))) ?_
              refine ah_takeW 34 47 (.int .i64 p.ip) rfl (wanted_yes rfl (by kernel_rfl) (flag_of (pf1 (by decide) (pf4 (by decide) (put_get _ _ _ (by simp only [put_size]; rw [hsz]; decide)))) hb_11)) rfl (by kernel_rfl) (by kernel_rfl) (by kernel_rfl) (fun _ _ _ h => h) hbW12 (fun W hW => by have hbW12 := hW; exact (run_loadOp (eval_of (put_get _ _ _ (by simp only [put_size]; rw [hsz]; decide))) (by simp [go_sem, Instr.loadAt, (hbW12.cell (p := ⟨b, (off + (k - 1) * 3), none⟩) hbw).trans e0]))) ?_
              refine ah_takeW 35 48 (.slice ao L.length cap) rfl (wanted_yes rfl (by kernel_rfl) (flag_of (pf2 (by decide) (pf4 (by decide) (put_get _ _ _ (by simp only [put_size]; rw [hsz]; decide)))) hb_11)) rfl (by kernel_rfl) (by kernel_rfl) (by kernel_rfl) (fun _ _ _ h => h) hbW12 (fun W hW => by have hbW12 := hW; exact (run_moveOp (eval_of (pf1 (by decide) (pf2 (by decide) (pf16 (by decide) (pf16 (by decide) s_0))))))) ?_
              refine ah_takeW 36 49 (.int .i64 ((k : Nat) : Int)) rfl (wanted_yes rfl (by kernel_rfl) (flag_of (pf1 (by decide) (pf2 (by decide) (pf4 (by decide) (put_get _ _ _ (by simp only [put_size]; rw [hsz]; decide))))) hb_11)) rfl (by kernel_rfl) (by kernel_rfl) (by kernel_rfl) (fun _ _ _ h => h) hbW12 (fun W hW => by have hbW12 := hW; exact (run_moveOp (eval_of (pf4 (by decide) (pf16 (by decide) (pf16 (by decide) s_3)))))) ?_
              refine ah_takeW 37 50 (.pointer (some ⟨b, (off + k * 3), none⟩)) rfl (wanted_yes rfl (by kernel_rfl) (flag_of (pf8 (by decide) (put_get _ _ _ (by simp only [put_size]; rw [hsz]; decide))) hb_11)) rfl (by kernel_rfl) (by kernel_rfl) (by kernel_rfl) (fun _ _ _ h => h) hbW12 (fun W hW => by have hbW12 := hW; exact (run_indexOp (eval_of (pf1 (by decide) (put_get _ _ _ (by simp only [put_size]; rw [hsz]; decide)))) (eval_of (put_get _ _ _ (by simp only [put_size]; rw [hsz]; decide))) (run_indexNb ao b off L.length cap k hao hlt _))) ?_
              refine ah_takeW 38 51 (.pointer (some ⟨b, (off + k * 3), none⟩)) rfl (wanted_yes rfl (by kernel_rfl) (flag_of (pf1 (by decide) (pf8 (by decide) (put_get _ _ _ (by simp only [put_size]; rw [hsz]; decide)))) hb_11)) rfl (by kernel_rfl) (by kernel_rfl) (by kernel_rfl) (fun _ _ _ h => h) hbW12 (fun W hW => by have hbW12 := hW; exact (run_fieldAddr (eval_of (put_get _ _ _ (by simp only [put_size]; rw [hsz]; decide))) (by simp [go_sem, Instr.fieldAt]))) ?_
              refine ah_takeW 39 52 (.int .i64 q.ip) rfl (wanted_yes rfl (by kernel_rfl) (flag_of (pf2 (by decide) (pf8 (by decide) (put_get _ _ _ (by simp only [put_size]; rw [hsz]; decide)))) hb_11)) rfl (by kernel_rfl) (by kernel_rfl) (by kernel_rfl) (fun _ _ _ h => h) hbW12 (fun W hW => by have hbW12 := hW; exact (run_loadOp (eval_of (put_get _ _ _ (by simp only [put_size]; rw [hsz]; decide))) (by simp [go_sem, Instr.loadAt, (hbW12.cell (p := ⟨b, (off + k * 3), none⟩) hbw).trans c0]))) ?_
              refine ah_takeW 40 53 (.bool (decide (q.ip ≤ p.ip))) rfl (wanted_yes rfl (by kernel_rfl) (flag_of (pf1 (by decide) (pf2 (by decide) (pf8 (by decide) (put_get _ _ _ (by simp only [put_size]; rw [hsz]; decide))))) hb_11)) rfl (by kernel_rfl) (by kernel_rfl) (by kernel_rfl) (fun _ _ _ h => h) hbW12 (fun W hW => by have hbW12 := hW; exact (run_binOp (eval_of (pf1 (by decide) (pf4 (by decide) (put_get _ _ _ (by simp only [put_size]; rw [hsz]; decide))))) (eval_of (put_get _ _ _ (by simp only [put_size]; rw [hsz]; decide))) (by simp [go_sem]) (by simp [go_sem]))) ?_
              refine ah_takeW 41 54 (.bool (decide (q.ip ≤ p.ip))) rfl (wanted_yes rfl (by kernel_rfl) (flag_of (pf1 (by decide) (pf2 (by decide) (pf4 (by decide) (pf8 (by decide) (put_get _ _ _ (by simp only [put_size]; rw [hsz]; decide)))))) (not_of hb_15))) rfl (by kernel_rfl) (by kernel_rfl) (by kernel_rfl) (fun _ _ _ h => h) hbW12 (fun W hW => by have hbW12 := hW; exact (run_pickT (eval_cast (eval_of (pf4 (by decide) (pf8 (by decide) (put_get _ _ _ (by simp only [put_size]; rw [hsz]; decide))))) hb_11) (eval_of (put_get _ _ _ (by simp only [put_size]; rw [hsz]; decide))))) ?_
              refine ah_takeW 42 55 (.bool (decide (q.ip ≤ p.ip))) rfl (wanted_none rfl) rfl (by kernel_rfl) (by kernel_rfl) (by kernel_rfl) (fun _ _ _ h => h) hbW12 (fun W hW => by have hbW12 := hW; exact (run_pickF (eval_cast (eval_of (pf16 (by decide) (put_get _ _ _ (by simp only [put_size]; rw [hsz]; decide)))) (not_of hb_15)) (eval_of (put_get _ _ _ (by simp only [put_size]; rw [hsz]; decide))))) ?_
              refine fresh (C := fun x W => AH _ _ _ _ _ _ x W) (fun x X => _ = X ∧ x.tmps.size = 56 ∧ x.defers = [] ∧ x.tmps[0]? = some (.slice ao L.length cap) ∧ x.tmps[3]? = some (.int .i64 ((k : Nat) : Int)) ∧ x.tmps[55]? = some (.bool (decide (q.ip ≤ p.ip)))) ⟨rfl, (by simp only [put_size]; exact hsz), (by simp only [put_defers]; exact hdf), (pf1 (by decide) (pf2 (by decide) (pf8 (by decide) (pf16 (by decide) (pf16 (by decide) s_0))))), (pf1 (by decide) (pf2 (by decide) (pf8 (by decide) (pf16 (by decide) (pf16 (by decide) s_3))))), (put_get _ _ _ (by simp only [put_size]; rw [hsz]; decide))⟩ ?_
              clear hsz hdf s_0 s_3 s_10
              rintro a _ ⟨rfl, hsz, hdf, s_0, s_3, s_55⟩
              refine ah_done (by kernel_rfl) ?_
              refine ow_then ?_
              rcases Bool.eq_false_or_eq_true ((decide (q.ip ≤ p.ip))) with hb_17 | hb_17
              · skip
                refine ow_true (eval_of (flag_of s_55 hb_17)) ?_
                refine wp_seq ?_
                refine ow_region [_] rfl (by intro o ho; simp only [List.mem_cons, List.not_mem_nil, or_false] at ho; subst ho; rfl) ?_
                refine ow_run 2 (.bool false) _ rfl (run_assignOp (eval_cst _ _)) ?_
                refine fresh (C := fun x W => wpRun _ [] x W _) (fun x X => _ = X ∧ x.tmps.size = 56 ∧ x.defers = [] ∧ x.tmps[2]? = some (.bool false)) ⟨rfl, (by simp only [put_size]; exact hsz), (by simp only [put_defers]; exact hdf), (put_get _ _ _ (by rw [hsz]; decide))⟩ ?_
                clear hsz hdf s_0 s_3 s_55
                rintro a _ ⟨rfl, hsz, hdf, s_2⟩
                refine ow_then ?_
                refine wp_ret ?_
                refine ow_blk_ret _ ?_
                refine ow_then_ret ?_
                refine ow_then_ret ?_
                refine ow_blk_ret _ ?_
                refine ow_then_ret ?_
                exact ow_ret1 rfl hdf s_2 ⟨by rw [show tabB L = false from ((tabB_short (by have h := hb_3; simp only [decide_eq_false_iff_not] at h; omega)).trans (hok.trans (by rw [drop_cons hq]; exact okN_last (last := lastN L k) (lastN_ge hk0 e1 hb_17))))], hbW12⟩
              · skip
                refine ow_false (eval_of (flag_of s_55 hb_17)) ?_
                refine wp_skip ?_
                refine ow_blk _ ?_
                refine ow_then ?_
                refine ow_region [_, _, _] rfl (by intro o ho; simp only [List.mem_cons, List.not_mem_nil, or_false] at ho; rcases ho with rfl | rfl | rfl <;> rfl) ?_
                refine ow_run 11 (.int .i64 ((k : Nat) : Int)) _ rfl (run_moveOp (eval_of s_3)) ?_
                refine ow_run 12 (.int .i64 (((k : Nat) : Int) + 1)) _ rfl (run_binOp (eval_of (put_get _ _ _ (by rw [hsz]; decide))) (eval_cst _ _) (by simp [go_sem]) (addI _ _ _ (by omega) (by omega))) ?_
                refine ow_run 3 (.int .i64 (((k : Nat) : Int) + 1)) _ rfl (run_assignOp (eval_of (put_get _ _ _ (by simp only [put_size]; rw [hsz]; decide)))) ?_
                refine fresh (C := fun x W => wpRun _ [] x W _) (fun x X => _ = X ∧ x.tmps.size = 56 ∧ x.defers = [] ∧ x.tmps[0]? = some (.slice ao L.length cap) ∧ x.tmps[3]? = some (.int .i64 (((k : Nat) : Int) + 1))) ⟨rfl, (by simp only [put_size]; exact hsz), (by simp only [put_defers]; exact hdf), (pf1 (by decide) (pf2 (by decide) s_0)), (put_get _ _ _ (by simp only [put_size]; rw [hsz]; decide))⟩ ?_
                clear hsz hdf s_0 s_3 s_55
                rintro a _ ⟨rfl, hsz, hdf, s_0, s_3⟩
                exact ow_then (hK8 _ _ _ (by omega) ⟨(k + 1), rfl, (by omega), (okN_cons hok hq hb_13 hb_14 hb_15 (fun _ => lastN_lt e1 hb_17)), hsz, hdf, s_0, (by first | exact s_3 | (rw [s_3]; congr 2; first | rfl | omega | (push_cast; omega)) | (rw [s_3]; first | rfl | (simp; try omega))), hbW12⟩)
            · skip
              refine ah_takeNo 26 39 rfl (wanted_no (pol' := true) rfl (by kernel_rfl) (flag_of (put_get _ _ _ (by simp only [put_size]; rw [hsz]; decide)) (not_of hb_15)) (by decide)) rfl (by kernel_rfl) (by kernel_rfl) (by kernel_rfl) (fun _ _ _ h => h) hbW12 ?_
              refine ah_takeNo 27 40 rfl (wanted_no (pol' := true) rfl (by kernel_rfl) (flag_of (pf1 (by decide) (put_get _ _ _ (by simp only [put_size]; rw [hsz]; decide))) (not_of hb_15)) (by decide)) rfl (by kernel_rfl) (by kernel_rfl) (by kernel_rfl) (fun _ _ _ h => h) hbW12 ?_
              refine ah_takeNo 28 41 rfl (wanted_no (pol' := true) rfl (by kernel_rfl) (flag_of (pf2 (by decide) (put_get _ _ _ (by simp only [put_size]; rw [hsz]; decide))) (not_of hb_15)) (by decide)) rfl (by kernel_rfl) (by kernel_rfl) (by kernel_rfl) (fun _ _ _ h => h) hbW12 ?_
              refine ah_takeNo 29 42 rfl (wanted_gone rfl (by kernel_rfl) (put_get _ _ _ (by simp only [put_size]; rw [hsz]; decide))) rfl (by kernel_rfl) (by kernel_rfl) (by kernel_rfl) (fun _ _ _ h => h) hbW12 ?_
              refine ah_takeNo 30 43 rfl (wanted_gone rfl (by kernel_rfl) (pf1 (by decide) (put_get _ _ _ (by simp only [put_size]; rw [hsz]; decide)))) rfl (by kernel_rfl) (by kernel_rfl) (by kernel_rfl) (fun _ _ _ h => h) hbW12 ?_
              refine ah_takeNo 31 44 rfl (wanted_gone rfl (by kernel_rfl) (pf2 (by decide) (put_get _ _ _ (by simp only [put_size]; rw [hsz]; decide)))) rfl (by kernel_rfl) (by kernel_rfl) (by kernel_rfl) (fun _ _ _ h => h) hbW12 ?_
              refine ah_takeNo 32 45 rfl (wanted_gone rfl (by kernel_rfl) (pf1 (by decide) (pf2 (by decide) (put_get _ _ _ (by simp only [put_size]; rw [hsz]; decide))))) rfl (by kernel_rfl) (by kernel_rfl) (by kernel_rfl) (fun _ _ _ h => h) hbW12 ?_
              refine ah_takeNo 33 46 rfl (wanted_gone rfl (by kernel_rfl) (pf4 (by decide) (put_get _ _ _ (by simp only [put_size]; rw [hsz]; decide)))) rfl (by kernel_rfl) (by kernel_rfl) (by kernel_rfl) (fun _ _ _ h => h) hbW12 ?_
              refine ah_takeNo 34 47 rfl (wanted_gone rfl (by kernel_rfl) (pf1 (by decide) (pf4 (by decide) (put_get _ _ _ (by simp only [put_size]; rw [hsz]; decide))))) rfl (by kernel_rfl) (by kernel_rfl) (by kernel_rfl) (fun _ _ _ h => h) hbW12 ?_
              refine ah_takeNo 35 48 rfl (wanted_gone rfl (by kernel_rfl) (pf2 (by decide) (pf4 (by decide) (put_get _ _ _ (by simp only [put_size]; rw [hsz]; decide))))) rfl (by kernel_rfl) (by kernel_rfl) (by kernel_rfl) (fun _ _ _ h => h) hbW12 ?_
              refine ah_takeNo 36 49 rfl (wanted_gone rfl (by kernel_rfl) (pf1 (by decide) (pf2 (by decide) (pf4 (by decide) (put_get _ _ _ (by simp only [put_size]; rw [hsz]; decide)))))) rfl (by kernel_rfl) (by kernel_rfl) (by kernel_rfl) (fun _ _ _ h => h) hbW12 ?_
              refine ah_takeNo 37 50 rfl (wanted_gone rfl (by kernel_rfl) (pf8 (by decide) (put_get _ _ _ (by simp only [put_size]; rw [hsz]; decide)))) rfl (by kernel_rfl) (by kernel_rfl) (by kernel_rfl) (fun _ _ _ h => h) hbW12 ?_
              refine ah_takeNo 38 51 rfl (wanted_gone rfl (by kernel_rfl) (pf1 (by decide) (pf8 (by decide) (put_get _ _ _ (by simp only [put_size]; rw [hsz]; decide))))) rfl (by kernel_rfl) (by kernel_rfl) (by kernel_rfl) (fun _ _ _ h => h) hbW12 ?_
              refine ah_takeNo 39 52 rfl (wanted_gone rfl (by kernel_rfl) (pf2 (by decide) (pf8 (by decide) (put_get _ _ _ (by simp only [put_size]; rw [hsz]; decide))))) rfl (by kernel_rfl) (by kernel_rfl) (by kernel_rfl) (fun _ _ _ h => h) hbW12 ?_
              refine ah_takeNo 40 53 rfl (wanted_gone rfl (by kernel_rfl) (pf1 (by decide) (pf2 (by decide) (pf8 (by decide) (put_get _ _ _ (by simp only [put_size]; rw [hsz]; decide)))))) rfl (by kernel_rfl) (by kernel_rfl) (by kernel_rfl) (fun _ _ _ h => h) hbW12 ?_
              refine ah_takeNo 41 54 rfl (wanted_no (pol' := true) rfl (by kernel_rfl) (flag_of (pf1 (by decide) (pf2 (by decide) (pf4 (by decide) (pf8 (by decide) (put_get _ _ _ (by simp only [put_size]; rw [hsz]; decide)))))) (not_of hb_15)) (by decide)) rfl (by kernel_rfl) (by kernel_rfl) (by kernel_rfl) (fun _ _ _ h => h) hbW12 ?_
              refine ah_takeW 42 55 (.bool true) rfl (wanted_none rfl) rfl (by kernel_rfl) (by kernel_rfl) (by kernel_rfl) (fun _ _ _ h => h) hbW12 (fun W hW => by have hbW12 := hW; exact (run_pickT (eval_cast (eval_of (pf16 (by decide) (put_get _ _ _ (by simp only [put_size]; rw [hsz]; decide)))) (not_of hb_15)) (eval_cst _ _))) ?_
              refine fresh (C := fun x W => AH _ _ _ _ _ _ x W) (fun x X => _ = X ∧ x.tmps.size = 56 ∧ x.defers = [] ∧ x.tmps[0]? = some (.slice ao L.length cap) ∧ x.tmps[3]? = some (.int .i64 ((k : Nat) : Int)) ∧ x.tmps[55]? = some (.bool true)) ⟨rfl, (by simp only [put_size]; exact hsz), (by simp only [put_defers]; exact hdf), (pf1 (by decide) (pf2 (by decide) (pf8 (by decide) (pf16 (by decide) (pf16 (by decide) s_0))))), (pf1 (by decide) (pf2 (by decide) (pf8 (by decide) (pf16 (by decide) (pf16 (by decide) s_3))))), (put_get _ _ _ (by simp only [put_size]; rw [hsz]; decide))⟩ ?_
              clear hsz hdf s_0 s_3 s_10
              rintro a _ ⟨rfl, hsz, hdf, s_0, s_3, s_55⟩
              refine ah_done (by kernel_rfl) ?_
              refine ow_then ?_
              refine ow_true (eval_of s_55) ?_
              refine wp_seq ?_
              refine ow_region [_] rfl (by intro o ho; simp only [List.mem_cons, List.not_mem_nil, or_false] at ho; subst ho; rfl) ?_
              refine ow_run 2 (.bool false) _ rfl (run_assignOp (eval_cst _ _)) ?_
              refine fresh (C := fun x W => wpRun _ [] x W _) (fun x X => _ = X ∧ x.tmps.size = 56 ∧ x.defers = [] ∧ x.tmps[2]? = some (.bool false)) ⟨rfl, (by simp only [put_size]; exact hsz), (by simp only [put_defers]; exact hdf), (put_get _ _ _ (by rw [hsz]; decide))⟩ ?_
              clear hsz hdf s_0 s_3 s_55
              rintro a _ ⟨rfl, hsz, hdf, s_2⟩
              refine ow_then ?_
              refine wp_ret ?_
              refine ow_blk_ret _ ?_
              refine ow_then_ret ?_
              refine ow_then_ret ?_
              refine ow_blk_ret _ ?_
              refine ow_then_ret ?_
              exact ow_ret1 rfl hdf s_2 ⟨by rw [show tabB L = false from ((tabB_short (by have h := hb_3; simp only [decide_eq_false_iff_not] at h; omega)).trans (hok.trans (by rw [drop_cons hq]; exact okN_age hb_15)))], hbW12⟩
          · skip
            refine ah_takeNo 17 30 rfl (wanted_no (pol' := true) rfl (by kernel_rfl) (flag_of (put_get _ _ _ (by simp only [put_size]; rw [hsz]; decide)) (not_of hb_14)) (by decide)) rfl (by kernel_rfl) (by kernel_rfl) (by kernel_rfl) (fun _ _ _ h => h) hbW12 ?_
            refine ah_takeNo 18 31 rfl (wanted_no (pol' := true) rfl (by kernel_rfl) (flag_of (pf1 (by decide) (put_get _ _ _ (by simp only [put_size]; rw [hsz]; decide))) (not_of hb_14)) (by decide)) rfl (by kernel_rfl) (by kernel_rfl) (by kernel_rfl) (fun _ _ _ h => h) hbW12 ?_
            refine ah_takeNo 19 32 rfl (wanted_no (pol' := true) rfl (by kernel_rfl) (flag_of (pf2 (by decide) (put_get _ _ _ (by simp only [put_size]; rw [hsz]; decide))) (not_of hb_14)) (by decide)) rfl (by kernel_rfl) (by kernel_rfl) (by kernel_rfl) (fun _ _ _ h => h) hbW12 ?_
            refine ah_takeNo 20 33 rfl (wanted_no (pol' := true) rfl (by kernel_rfl) (flag_of (pf1 (by decide) (pf2 (by decide) (put_get _ _ _ (by simp only [put_size]; rw [hsz]; decide)))) (not_of hb_14)) (by decide)) rfl (by kernel_rfl) (by kernel_rfl) (by kernel_rfl) (fun _ _ _ h => h) hbW12 ?_
            refine ah_takeNo 21 34 rfl (wanted_no (pol' := true) rfl (by kernel_rfl) (flag_of (pf4 (by decide) (put_get _ _ _ (by simp only [put_size]; rw [hsz]; decide))) (not_of hb_14)) (by decide)) rfl (by kernel_rfl) (by kernel_rfl) (by kernel_rfl) (fun _ _ _ h => h) hbW12 ?_
            refine ah_takeNo 22 35 rfl (wanted_no (pol' := true) rfl (by kernel_rfl) (flag_of (pf1 (by decide) (pf4 (by decide) (put_get _ _ _ (by simp only [put_size]; rw [hsz]; decide)))) (not_of hb_14)) (by decide)) rfl (by kernel_rfl) (by kernel_rfl) (by kernel_rfl) (fun _ _ _ h => h) hbW12 ?_
            refine ah_takeNo 23 36 rfl (wanted_no (pol' := true) rfl (by kernel_rfl) (flag_of (pf2 (by decide) (pf4 (by decide) (put_get _ _ _ (by simp only [put_size]; rw [hsz]; decide)))) (not_of hb_14)) (by decide)) rfl (by kernel_rfl) (by kernel_rfl) (by kernel_rfl) (fun _ _ _ h => h) hbW12 ?_
            refine ah_takeW 24 37 (.bool true) rfl (wanted_none rfl) rfl (by kernel_rfl) (by kernel_rfl) (by kernel_rfl) (fun _ _ _ h => h) hbW12 (fun W hW => by have hbW12 := hW; exact (run_pickT (eval_cast (eval_of (pf1 (by decide) (pf2 (by decide) (pf4 (by decide) (put_get _ _ _ (by simp only [put_size]; rw [hsz]; decide)))))) (not_of hb_14)) (eval_cst _ _))) ?_
            refine ah_takeW 25 38 (.bool true) rfl (wanted_none rfl) rfl (by kernel_rfl) (by kernel_rfl) (by kernel_rfl) (fun _ _ _ h => h) hbW12 (fun W hW => by have hbW12 := hW; exact (run_moveOp (eval_of (put_get _ _ _ (by simp only [put_size]; rw [hsz]; decide))))) ?_
            refine ah_takeNo 26 39 rfl (wanted_no (pol' := true) rfl (by kernel_rfl) (put_get _ _ _ (by simp only [put_size]; rw [hsz]; decide)) (by decide)) rfl (by kernel_rfl) (by kernel_rfl) (by kernel_rfl) (fun _ _ _ h => h) hbW12 ?_
            refine ah_takeNo 27 40 rfl (wanted_no (pol' := true) rfl (by kernel_rfl) (pf1 (by decide) (put_get _ _ _ (by simp only [put_size]; rw [hsz]; decide))) (by decide)) rfl (by kernel_rfl) (by kernel_rfl) (by kernel_rfl) (fun _ _ _ h => h) hbW12 ?_
            refine ah_takeNo 28 41 rfl (wanted_no (pol' := true) rfl (by kernel_rfl) (pf2 (by decide) (put_get _ _ _ (by simp only [put_size]; rw [hsz]; decide))) (by decide)) rfl (by kernel_rfl) (by kernel_rfl) (by kernel_rfl) (fun _ _ _ h => h) hbW12 ?_
            refine ah_takeNo 29 42 rfl (wanted_gone rfl (by kernel_rfl) (put_get _ _ _ (by simp only [put_size]; rw [hsz]; decide))) rfl (by kernel_rfl) (by kernel_rfl) (by kernel_rfl) (fun _ _ _ h => h) hbW12 ?_
            refine ah_takeNo 30 43 rfl (wanted_gone rfl (by kernel_rfl) (pf1 (by decide) (put_get _ _ _ (by simp only [put_size]; rw [hsz]; decide)))) rfl (by kernel_rfl) (by kernel_rfl) (by kernel_rfl) (fun _ _ _ h => h) hbW12 ?_
            refine ah_takeNo 31 44 rfl (wanted_gone rfl (by kernel_rfl) (pf2 (by decide) (put_get _ _ _ (by simp only [put_size]; rw [hsz]; decide)))) rfl (by kernel_rfl) (by kernel_rfl) (by kernel_rfl) (fun _ _ _ h => h) hbW12 ?_
            refine ah_takeNo 32 45 rfl (wanted_gone rfl (by kernel_rfl) (pf1 (by decide) (pf2 (by decide) (put_get _ _ _ (by simp only [put_size]; rw [hsz]; decide))))) rfl (by kernel_rfl) (by kernel_rfl) (by kernel_rfl) (fun _ _ _ h => h) hbW12 ?_
            refine ah_takeNo 33 46 rfl (wanted_gone rfl (by kernel_rfl) (pf4 (by decide) (put_get _ _ _ (by simp only [put_size]; rw [hsz]; decide)))) rfl (by kernel_rfl) (by kernel_rfl) (by kernel_rfl) (fun _ _ _ h => h) hbW12 ?_
            refine ah_takeNo 34 47 rfl (wanted_gone rfl (by kernel_rfl) (pf1 (by decide) (pf4 (by decide) (put_get _ _ _ (by simp only [put_size]; rw [hsz]; decide))))) rfl (by kernel_rfl) (by kernel_rfl) (by kernel_rfl) (fun _ _ _ h => h) hbW12 ?_
            refine ah_takeNo 35 48 rfl (wanted_gone rfl (by kernel_rfl) (pf2 (by decide) (pf4 (by decide) (put_get _ _ _ (by simp only [put_size]; rw [hsz]; decide))))) rfl (by kernel_rfl) (by kernel_rfl) (by kernel_rfl) (fun _ _ _ h => h) hbW12 ?_
            refine ah_takeNo 36 49 rfl (wanted_gone rfl (by kernel_rfl) (pf1 (by decide) (pf2 (by decide) (pf4 (by decide) (put_get _ _ _ (by simp only [put_size]; rw [hsz]; decide)))))) rfl (by kernel_rfl) (by kernel_rfl) (by kernel_rfl) (fun _ _ _ h => h) hbW12 ?_
            refine ah_takeNo 37 50 rfl (wanted_gone rfl (by kernel_rfl) (pf8 (by decide) (put_get _ _ _ (by simp only [put_size]; rw [hsz]; decide)))) rfl (by kernel_rfl) (by kernel_rfl) (by kernel_rfl) (fun _ _ _ h => h) hbW12 ?_
            refine ah_takeNo 38 51 rfl (wanted_gone rfl (by kernel_rfl) (pf1 (by decide) (pf8 (by decide) (put_get _ _ _ (by simp only [put_size]; rw [hsz]; decide))))) rfl (by kernel_rfl) (by kernel_rfl) (by kernel_rfl) (fun _ _ _ h => h) hbW12 ?_
            refine ah_takeNo 39 52 rfl (wanted_gone rfl (by kernel_rfl) (pf2 (by decide) (pf8 (by decide) (put_get _ _ _ (by simp only [put_size]; rw [hsz]; decide))))) rfl (by kernel_rfl) (by kernel_rfl) (by kernel_rfl) (fun _ _ _ h => h) hbW12 ?_
            refine ah_takeNo 40 53 rfl (wanted_gone rfl (by kernel_rfl) (pf1 (by decide) (pf2 (by decide) (pf8 (by decide) (put_get _ _ _ (by simp only [put_size]; rw [hsz]; decide)))))) rfl (by kernel_rfl) (by kernel_rfl) (by kernel_rfl) (fun _ _ _ h => h) hbW12 ?_
            refine ah_takeNo 41 54 rfl (wanted_no (pol' := true) rfl (by kernel_rfl) (pf1 (by decide) (pf2 (by decide) (pf4 (by decide) (pf8 (by decide) (put_get _ _ _ (by simp only [put_size]; rw [hsz]; decide)))))) (by decide)) rfl (by kernel_rfl) (by kernel_rfl) (by kernel_rfl) (fun _ _ _ h => h) hbW12 ?_
            refine ah_takeW 42 55 (.bool true) rfl (wanted_none rfl) rfl (by kernel_rfl) (by kernel_rfl) (by kernel_rfl) (fun _ _ _ h => h) hbW12 (fun W hW => by have hbW12 := hW; exact (run_pickT (eval_of (pf16 (by decide) (put_get _ _ _ (by simp only [put_size]; rw [hsz]; decide)))) (eval_cst _ _))) ?_
            refine fresh (C := fun x W => AH _ _ _ _ _ _ x W) (fun x X => _ = X ∧ x.tmps.size = 56 ∧ x.defers = [] ∧ x.tmps[0]? = some (.slice ao L.length cap) ∧ x.tmps[3]? = some (.int .i64 ((k : Nat) : Int)) ∧ x.tmps[55]? = some (.bool true)) ⟨rfl, (by simp only [put_size]; exact hsz), (by simp only [put_defers]; exact hdf), (pf1 (by decide) (pf2 (by decide) (pf8 (by decide) (pf16 (by decide) (pf16 (by decide) s_0))))), (pf1 (by decide) (pf2 (by decide) (pf8 (by decide) (pf16 (by decide) (pf16 (by decide) s_3))))), (put_get _ _ _ (by simp only [put_size]; rw [hsz]; decide))⟩ ?_
            clear hsz hdf s_0 s_3 s_10
            rintro a _ ⟨rfl, hsz, hdf, s_0, s_3, s_55⟩
            refine ah_done (by kernel_rfl) ?_
            refine ow_then ?_
            refine ow_true (eval_of s_55) ?_
            refine wp_seq ?_
            refine ow_region [_] rfl (by intro o ho; simp only [List.mem_cons, List.not_mem_nil, or_false] at ho; subst ho; rfl) ?_
            refine ow_run 2 (.bool false) _ rfl (run_assignOp (eval_cst _ _)) ?_
            refine fresh (C := fun x W => wpRun _ [] x W _) (fun x X => _ = X ∧ x.tmps.size = 56 ∧ x.defers = [] ∧ x.tmps[2]? = some (.bool false)) ⟨rfl, (by simp only [put_size]; exact hsz), (by simp only [put_defers]; exact hdf), (put_get _ _ _ (by rw [hsz]; decide))⟩ ?_
            clear hsz hdf s_0 s_3 s_55
            rintro a _ ⟨rfl, hsz, hdf, s_2⟩
            refine ow_then ?_
            refine wp_ret ?_
            refine ow_blk_ret _ ?_
            refine ow_then_ret ?_
            refine ow_then_ret ?_
            refine ow_blk_ret _ ?_
            refine ow_then_ret ?_
            exact ow_ret1 rfl hdf s_2 ⟨by rw [show tabB L = false from ((tabB_short (by have h := hb_3; simp only [decide_eq_false_iff_not] at h; omega)).trans (hok.trans (by rw [drop_cons hq]; exact okN_mac hb_14)))], hbW12⟩
        · skip
          refine ah_takeNo 8 21 rfl (wanted_no (pol' := true) rfl (by kernel_rfl) (flag_of (put_get _ _ _ (by simp only [put_size]; rw [hsz]; decide)) (not_of hb_13)) (by decide)) rfl (by kernel_rfl) (by kernel_rfl) (by kernel_rfl) (fun _ _ _ h => h) hbW12 ?_
          refine ah_takeNo 9 22 rfl (wanted_no (pol' := true) rfl (by kernel_rfl) (flag_of (pf1 (by decide) (put_get _ _ _ (by simp only [put_size]; rw [hsz]; decide))) (not_of hb_13)) (by decide)) rfl (by kernel_rfl) (by kernel_rfl) (by kernel_rfl) (fun _ _ _ h => h) hbW12 ?_
          refine ah_takeNo 10 23 rfl (wanted_no (pol' := true) rfl (by kernel_rfl) (flag_of (pf2 (by decide) (put_get _ _ _ (by simp only [put_size]; rw [hsz]; decide))) (not_of hb_13)) (by decide)) rfl (by kernel_rfl) (by kernel_rfl) (by kernel_rfl) (fun _ _ _ h => h) hbW12 ?_
          refine ah_takeNo 11 24 rfl (wanted_no (pol' := true) rfl (by kernel_rfl) (flag_of (pf1 (by decide) (pf2 (by decide) (put_get _ _ _ (by simp only [put_size]; rw [hsz]; decide)))) (not_of hb_13)) (by decide)) rfl (by kernel_rfl) (by kernel_rfl) (by kernel_rfl) (fun _ _ _ h => h) hbW12 ?_
          refine ah_takeNo 12 25 rfl (wanted_no (pol' := true) rfl (by kernel_rfl) (flag_of (pf4 (by decide) (put_get _ _ _ (by simp only [put_size]; rw [hsz]; decide))) (not_of hb_13)) (by decide)) rfl (by kernel_rfl) (by kernel_rfl) (by kernel_rfl) (fun _ _ _ h => h) hbW12 ?_
          refine ah_takeNo 13 26 rfl (wanted_no (pol' := true) rfl (by kernel_rfl) (flag_of (pf1 (by decide) (pf4 (by decide) (put_get _ _ _ (by simp only [put_size]; rw [hsz]; decide)))) (not_of hb_13)) (by decide)) rfl (by kernel_rfl) (by kernel_rfl) (by kernel_rfl) (fun _ _ _ h => h) hbW12 ?_
          refine ah_takeNo 14 27 rfl (wanted_no (pol' := true) rfl (by kernel_rfl) (flag_of (pf2 (by decide) (pf4 (by decide) (put_get _ _ _ (by simp only [put_size]; rw [hsz]; decide)))) (not_of hb_13)) (by decide)) rfl (by kernel_rfl) (by kernel_rfl) (by kernel_rfl) (fun _ _ _ h => h) hbW12 ?_
          refine ah_takeW 15 28 (.bool true) rfl (wanted_none rfl) rfl (by kernel_rfl) (by kernel_rfl) (by kernel_rfl) (fun _ _ _ h => h) hbW12 (fun W hW => by have hbW12 := hW; exact (run_pickT (eval_cast (eval_of (pf1 (by decide) (pf2 (by decide) (pf4 (by decide) (put_get _ _ _ (by simp only [put_size]; rw [hsz]; decide)))))) (not_of hb_13)) (eval_cst _ _))) ?_
          refine ah_takeW 16 29 (.bool true) rfl (wanted_none rfl) rfl (by kernel_rfl) (by kernel_rfl) (by kernel_rfl) (fun _ _ _ h => h) hbW12 (fun W hW => by have hbW12 := hW; exact (run_moveOp (eval_of (put_get _ _ _ (by simp only [put_size]; rw [hsz]; decide))))) ?_
          refine ah_takeNo 17 30 rfl (wanted_no (pol' := true) rfl (by kernel_rfl) (put_get _ _ _ (by simp only [put_size]; rw [hsz]; decide)) (by decide)) rfl (by kernel_rfl) (by kernel_rfl) (by kernel_rfl) (fun _ _ _ h => h) hbW12 ?_
          refine ah_takeNo 18 31 rfl (wanted_no (pol' := true) rfl (by kernel_rfl) (pf1 (by decide) (put_get _ _ _ (by simp only [put_size]; rw [hsz]; decide))) (by decide)) rfl (by kernel_rfl) (by kernel_rfl) (by kernel_rfl) (fun _ _ _ h => h) hbW12 ?_
          refine ah_takeNo 19 32 rfl (wanted_no (pol' := true) rfl (by kernel_rfl) (pf2 (by decide) (put_get _ _ _ (by simp only [put_size]; rw [hsz]; decide))) (by decide)) rfl (by kernel_rfl) (by kernel_rfl) (by kernel_rfl) (fun _ _ _ h => h) hbW12 ?_
          refine ah_takeNo 20 33 rfl (wanted_no (pol' := true) rfl (by kernel_rfl) (pf1 (by decide) (pf2 (by decide) (put_get _ _ _ (by simp only [put_size]; rw [hsz]; decide)))) (by decide)) rfl (by kernel_rfl) (by kernel_rfl) (by kernel_rfl) (fun _ _ _ h => h) hbW12 ?_
          refine ah_takeNo 21 34 rfl (wanted_no (pol' := true) rfl (by kernel_rfl) (pf4 (by decide) (put_get _ _ _ (by simp only [put_size]; rw [hsz]; decide))) (by decide)) rfl (by kernel_rfl) (by kernel_rfl) (by kernel_rfl) (fun _ _ _ h => h) hbW12 ?_
          refine ah_takeNo 22 35 rfl (wanted_no (pol' := true) rfl (by kernel_rfl) (pf1 (by decide) (pf4 (by decide) (put_get _ _ _ (by simp only [put_size]; rw [hsz]; decide)))) (by decide)) rfl (by kernel_rfl) (by kernel_rfl) (by kernel_rfl) (fun _ _ _ h => h) hbW12 ?_
          refine ah_takeNo 23 36 rfl (wanted_no (pol' := true) rfl (by kernel_rfl) (pf2 (by decide) (pf4 (by decide) (put_get _ _ _ (by simp only [put_size]; rw [hsz]; decide)))) (by decide)) rfl (by kernel_rfl) (by kernel_rfl) (by kernel_rfl) (fun _ _ _ h => h) hbW12 ?_
          refine ah_takeW 24 37 (.bool true) rfl (wanted_none rfl) rfl (by kernel_rfl) (by kernel_rfl) (by kernel_rfl) (fun _ _ _ h => h) hbW12 (fun W hW => by have hbW12 := hW; exact (run_pickT (eval_of (pf1 (by decide) (pf2 (by decide) (pf4 (by decide) (put_get _ _ _ (by simp only [put_size]; rw [hsz]; decide)))))) (eval_cst _ _))) ?_
          refine ah_takeW 25 38 (.bool true) rfl (wanted_none rfl) rfl (by kernel_rfl) (by kernel_rfl) (by kernel_rfl) (fun _ _ _ h => h) hbW12 (fun W hW => by have hbW12 := hW; exact (run_moveOp (eval_of (put_get _ _ _ (by simp only [put_size]; rw [hsz]; decide))))) ?_
          refine ah_takeNo 26 39 rfl (wanted_no (pol' := true) rfl (by kernel_rfl) (put_get _ _ _ (by simp only [put_size]; rw [hsz]; decide)) (by decide)) rfl (by kernel_rfl) (by kernel_rfl) (by kernel_rfl) (fun _ _ _ h => h) hbW12 ?_
          refine ah_takeNo 27 40 rfl (wanted_no (pol' := true) rfl (by kernel_rfl) (pf1 (by decide) (put_get _ _ _ (by simp only [put_size]; rw [hsz]; decide))) (by decide)) rfl (by kernel_rfl) (by kernel_rfl) (by kernel_rfl) (fun _ _ _ h => h) hbW12 ?_
          refine ah_takeNo 28 41 rfl (wanted_no (pol' := true) rfl (by kernel_rfl) (pf2 (by decide) (put_get _ _ _ (by simp only [put_size]; rw [hsz]; decide))) (by decide)) rfl (by kernel_rfl) (by kernel_rfl) (by kernel_rfl) (fun _ _ _ h => h) hbW12 ?_
          refine ah_takeNo 29 42 rfl (wanted_gone rfl (by kernel_rfl) (put_get _ _ _ (by simp only [put_size]; rw [hsz]; decide))) rfl (by kernel_rfl) (by kernel_rfl) (by kernel_rfl) (fun _ _ _ h => h) hbW12 ?_
          refine ah_takeNo 30 43 rfl (wanted_gone rfl (by kernel_rfl) (pf1 (by decide) (put_get _ _ _ (by simp only [put_size]; rw [hsz]; decide)))) rfl (by kernel_rfl) (by kernel_rfl) (by kernel_rfl) (fun _ _ _ h => h) hbW12 ?_
          refine ah_takeNo 31 44 rfl (wanted_gone rfl (by kernel_rfl) (pf2 (by decide) (put_get _ _ _ (by simp only [put_size]; rw [hsz]; decide)))) rfl (by kernel_rfl) (by kernel_rfl) (by kernel_rfl) (fun _ _ _ h => h) hbW12 ?_
          refine ah_takeNo 32 45 rfl (wanted_gone rfl (by kernel_rfl) (pf1 (by decide) (pf2 (by decide) (put_get _ _ _ (by simp only [put_size]; rw [hsz]; decide))))) rfl (by kernel_rfl) (by kernel_rfl) (by kernel_rfl) (fun _ _ _ h => h) hbW12 ?_
          refine ah_takeNo 33 46 rfl (wanted_gone rfl (by kernel_rfl) (pf4 (by decide) (put_get _ _ _ (by simp only [put_size]; rw [hsz]; decide)))) rfl (by kernel_rfl) (by kernel_rfl) (by kernel_rfl) (fun _ _ _ h => h) hbW12 ?_
          refine ah_takeNo 34 47 rfl (wanted_gone rfl (by kernel_rfl) (pf1 (by decide) (pf4 (by decide) (put_get _ _ _ (by simp only [put_size]; rw [hsz]; decide))))) rfl (by kernel_rfl) (by kernel_rfl) (by kernel_rfl) (fun _ _ _ h => h) hbW12 ?_
          refine ah_takeNo 35 48 rfl (wanted_gone rfl (by kernel_rfl) (pf2 (by decide) (pf4 (by decide) (put_get _ _ _ (by simp only [put_size]; rw [hsz]; decide))))) rfl (by kernel_rfl) (by kernel_rfl) (by kernel_rfl) (fun _ _ _ h => h) hbW12 ?_
          refine ah_takeNo 36 49 rfl (wanted_gone rfl (by kernel_rfl) (pf1 (by decide) (pf2 (by decide) (pf4 (by decide) (put_get _ _ _ (by simp only [put_size]; rw [hsz]; decide)))))) rfl (by kernel_rfl) (by kernel_rfl) (by kernel_rfl) (fun _ _ _ h => h) hbW12 ?_
          refine ah_takeNo 37 50 rfl (wanted_gone rfl (by kernel_rfl) (pf8 (by decide) (put_get _ _ _ (by simp only [put_size]; rw [hsz]; decide)))) rfl (by kernel_rfl) (by kernel_rfl) (by kernel_rfl) (fun _ _ _ h => h) hbW12 ?_
          refine ah_takeNo 38 51 rfl (wanted_gone rfl (by kernel_rfl) (pf1 (by decide) (pf8 (by decide) (put_get _ _ _ (by simp only [put_size]; rw [hsz]; decide))))) rfl (by kernel_rfl) (by kernel_rfl) (by kernel_rfl) (fun _ _ _ h => h) hbW12 ?_
          refine ah_takeNo 39 52 rfl (wanted_gone rfl (by kernel_rfl) (pf2 (by decide) (pf8 (by decide) (put_get _ _ _ (by simp only [put_size]; rw [hsz]; decide))))) rfl (by kernel_rfl) (by kernel_rfl) (by kernel_rfl) (fun _ _ _ h => h) hbW12 ?_
          refine ah_takeNo 40 53 rfl (wanted_gone rfl (by kernel_rfl) (pf1 (by decide) (pf2 (by decide) (pf8 (by decide) (put_get _ _ _ (by simp only [put_size]; rw [hsz]; decide)))))) rfl (by kernel_rfl) (by kernel_rfl) (by kernel_rfl) (fun _ _ _ h => h) hbW12 ?_
          refine ah_takeNo 41 54 rfl (wanted_no (pol' := true) rfl (by kernel_rfl) (pf1 (by decide) (pf2 (by decide) (pf4 (by decide) (pf8 (by decide) (put_get _ _ _ (by simp only [put_size]; rw [hsz]; decide)))))) (by decide)) rfl (by kernel_rfl) (by kernel_rfl) (by kernel_rfl) (fun _ _ _ h => h) hbW12 ?_
          refine ah_takeW 42 55 (.bool true) rfl (wanted_none rfl) rfl (by kernel_rfl) (by kernel_rfl) (by kernel_rfl) (fun _ _ _ h => h) hbW12 (fun W hW => by have hbW12 := hW; exact (run_pickT (eval_of (pf16 (by decide) (put_get _ _ _ (by simp only [put_size]; rw [hsz]; decide)))) (eval_cst _ _))) ?_
          refine fresh (C := fun x W => AH _ _ _ _ _ _ x W) (fun x X => _ = X ∧ x.tmps.size = 56 ∧ x.defers = [] ∧ x.tmps[0]? = some (.slice ao L.length cap) ∧ x.tmps[3]? = some (.int .i64 ((k : Nat) : Int)) ∧ x.tmps[55]? = some (.bool true)) ⟨rfl, (by simp only [put_size]; exact hsz), (by simp only [put_defers]; exact hdf), (pf1 (by decide) (pf2 (by decide) (pf8 (by decide) (pf16 (by decide) (pf16 (by decide) s_0))))), (pf1 (by decide) (pf2 (by decide) (pf8 (by decide) (pf16 (by decide) (pf16 (by decide) s_3))))), (put_get _ _ _ (by simp only [put_size]; rw [hsz]; decide))⟩ ?_
          clear hsz hdf s_0 s_3 s_10
          rintro a _ ⟨rfl, hsz, hdf, s_0, s_3, s_55⟩
          refine ah_done (by kernel_rfl) ?_
          refine ow_then ?_
          refine ow_true (eval_of s_55) ?_
          refine wp_seq ?_
          refine ow_region [_] rfl (by intro o ho; simp only [List.mem_cons, List.not_mem_nil, or_false] at ho; subst ho; rfl) ?_
          refine ow_run 2 (.bool false) _ rfl (run_assignOp (eval_cst _ _)) ?_
          refine fresh (C := fun x W => wpRun _ [] x W _) (fun x X => _ = X ∧ x.tmps.size = 56 ∧ x.defers = [] ∧ x.tmps[2]? = some (.bool false)) ⟨rfl, (by simp only [put_size]; exact hsz), (by simp only [put_defers]; exact hdf), (put_get _ _ _ (by rw [hsz]; decide))⟩ ?_
          clear hsz hdf s_0 s_3 s_55
          rintro a _ ⟨rfl, hsz, hdf, s_2⟩
          refine ow_then ?_
          refine wp_ret ?_
          refine ow_blk_ret _ ?_
          refine ow_then_ret ?_
          refine ow_then_ret ?_
          refine ow_blk_ret _ ?_
          refine ow_then_ret ?_
          exact ow_ret1 rfl hdf s_2 ⟨by rw [show tabB L = false from ((tabB_short (by have h := hb_3; simp only [decide_eq_false_iff_not] at h; omega)).trans (hok.trans (by rw [drop_cons hq]; exact okN_ip hb_13)))], hbW12⟩
      · skip
        refine ah_region (fun W => Below w.heap.size w W) (by kernel_rfl) 43 rfl ?_
        refine fresh (C := fun x W => AH _ _ _ _ _ _ x W) (fun x X => _ = x ∧ Below w.heap.size w X) ⟨rfl, (hbW6.trans (((Below.refl _ W6).drew).mono hbW6.size))⟩ ?_
        rintro _ W26 ⟨rfl, hbW26⟩
        refine ah_takeW 0 13 (.slice ao L.length cap) rfl (wanted_none rfl) rfl (by kernel_rfl) (by kernel_rfl) (by kernel_rfl) (fun _ _ _ h => h) hbW26 (fun W hW => by have hbW26 := hW; exact (run_moveOp (eval_of s_0))) ?_
        refine ah_takeW 1 14 (.int .i64 ((k : Nat) : Int)) rfl (wanted_none rfl) rfl (by kernel_rfl) (by kernel_rfl) (by kernel_rfl) (fun _ _ _ h => h) hbW26 (fun W hW => by have hbW26 := hW; exact (run_moveOp (eval_of (pf1 (by decide) s_3)))) ?_
        refine ah_takeW 2 15 (.pointer (some ⟨b, (off + k * 3), none⟩)) rfl (wanted_none rfl) rfl (by kernel_rfl) (by kernel_rfl) (by kernel_rfl) (fun _ _ _ h => h) hbW26 (fun W hW => by have hbW26 := hW; exact (run_indexOp (eval_of (pf1 (by decide) (put_get _ _ _ (by rw [hsz]; decide)))) (eval_of (put_get _ _ _ (by simp only [put_size]; rw [hsz]; decide))) (run_indexNb ao b off L.length cap k hao hlt _))) ?_
        refine ah_takeW 3 16 (.pointer (some ⟨b, (off + k * 3), none⟩)) rfl (wanted_none rfl) rfl (by kernel_rfl) (by kernel_rfl) (by kernel_rfl) (fun _ _ _ h => h) hbW26 (fun W hW => by have hbW26 := hW; exact (run_fieldAddr (eval_of (put_get _ _ _ (by simp only [put_size]; rw [hsz]; decide))) (by simp [go_sem, Instr.fieldAt]))) ?_
        refine ah_takeW 4 17 (.int .i64 q.ip) rfl (wanted_none rfl) rfl (by kernel_rfl) (by kernel_rfl) (by kernel_rfl) (fun _ _ _ h => h) hbW26 (fun W hW => by have hbW26 := hW; exact (run_loadOp (eval_of (put_get _ _ _ (by simp only [put_size]; rw [hsz]; decide))) (by simp [go_sem, Instr.loadAt, (hbW26.cell (p := ⟨b, (off + k * 3), none⟩) hbw).trans c0]))) ?_
        refine ah_one 5 (by kernel_rfl) ?_
        refine ao_call rfl (wanted_none rfl) 18 (fun v X => v = .bool (ipB q.ip) ∧ W26 = X) rfl _ _ (run_callOp Try.func33 rfl rfl (arr1 (eval_of (put_get _ _ _ (by simp only [put_size]; rw [hsz]; decide))))) ((zWord_any _ _).mono fun e X h => ⟨_, h.1, rfl, h.2⟩) ?_
        rintro _ _ ⟨rfl, rfl⟩
        refine ⟨hbW26, ?_⟩
        refine ah_takeW 6 19 (.bool (!(ipB q.ip))) rfl (wanted_none rfl) rfl (by kernel_rfl) (by kernel_rfl) (by kernel_rfl) (fun _ _ _ h => h) hbW26 (fun W hW => by have hbW26 := hW; exact (run_notOp (eval_of (put_get _ _ _ (by simp only [put_size]; rw [hsz]; decide))))) ?_
        refine ah_takeW 7 20 (.bool (!(ipB q.ip))) rfl (wanted_none rfl) rfl (by kernel_rfl) (by kernel_rfl) (by kernel_rfl) (fun _ _ _ h => h) hbW26 (fun W hW => by have hbW26 := hW; exact (run_moveOp (eval_of (put_get _ _ _ (by simp only [put_size]; rw [hsz]; decide))))) ?_
        rcases Bool.eq_false_or_eq_true ((ipB q.ip)) with hb_27 | hb_27
        · skip
          refine ah_takeW 8 21 (.slice ao L.length cap) rfl (wanted_yes rfl (by kernel_rfl) (flag_of (put_get _ _ _ (by simp only [put_size]; rw [hsz]; decide)) (not_of hb_27))) rfl (by kernel_rfl) (by kernel_rfl) (by kernel_rfl) (fun _ _ _ h => h) hbW26 (fun W hW => by have hbW26 := hW; exact (run_moveOp (eval_of (pf8 (by decide) s_0)))) ?_
          refine ah_takeW 9 22 (.int .i64 ((k : Nat) : Int)) rfl (wanted_yes rfl (by kernel_rfl) (flag_of (pf1 (by decide) (put_get _ _ _ (by simp only [put_size]; rw [hsz]; decide))) (not_of hb_27))) rfl (by kernel_rfl) (by kernel_rfl) (by kernel_rfl) (fun _ _ _ h => h) hbW26 (fun W hW => by have hbW26 := hW; exact (run_moveOp (eval_of (pf1 (by decide) (pf8 (by decide) s_3))))) ?_
          refine ah_takeW 10 23 (.pointer (some ⟨b, (off + k * 3), none⟩)) rfl (wanted_yes rfl (by kernel_rfl) (flag_of (pf2 (by decide) (put_get _ _ _ (by simp only [put_size]; rw [hsz]; decide))) (not_of hb_27))) rfl (by kernel_rfl) (by kernel_rfl) (by kernel_rfl) (fun _ _ _ h => h) hbW26 (fun W hW => by have hbW26 := hW; exact (run_indexOp (eval_of (pf1 (by decide) (put_get _ _ _ (by simp only [put_size]; rw [hsz]; decide)))) (eval_of (put_get _ _ _ (by simp only [put_size]; rw [hsz]; decide))) (run_indexNb ao b off L.length cap k hao hlt _))) ?_
          refine ah_takeW 11 24 (.pointer (some ⟨b, ((off + k * 3) + 1), none⟩)) rfl (wanted_yes rfl (by kernel_rfl) (flag_of (pf1 (by decide) (pf2 (by decide) (put_get _ _ _ (by simp only [put_size]; rw [hsz]; decide)))) (not_of hb_27))) rfl (by kernel_rfl) (by kernel_rfl) (by kernel_rfl) (fun _ _ _ h => h) hbW26 (fun W hW => by have hbW26 := hW; exact (run_fieldAddr (eval_of (put_get _ _ _ (by simp only [put_size]; rw [hsz]; decide))) (by simp [go_sem, Instr.fieldAt]))) ?_
          refine ah_takeW 12 25 (.int .i64 q.mac) rfl (wanted_yes rfl (by kernel_rfl) (flag_of (pf4 (by decide) (put_get _ _ _ (by simp only [put_size]; rw [hsz]; decide))) (not_of hb_27))) rfl (by kernel_rfl) (by kernel_rfl) (by kernel_rfl) (fun _ _ _ h => h) hbW26 (fun W hW => by have hbW26 := hW; exact (run_loadOp (eval_of (put_get _ _ _ (by simp only [put_size]; rw [hsz]; decide))) (by simp [go_sem, Instr.loadAt, (hbW26.cell (p := ⟨b, ((off + k * 3) + 1), none⟩) hbw).trans c1]))) ?_
          refine ah_one 13 (by kernel_rfl) ?_
          refine ao_call rfl (wanted_yes rfl (by kernel_rfl) (flag_of (pf1 (by decide) (pf4 (by decide) (put_get _ _ _ (by simp only [put_size]; rw [hsz]; decide)))) (not_of hb_27))) 26 (fun v X => v = .bool (macB q.mac) ∧ W26 = X) rfl _ _ (run_callOp Try.func34 rfl rfl (arr1 (eval_of (put_get _ _ _ (by simp only [put_size]; rw [hsz]; decide))))) ((zMac_any _ _).mono fun e X h => ⟨_, h.1, rfl, h.2⟩) ?_
          rintro _ _ ⟨rfl, rfl⟩
          refine ⟨hbW26, ?_⟩
          refine ah_takeW 14 27 (.bool (!(macB q.mac))) rfl (wanted_yes rfl (by kernel_rfl) (flag_of (pf2 (by decide) (pf4 (by decide) (put_get _ _ _ (by simp only [put_size]; rw [hsz]; decide)))) (not_of hb_27))) rfl (by kernel_rfl) (by kernel_rfl) (by kernel_rfl) (fun _ _ _ h => h) hbW26 (fun W hW => by have hbW26 := hW; exact (run_notOp (eval_of (put_get _ _ _ (by simp only [put_size]; rw [hsz]; decide))))) ?_
          refine ah_takeW 15 28 (.bool (!(macB q.mac))) rfl (wanted_none rfl) rfl (by kernel_rfl) (by kernel_rfl) (by kernel_rfl) (fun _ _ _ h => h) hbW26 (fun W hW => by have hbW26 := hW; exact (run_pickF (eval_cast (eval_of (pf1 (by decide) (pf2 (by decide) (pf4 (by decide) (put_get _ _ _ (by simp only [put_size]; rw [hsz]; decide)))))) (not_of hb_27)) (eval_of (put_get _ _ _ (by simp only [put_size]; rw [hsz]; decide))))) ?_
          refine ah_takeW 16 29 (.bool (!(macB q.mac))) rfl (wanted_none rfl) rfl (by kernel_rfl) (by kernel_rfl) (by kernel_rfl) (fun _ _ _ h => h) hbW26 (fun W hW => by have hbW26 := hW; exact (run_moveOp (eval_of (put_get _ _ _ (by simp only [put_size]; rw [hsz]; decide))))) ?_
          rcases Bool.eq_false_or_eq_true ((macB q.mac)) with hb_28 | hb_28
          · skip
            refine ah_takeW 17 30 (.slice ao L.length cap) rfl (wanted_yes rfl (by kernel_rfl) (flag_of (put_get _ _ _ (by simp only [put_size]; rw [hsz]; decide)) (not_of hb_28))) rfl (by kernel_rfl) (by kernel_rfl) (by kernel_rfl) (fun _ _ _ h => h) hbW26 (fun W hW => by have hbW26 := hW; exact (run_moveOp (eval_of (pf1 (by decide) (pf16 (by decide) s_0))))) ?_
            refine ah_takeW 18 31 (.int .i64 ((k : Nat) : Int)) rfl (wanted_yes rfl (by kernel_rfl) (flag_of (pf1 (by decide) (put_get _ _ _ (by simp only [put_size]; rw [hsz]; decide))) (not_of hb_28))) rfl (by kernel_rfl) (by kernel_rfl) (by kernel_rfl) (fun _ _ _ h => h) hbW26 (fun W hW => by have hbW26 := hW; exact (run_moveOp (eval_of (pf2 (by decide) (pf16 (by decide) s_3))))) ?_
            refine ah_takeW 19 32 (.pointer (some ⟨b, (off + k * 3), none⟩)) rfl (wanted_yes rfl (by kernel_rfl) (flag_of (pf2 (by decide) (put_get _ _ _ (by simp only [put_size]; rw [hsz]; decide))) (not_of hb_28))) rfl (by kernel_rfl) (by kernel_rfl) (by kernel_rfl) (fun _ _ _ h => h) hbW26 (fun W hW => by have hbW26 := hW; exact (run_indexOp (eval_of (pf1 (by decide) (put_get _ _ _ (by simp only [put_size]; rw [hsz]; decide)))) (eval_of (put_get _ _ _ (by simp only [put_size]; rw [hsz]; decide))) (run_indexNb ao b off L.length cap k hao hlt _))) ?_
            refine ah_takeW 20 33 (.pointer (some ⟨b, ((off + k * 3) + 2), none⟩)) rfl (wanted_yes rfl (by kernel_rfl) (flag_of (pf1 (by decide) (pf2 (by decide) (put_get _ _ _ (by simp only [put_size]; rw [hsz]; decide)))) (not_of hb_28))) rfl (by kernel_rfl) (by kernel_rfl) (by kernel_rfl) (fun _ _ _ h => h) hbW26 (fun W hW => by have hbW26 := hW; exact (run_fieldAddr (eval_of (put_get _ _ _ (by simp only [put_size]; rw [hsz]; decide))) (by simp [go_sem, Instr.fieldAt]))) ?_
            refine ah_takeW 21 34 (.int .i64 q.age) rfl (wanted_yes rfl (by kernel_rfl) (flag_of (pf4 (by decide) (put_get _ _ _ (by simp only [put_size]; rw [hsz]; decide))) (not_of hb_28))) rfl (by kernel_rfl) (by kernel_rfl) (by kernel_rfl) (fun _ _ _ h => h) hbW26 (fun W hW => by have hbW26 := hW; exact (run_loadOp (eval_of (put_get _ _ _ (by simp only [put_size]; rw [hsz]; decide))) (by simp [go_sem, Instr.loadAt, (hbW26.cell (p := ⟨b, ((off + k * 3) + 2), none⟩) hbw).trans c2]))) ?_
            refine ah_one 22 (by kernel_rfl) ?_
            refine ao_call rfl (wanted_yes rfl (by kernel_rfl) (flag_of (pf1 (by decide) (pf4 (by decide) (put_get _ _ _ (by simp only [put_size]; rw [hsz]; decide)))) (not_of hb_28))) 35 (fun v X => v = .bool (ageB q.age) ∧ W26 = X) rfl _ _ (run_callOp Try.func48 rfl rfl (arr2 (eval_of (put_get _ _ _ (by simp only [put_size]; rw [hsz]; decide))) (eval_cst _ _))) ((zAge_any _ _).mono fun e X h => ⟨_, h.1, rfl, h.2⟩) ?_
            rintro _ _ ⟨rfl, rfl⟩
            refine ⟨hbW26, ?_⟩
            refine ah_takeW 23 36 (.bool (!(ageB q.age))) rfl (wanted_yes rfl (by kernel_rfl) (flag_of (pf2 (by decide) (pf4 (by decide) (put_get _ _ _ (by simp only [put_size]; rw [hsz]; decide)))) (not_of hb_28))) rfl (by kernel_rfl) (by kernel_rfl) (by kernel_rfl) (fun _ _ _ h => h) hbW26 (fun W hW => by have hbW26 := hW; exact (run_notOp (eval_of (put_get _ _ _ (by simp only [put_size]; rw [hsz]; decide))))) ?_
            refine ah_takeW 24 37 (.bool (!(ageB q.age))) rfl (wanted_none rfl) rfl (by kernel_rfl) (by kernel_rfl) (by kernel_rfl) (fun _ _ _ h => h) hbW26 (fun W hW => by have hbW26 := hW; exact (run_pickF (eval_cast (eval_of (pf1 (by decide) (pf2 (by decide) (pf4 (by decide) (put_get _ _ _ (by simp only [put_size]; rw [hsz]; decide)))))) (not_of hb_28)) (eval_of (put_get _ _ _ (by simp only [put_size]; rw [hsz]; decide))))) ?_
            refine ah_takeW 25 38 (.bool (!(ageB q.age))) rfl (wanted_none rfl) rfl (by kernel_rfl) (by kernel_rfl) (by kernel_rfl) (fun _ _ _ h => h) hbW26 (fun W hW => by have hbW26 := hW; exact (run_moveOp (eval_of (put_get _ _ _ (by simp only [put_size]; rw [hsz]; decide))))) ?_
            rcases Bool.eq_false_or_eq_true ((ageB q.age)) with hb_29 | hb_29
            · skip
              refine ah_takeW 26 39 (.int .i64 ((k : Nat) : Int)) rfl (wanted_yes rfl (by kernel_rfl) (flag_of (put_get _ _ _ (by simp only [put_size]; rw [hsz]; decide)) (not_of hb_29))) rfl (by kernel_rfl) (by kernel_rfl) (by kernel_rfl) (fun _ _ _ h => h) hbW26 (fun W hW => by have hbW26 := hW; exact (run_moveOp (eval_of (pf2 (by decide) (pf8 (by decide) (pf16 (by decide) s_3)))))) ?_
              refine ah_takeW 27 40 (.bool (decide (0 < ((k : Nat) : Int)))) rfl (wanted_yes rfl (by kernel_rfl) (flag_of (pf1 (by decide) (put_get _ _ _ (by simp only [put_size]; rw [hsz]; decide))) (not_of hb_29))) rfl (by kernel_rfl) (by kernel_rfl) (by kernel_rfl) (fun _ _ _ h => h) hbW26 (fun W hW => by have hbW26 := hW; exact (run_binOp (eval_of (put_get _ _ _ (by simp only [put_size]; rw [hsz]; decide))) (eval_cst _ _) (by simp [go_sem]) (by simp [go_sem]))) ?_
              refine ah_takeW 28 41 (.bool (decide (0 < ((k : Nat) : Int)))) rfl (wanted_yes rfl (by kernel_rfl) (flag_of (pf2 (by decide) (put_get _ _ _ (by simp only [put_size]; rw [hsz]; decide))) (not_of hb_29))) rfl (by kernel_rfl) (by kernel_rfl) (by kernel_rfl) (fun _ _ _ h => h) hbW26 (fun W hW => by have hbW26 := hW; exact (run_moveOp (eval_of (put_get _ _ _ (by simp only [put_size]; rw [hsz]; decide))))) ?_
              refine ah_takeNo 29 42 rfl (wanted_no (pol' := false) rfl (by kernel_rfl) (flag_of (put_get _ _ _ (by simp only [put_size]; rw [hsz]; decide)) hb_11) (by decide)) rfl (by kernel_rfl) (by kernel_rfl) (by kernel_rfl) (fun _ _ _ h => h) hbW26 ?_
              refine ah_takeNo 30 43 rfl (wanted_no (pol' := false) rfl (by kernel_rfl) (flag_of (pf1 (by decide) (put_get _ _ _ (by simp only [put_size]; rw [hsz]; decide))) hb_11) (by decide)) rfl (by kernel_rfl) (by kernel_rfl) (by kernel_rfl) (fun _ _ _ h => h) hbW26 ?_
              refine ah_takeNo 31 44 rfl (wanted_no (pol' := false) rfl (by kernel_rfl) (flag_of (pf2 (by decide) (put_get _ _ _ (by simp only [put_size]; rw [hsz]; decide))) hb_11) (by decide)) rfl (by kernel_rfl) (by kernel_rfl) (by kernel_rfl) (fun _ _ _ h => h) hbW26 ?_
              refine ah_takeNo 32 45 rfl (wanted_no (pol' := false) rfl (by kernel_rfl) (flag_of (pf1 (by decide) (pf2 (by decide) (put_get _ _ _ (by simp only [put_size]; rw [hsz]; decide)))) hb_11) (by decide)) rfl (by kernel_rfl) (by kernel_rfl) (by kernel_rfl) (fun _ _ _ h => h) hbW26 ?_
              refine ah_takeNo 33 46 rfl (wanted_no (pol' := false) rfl (by kernel_rfl) (flag_of (pf4 (by decide) (put_get _ _ _ (by simp only [put_size]; rw [hsz]; decide))) hb_11) (by decide)) rfl (by kernel_rfl) (by kernel_rfl) (by kernel_rfl) (fun _ _ _ h => h) hbW26 ?_
              refine ah_takeNo 34 47 rfl (wanted_no (pol' := false) rfl (by kernel_rfl) (flag_of (pf1 (by decide) (pf4 (by decide) (put_get _ _ _ (by simp only [put_size]; rw [hsz]; decide)))) hb_11) (by decide)) rfl (by kernel_rfl) (by kernel_rfl) (by kernel_rfl) (fun _ _ _ h => h) hbW26 ?_
              refine ah_takeNo 35 48 rfl (wanted_no (pol' := false) rfl (by kernel_rfl) (flag_of (pf2 (by decide) (pf4 (by decide) (put_get _ _ _ (by simp only [put_size]; rw [hsz]; decide)))) hb_11) (by decide)) rfl (by kernel_rfl) (by kernel_rfl) (by kernel_rfl) (fun _ _ _ h => h) hbW26 ?_
              refine ah_takeNo 36 49 rfl (wanted_no (pol' := false) rfl (by kernel_rfl) (flag_of (pf1 (by decide) (pf2 (by decide) (pf4 (by decide) (put_get _ _ _ (by simp only [put_size]; rw [hsz]; decide))))) hb_11) (by decide)) rfl (by kernel_rfl) (by kernel_rfl) (by kernel_rfl) (fun _ _ _ h => h) hbW26 ?_
              refine ah_takeNo 37 50 rfl (wanted_no (pol' := false) rfl (by kernel_rfl) (flag_of (pf8 (by decide) (put_get _ _ _ (by simp only [put_size]; rw [hsz]; decide))) hb_11) (by decide)) rfl (by kernel_rfl) (by kernel_rfl) (by kernel_rfl) (fun _ _ _ h => h) hbW26 ?_
              refine ah_takeNo 38 51 rfl (wanted_no (pol' := false) rfl (by kernel_rfl) (flag_of (pf1 (by decide) (pf8 (by decide) (put_get _ _ _ (by simp only [put_size]; rw [hsz]; decide)))) hb_11) (by decide)) rfl (by kernel_rfl) (by kernel_rfl) (by kernel_rfl) (fun _ _ _ h => h) hbW26 ?_
              refine ah_takeNo 39 52 rfl (wanted_no (pol' := false) rfl (by kernel_rfl) (flag_of (pf2 (by decide) (pf8 (by decide) (put_get _ _ _ (by simp only [put_size]; rw [hsz]; decide)))) hb_11) (by decide)) rfl (by kernel_rfl) (by kernel_rfl) (by kernel_rfl) (fun _ _ _ h => h) hbW26 ?_
              refine ah_takeNo 40 53 rfl (wanted_no (pol' := false) rfl (by kernel_rfl) (flag_of (pf1 (by decide) (pf2 (by decide) (pf8 (by decide) (put_get _ _ _ (by simp only [put_size]; rw [hsz]; decide))))) hb_11) (by decide)) rfl (by kernel_rfl) (by kernel_rfl) (by kernel_rfl) (fun _ _ _ h => h) hbW26 ?_
              refine ah_takeW 41 54 (.bool false) rfl (wanted_yes rfl (by kernel_rfl) (flag_of (pf1 (by decide) (pf2 (by decide) (pf4 (by decide) (pf8 (by decide) (put_get _ _ _ (by simp only [put_size]; rw [hsz]; decide)))))) (not_of hb_29))) rfl (by kernel_rfl) (by kernel_rfl) (by kernel_rfl) (fun _ _ _ h => h) hbW26 (fun W hW => by have hbW26 := hW; exact (run_pickF (eval_cast (eval_of (pf4 (by decide) (pf8 (by decide) (put_get _ _ _ (by simp only [put_size]; rw [hsz]; decide))))) hb_11) (eval_cst _ _))) ?_
              refine ah_takeW 42 55 (.bool false) rfl (wanted_none rfl) rfl (by kernel_rfl) (by kernel_rfl) (by kernel_rfl) (fun _ _ _ h => h) hbW26 (fun W hW => by have hbW26 := hW; exact (run_pickF (eval_cast (eval_of (pf16 (by decide) (put_get _ _ _ (by simp only [put_size]; rw [hsz]; decide)))) (not_of hb_29)) (eval_of (put_get _ _ _ (by simp only [put_size]; rw [hsz]; decide))))) ?_
              refine fresh (C := fun x W => AH _ _ _ _ _ _ x W) (fun x X => _ = X ∧ x.tmps.size = 56 ∧ x.defers = [] ∧ x.tmps[0]? = some (.slice ao L.length cap) ∧ x.tmps[3]? = some (.int .i64 ((k : Nat) : Int)) ∧ x.tmps[55]? = some (.bool false)) ⟨rfl, (by simp only [put_size]; exact hsz), (by simp only [put_defers]; exact hdf), (pf1 (by decide) (pf2 (by decide) (pf8 (by decide) (pf16 (by decide) (pf16 (by decide) s_0))))), (pf1 (by decide) (pf2 (by decide) (pf8 (by decide) (pf16 (by decide) (pf16 (by decide) s_3))))), (put_get _ _ _ (by simp only [put_size]; rw [hsz]; decide))⟩ ?_
              clear hsz hdf s_0 s_3 s_10
              rintro a _ ⟨rfl, hsz, hdf, s_0, s_3, s_55⟩
              refine ah_done (by kernel_rfl) ?_
              refine ow_then ?_
              refine ow_false (eval_of s_55) ?_
              refine wp_skip ?_
              refine ow_blk _ ?_
              refine ow_then ?_
              refine ow_region [_, _, _] rfl (by intro o ho; simp only [List.mem_cons, List.not_mem_nil, or_false] at ho; rcases ho with rfl | rfl | rfl <;> rfl) ?_
              refine ow_run 11 (.int .i64 ((k : Nat) : Int)) _ rfl (run_moveOp (eval_of s_3)) ?_
              refine ow_run 12 (.int .i64 (((k : Nat) : Int) + 1)) _ rfl (run_binOp (eval_of (put_get _ _ _ (by rw [hsz]; decide))) (eval_cst _ _) (by simp [go_sem]) (addI _ _ _ (by omega) (by omega))) ?_
              refine ow_run 3 (.int .i64 (((k : Nat) : Int) + 1)) _ rfl (run_assignOp (eval_of (put_get _ _ _ (by simp only [put_size]; rw [hsz]; decide)))) ?_
              refine fresh (C := fun x W => wpRun _ [] x W _) (fun x X => _ = X ∧ x.tmps.size = 56 ∧ x.defers = [] ∧ x.tmps[0]? = some (.slice ao L.length cap) ∧ x.tmps[3]? = some (.int .i64 (((k : Nat) : Int) + 1))) ⟨rfl, (by simp only [put_size]; exact hsz), (by simp only [put_defers]; exact hdf), (pf1 (by decide) (pf2 (by decide) s_0)), (put_get _ _ _ (by simp only [put_size]; rw [hsz]; decide))⟩ ?_
              clear hsz hdf s_0 s_3 s_55
              rintro a _ ⟨rfl, hsz, hdf, s_0, s_3⟩
              exact ow_then (hK8 _ _ _ (by omega) ⟨(k + 1), rfl, (by omega), (okN_cons hok hq hb_27 hb_28 hb_29 (fun h => by have g := hb_11; simp only [decide_eq_false_iff_not] at g; omega)), hsz, hdf, s_0, (by first | exact s_3 | (rw [s_3]; congr 2; first | rfl | omega | (push_cast; omega)) | (rw [s_3]; first | rfl | (simp; try omega))), hbW26⟩)
            · skip
              refine ah_takeNo 26 39 rfl (wanted_no (pol' := true) rfl (by kernel_rfl) (flag_of (put_get _ _ _ (by simp only [put_size]; rw [hsz]; decide)) (not_of hb_29)) (by decide)) rfl (by kernel_rfl) (by kernel_rfl) (by kernel_rfl) (fun _ _ _ h => h) hbW26 ?_
              refine ah_takeNo 27 40 rfl (wanted_no (pol' := true) rfl (by kernel_rfl) (flag_of (pf1 (by decide) (put_get _ _ _ (by simp only [put_size]; rw [hsz]; decide))) (not_of hb_29)) (by decide)) rfl (by kernel_rfl) (by kernel_rfl) (by kernel_rfl) (fun _ _ _ h => h) hbW26 ?_
              refine ah_takeNo 28 41 rfl (wanted_no (pol' := true) rfl (by kernel_rfl) (flag_of (pf2 (by decide) (put_get _ _ _ (by simp only [put_size]; rw [hsz]; decide))) (not_of hb_29)) (by decide)) rfl (by kernel_rfl) (by kernel_rfl) (by kernel_rfl) (fun _ _ _ h => h) hbW26 ?_
              refine ah_takeNo 29 42 rfl (wanted_gone rfl (by kernel_rfl) (put_get _ _ _ (by simp only [put_size]; rw [hsz]; decide))) rfl (by kernel_rfl) (by kernel_rfl) (by kernel_rfl) (fun _ _ _ h => h) hbW26 ?_
              refine ah_takeNo 30 43 rfl (wanted_gone rfl (by kernel_rfl) (pf1 (by decide) (put_get _ _ _ (by simp only [put_size]; rw [hsz]; decide)))) rfl (by kernel_rfl) (by kernel_rfl) (by kernel_rfl) (fun _ _ _ h => h) hbW26 ?_
              refine ah_takeNo 31 44 rfl (wanted_gone rfl (by kernel_rfl) (pf2 (by decide) (put_get _ _ _ (by simp only [put_size]; rw [hsz]; decide)))) rfl (by kernel_rfl) (by kernel_rfl) (by kernel_rfl) (fun _ _ _ h => h) hbW26 ?_
              refine ah_takeNo 32 45 rfl (wanted_gone rfl (by kernel_rfl) (pf1 (by decide) (pf2 (by decide) (put_get _ _ _ (by simp only [put_size]; rw [hsz]; decide))))) rfl (by kernel_rfl) (by kernel_rfl) (by kernel_rfl) (fun _ _ _ h => h) hbW26 ?_
              refine ah_takeNo 33 46 rfl (wanted_gone rfl (by kernel_rfl) (pf4 (by decide) (put_get _ _ _ (by simp only [put_size]; rw [hsz]; decide)))) rfl (by kernel_rfl) (by kernel_rfl) (by kernel_rfl) (fun _ _ _ h => h) hbW26 ?_
              refine ah_takeNo 34 47 rfl (wanted_gone rfl (by kernel_rfl) (pf1 (by decide) (pf4 (by decide) (put_get _ _ _ (by simp only [put_size]; rw [hsz]; decide))))) rfl (by kernel_rfl) (by kernel_rfl) (by kernel_rfl) (fun _ _ _ h => h) hbW26 ?_
              refine ah_takeNo 35 48 rfl (wanted_gone rfl (by kernel_rfl) (pf2 (by decide) (pf4 (by decide) (put_get _ _ _ (by simp only [put_size]; rw [hsz]; decide))))) rfl (by kernel_rfl) (by kernel_rfl) (by kernel_rfl) (fun _ _ _ h => h) hbW26 ?_
              refine ah_takeNo 36 49 rfl (wanted_gone rfl (by kernel_rfl) (pf1 (by decide) (pf2 (by decide) (pf4 (by decide) (put_get _ _ _ (by simp only [put_size]; rw [hsz]; decide)))))) rfl (by kernel_rfl) (by kernel_rfl) (by kernel_rfl) (fun _ _ _ h => h) hbW26 ?_
              refine ah_takeNo 37 50 rfl (wanted_gone rfl (by kernel_rfl) (pf8 (by decide) (put_get _ _ _ (by simp only [put_size]; rw [hsz]; decide)))) rfl (by kernel_rfl) (by kernel_rfl) (by kernel_rfl) (fun _ _ _ h => h) hbW26 ?_
              refine ah_takeNo 38 51 rfl (wanted_gone rfl (by kernel_rfl) (pf1 (by decide) (pf8 (by decide) (put_get _ _ _ (by simp only [put_size]; rw [hsz]; decide))))) rfl (by kernel_rfl) (by kernel_rfl) (by kernel_rfl) (fun _ _ _ h => h) hbW26 ?_
              refine ah_takeNo 39 52 rfl (wanted_gone rfl (by kernel_rfl) (pf2 (by decide) (pf8 (by decide) (put_get _ _ _ (by simp only [put_size]; rw [hsz]; decide))))) rfl (by kernel_rfl) (by kernel_rfl) (by kernel_rfl) (fun _ _ _ h => h) hbW26 ?_
              refine ah_takeNo 40 53 rfl (wanted_gone rfl (by kernel_rfl) (pf1 (by decide) (pf2 (by decide) (pf8 (by decide) (put_get _ _ _ (by simp only [put_size]; rw [hsz]; decide)))))) rfl (by kernel_rfl) (by kernel_rfl) (by kernel_rfl) (fun _ _ _ h => h) hbW26 ?_
              refine ah_takeNo 41 54 rfl (wanted_no (pol' := true) rfl (by kernel_rfl) (flag_of (pf1 (by decide) (pf2 (by decide) (pf4 (by decide) (pf8 (by decide) (put_get _ _ _ (by simp only [put_size]; rw [hsz]; decide)))))) (not_of hb_29)) (by decide)) rfl (by kernel_rfl) (by kernel_rfl) (by kernel_rfl) (fun _ _ _ h => h) hbW26 ?_
              refine ah_takeW 42 55 (.bool true) rfl (wanted_none rfl) rfl (by kernel_rfl) (by kernel_rfl) (by kernel_rfl) (fun _ _ _ h => h) hbW26 (fun W hW => by have hbW26 := hW; exact (run_pickT (eval_cast (eval_of (pf16 (by decide) (put_get _ _ _ (by simp only [put_size]; rw [hsz]; decide)))) (not_of hb_29)) (eval_cst _ _))) ?_
              refine fresh (C := fun x W => AH _ _ _ _ _ _ x W) (fun x X => _ = X ∧ x.tmps.size = 56 ∧ x.defers = [] ∧ x.tmps[0]? = some (.slice ao L.length cap) ∧ x.tmps[3]? = some (.int .i64 ((k : Nat) : Int)) ∧ x.tmps[55]? = some (.bool true)) ⟨rfl, (by simp only [put_size]; exact hsz), (by simp only [put_defers]; exact hdf), (pf1 (by decide) (pf2 (by decide) (pf8 (by decide) (pf16 (by decide) (pf16 (by decide) s_0))))), (pf1 (by decide) (pf2 (by decide) (pf8 (by decide) (pf16 (by decide) (pf16 (by decide) s_3))))), (put_get _ _ _ (by simp only [put_size]; rw [hsz]; decide))⟩ ?_
              clear hsz hdf s_0 s_3 s_10
              rintro a _ ⟨rfl, hsz, hdf, s_0, s_3, s_55⟩
              refine ah_done (by kernel_rfl) ?_
              refine ow_then ?_
              refine ow_true (eval_of s_55) ?_
              refine wp_seq ?_
              refine ow_region [_] rfl (by intro o ho; simp only [List.mem_cons, List.not_mem_nil, or_false] at ho; subst ho; rfl) ?_
              refine ow_run 2 (.bool false) _ rfl (run_assignOp (eval_cst _ _)) ?_
              refine fresh (C := fun x W => wpRun _ [] x W _) (fun x X => _ = X ∧ x.tmps.size = 56 ∧ x.defers = [] ∧ x.tmps[2]? = some (.bool false)) ⟨rfl, (by simp only [put_size]; exact hsz), (by simp only [put_defers]; exact hdf), (put_get _ _ _ (by rw [hsz]; decide))⟩ ?_
              clear hsz hdf s_0 s_3 s_55
              rintro a _ ⟨rfl, hsz, hdf, s_2⟩
              refine ow_then ?_
              refine wp_ret ?_
              refine ow_blk_ret _ ?_
              refine ow_then_ret ?_
              refine ow_then_ret ?_
              refine ow_blk_ret _ ?_
              refine ow_then_ret ?_
              exact ow_ret1 rfl hdf s_2 ⟨by rw [show tabB L = false from ((tabB_short (by have h := hb_3; simp only [decide_eq_false_iff_not] at h; omega)).trans (hok.trans (by rw [drop_cons hq]; exact okN_age hb_29)))], hbW26⟩
          · skip
            refine ah_takeNo 17 30 rfl (wanted_no (pol' := true) rfl (by kernel_rfl) (flag_of (put_get _ _ _ (by simp only [put_size]; rw [hsz]; decide)) (not_of hb_28)) (by decide)) rfl (by kernel_rfl) (by kernel_rfl) (by kernel_rfl) (fun _ _ _ h => h) hbW26 ?_
            refine ah_takeNo 18 31 rfl (wanted_no (pol' := true) rfl (by kernel_rfl) (flag_of (pf1 (by decide) (put_get _ _ _ (by simp only [put_size]; rw [hsz]; decide))) (not_of hb_28)) (by decide)) rfl (by kernel_rfl) (by kernel_rfl) (by kernel_rfl) (fun _ _ _ h => h) hbW26 ?_
            refine ah_takeNo 19 32 rfl (wanted_no (pol' := true) rfl (by kernel_rfl) (flag_of (pf2 (by decide) (put_get _ _ _ (by simp only [put_size]; rw [hsz]; decide))) (not_of hb_28)) (by decide)) rfl (by kernel_rfl) (by kernel_rfl) (by kernel_rfl) (fun _ _ _ h => h) hbW26 ?_
            refine ah_takeNo 20 33 rfl (wanted_no (pol' := true) rfl (by kernel_rfl) (flag_of (pf1 (by decide) (pf2 (by decide) (put_get _ _ _ (by simp only [put_size]; rw [hsz]; decide)))) (not_of hb_28)) (by decide)) rfl (by kernel_rfl) (by kernel_rfl) (by kernel_rfl) (fun _ _ _ h => h) hbW26 ?_
            refine ah_takeNo 21 34 rfl (wanted_no (pol' := true) rfl (by kernel_rfl) (flag_of (pf4 (by decide) (put_get _ _ _ (by simp only [put_size]; rw [hsz]; decide))) (not_of hb_28)) (by decide)) rfl (by kernel_rfl) (by kernel_rfl) (by kernel_rfl) (fun _ _ _ h => h) hbW26 ?_
            refine ah_takeNo 22 35 rfl (wanted_no (pol' := true) rfl (by kernel_rfl) (flag_of (pf1 (by decide) (pf4 (by decide) (put_get _ _ _ (by simp only [put_size]; rw [hsz]; decide)))) (not_of hb_28)) (by decide)) rfl (by kernel_rfl) (by kernel_rfl) (by kernel_rfl) (fun _ _ _ h => h) hbW26 ?_
            refine ah_takeNo 23 36 rfl (wanted_no (pol' := true) rfl (by kernel_rfl) (flag_of (pf2 (by decide) (pf4 (by decide) (put_get _ _ _ (by simp only [put_size]; rw [hsz]; decide)))) (not_of hb_28)) (by decide)) rfl (by kernel_rfl) (by kernel_rfl) (by kernel_rfl) (fun _ _ _ h => h) hbW26 ?_
            refine ah_takeW 24 37 (.bool true) rfl (wanted_none rfl) rfl (by kernel_rfl) (by kernel_rfl) (by kernel_rfl) (fun _ _ _ h => h) hbW26 (fun W hW => by have hbW26 := hW; exact (run_pickT (eval_cast (eval_of (pf1 (by decide) (pf2 (by decide) (pf4 (by decide) (put_get _ _ _ (by simp only [put_size]; rw [hsz]; decide)))))) (not_of hb_28)) (eval_cst _ _))) ?_
            refine ah_takeW 25 38 (.bool true) rfl (wanted_none rfl) rfl (by kernel_rfl) (by kernel_rfl) (by kernel_rfl) (fun _ _ _ h => h) hbW26 (fun W hW => by have hbW26 := hW; exact (run_moveOp (eval_of (put_get _ _ _ (by simp only [put_size]; rw [hsz]; decide))))) ?_
            refine ah_takeNo 26 39 rfl (wanted_no (pol' := true) rfl (by kernel_rfl) (put_get _ _ _ (by simp only [put_size]; rw [hsz]; decide)) (by decide)) rfl (by kernel_rfl) (by kernel_rfl) (by kernel_rfl) (fun _ _ _ h => h) hbW26 ?_
            refine ah_takeNo 27 40 rfl (wanted_no (pol' := true) rfl (by kernel_rfl) (pf1 (by decide) (put_get _ _ _ (by simp only [put_size]; rw [hsz]; decide))) (by decide)) rfl (by kernel_rfl) (by kernel_rfl) (by kernel_rfl) (fun _ _ _ h => h) hbW26 ?_
            refine ah_takeNo 28 41 rfl (wanted_no (pol' := true) rfl (by kernel_rfl) (pf2 (by decide) (put_get _ _ _ (by simp only [put_size]; rw [hsz]; decide))) (by decide)) rfl (by kernel_rfl) (by kernel_rfl) (by kernel_rfl) (fun _ _ _ h => h) hbW26 ?_
            refine ah_takeNo 29 42 rfl (wanted_gone rfl (by kernel_rfl) (put_get _ _ _ (by simp only [put_size]; rw [hsz]; decide))) rfl (by kernel_rfl) (by kernel_rfl) (by kernel_rfl) (fun _ _ _ h => h) hbW26 ?_
            refine ah_takeNo 30 43 rfl (wanted_gone rfl (by kernel_rfl) (pf1 (by decide) (put_get _ _ _ (by simp only [put_size]; rw [hsz]; decide)))) rfl (by kernel_rfl) (by kernel_rfl) (by kernel_rfl) (fun _ _ _ h => h) hbW26 ?_
            refine ah_takeNo 31 44 rfl (wanted_gone rfl (by kernel_rfl) (pf2 (by decide) (put_get _ _ _ (by simp only [put_size]; rw [hsz]; decide)))) rfl (by kernel_rfl) (by kernel_rfl) (by kernel_rfl) (fun _ _ _ h => h) hbW26 ?_
            refine ah_takeNo 32 45 rfl (wanted_gone rfl (by kernel_rfl) (pf1 (by decide) (pf2 (by decide) (put_get _ _ _ (by simp only [put_size]; rw [hsz]; decide))))) rfl (by kernel_rfl) (by kernel_rfl) (by kernel_rfl) (fun _ _ _ h => h) hbW26 ?_
            refine ah_takeNo 33 46 rfl (wanted_gone rfl (by kernel_rfl) (pf4 (by decide) (put_get _ _ _ (by simp only [put_size]; rw [hsz]; decide)))) rfl (by kernel_rfl) (by kernel_rfl) (by kernel_rfl) (fun _ _ _ h => h) hbW26 ?_
            refine ah_takeNo 34 47 rfl (wanted_gone rfl (by kernel_rfl) (pf1 (by decide) (pf4 (by decide) (put_get _ _ _ (by simp only [put_size]; rw [hsz]; decide))))) rfl (by kernel_rfl) (by kernel_rfl) (by kernel_rfl) (fun _ _ _ h => h) hbW26 ?_
            refine ah_takeNo 35 48 rfl (wanted_gone rfl (by kernel_rfl) (pf2 (by decide) (pf4 (by decide) (put_get _ _ _ (by simp only [put_size]; rw [hsz]; decide))))) rfl (by kernel_rfl) (by kernel_rfl) (by kernel_rfl) (fun _ _ _ h => h) hbW26 ?_
            refine ah_takeNo 36 49 rfl (wanted_gone rfl (by kernel_rfl) (pf1 (by decide) (pf2 (by decide) (pf4 (by decide) (put_get _ _ _ (by simp only [put_size]; rw [hsz]; decide)))))) rfl (by kernel_rfl) (by kernel_rfl) (by kernel_rfl) (fun _ _ _ h => h) hbW26 ?_
            refine ah_takeNo 37 50 rfl (wanted_gone rfl (by kernel_rfl) (pf8 (by decide) (put_get _ _ _ (by simp only [put_size]; rw [hsz]; decide)))) rfl (by kernel_rfl) (by kernel_rfl) (by kernel_rfl) (fun _ _ _ h => h) hbW26 ?_
            refine ah_takeNo 38 51 rfl (wanted_gone rfl (by kernel_rfl) (pf1 (by decide) (pf8 (by decide) (put_get _ _ _ (by simp only [put_size]; rw [hsz]; decide))))) rfl (by kernel_rfl) (by kernel_rfl) (by kernel_rfl) (fun _ _ _ h => h) hbW26 ?_
            refine ah_takeNo 39 52 rfl (wanted_gone rfl (by kernel_rfl) (pf2 (by decide) (pf8 (by decide) (put_get _ _ _ (by simp only [put_size]; rw [hsz]; decide))))) rfl (by kernel_rfl) (by kernel_rfl) (by kernel_rfl) (fun _ _ _ h => h) hbW26 ?_
            refine ah_takeNo 40 53 rfl (wanted_gone rfl (by kernel_rfl) (pf1 (by decide) (pf2 (by decide) (pf8 (by decide) (put_get _ _ _ (by simp only [put_size]; rw [hsz]; decide)))))) rfl (by kernel_rfl) (by kernel_rfl) (by kernel_rfl) (fun _ _ _ h => h) hbW26 ?_
            refine ah_takeNo 41 54 rfl (wanted_no (pol' := true) rfl (by kernel_rfl) (pf1 (by decide) (pf2 (by decide) (pf4 (by decide) (pf8 (by decide) (put_get _ _ _ (by simp only [put_size]; rw [hsz]; decide)))))) (by decide)) rfl (by kernel_rfl) (by kernel_rfl) (by kernel_rfl) (fun _ _ _ h => h) hbW26 ?_
            refine ah_takeW 42 55 (.bool true) rfl (wanted_none rfl) rfl (by kernel_rfl) (by kernel_rfl) (by kernel_rfl) (fun _ _ _ h => h) hbW26 (fun W hW => by have hbW26 := hW; exact (run_pickT (eval_of (pf16 (by decide) (put_get _ _ _ (by simp only [put_size]; rw [hsz]; decide)))) (eval_cst _ _))) ?_
            refine fresh (C := fun x W => AH _ _ _ _ _ _ x W) (fun x X => _ = X ∧ x.tmps.size = 56 ∧ x.defers = [] ∧ x.tmps[0]? = some (.slice ao L.length cap) ∧ x.tmps[3]? = some (.int .i64 ((k : Nat) : Int)) ∧ x.tmps[55]? = some (.bool true)) ⟨rfl, (by simp only [put_size]; exact hsz), (by simp only [put_defers]; exact hdf), (pf1 (by decide) (pf2 (by decide) (pf8 (by decide) (pf16 (by decide) (pf16 (by decide) s_0))))), (pf1 (by decide) (pf2 (by decide) (pf8 (by decide) (pf16 (by decide) (pf16 (by decide) s_3))))), (put_get _ _ _ (by simp only [put_size]; rw [hsz]; decide))⟩ ?_
            clear hsz hdf s_0 s_3 s_10
            rintro a _ ⟨rfl, hsz, hdf, s_0, s_3, s_55⟩
            refine ah_done (by kernel_rfl) ?_
            refine ow_then ?_
            refine ow_true (eval_of s_55) ?_
            refine wp_seq ?_
            refine ow_region [_] rfl (by intro o ho; simp only [List.mem_cons, List.not_mem_nil, or_false] at ho; subst ho; rfl) ?_
            refine ow_run 2 (.bool false) _ rfl (run_assignOp (eval_cst _ _)) ?_
            refine fresh (C := fun x W => wpRun _ [] x W _) (fun x X => _ = X ∧ x.tmps.size = 56 ∧ x.defers = [] ∧ x.tmps[2]? = some (.bool false)) ⟨rfl, (by simp only [put_size]; exact hsz), (by simp only [put_defers]; exact hdf), (put_get _ _ _ (by rw [hsz]; decide))⟩ ?_
            clear hsz hdf s_0 s_3 s_55
            rintro a _ ⟨rfl, hsz, hdf, s_2⟩
            refine ow_then ?_
            refine wp_ret ?_
            refine ow_blk_ret _ ?_
            refine ow_then_ret ?_
            refine ow_then_ret ?_
            refine ow_blk_ret _ ?_
            refine ow_then_ret ?_
            exact ow_ret1 rfl hdf s_2 ⟨by rw [show tabB L = false from ((tabB_short (by have h := hb_3; simp only [decide_eq_false_iff_not] at h; omega)).trans (hok.trans (by rw [drop_cons hq]; exact okN_mac hb_28)))], hbW26⟩
        · skip
          refine ah_takeNo 8 21 rfl (wanted_no (pol' := true) rfl (by kernel_rfl) (flag_of (put_get _ _ _ (by simp only [put_size]; rw [hsz]; decide)) (not_of hb_27)) (by decide)) rfl (by kernel_rfl) (by kernel_rfl) (by kernel_rfl) (fun _ _ _ h => h) hbW26 ?_
          refine ah_takeNo 9 22 rfl (wanted_no (pol' := true) rfl (by kernel_rfl) (flag_of (pf1 (by decide) (put_get _ _ _ (by simp only [put_size]; rw [hsz]; decide))) (not_of hb_27)) (by decide)) rfl (by kernel_rfl) (by kernel_rfl) (by kernel_rfl) (fun _ _ _ h => h) hbW26 ?_
          refine ah_takeNo 10 23 rfl (wanted_no (pol' := true) rfl (by kernel_rfl) (flag_of (pf2 (by decide) (put_get _ _ _ (by simp only [put_size]; rw [hsz]; decide))) (not_of hb_27)) (by decide)) rfl (by kernel_rfl) (by kernel_rfl) (by kernel_rfl) (fun _ _ _ h => h) hbW26 ?_
          refine ah_takeNo 11 24 rfl (wanted_no (pol' := true) rfl (by kernel_rfl) (flag_of (pf1 (by decide) (pf2 (by decide) (put_get _ _ _ (by simp only [put_size]; rw [hsz]; decide)))) (not_of hb_27)) (by decide)) rfl (by kernel_rfl) (by kernel_rfl) (by kernel_rfl) (fun _ _ _ h => h) hbW26 ?_
          refine ah_takeNo 12 25 rfl (wanted_no (pol' := true) rfl (by kernel_rfl) (flag_of (pf4 (by decide) (put_get _ _ _ (by simp only [put_size]; rw [hsz]; decide))) (not_of hb_27)) (by decide)) rfl (by kernel_rfl) (by kernel_rfl) (by kernel_rfl) (fun _ _ _ h => h) hbW26 ?_
          refine ah_takeNo 13 26 rfl (wanted_no (pol' := true) rfl (by kernel_rfl) (flag_of (pf1 (by decide) (pf4 (by decide) (put_get _ _ _ (by simp only [put_size]; rw [hsz]; decide)))) (not_of hb_27)) (by decide)) rfl (by kernel_rfl) (by kernel_rfl) (by kernel_rfl) (fun _ _ _ h => h) hbW26 ?_
          refine ah_takeNo 14 27 rfl (wanted_no (pol' := true) rfl (by kernel_rfl) (flag_of (pf2 (by decide) (pf4 (by decide) (put_get _ _ _ (by simp only [put_size]; rw [hsz]; decide)))) (not_of hb_27)) (by decide)) rfl (by kernel_rfl) (by kernel_rfl) (by kernel_rfl) (fun _ _ _ h => h) hbW26 ?_
          refine ah_takeW 15 28 (.bool true) rfl (wanted_none rfl) rfl (by kernel_rfl) (by kernel_rfl) (by kernel_rfl) (fun _ _ _ h => h) hbW26 (fun W hW => by have hbW26 := hW; exact (run_pickT (eval_cast (eval_of (pf1 (by decide) (pf2 (by decide) (pf4 (by decide) (put_get _ _ _ (by simp only [put_size]; rw [hsz]; decide)))))) (not_of hb_27)) (eval_cst _ _))) ?_
          refine ah_takeW 16 29 (.bool true) rfl (wanted_none rfl) rfl (by kernel_rfl) (by kernel_rfl) (by kernel_rfl) (fun _ _ _ h => h) hbW26 (fun W hW => by have hbW26 := hW; exact (run_moveOp (eval_of (put_get _ _ _ (by simp only [put_size]; rw [hsz]; decide))))) ?_
          refine ah_takeNo 17 30 rfl (wanted_no (pol' := true) rfl (by kernel_rfl) (put_get _ _ _ (by simp only [put_size]; rw [hsz]; decide)) (by decide)) rfl (by kernel_rfl) (by kernel_rfl) (by kernel_rfl) (fun _ _ _ h => h) hbW26 ?_
          refine ah_takeNo 18 31 rfl (wanted_no (pol' := true) rfl (by kernel_rfl) (pf1 (by decide) (put_get _ _ _ (by simp only [put_size]; rw [hsz]; decide))) (by decide)) rfl (by kernel_rfl) (by kernel_rfl) (by kernel_rfl) (fun _ _ _ h => h) hbW26 ?_
          refine ah_takeNo 19 32 rfl (wanted_no (pol' := true) rfl (by kernel_rfl) (pf2 (by decide) (put_get _ _ _ (by simp only [put_size]; rw [hsz]; decide))) (by decide)) rfl (by kernel_rfl) (by kernel_rfl) (by kernel_rfl) (fun _ _ _ h => h) hbW26 ?_
          refine ah_takeNo 20 33 rfl (wanted_no (pol' := true) rfl (by kernel_rfl) (pf1 (by decide) (pf2 (by decide) (put_get _ _ _ (by simp only [put_size]; rw [hsz]; decide)))) (by decide)) rfl (by kernel_rfl) (by kernel_rfl) (by kernel_rfl) (fun _ _ _ h => h) hbW26 ?_
          refine ah_takeNo 21 34 rfl (wanted_no (pol' := true) rfl (by kernel_rfl) (pf4 (by decide) (put_get _ _ _ (by simp only [put_size]; rw [hsz]; decide))) (by decide)) rfl (by kernel_rfl) (by kernel_rfl) (by kernel_rfl) (fun _ _ _ h => h) hbW26 ?_
          refine ah_takeNo 22 35 rfl (wanted_no (pol' := true) rfl (by kernel_rfl) (pf1 (by decide) (pf4 (by decide) (put_get _ _ _ (by simp only [put_size]; rw [hsz]; decide)))) (by decide)) rfl (by kernel_rfl) (by kernel_rfl) (by kernel_rfl) (fun _ _ _ h => h) hbW26 ?_
          refine ah_takeNo 23 36 rfl (wanted_no (pol' := true) rfl (by kernel_rfl) (pf2 (by decide) (pf4 (by decide) (put_get _ _ _ (by simp only [put_size]; rw [hsz]; decide)))) (by decide)) rfl (by kernel_rfl) (by kernel_rfl) (by kernel_rfl) (fun _ _ _ h => h) hbW26 ?_
          refine ah_takeW 24 37 (.bool true) rfl (wanted_none rfl) rfl (by kernel_rfl) (by kernel_rfl) (by kernel_rfl) (fun _ _ _ h => h) hbW26 (fun W hW => by have hbW26 := hW; exact (run_pickT (eval_of (pf1 (by decide) (pf2 (by decide) (pf4 (by decide) (put_get _ _ _ (by simp only [put_size]; rw [hsz]; decide)))))) (eval_cst _ _))) ?_
          refine ah_takeW 25 38 (.bool true) rfl (wanted_none rfl) rfl (by kernel_rfl) (by kernel_rfl) (by kernel_rfl) (fun _ _ _ h => h) hbW26 (fun W hW => by have hbW26 := hW; exact (run_moveOp (eval_of (put_get _ _ _ (by simp only [put_size]; rw [hsz]; decide))))) ?_
          refine ah_takeNo 26 39 rfl (wanted_no (pol' := true) rfl (by kernel_rfl) (put_get _ _ _ (by simp only [put_size]; rw [hsz]; decide)) (by decide)) rfl (by kernel_rfl) (by kernel_rfl) (by kernel_rfl) (fun _ _ _ h => h) hbW26 ?_
          refine ah_takeNo 27 40 rfl (wanted_no (pol' := true) rfl (by kernel_rfl) (pf1 (by decide) (put_get _ _ _ (by simp only [put_size]; rw [hsz]; decide))) (by decide)) rfl (by kernel_rfl) (by kernel_rfl) (by kernel_rfl) (fun _ _ _ h => h) hbW26 ?_
          refine ah_takeNo 28 41 rfl (wanted_no (pol' := true) rfl (by kernel_rfl) (pf2 (by decide) (put_get _ _ _ (by simp only [put_size]; rw [hsz]; decide))) (by decide)) rfl (by kernel_rfl) (by kernel_rfl) (by kernel_rfl) (fun _ _ _ h => h) hbW26 ?_
          refine ah_takeNo 29 42 rfl (wanted_gone rfl (by kernel_rfl) (put_get _ _ _ (by simp only [put_size]; rw [hsz]; decide))) rfl (by kernel_rfl) (by kernel_rfl) (by kernel_rfl) (fun _ _ _ h => h) hbW26 ?_
          refine ah_takeNo 30 43 rfl (wanted_gone rfl (by kernel_rfl) (pf1 (by decide) (put_get _ _ _ (by simp only [put_size]; rw [hsz]; decide)))) rfl (by kernel_rfl) (by kernel_rfl) (by kernel_rfl) (fun _ _ _ h => h) hbW26 ?_
          refine ah_takeNo 31 44 rfl (wanted_gone rfl (by kernel_rfl) (pf2 (by decide) (put_get _ _ _ (by simp only [put_size]; rw [hsz]; decide)))) rfl (by kernel_rfl) (by kernel_rfl) (by kernel_rfl) (fun _ _ _ h => h) hbW26 ?_
          refine ah_takeNo 32 45 rfl (wanted_gone rfl (by kernel_rfl) (pf1 (by decide) (pf2 (by decide) (put_get _ _ _ (by simp only [put_size]; rw [hsz]; decide))))) rfl (by kernel_rfl) (by kernel_rfl) (by kernel_rfl) (fun _ _ _ h => h) hbW26 ?_
          refine ah_takeNo 33 46 rfl (wanted_gone rfl (by kernel_rfl) (pf4 (by decide) (put_get _ _ _ (by simp only [put_size]; rw [hsz]; decide)))) rfl (by kernel_rfl) (by kernel_rfl) (by kernel_rfl) (fun _ _ _ h => h) hbW26 ?_
          refine ah_takeNo 34 47 rfl (wanted_gone rfl (by kernel_rfl) (pf1 (by decide) (pf4 (by decide) (put_get _ _ _ (by simp only [put_size]; rw [hsz]; decide))))) rfl (by kernel_rfl) (by kernel_rfl) (by kernel_rfl) (fun _ _ _ h => h) hbW26 ?_
          refine ah_takeNo 35 48 rfl (wanted_gone rfl (by kernel_rfl) (pf2 (by decide) (pf4 (by decide) (put_get _ _ _ (by simp only [put_size]; rw [hsz]; decide))))) rfl (by kernel_rfl) (by kernel_rfl) (by kernel_rfl) (fun _ _ _ h => h) hbW26 ?_
          refine ah_takeNo 36 49 rfl (wanted_gone rfl (by kernel_rfl) (pf1 (by decide) (pf2 (by decide) (pf4 (by decide) (put_get _ _ _ (by simp only [put_size]; rw [hsz]; decide)))))) rfl (by kernel_rfl) (by kernel_rfl) (by kernel_rfl) (fun _ _ _ h => h) hbW26 ?_
          refine ah_takeNo 37 50 rfl (wanted_gone rfl (by kernel_rfl) (pf8 (by decide) (put_get _ _ _ (by simp only [put_size]; rw [hsz]; decide)))) rfl (by kernel_rfl) (by kernel_rfl) (by kernel_rfl) (fun _ _ _ h => h) hbW26 ?_
          refine ah_takeNo 38 51 rfl (wanted_gone rfl (by kernel_rfl) (pf1 (by decide) (pf8 (by decide) (put_get _ _ _ (by simp only [put_size]; rw [hsz]; decide))))) rfl (by kernel_rfl) (by kernel_rfl) (by kernel_rfl) (fun _ _ _ h => h) hbW26 ?_
          refine ah_takeNo 39 52 rfl (wanted_gone rfl (by kernel_rfl) (pf2 (by decide) (pf8 (by decide) (put_get _ _ _ (by simp only [put_size]; rw [hsz]; decide))))) rfl (by kernel_rfl) (by kernel_rfl) (by kernel_rfl) (fun _ _ _ h => h) hbW26 ?_
          refine ah_takeNo 40 53 rfl (wanted_gone rfl (by kernel_rfl) (pf1 (by decide) (pf2 (by decide) (pf8 (by decide) (put_get _ _ _ (by simp only [put_size]; rw [hsz]; decide)))))) rfl (by kernel_rfl) (by kernel_rfl) (by kernel_rfl) (fun _ _ _ h => h) hbW26 ?_
          refine ah_takeNo 41 54 rfl (wanted_no (pol' := true) rfl (by kernel_rfl) (pf1 (by decide) (pf2 (by decide) (pf4 (by decide) (pf8 (by decide) (put_get _ _ _ (by simp only [put_size]; rw [hsz]; decide)))))) (by decide)) rfl (by kernel_rfl) (by kernel_rfl) (by kernel_rfl) (fun _ _ _ h => h) hbW26 ?_
          refine ah_takeW 42 55 (.bool true) rfl (wanted_none rfl) rfl (by kernel_rfl) (by kernel_rfl) (by kernel_rfl) (fun _ _ _ h => h) hbW26 (fun W hW => by have hbW26 := hW; exact (run_pickT (eval_of (pf16 (by decide) (put_get _ _ _ (by simp only [put_size]; rw [hsz]; decide)))) (eval_cst _ _))) ?_
          refine fresh (C := fun x W => AH _ _ _ _ _ _ x W) (fun x X => _ = X ∧ x.tmps.size = 56 ∧ x.defers = [] ∧ x.tmps[0]? = some (.slice ao L.length cap) ∧ x.tmps[3]? = some (.int .i64 ((k : Nat) : Int)) ∧ x.tmps[55]? = some (.bool true)) ⟨rfl, (by simp only [put_size]; exact hsz), (by simp only [put_defers]; exact hdf), (pf1 (by decide) (pf2 (by decide) (pf8 (by decide) (pf16 (by decide) (pf16 (by decide) s_0))))), (pf1 (by decide) (pf2 (by decide) (pf8 (by decide) (pf16 (by decide) (pf16 (by decide) s_3))))), (put_get _ _ _ (by simp only [put_size]; rw [hsz]; decide))⟩ ?_
          clear hsz hdf s_0 s_3 s_10
          rintro a _ ⟨rfl, hsz, hdf, s_0, s_3, s_55⟩
          refine ah_done (by kernel_rfl) ?_
          refine ow_then ?_
          refine ow_true (eval_of s_55) ?_
          refine wp_seq ?_
          refine ow_region [_] rfl (by intro o ho; simp only [List.mem_cons, List.not_mem_nil, or_false] at ho; subst ho; rfl) ?_
          refine ow_run 2 (.bool false) _ rfl (run_assignOp (eval_cst _ _)) ?_
          refine fresh (C := fun x W => wpRun _ [] x W _) (fun x X => _ = X ∧ x.tmps.size = 56 ∧ x.defers = [] ∧ x.tmps[2]? = some (.bool false)) ⟨rfl, (by simp only [put_size]; exact hsz), (by simp only [put_defers]; exact hdf), (put_get _ _ _ (by rw [hsz]; decide))⟩ ?_
          clear hsz hdf s_0 s_3 s_55
          rintro a _ ⟨rfl, hsz, hdf, s_2⟩
          refine ow_then ?_
          refine wp_ret ?_
          refine ow_blk_ret _ ?_
          refine ow_then_ret ?_
          refine ow_then_ret ?_
          refine ow_blk_ret _ ?_
          refine ow_then_ret ?_
          exact ow_ret1 rfl hdf s_2 ⟨by rw [show tabB L = false from ((tabB_short (by have h := hb_3; simp only [decide_eq_false_iff_not] at h; omega)).trans (hok.trans (by rw [drop_cons hq]; exact okN_ip hb_27)))], hbW26⟩
    · skip
      refine ow_false (eval_of (flag_of s_10 hb_10)) ?_
      refine wp_exit ?_
      refine ow_then_exit ?_
      refine ow_then_exit ?_
      refine ow_blk_exit _ ?_
      refine ow_then ?_
      refine wp_seq ?_
      refine ow_region [_] rfl (by intro o ho; simp only [List.mem_cons, List.not_mem_nil, or_false] at ho; subst ho; rfl) ?_
      refine ow_run 2 (.bool true) _ rfl (run_assignOp (eval_cst _ _)) ?_
      refine fresh (C := fun x W => wpRun _ [] x W _) (fun x X => _ = X ∧ x.tmps.size = 56 ∧ x.defers = [] ∧ x.tmps[2]? = some (.bool true)) ⟨rfl, (by simp only [put_size]; exact hsz), (by simp only [put_defers]; exact hdf), (put_get _ _ _ (by rw [hsz]; decide))⟩ ?_
      clear hsz hdf s_0 s_3 s_10
      rintro a _ ⟨rfl, hsz, hdf, s_2⟩
      refine ow_then ?_
      refine wp_ret ?_
      exact ow_ret1 rfl hdf s_2 ⟨by rw [show tabB L = true from ((tabB_short (by have h := hb_3; simp only [decide_eq_false_iff_not] at h; omega)).trans (hok.trans (by have h := hb_10; simp only [decide_eq_false_iff_not] at h; rw [List.drop_eq_nil_of_le (by omega)]; rfl)))], hbW6⟩
end Go.Proofs.Ytcomaacfhfnipaa
