/-
  Packets: whether all fields but the kind are 0, false, empty; whether two packets are the same.
-/
import Derived.Test.YtpgnlhfokffioaaDoorMqA
namespace Go.Proofs.YtpgnlhfokffioaaDoor
open Go.RowKit
theorem fresh_act {lo : Nat} {a a1 : Act} {s : Nat} {v : Value} {C : Act → Prop} (hk : Keep lo a a1) (hf : a1.tmps[s]? = some v) (h : ∀ a1, Keep lo a a1 → a1.tmps[s]? = some v → C a1) : C a1 := h a1 hk hf
theorem any_world {C : World → Prop} {W0 : World} (h : ∀ W1, (∃ m, W1 = W0.drewN m) → C W1) : C W0 := h W0 ⟨0, rfl⟩
theorem willZ (w : World) (b : Bool) (s t : ByteArray) (n : Int) (c : Bool) : (binOp .eql 25 (.agg #[.bool b, .string s, .string t, .int .i64 n, .bool c]) (.agg #[.bool false, .string { data := #[] }, .string { data := #[] }, .int .i64 0, .bool false])).run Tryd.prog w =
    .ok (.bool (!b && isE s && isE t && (n == 0) && !c)) w := by
  rw [willEq]
  have h : (ByteArray.mk #[]).toList = [] := ba_nil
  simp only [isE, h]
  cases b <;> cases c <;> simp
/-- All fields but the kind are 0, false, empty. -/
def Mq.noB (m : Mq) : Bool := (((((((((((((((((((isE m.cl) && (!m.clean)) && (m.keep == 0)) && (!m.wI && isE m.wT && isE m.wP && (m.wQ == 0) && !m.wR)) && (isE m.us)) && (!m.hu)) && (isE m.pa)) && (!m.hp)) && (!m.pres)) && (m.code == 0)) && (((m.cs.length : Nat) : Int) == 0)) && (!m.dup)) && (m.q == 0)) && (!m.re)) && (isE m.top)) && (m.id == 0)) && (isE m.pay)) && (((m.ws.length : Nat) : Int) == 0)) && (((m.fs.length : Nat) : Int) == 0))
set_option maxRecDepth 100000 in
set_option maxHeartbeats 4000000 in
theorem nothing_reg (m : Mq) (ac aw af : Option Addr) (nc nw nf cc cw cf : Nat) (w W : World) (a : Act) (K : Act → World → Prop) (Q : Exit → Act → World → Prop) (hsz : a.tmps.size = 100) (hdf : a.defers = []) (hp1 : a.tmps[1]? = some (.pointer (some ⟨w.heap.size, 0, none⟩))) (hR : RowAt W w.heap.size (m.row (.slice ac nc cc) (.slice aw nw cw) (.slice af nf cf)))
    (hK : ∀ a', a'.defers = [] → a'.tmps[2]? = some (.bool (((((((((((((((((((isE m.cl) && (!m.clean)) && (m.keep == 0)) && (!m.wI && isE m.wT && isE m.wP && (m.wQ == 0) && !m.wR)) && (isE m.us)) && (!m.hu)) && (isE m.pa)) && (!m.hp)) && (!m.pres)) && (m.code == 0)) && (((nc : Nat) : Int) == 0)) && (!m.dup)) && (m.q == 0)) && (!m.re)) && (isE m.top)) && (m.id == 0)) && (isE m.pay)) && (((nw : Nat) : Int) == 0)) && (((nf : Nat) : Int) == 0))) → K a' W) : ∀ l : List Oper, l = (match Tryd.f86.body with | some (.seq _ (.seq (.region _ ops _) _)) => ops.toList | _ => []) → wpList Tryd.prog l.toArray (Exit.then K Q) l a W := by
  rintro l rfl
  conv => arg 4; whnf
  refine plain_runs [_, _, _] _ _ (by intro o ho; simp only [List.mem_cons, List.not_mem_nil, or_false] at ho; rcases ho with rfl | rfl | rfl <;> rfl) ?_
  refine wpRun_at 3 (.pointer (some ⟨w.heap.size, 1, none⟩)) rfl (run_fieldAddr (eval_of hp1) (by simp [go_sem, Instr.fieldAt])) ?_
  refine wpRun_at 4 (.string m.cl) rfl (run_loadOp (eval_same _ _ _ (by (try simp only [put_size]); rw [hsz]; decide)) (by simp [go_sem, Instr.loadAt, hR.cell (j := 1) rfl])) ?_
  refine wpRun_at 5 (.bool (isE m.cl)) rfl (run_binOp (eval_same _ _ _ (by (try simp only [put_size]); rw [hsz]; decide)) (eval_cst _ _) (eqStr _ _ _ _ _) (strE _ _)) ?_
  refine fresh_act (C := fun x => wpRun _ [] x _ _) (lo := 3) (s := 5) (v := .bool (isE m.cl)) ((((Keep.refl _ _).put 3 (by decide) _).put 4 (by decide) _).put 5 (by decide) _) (put_get _ _ _ (by (try simp only [put_size]); rw [hsz]; decide)) ?_
  rintro a hk hf
  dsimp only [wpRun]
  replace hp1 := (hk.low 1 (by decide)).trans hp1
  replace hsz := hk.size.trans hsz
  replace hdf := hk.defs.trans hdf
  clear hk
  have hI : W = W := rfl
  refine handOn (lo := 3) (.inl rfl) rfl rfl hf (by rw [hsz]; decide) (by decide) ?_
  clear hf
  rintro a hk hf
  replace hp1 := (hk.low 1 (by decide)).trans hp1
  replace hsz := hk.size.trans hsz
  replace hdf := hk.defs.trans hdf
  clear hk
  refine limb 3 6 7 (!m.clean) (fun w2 => W = w2) [_, _, _] (by kernel_rfl) (by decide) hf (by intro o ho; simp only [List.mem_cons, List.not_mem_nil, or_false] at ho; rcases ho with rfl | rfl | rfl <;> exact ⟨rfl, _, rfl, by decide⟩) (by rw [hsz]; decide) (by decide) rfl hI (fun _ K hK => ?_) ?_
  · have hR0 := hR
    refine wpRun_at 7 (.pointer (some ⟨w.heap.size, 2, none⟩)) rfl (run_fieldAddr (eval_of hp1) (by simp [go_sem, Instr.fieldAt])) ?_
    refine wpRun_at 8 (.bool m.clean) rfl (run_loadOp (eval_same _ _ _ (by (try simp only [put_size]); rw [hsz]; decide)) (by simp [go_sem, Instr.loadAt, hR.cell (j := 2) rfl])) ?_
    refine wpRun_at 9 (.bool (!m.clean)) rfl (run_notOp (eval_same _ _ _ (by (try simp only [put_size]); rw [hsz]; decide))) ?_
    exact hK _ _ ((((Keep.refl _ _).put 7 (by decide) _).put 8 (by decide) _).put 9 (by decide) _) (eval_same _ _ _ (by (try simp only [put_size]); rw [hsz]; decide)) rfl
  clear hf hI
  rintro a w2 hk hf rfl
  have hI : W = W := rfl
  replace hp1 := (hk.low 1 (by decide)).trans hp1
  replace hsz := hk.size.trans hsz
  replace hdf := hk.defs.trans hdf
  clear hk
  refine handOn (lo := 3) (.inl rfl) rfl rfl hf (by rw [hsz]; decide) (by decide) ?_
  clear hf
  rintro a hk hf
  replace hp1 := (hk.low 1 (by decide)).trans hp1
  replace hsz := hk.size.trans hsz
  replace hdf := hk.defs.trans hdf
  clear hk
  refine limb 8 11 12 (m.keep == 0) (fun w2 => W = w2) [_, _, _] (by kernel_rfl) (by decide) hf (by intro o ho; simp only [List.mem_cons, List.not_mem_nil, or_false] at ho; rcases ho with rfl | rfl | rfl <;> exact ⟨rfl, _, rfl, by decide⟩) (by rw [hsz]; decide) (by decide) rfl hI (fun _ K hK => ?_) ?_
  · have hR0 := hR
    refine wpRun_at 12 (.pointer (some ⟨w.heap.size, 3, none⟩)) rfl (run_fieldAddr (eval_of hp1) (by simp [go_sem, Instr.fieldAt])) ?_
    refine wpRun_at 13 (.int .i64 m.keep) rfl (run_loadOp (eval_same _ _ _ (by (try simp only [put_size]); rw [hsz]; decide)) (by simp [go_sem, Instr.loadAt, hR.cell (j := 3) rfl])) ?_
    refine wpRun_at 14 (.bool (m.keep == 0)) rfl (run_binOp (eval_same _ _ _ (by (try simp only [put_size]); rw [hsz]; decide)) (eval_cst _ _) (eqInt _ _ _ _ _) (intEq _ _ _)) ?_
    exact hK _ _ ((((Keep.refl _ _).put 12 (by decide) _).put 13 (by decide) _).put 14 (by decide) _) (eval_same _ _ _ (by (try simp only [put_size]); rw [hsz]; decide)) rfl
  clear hf hI
  rintro a w2 hk hf rfl
  have hI : W = W := rfl
  replace hp1 := (hk.low 1 (by decide)).trans hp1
  replace hsz := hk.size.trans hsz
  replace hdf := hk.defs.trans hdf
  clear hk
  refine handOn (lo := 3) (.inl rfl) rfl rfl hf (by rw [hsz]; decide) (by decide) ?_
  clear hf
  rintro a hk hf
  replace hp1 := (hk.low 1 (by decide)).trans hp1
  replace hsz := hk.size.trans hsz
  replace hdf := hk.defs.trans hdf
  clear hk
  refine limb 13 16 17 (!m.wI && isE m.wT && isE m.wP && (m.wQ == 0) && !m.wR) (fun w2 => W = w2) [_, _, _, _] (by kernel_rfl) (by decide) hf (by intro o ho; simp only [List.mem_cons, List.not_mem_nil, or_false] at ho; rcases ho with rfl | rfl | rfl | rfl <;> exact ⟨rfl, _, rfl, by decide⟩) (by rw [hsz]; decide) (by decide) rfl hI (fun _ K hK => ?_) ?_
  · have hR0 := hR
    refine wpRun_at 17 (.pointer (some ⟨w.heap.size, 4, none⟩)) rfl (run_fieldAddr (eval_of hp1) (by simp [go_sem, Instr.fieldAt])) ?_
    refine wpRun_at 18 (.agg #[.bool m.wI, .string m.wT, .string m.wP, .int .i64 m.wQ, .bool m.wR]) rfl (run_loadOp (eval_same _ _ _ (by (try simp only [put_size]); rw [hsz]; decide)) (by simp [go_sem, Instr.loadAt, hR.cell (j := 4) rfl, hR.cell (j := 5) rfl, hR.cell (j := 6) rfl, hR.cell (j := 7) rfl, hR.cell (j := 8) rfl])) ?_
    refine wpRun_at 19 (.agg #[.bool false, .string { data := #[] }, .string { data := #[] }, .int .i64 0, .bool false]) rfl (by simp [execOp, go_sem, Instr.build]) ?_
    refine wpRun_at 20 (.bool (!m.wI && isE m.wT && isE m.wP && (m.wQ == 0) && !m.wR)) rfl (run_binOp ((eval_far _ _ _ _ (by decide)).trans (eval_same _ _ _ (by (try simp only [put_size]); rw [hsz]; decide))) (eval_same _ _ _ (by (try simp only [put_size]); rw [hsz]; decide)) (eqWill _ _ _ _ _) (willZ _ _ _ _ _ _)) ?_
    exact hK _ _ (((((Keep.refl _ _).put 17 (by decide) _).put 18 (by decide) _).put 19 (by decide) _).put 20 (by decide) _) (eval_same _ _ _ (by (try simp only [put_size]); rw [hsz]; decide)) rfl
  clear hf hI
  rintro a w2 hk hf rfl
  have hI : W = W := rfl
  replace hp1 := (hk.low 1 (by decide)).trans hp1
  replace hsz := hk.size.trans hsz
  replace hdf := hk.defs.trans hdf
  clear hk
  refine handOn (lo := 3) (.inl rfl) rfl rfl hf (by rw [hsz]; decide) (by decide) ?_
  clear hf
  rintro a hk hf
  replace hp1 := (hk.low 1 (by decide)).trans hp1
  replace hsz := hk.size.trans hsz
  replace hdf := hk.defs.trans hdf
  clear hk
  refine limb 19 22 23 (isE m.us) (fun w2 => W = w2) [_, _, _] (by kernel_rfl) (by decide) hf (by intro o ho; simp only [List.mem_cons, List.not_mem_nil, or_false] at ho; rcases ho with rfl | rfl | rfl <;> exact ⟨rfl, _, rfl, by decide⟩) (by rw [hsz]; decide) (by decide) rfl hI (fun _ K hK => ?_) ?_
  · have hR0 := hR
    refine wpRun_at 23 (.pointer (some ⟨w.heap.size, 9, none⟩)) rfl (run_fieldAddr (eval_of hp1) (by simp [go_sem, Instr.fieldAt])) ?_
    refine wpRun_at 24 (.string m.us) rfl (run_loadOp (eval_same _ _ _ (by (try simp only [put_size]); rw [hsz]; decide)) (by simp [go_sem, Instr.loadAt, hR.cell (j := 9) rfl])) ?_
    refine wpRun_at 25 (.bool (isE m.us)) rfl (run_binOp (eval_same _ _ _ (by (try simp only [put_size]); rw [hsz]; decide)) (eval_cst _ _) (eqStr _ _ _ _ _) (strE _ _)) ?_
    exact hK _ _ ((((Keep.refl _ _).put 23 (by decide) _).put 24 (by decide) _).put 25 (by decide) _) (eval_same _ _ _ (by (try simp only [put_size]); rw [hsz]; decide)) rfl
  clear hf hI
  rintro a w2 hk hf rfl
  have hI : W = W := rfl
  replace hp1 := (hk.low 1 (by decide)).trans hp1
  replace hsz := hk.size.trans hsz
  replace hdf := hk.defs.trans hdf
  clear hk
  refine handOn (lo := 3) (.inl rfl) rfl rfl hf (by rw [hsz]; decide) (by decide) ?_
  clear hf
  rintro a hk hf
  replace hp1 := (hk.low 1 (by decide)).trans hp1
  replace hsz := hk.size.trans hsz
  replace hdf := hk.defs.trans hdf
  clear hk
  refine limb 24 27 28 (!m.hu) (fun w2 => W = w2) [_, _, _] (by kernel_rfl) (by decide) hf (by intro o ho; simp only [List.mem_cons, List.not_mem_nil, or_false] at ho; rcases ho with rfl | rfl | rfl <;> exact ⟨rfl, _, rfl, by decide⟩) (by rw [hsz]; decide) (by decide) rfl hI (fun _ K hK => ?_) ?_
  · have hR0 := hR
    refine wpRun_at 28 (.pointer (some ⟨w.heap.size, 10, none⟩)) rfl (run_fieldAddr (eval_of hp1) (by simp [go_sem, Instr.fieldAt])) ?_
    refine wpRun_at 29 (.bool m.hu) rfl (run_loadOp (eval_same _ _ _ (by (try simp only [put_size]); rw [hsz]; decide)) (by simp [go_sem, Instr.loadAt, hR.cell (j := 10) rfl])) ?_
    refine wpRun_at 30 (.bool (!m.hu)) rfl (run_notOp (eval_same _ _ _ (by (try simp only [put_size]); rw [hsz]; decide))) ?_
    exact hK _ _ ((((Keep.refl _ _).put 28 (by decide) _).put 29 (by decide) _).put 30 (by decide) _) (eval_same _ _ _ (by (try simp only [put_size]); rw [hsz]; decide)) rfl
  clear hf hI
  rintro a w2 hk hf rfl
  have hI : W = W := rfl
  replace hp1 := (hk.low 1 (by decide)).trans hp1
  replace hsz := hk.size.trans hsz
  replace hdf := hk.defs.trans hdf
  clear hk
  refine handOn (lo := 3) (.inl rfl) rfl rfl hf (by rw [hsz]; decide) (by decide) ?_
  clear hf
  rintro a hk hf
  replace hp1 := (hk.low 1 (by decide)).trans hp1
  replace hsz := hk.size.trans hsz
  replace hdf := hk.defs.trans hdf
  clear hk
  refine limb 29 32 33 (isE m.pa) (fun w2 => W = w2) [_, _, _] (by kernel_rfl) (by decide) hf (by intro o ho; simp only [List.mem_cons, List.not_mem_nil, or_false] at ho; rcases ho with rfl | rfl | rfl <;> exact ⟨rfl, _, rfl, by decide⟩) (by rw [hsz]; decide) (by decide) rfl hI (fun _ K hK => ?_) ?_
  · have hR0 := hR
    refine wpRun_at 33 (.pointer (some ⟨w.heap.size, 11, none⟩)) rfl (run_fieldAddr (eval_of hp1) (by simp [go_sem, Instr.fieldAt])) ?_
    refine wpRun_at 34 (.string m.pa) rfl (run_loadOp (eval_same _ _ _ (by (try simp only [put_size]); rw [hsz]; decide)) (by simp [go_sem, Instr.loadAt, hR.cell (j := 11) rfl])) ?_
    refine wpRun_at 35 (.bool (isE m.pa)) rfl (run_binOp (eval_same _ _ _ (by (try simp only [put_size]); rw [hsz]; decide)) (eval_cst _ _) (eqStr _ _ _ _ _) (strE _ _)) ?_
    exact hK _ _ ((((Keep.refl _ _).put 33 (by decide) _).put 34 (by decide) _).put 35 (by decide) _) (eval_same _ _ _ (by (try simp only [put_size]); rw [hsz]; decide)) rfl
  clear hf hI
  rintro a w2 hk hf rfl
  have hI : W = W := rfl
  replace hp1 := (hk.low 1 (by decide)).trans hp1
  replace hsz := hk.size.trans hsz
  replace hdf := hk.defs.trans hdf
  clear hk
  refine handOn (lo := 3) (.inl rfl) rfl rfl hf (by rw [hsz]; decide) (by decide) ?_
  clear hf
  rintro a hk hf
  replace hp1 := (hk.low 1 (by decide)).trans hp1
  replace hsz := hk.size.trans hsz
  replace hdf := hk.defs.trans hdf
  clear hk
  refine limb 34 37 38 (!m.hp) (fun w2 => W = w2) [_, _, _] (by kernel_rfl) (by decide) hf (by intro o ho; simp only [List.mem_cons, List.not_mem_nil, or_false] at ho; rcases ho with rfl | rfl | rfl <;> exact ⟨rfl, _, rfl, by decide⟩) (by rw [hsz]; decide) (by decide) rfl hI (fun _ K hK => ?_) ?_
  · have hR0 := hR
    refine wpRun_at 38 (.pointer (some ⟨w.heap.size, 12, none⟩)) rfl (run_fieldAddr (eval_of hp1) (by simp [go_sem, Instr.fieldAt])) ?_
    refine wpRun_at 39 (.bool m.hp) rfl (run_loadOp (eval_same _ _ _ (by (try simp only [put_size]); rw [hsz]; decide)) (by simp [go_sem, Instr.loadAt, hR.cell (j := 12) rfl])) ?_
    refine wpRun_at 40 (.bool (!m.hp)) rfl (run_notOp (eval_same _ _ _ (by (try simp only [put_size]); rw [hsz]; decide))) ?_
    exact hK _ _ ((((Keep.refl _ _).put 38 (by decide) _).put 39 (by decide) _).put 40 (by decide) _) (eval_same _ _ _ (by (try simp only [put_size]); rw [hsz]; decide)) rfl
  clear hf hI
  rintro a w2 hk hf rfl
  have hI : W = W := rfl
  replace hp1 := (hk.low 1 (by decide)).trans hp1
  replace hsz := hk.size.trans hsz
  replace hdf := hk.defs.trans hdf
  clear hk
  refine handOn (lo := 3) (.inl rfl) rfl rfl hf (by rw [hsz]; decide) (by decide) ?_
  clear hf
  rintro a hk hf
  replace hp1 := (hk.low 1 (by decide)).trans hp1
  replace hsz := hk.size.trans hsz
  replace hdf := hk.defs.trans hdf
  clear hk
  refine limb 39 42 43 (!m.pres) (fun w2 => W = w2) [_, _, _] (by kernel_rfl) (by decide) hf (by intro o ho; simp only [List.mem_cons, List.not_mem_nil, or_false] at ho; rcases ho with rfl | rfl | rfl <;> exact ⟨rfl, _, rfl, by decide⟩) (by rw [hsz]; decide) (by decide) rfl hI (fun _ K hK => ?_) ?_
  · have hR0 := hR
    refine wpRun_at 43 (.pointer (some ⟨w.heap.size, 13, none⟩)) rfl (run_fieldAddr (eval_of hp1) (by simp [go_sem, Instr.fieldAt])) ?_
    refine wpRun_at 44 (.bool m.pres) rfl (run_loadOp (eval_same _ _ _ (by (try simp only [put_size]); rw [hsz]; decide)) (by simp [go_sem, Instr.loadAt, hR.cell (j := 13) rfl])) ?_
    refine wpRun_at 45 (.bool (!m.pres)) rfl (run_notOp (eval_same _ _ _ (by (try simp only [put_size]); rw [hsz]; decide))) ?_
    exact hK _ _ ((((Keep.refl _ _).put 43 (by decide) _).put 44 (by decide) _).put 45 (by decide) _) (eval_same _ _ _ (by (try simp only [put_size]); rw [hsz]; decide)) rfl
  clear hf hI
  rintro a w2 hk hf rfl
  have hI : W = W := rfl
  replace hp1 := (hk.low 1 (by decide)).trans hp1
  replace hsz := hk.size.trans hsz
  replace hdf := hk.defs.trans hdf
  clear hk
  refine handOn (lo := 3) (.inl rfl) rfl rfl hf (by rw [hsz]; decide) (by decide) ?_
  clear hf
  rintro a hk hf
  replace hp1 := (hk.low 1 (by decide)).trans hp1
  replace hsz := hk.size.trans hsz
  replace hdf := hk.defs.trans hdf
  clear hk
  refine limb 44 47 48 (m.code == 0) (fun w2 => W = w2) [_, _, _] (by kernel_rfl) (by decide) hf (by intro o ho; simp only [List.mem_cons, List.not_mem_nil, or_false] at ho; rcases ho with rfl | rfl | rfl <;> exact ⟨rfl, _, rfl, by decide⟩) (by rw [hsz]; decide) (by decide) rfl hI (fun _ K hK => ?_) ?_
  · have hR0 := hR
    refine wpRun_at 48 (.pointer (some ⟨w.heap.size, 14, none⟩)) rfl (run_fieldAddr (eval_of hp1) (by simp [go_sem, Instr.fieldAt])) ?_
    refine wpRun_at 49 (.int .i64 m.code) rfl (run_loadOp (eval_same _ _ _ (by (try simp only [put_size]); rw [hsz]; decide)) (by simp [go_sem, Instr.loadAt, hR.cell (j := 14) rfl])) ?_
    refine wpRun_at 50 (.bool (m.code == 0)) rfl (run_binOp (eval_same _ _ _ (by (try simp only [put_size]); rw [hsz]; decide)) (eval_cst _ _) (eqInt _ _ _ _ _) (intEq _ _ _)) ?_
    exact hK _ _ ((((Keep.refl _ _).put 48 (by decide) _).put 49 (by decide) _).put 50 (by decide) _) (eval_same _ _ _ (by (try simp only [put_size]); rw [hsz]; decide)) rfl
  clear hf hI
  rintro a w2 hk hf rfl
  have hI : W = W := rfl
  replace hp1 := (hk.low 1 (by decide)).trans hp1
  replace hsz := hk.size.trans hsz
  replace hdf := hk.defs.trans hdf
  clear hk
  refine handOn (lo := 3) (.inl rfl) rfl rfl hf (by rw [hsz]; decide) (by decide) ?_
  clear hf
  rintro a hk hf
  replace hp1 := (hk.low 1 (by decide)).trans hp1
  replace hsz := hk.size.trans hsz
  replace hdf := hk.defs.trans hdf
  clear hk
  refine limb 49 52 53 (((nc : Nat) : Int) == 0) (fun w2 => W = w2) [_, _, _, _] (by kernel_rfl) (by decide) hf (by intro o ho; simp only [List.mem_cons, List.not_mem_nil, or_false] at ho; rcases ho with rfl | rfl | rfl | rfl <;> exact ⟨rfl, _, rfl, by decide⟩) (by rw [hsz]; decide) (by decide) rfl hI (fun _ K hK => ?_) ?_
  · have hR0 := hR
    refine wpRun_at 53 (.pointer (some ⟨w.heap.size, 15, none⟩)) rfl (run_fieldAddr (eval_of hp1) (by simp [go_sem, Instr.fieldAt])) ?_
    refine wpRun_at 54 (.slice ac nc cc) rfl (run_loadOp (eval_same _ _ _ (by (try simp only [put_size]); rw [hsz]; decide)) (by simp [go_sem, Instr.loadAt, hR.cell (j := 15) rfl])) ?_
    refine wpRun_at 55 (.int .i64 (nc : Nat)) rfl (run_lenOp Tryd.underlying26 (eval_same _ _ _ (by (try simp only [put_size]); rw [hsz]; decide))) ?_
    refine wpRun_at 56 (.bool (((nc : Nat) : Int) == 0)) rfl (run_binOp (eval_same _ _ _ (by (try simp only [put_size]); rw [hsz]; decide)) (eval_cst _ _) (eqInt _ _ _ _ _) (intEq _ _ _)) ?_
    exact hK _ _ (((((Keep.refl _ _).put 53 (by decide) _).put 54 (by decide) _).put 55 (by decide) _).put 56 (by decide) _) (eval_same _ _ _ (by (try simp only [put_size]); rw [hsz]; decide)) rfl
  clear hf hI
  rintro a w2 hk hf rfl
  have hI : W = W := rfl
  replace hp1 := (hk.low 1 (by decide)).trans hp1
  replace hsz := hk.size.trans hsz
  replace hdf := hk.defs.trans hdf
  clear hk
  refine handOn (lo := 3) (.inl rfl) rfl rfl hf (by rw [hsz]; decide) (by decide) ?_
  clear hf
  rintro a hk hf
  replace hp1 := (hk.low 1 (by decide)).trans hp1
  replace hsz := hk.size.trans hsz
  replace hdf := hk.defs.trans hdf
  clear hk
  refine limb 55 58 59 (!m.dup) (fun w2 => W = w2) [_, _, _] (by kernel_rfl) (by decide) hf (by intro o ho; simp only [List.mem_cons, List.not_mem_nil, or_false] at ho; rcases ho with rfl | rfl | rfl <;> exact ⟨rfl, _, rfl, by decide⟩) (by rw [hsz]; decide) (by decide) rfl hI (fun _ K hK => ?_) ?_
  · have hR0 := hR
    refine wpRun_at 59 (.pointer (some ⟨w.heap.size, 16, none⟩)) rfl (run_fieldAddr (eval_of hp1) (by simp [go_sem, Instr.fieldAt])) ?_
    refine wpRun_at 60 (.bool m.dup) rfl (run_loadOp (eval_same _ _ _ (by (try simp only [put_size]); rw [hsz]; decide)) (by simp [go_sem, Instr.loadAt, hR.cell (j := 16) rfl])) ?_
    refine wpRun_at 61 (.bool (!m.dup)) rfl (run_notOp (eval_same _ _ _ (by (try simp only [put_size]); rw [hsz]; decide))) ?_
    exact hK _ _ ((((Keep.refl _ _).put 59 (by decide) _).put 60 (by decide) _).put 61 (by decide) _) (eval_same _ _ _ (by (try simp only [put_size]); rw [hsz]; decide)) rfl
  clear hf hI
  rintro a w2 hk hf rfl
  have hI : W = W := rfl
  replace hp1 := (hk.low 1 (by decide)).trans hp1
  replace hsz := hk.size.trans hsz
  replace hdf := hk.defs.trans hdf
  clear hk
  refine handOn (lo := 3) (.inl rfl) rfl rfl hf (by rw [hsz]; decide) (by decide) ?_
  clear hf
  rintro a hk hf
  replace hp1 := (hk.low 1 (by decide)).trans hp1
  replace hsz := hk.size.trans hsz
  replace hdf := hk.defs.trans hdf
  clear hk
  refine limb 60 63 64 (m.q == 0) (fun w2 => W = w2) [_, _, _] (by kernel_rfl) (by decide) hf (by intro o ho; simp only [List.mem_cons, List.not_mem_nil, or_false] at ho; rcases ho with rfl | rfl | rfl <;> exact ⟨rfl, _, rfl, by decide⟩) (by rw [hsz]; decide) (by decide) rfl hI (fun _ K hK => ?_) ?_
  · have hR0 := hR
    refine wpRun_at 64 (.pointer (some ⟨w.heap.size, 17, none⟩)) rfl (run_fieldAddr (eval_of hp1) (by simp [go_sem, Instr.fieldAt])) ?_
    refine wpRun_at 65 (.int .i64 m.q) rfl (run_loadOp (eval_same _ _ _ (by (try simp only [put_size]); rw [hsz]; decide)) (by simp [go_sem, Instr.loadAt, hR.cell (j := 17) rfl])) ?_
    refine wpRun_at 66 (.bool (m.q == 0)) rfl (run_binOp (eval_same _ _ _ (by (try simp only [put_size]); rw [hsz]; decide)) (eval_cst _ _) (eqInt _ _ _ _ _) (intEq _ _ _)) ?_
    exact hK _ _ ((((Keep.refl _ _).put 64 (by decide) _).put 65 (by decide) _).put 66 (by decide) _) (eval_same _ _ _ (by (try simp only [put_size]); rw [hsz]; decide)) rfl
  clear hf hI
  rintro a w2 hk hf rfl
  have hI : W = W := rfl
  replace hp1 := (hk.low 1 (by decide)).trans hp1
  replace hsz := hk.size.trans hsz
  replace hdf := hk.defs.trans hdf
  clear hk
  refine handOn (lo := 3) (.inl rfl) rfl rfl hf (by rw [hsz]; decide) (by decide) ?_
  clear hf
  rintro a hk hf
  replace hp1 := (hk.low 1 (by decide)).trans hp1
  replace hsz := hk.size.trans hsz
  replace hdf := hk.defs.trans hdf
  clear hk
  refine limb 65 68 69 (!m.re) (fun w2 => W = w2) [_, _, _] (by kernel_rfl) (by decide) hf (by intro o ho; simp only [List.mem_cons, List.not_mem_nil, or_false] at ho; rcases ho with rfl | rfl | rfl <;> exact ⟨rfl, _, rfl, by decide⟩) (by rw [hsz]; decide) (by decide) rfl hI (fun _ K hK => ?_) ?_
  · have hR0 := hR
    refine wpRun_at 69 (.pointer (some ⟨w.heap.size, 18, none⟩)) rfl (run_fieldAddr (eval_of hp1) (by simp [go_sem, Instr.fieldAt])) ?_
    refine wpRun_at 70 (.bool m.re) rfl (run_loadOp (eval_same _ _ _ (by (try simp only [put_size]); rw [hsz]; decide)) (by simp [go_sem, Instr.loadAt, hR.cell (j := 18) rfl])) ?_
    refine wpRun_at 71 (.bool (!m.re)) rfl (run_notOp (eval_same _ _ _ (by (try simp only [put_size]); rw [hsz]; decide))) ?_
    exact hK _ _ ((((Keep.refl _ _).put 69 (by decide) _).put 70 (by decide) _).put 71 (by decide) _) (eval_same _ _ _ (by (try simp only [put_size]); rw [hsz]; decide)) rfl
  clear hf hI
  rintro a w2 hk hf rfl
  have hI : W = W := rfl
  replace hp1 := (hk.low 1 (by decide)).trans hp1
  replace hsz := hk.size.trans hsz
  replace hdf := hk.defs.trans hdf
  clear hk
  refine handOn (lo := 3) (.inl rfl) rfl rfl hf (by rw [hsz]; decide) (by decide) ?_
  clear hf
  rintro a hk hf
  replace hp1 := (hk.low 1 (by decide)).trans hp1
  replace hsz := hk.size.trans hsz
  replace hdf := hk.defs.trans hdf
  clear hk
  refine limb 70 73 74 (isE m.top) (fun w2 => W = w2) [_, _, _] (by kernel_rfl) (by decide) hf (by intro o ho; simp only [List.mem_cons, List.not_mem_nil, or_false] at ho; rcases ho with rfl | rfl | rfl <;> exact ⟨rfl, _, rfl, by decide⟩) (by rw [hsz]; decide) (by decide) rfl hI (fun _ K hK => ?_) ?_
  · have hR0 := hR
    refine wpRun_at 74 (.pointer (some ⟨w.heap.size, 19, none⟩)) rfl (run_fieldAddr (eval_of hp1) (by simp [go_sem, Instr.fieldAt])) ?_
    refine wpRun_at 75 (.string m.top) rfl (run_loadOp (eval_same _ _ _ (by (try simp only [put_size]); rw [hsz]; decide)) (by simp [go_sem, Instr.loadAt, hR.cell (j := 19) rfl])) ?_
    refine wpRun_at 76 (.bool (isE m.top)) rfl (run_binOp (eval_same _ _ _ (by (try simp only [put_size]); rw [hsz]; decide)) (eval_cst _ _) (eqStr _ _ _ _ _) (strE _ _)) ?_
    exact hK _ _ ((((Keep.refl _ _).put 74 (by decide) _).put 75 (by decide) _).put 76 (by decide) _) (eval_same _ _ _ (by (try simp only [put_size]); rw [hsz]; decide)) rfl
  clear hf hI
  rintro a w2 hk hf rfl
  have hI : W = W := rfl
  replace hp1 := (hk.low 1 (by decide)).trans hp1
  replace hsz := hk.size.trans hsz
  replace hdf := hk.defs.trans hdf
  clear hk
  refine handOn (lo := 3) (.inl rfl) rfl rfl hf (by rw [hsz]; decide) (by decide) ?_
  clear hf
  rintro a hk hf
  replace hp1 := (hk.low 1 (by decide)).trans hp1
  replace hsz := hk.size.trans hsz
  replace hdf := hk.defs.trans hdf
  clear hk
  refine limb 75 78 79 (m.id == 0) (fun w2 => W = w2) [_, _, _] (by kernel_rfl) (by decide) hf (by intro o ho; simp only [List.mem_cons, List.not_mem_nil, or_false] at ho; rcases ho with rfl | rfl | rfl <;> exact ⟨rfl, _, rfl, by decide⟩) (by rw [hsz]; decide) (by decide) rfl hI (fun _ K hK => ?_) ?_
  · have hR0 := hR
    refine wpRun_at 79 (.pointer (some ⟨w.heap.size, 20, none⟩)) rfl (run_fieldAddr (eval_of hp1) (by simp [go_sem, Instr.fieldAt])) ?_
    refine wpRun_at 80 (.int .i64 m.id) rfl (run_loadOp (eval_same _ _ _ (by (try simp only [put_size]); rw [hsz]; decide)) (by simp [go_sem, Instr.loadAt, hR.cell (j := 20) rfl])) ?_
    refine wpRun_at 81 (.bool (m.id == 0)) rfl (run_binOp (eval_same _ _ _ (by (try simp only [put_size]); rw [hsz]; decide)) (eval_cst _ _) (eqInt _ _ _ _ _) (intEq _ _ _)) ?_
    exact hK _ _ ((((Keep.refl _ _).put 79 (by decide) _).put 80 (by decide) _).put 81 (by decide) _) (eval_same _ _ _ (by (try simp only [put_size]); rw [hsz]; decide)) rfl
  clear hf hI
  rintro a w2 hk hf rfl
  have hI : W = W := rfl
  replace hp1 := (hk.low 1 (by decide)).trans hp1
  replace hsz := hk.size.trans hsz
  replace hdf := hk.defs.trans hdf
  clear hk
  refine handOn (lo := 3) (.inl rfl) rfl rfl hf (by rw [hsz]; decide) (by decide) ?_
  clear hf
  rintro a hk hf
  replace hp1 := (hk.low 1 (by decide)).trans hp1
  replace hsz := hk.size.trans hsz
  replace hdf := hk.defs.trans hdf
  clear hk
  refine limb 80 83 84 (isE m.pay) (fun w2 => W = w2) [_, _, _] (by kernel_rfl) (by decide) hf (by intro o ho; simp only [List.mem_cons, List.not_mem_nil, or_false] at ho; rcases ho with rfl | rfl | rfl <;> exact ⟨rfl, _, rfl, by decide⟩) (by rw [hsz]; decide) (by decide) rfl hI (fun _ K hK => ?_) ?_
  · have hR0 := hR
    refine wpRun_at 84 (.pointer (some ⟨w.heap.size, 21, none⟩)) rfl (run_fieldAddr (eval_of hp1) (by simp [go_sem, Instr.fieldAt])) ?_
    refine wpRun_at 85 (.string m.pay) rfl (run_loadOp (eval_same _ _ _ (by (try simp only [put_size]); rw [hsz]; decide)) (by simp [go_sem, Instr.loadAt, hR.cell (j := 21) rfl])) ?_
    refine wpRun_at 86 (.bool (isE m.pay)) rfl (run_binOp (eval_same _ _ _ (by (try simp only [put_size]); rw [hsz]; decide)) (eval_cst _ _) (eqStr _ _ _ _ _) (strE _ _)) ?_
    exact hK _ _ ((((Keep.refl _ _).put 84 (by decide) _).put 85 (by decide) _).put 86 (by decide) _) (eval_same _ _ _ (by (try simp only [put_size]); rw [hsz]; decide)) rfl
  clear hf hI
  rintro a w2 hk hf rfl
  have hI : W = W := rfl
  replace hp1 := (hk.low 1 (by decide)).trans hp1
  replace hsz := hk.size.trans hsz
  replace hdf := hk.defs.trans hdf
  clear hk
  refine handOn (lo := 3) (.inl rfl) rfl rfl hf (by rw [hsz]; decide) (by decide) ?_
  clear hf
  rintro a hk hf
  replace hp1 := (hk.low 1 (by decide)).trans hp1
  replace hsz := hk.size.trans hsz
  replace hdf := hk.defs.trans hdf
  clear hk
  refine limb 85 88 89 (((nw : Nat) : Int) == 0) (fun w2 => W = w2) [_, _, _, _] (by kernel_rfl) (by decide) hf (by intro o ho; simp only [List.mem_cons, List.not_mem_nil, or_false] at ho; rcases ho with rfl | rfl | rfl | rfl <;> exact ⟨rfl, _, rfl, by decide⟩) (by rw [hsz]; decide) (by decide) rfl hI (fun _ K hK => ?_) ?_
  · have hR0 := hR
    refine wpRun_at 89 (.pointer (some ⟨w.heap.size, 22, none⟩)) rfl (run_fieldAddr (eval_of hp1) (by simp [go_sem, Instr.fieldAt])) ?_
    refine wpRun_at 90 (.slice aw nw cw) rfl (run_loadOp (eval_same _ _ _ (by (try simp only [put_size]); rw [hsz]; decide)) (by simp [go_sem, Instr.loadAt, hR.cell (j := 22) rfl])) ?_
    refine wpRun_at 91 (.int .i64 (nw : Nat)) rfl (run_lenOp Tryd.underlying27 (eval_same _ _ _ (by (try simp only [put_size]); rw [hsz]; decide))) ?_
    refine wpRun_at 92 (.bool (((nw : Nat) : Int) == 0)) rfl (run_binOp (eval_same _ _ _ (by (try simp only [put_size]); rw [hsz]; decide)) (eval_cst _ _) (eqInt _ _ _ _ _) (intEq _ _ _)) ?_
    exact hK _ _ (((((Keep.refl _ _).put 89 (by decide) _).put 90 (by decide) _).put 91 (by decide) _).put 92 (by decide) _) (eval_same _ _ _ (by (try simp only [put_size]); rw [hsz]; decide)) rfl
  clear hf hI
  rintro a w2 hk hf rfl
  have hI : W = W := rfl
  replace hp1 := (hk.low 1 (by decide)).trans hp1
  replace hsz := hk.size.trans hsz
  replace hdf := hk.defs.trans hdf
  clear hk
  refine handOn (lo := 3) (.inl rfl) rfl rfl hf (by rw [hsz]; decide) (by decide) ?_
  clear hf
  rintro a hk hf
  replace hp1 := (hk.low 1 (by decide)).trans hp1
  replace hsz := hk.size.trans hsz
  replace hdf := hk.defs.trans hdf
  clear hk
  refine limb 91 94 95 (((nf : Nat) : Int) == 0) (fun w2 => W = w2) [_, _, _, _] (by kernel_rfl) (by decide) hf (by intro o ho; simp only [List.mem_cons, List.not_mem_nil, or_false] at ho; rcases ho with rfl | rfl | rfl | rfl <;> exact ⟨rfl, _, rfl, by decide⟩) (by rw [hsz]; decide) (by decide) rfl hI (fun _ K hK => ?_) ?_
  · have hR0 := hR
    refine wpRun_at 95 (.pointer (some ⟨w.heap.size, 23, none⟩)) rfl (run_fieldAddr (eval_of hp1) (by simp [go_sem, Instr.fieldAt])) ?_
    refine wpRun_at 96 (.slice af nf cf) rfl (run_loadOp (eval_same _ _ _ (by (try simp only [put_size]); rw [hsz]; decide)) (by simp [go_sem, Instr.loadAt, hR.cell (j := 23) rfl])) ?_
    refine wpRun_at 97 (.int .i64 (nf : Nat)) rfl (run_lenOp Tryd.underlying28 (eval_same _ _ _ (by (try simp only [put_size]); rw [hsz]; decide))) ?_
    refine wpRun_at 98 (.bool (((nf : Nat) : Int) == 0)) rfl (run_binOp (eval_same _ _ _ (by (try simp only [put_size]); rw [hsz]; decide)) (eval_cst _ _) (eqInt _ _ _ _ _) (intEq _ _ _)) ?_
    exact hK _ _ (((((Keep.refl _ _).put 95 (by decide) _).put 96 (by decide) _).put 97 (by decide) _).put 98 (by decide) _) (eval_same _ _ _ (by (try simp only [put_size]); rw [hsz]; decide)) rfl
  clear hf hI
  rintro a w2 hk hf rfl
  have hI : W = W := rfl
  replace hp1 := (hk.low 1 (by decide)).trans hp1
  replace hsz := hk.size.trans hsz
  replace hdf := hk.defs.trans hdf
  clear hk
  refine handOn (lo := 2) (.inr rfl) rfl rfl hf (by rw [hsz]; decide) (by decide) ?_
  clear hf
  rintro a hk hf
  exact hK _ (hk.defs.trans hdf) hf
theorem nothing_any (m : Mq) (vc vw vf : Value) (w : World) (hL : m.Lists w vc vw vf) :
    Calls Tryd.prog 86 #[m.val vc vw vf] w fun e w' => e = .returned (.bool m.noB) ∧ Below w.heap.size w w' := by
  obtain ⟨⟨ac, cc, rfl, -⟩, ⟨aw, cw, rfl, -⟩, ⟨af, cf, rfl, -⟩⟩ := hL
  refine calls_of_wp Tryd.func86 rfl ?_
  refine wp_mid (fun a W => a.tmps.size = 100 ∧ a.defers = [] ∧ a.tmps[1]? = some (.pointer (some ⟨w.heap.size, 0, none⟩)) ∧ Below w.heap.size w W ∧ RowAt W w.heap.size (m.row (.slice ac (m.cs.map cn).length cc) (.slice aw (m.ws.map rowWish).length cw) (.slice af (m.fs.map cs1).length cf))) (fun K hK => ?_) ?_
  · simp only [Tryd.ntmps86, List.size_toArray, List.length_cons, List.length_nil, Nat.reduceAdd, Nat.reduceSub, Array.replicate_succ, Array.replicate_zero, List.push_toArray, List.append_toArray, List.nil_append, List.cons_append]
    go_wp2
    exact ⟨(Below.refl _ w).alloc (Nat.le_refl _) _, rowAt_alloc w _ _⟩
  rintro a W ⟨hsz, hdf, hp, hb, hR⟩
  refine wp_mid (fun a' W' => W' = W ∧ a'.defers = [] ∧ a'.tmps[2]? = some (.bool m.noB)) (fun K hK => ?_) ?_
  · refine wp_region_list ?_
    refine nothing_reg m ac aw af _ _ _ cc cw cf w W a K _ hsz hdf hp hR (fun a' hd hf => hK _ _ ⟨rfl, hd, ?_⟩) _ rfl
    simpa only [Mq.noB, List.length_map] using hf
  · rintro a' W' ⟨rfl, hd, hr⟩
    exact ret_at rfl hd hr ⟨rfl, hb⟩
theorem _root_.Go.Proofs.YtpgnlhfokffioaaDoor.RowAt.drewN {W : World} {q : Nat} {vs : List Value} (h : RowAt W q vs) (n : Nat) : RowAt (W.drewN n) q vs := h.below (bdrew (Below.refl _ _) n)
theorem _root_.Go.Proofs.YtpgnlhfokffioaaDoor.RowAt.dn {W w2 : World} {q : Nat} {vs : List Value} (h : RowAt W q vs) (hI : ∃ m, w2 = W.drewN m) : RowAt w2 q vs := by obtain ⟨n, rfl⟩ := hI; exact h.drewN n
/-- Whether two packets are the same. -/
def Mq.eqB (m m2 : Mq) : Bool := ((((((((((((((((((((m.k == m2.k) && (m.cl.toList == m2.cl.toList)) && (m.clean == m2.clean)) && (m.keep == m2.keep)) && ((m.wI == m2.wI) && (m.wT.toList == m2.wT.toList) && (m.wP.toList == m2.wP.toList) && (m.wQ == m2.wQ) && (m.wR == m2.wR))) && (m.us.toList == m2.us.toList)) && (m.hu == m2.hu)) && (m.pa.toList == m2.pa.toList)) && (m.hp == m2.hp)) && (m.pres == m2.pres)) && (m.code == m2.code)) && (decide (m.cs = m2.cs))) && (m.dup == m2.dup)) && (m.q == m2.q)) && (m.re == m2.re)) && (m.top.toList == m2.top.toList)) && (m.id == m2.id)) && (m.pay.toList == m2.pay.toList)) && (decide (m.ws = m2.ws))) && (decide (m.fs = m2.fs)))
set_option maxRecDepth 100000 in
set_option maxHeartbeats 4000000 in
theorem eqMq_reg (m m2 : Mq) (vc vw vf vc2 vw2 vf2 : Value) (w W0 : World) (a : Act) (K : Act → World → Prop) (Q : Exit → Act → World → Prop) (hsz : a.tmps.size = 143) (hdf : a.defers = []) (hp1 : a.tmps[2]? = some (.pointer (some ⟨w.heap.size, 0, none⟩))) (hp2 : a.tmps[3]? = some (.pointer (some ⟨w.heap.size + 1, 0, none⟩)))
    (hA : RowAt W0 w.heap.size (m.row vc vw vf)) (hB : RowAt W0 (w.heap.size + 1) (m2.row vc2 vw2 vf2))
    (H1 : ∀ w2, (∃ m, w2 = W0.drewN m) → Calls Tryd.prog 41 #[vc, vc2] w2 fun e w' => e = .returned (.bool (decide (m.cs = m2.cs))) ∧ ∃ m, w' = W0.drewN m)
    (H2 : ∀ w2, (∃ m, w2 = W0.drewN m) → Calls Tryd.prog 42 #[vw, vw2] w2 fun e w' => e = .returned (.bool (decide (m.ws = m2.ws))) ∧ ∃ m, w' = W0.drewN m)
    (H3 : ∀ w2, (∃ m, w2 = W0.drewN m) → Calls Tryd.prog 43 #[vf, vf2] w2 fun e w' => e = .returned (.bool (decide (m.fs = m2.fs))) ∧ ∃ m, w' = W0.drewN m)
    (hK : ∀ a' n, a'.defers = [] → a'.tmps[4]? = some (.bool (m.eqB m2)) → K a' (W0.drewN n)) : ∀ l : List Oper, l = (match Tryd.f19.body with | some (.seq _ (.seq (.region _ ops _) _)) => ops.toList | _ => []) → wpList Tryd.prog l.toArray (Exit.then K Q) l a W0 := by
  rintro l rfl
  conv => arg 4; whnf
  refine any_world (C := fun W => wpList _ _ _ _ a W) (W0 := W0) ?_
  rintro w2 hI
  show wpList _ _ _ _ a w2
  refine plain_runs [_, _, _, _, _] _ _ (by intro o ho; simp only [List.mem_cons, List.not_mem_nil, or_false] at ho; rcases ho with rfl | rfl | rfl | rfl | rfl <;> rfl) ?_
  have hA0 := hA.dn hI
  have hB0 := hB.dn hI
  refine wpRun_at 5 (.pointer (some ⟨w.heap.size, 0, none⟩)) rfl (run_fieldAddr (eval_of hp1) (by simp [go_sem, Instr.fieldAt])) ?_
  refine wpRun_at 6 (.int .i64 m.k) rfl (run_loadOp (eval_same _ _ _ (by (try simp only [put_size]); rw [hsz]; decide)) (by simp [go_sem, Instr.loadAt, hA0.cell (j := 0) rfl])) ?_
  refine wpRun_at 7 (.pointer (some ⟨(w.heap.size + 1), 0, none⟩)) rfl (run_fieldAddr ((eval_far _ _ _ _ (by decide)).trans ((eval_far _ _ _ _ (by decide)).trans (eval_of hp2))) (by simp [go_sem, Instr.fieldAt])) ?_
  refine wpRun_at 8 (.int .i64 m2.k) rfl (run_loadOp (eval_same _ _ _ (by (try simp only [put_size]); rw [hsz]; decide)) (by simp [go_sem, Instr.loadAt, hB0.cell (j := 0) rfl])) ?_
  refine wpRun_at 9 (.bool (m.k == m2.k)) rfl (run_binOp ((eval_far _ _ _ _ (by decide)).trans ((eval_far _ _ _ _ (by decide)).trans (eval_same _ _ _ (by (try simp only [put_size]); rw [hsz]; decide)))) (eval_same _ _ _ (by (try simp only [put_size]); rw [hsz]; decide)) (eqInt _ _ _ _ _) (intEq _ _ _)) ?_
  refine fresh_act (C := fun x => wpRun _ [] x _ _) (lo := 4) (s := 9) (v := .bool (m.k == m2.k)) ((((((Keep.refl _ _).put 5 (by decide) _).put 6 (by decide) _).put 7 (by decide) _).put 8 (by decide) _).put 9 (by decide) _) (put_get _ _ _ (by (try simp only [put_size]); rw [hsz]; decide)) ?_
  rintro a hk hf
  dsimp only [wpRun]
  replace hp1 := (hk.low 2 (by decide)).trans hp1
  replace hp2 := (hk.low 3 (by decide)).trans hp2
  replace hsz := hk.size.trans hsz
  replace hdf := hk.defs.trans hdf
  clear hk
  refine handOn (lo := 4) (.inl rfl) rfl rfl hf (by rw [hsz]; decide) (by decide) ?_
  clear hf
  rintro a hk hf
  replace hp1 := (hk.low 2 (by decide)).trans hp1
  replace hp2 := (hk.low 3 (by decide)).trans hp2
  replace hsz := hk.size.trans hsz
  replace hdf := hk.defs.trans hdf
  clear hk
  refine limb 5 10 11 (m.cl.toList == m2.cl.toList) (fun w2 => ∃ m, w2 = W0.drewN m) [_, _, _, _, _] (by kernel_rfl) (by decide) hf (by intro o ho; simp only [List.mem_cons, List.not_mem_nil, or_false] at ho; rcases ho with rfl | rfl | rfl | rfl | rfl <;> exact ⟨rfl, _, rfl, by decide⟩) (by rw [hsz]; decide) (by decide) rfl hI (fun _ K hK => ?_) ?_
  · have hA0 := hA.dn hI
    have hB0 := hB.dn hI
    refine wpRun_at 11 (.pointer (some ⟨w.heap.size, 1, none⟩)) rfl (run_fieldAddr (eval_of hp1) (by simp [go_sem, Instr.fieldAt])) ?_
    refine wpRun_at 12 (.string m.cl) rfl (run_loadOp (eval_same _ _ _ (by (try simp only [put_size]); rw [hsz]; decide)) (by simp [go_sem, Instr.loadAt, hA0.cell (j := 1) rfl])) ?_
    refine wpRun_at 13 (.pointer (some ⟨(w.heap.size + 1), 1, none⟩)) rfl (run_fieldAddr ((eval_far _ _ _ _ (by decide)).trans ((eval_far _ _ _ _ (by decide)).trans (eval_of hp2))) (by simp [go_sem, Instr.fieldAt])) ?_
    refine wpRun_at 14 (.string m2.cl) rfl (run_loadOp (eval_same _ _ _ (by (try simp only [put_size]); rw [hsz]; decide)) (by simp [go_sem, Instr.loadAt, hB0.cell (j := 1) rfl])) ?_
    refine wpRun_at 15 (.bool (m.cl.toList == m2.cl.toList)) rfl (run_binOp ((eval_far _ _ _ _ (by decide)).trans ((eval_far _ _ _ _ (by decide)).trans (eval_same _ _ _ (by (try simp only [put_size]); rw [hsz]; decide)))) (eval_same _ _ _ (by (try simp only [put_size]); rw [hsz]; decide)) (eqStr _ _ _ _ _) (strEq _ _ _)) ?_
    exact hK _ _ ((((((Keep.refl _ _).put 11 (by decide) _).put 12 (by decide) _).put 13 (by decide) _).put 14 (by decide) _).put 15 (by decide) _) (eval_same _ _ _ (by (try simp only [put_size]); rw [hsz]; decide)) hI
  clear hf hI
  rintro a w2 hk hf hI
  replace hp1 := (hk.low 2 (by decide)).trans hp1
  replace hp2 := (hk.low 3 (by decide)).trans hp2
  replace hsz := hk.size.trans hsz
  replace hdf := hk.defs.trans hdf
  clear hk
  refine handOn (lo := 4) (.inl rfl) rfl rfl hf (by rw [hsz]; decide) (by decide) ?_
  clear hf
  rintro a hk hf
  replace hp1 := (hk.low 2 (by decide)).trans hp1
  replace hp2 := (hk.low 3 (by decide)).trans hp2
  replace hsz := hk.size.trans hsz
  replace hdf := hk.defs.trans hdf
  clear hk
  refine limb 12 17 18 (m.clean == m2.clean) (fun w2 => ∃ m, w2 = W0.drewN m) [_, _, _, _, _] (by kernel_rfl) (by decide) hf (by intro o ho; simp only [List.mem_cons, List.not_mem_nil, or_false] at ho; rcases ho with rfl | rfl | rfl | rfl | rfl <;> exact ⟨rfl, _, rfl, by decide⟩) (by rw [hsz]; decide) (by decide) rfl hI (fun _ K hK => ?_) ?_
  · have hA0 := hA.dn hI
    have hB0 := hB.dn hI
    refine wpRun_at 18 (.pointer (some ⟨w.heap.size, 2, none⟩)) rfl (run_fieldAddr (eval_of hp1) (by simp [go_sem, Instr.fieldAt])) ?_
    refine wpRun_at 19 (.bool m.clean) rfl (run_loadOp (eval_same _ _ _ (by (try simp only [put_size]); rw [hsz]; decide)) (by simp [go_sem, Instr.loadAt, hA0.cell (j := 2) rfl])) ?_
    refine wpRun_at 20 (.pointer (some ⟨(w.heap.size + 1), 2, none⟩)) rfl (run_fieldAddr ((eval_far _ _ _ _ (by decide)).trans ((eval_far _ _ _ _ (by decide)).trans (eval_of hp2))) (by simp [go_sem, Instr.fieldAt])) ?_
    refine wpRun_at 21 (.bool m2.clean) rfl (run_loadOp (eval_same _ _ _ (by (try simp only [put_size]); rw [hsz]; decide)) (by simp [go_sem, Instr.loadAt, hB0.cell (j := 2) rfl])) ?_
    refine wpRun_at 22 (.bool (m.clean == m2.clean)) rfl (run_binOp ((eval_far _ _ _ _ (by decide)).trans ((eval_far _ _ _ _ (by decide)).trans (eval_same _ _ _ (by (try simp only [put_size]); rw [hsz]; decide)))) (eval_same _ _ _ (by (try simp only [put_size]); rw [hsz]; decide)) (eqBool _ _ _ _ _) (boolEq _ _ _)) ?_
    exact hK _ _ ((((((Keep.refl _ _).put 18 (by decide) _).put 19 (by decide) _).put 20 (by decide) _).put 21 (by decide) _).put 22 (by decide) _) (eval_same _ _ _ (by (try simp only [put_size]); rw [hsz]; decide)) hI
  clear hf hI
  rintro a w2 hk hf hI
  replace hp1 := (hk.low 2 (by decide)).trans hp1
  replace hp2 := (hk.low 3 (by decide)).trans hp2
  replace hsz := hk.size.trans hsz
  replace hdf := hk.defs.trans hdf
  clear hk
  refine handOn (lo := 4) (.inl rfl) rfl rfl hf (by rw [hsz]; decide) (by decide) ?_
  clear hf
  rintro a hk hf
  replace hp1 := (hk.low 2 (by decide)).trans hp1
  replace hp2 := (hk.low 3 (by decide)).trans hp2
  replace hsz := hk.size.trans hsz
  replace hdf := hk.defs.trans hdf
  clear hk
  refine limb 19 24 25 (m.keep == m2.keep) (fun w2 => ∃ m, w2 = W0.drewN m) [_, _, _, _, _] (by kernel_rfl) (by decide) hf (by intro o ho; simp only [List.mem_cons, List.not_mem_nil, or_false] at ho; rcases ho with rfl | rfl | rfl | rfl | rfl <;> exact ⟨rfl, _, rfl, by decide⟩) (by rw [hsz]; decide) (by decide) rfl hI (fun _ K hK => ?_) ?_
  · have hA0 := hA.dn hI
    have hB0 := hB.dn hI
    refine wpRun_at 25 (.pointer (some ⟨w.heap.size, 3, none⟩)) rfl (run_fieldAddr (eval_of hp1) (by simp [go_sem, Instr.fieldAt])) ?_
    refine wpRun_at 26 (.int .i64 m.keep) rfl (run_loadOp (eval_same _ _ _ (by (try simp only [put_size]); rw [hsz]; decide)) (by simp [go_sem, Instr.loadAt, hA0.cell (j := 3) rfl])) ?_
    refine wpRun_at 27 (.pointer (some ⟨(w.heap.size + 1), 3, none⟩)) rfl (run_fieldAddr ((eval_far _ _ _ _ (by decide)).trans ((eval_far _ _ _ _ (by decide)).trans (eval_of hp2))) (by simp [go_sem, Instr.fieldAt])) ?_
    refine wpRun_at 28 (.int .i64 m2.keep) rfl (run_loadOp (eval_same _ _ _ (by (try simp only [put_size]); rw [hsz]; decide)) (by simp [go_sem, Instr.loadAt, hB0.cell (j := 3) rfl])) ?_
    refine wpRun_at 29 (.bool (m.keep == m2.keep)) rfl (run_binOp ((eval_far _ _ _ _ (by decide)).trans ((eval_far _ _ _ _ (by decide)).trans (eval_same _ _ _ (by (try simp only [put_size]); rw [hsz]; decide)))) (eval_same _ _ _ (by (try simp only [put_size]); rw [hsz]; decide)) (eqInt _ _ _ _ _) (intEq _ _ _)) ?_
    exact hK _ _ ((((((Keep.refl _ _).put 25 (by decide) _).put 26 (by decide) _).put 27 (by decide) _).put 28 (by decide) _).put 29 (by decide) _) (eval_same _ _ _ (by (try simp only [put_size]); rw [hsz]; decide)) hI
  clear hf hI
  rintro a w2 hk hf hI
  replace hp1 := (hk.low 2 (by decide)).trans hp1
  replace hp2 := (hk.low 3 (by decide)).trans hp2
  replace hsz := hk.size.trans hsz
  replace hdf := hk.defs.trans hdf
  clear hk
  refine handOn (lo := 4) (.inl rfl) rfl rfl hf (by rw [hsz]; decide) (by decide) ?_
  clear hf
  rintro a hk hf
  replace hp1 := (hk.low 2 (by decide)).trans hp1
  replace hp2 := (hk.low 3 (by decide)).trans hp2
  replace hsz := hk.size.trans hsz
  replace hdf := hk.defs.trans hdf
  clear hk
  refine limb 26 31 32 ((m.wI == m2.wI) && (m.wT.toList == m2.wT.toList) && (m.wP.toList == m2.wP.toList) && (m.wQ == m2.wQ) && (m.wR == m2.wR)) (fun w2 => ∃ m, w2 = W0.drewN m) [_, _, _, _, _] (by kernel_rfl) (by decide) hf (by intro o ho; simp only [List.mem_cons, List.not_mem_nil, or_false] at ho; rcases ho with rfl | rfl | rfl | rfl | rfl <;> exact ⟨rfl, _, rfl, by decide⟩) (by rw [hsz]; decide) (by decide) rfl hI (fun _ K hK => ?_) ?_
  · have hA0 := hA.dn hI
    have hB0 := hB.dn hI
    refine wpRun_at 32 (.pointer (some ⟨w.heap.size, 4, none⟩)) rfl (run_fieldAddr (eval_of hp1) (by simp [go_sem, Instr.fieldAt])) ?_
    refine wpRun_at 33 (.agg #[.bool m.wI, .string m.wT, .string m.wP, .int .i64 m.wQ, .bool m.wR]) rfl (run_loadOp (eval_same _ _ _ (by (try simp only [put_size]); rw [hsz]; decide)) (by simp [go_sem, Instr.loadAt, hA0.cell (j := 4) rfl, hA0.cell (j := 5) rfl, hA0.cell (j := 6) rfl, hA0.cell (j := 7) rfl, hA0.cell (j := 8) rfl])) ?_
    refine wpRun_at 34 (.pointer (some ⟨(w.heap.size + 1), 4, none⟩)) rfl (run_fieldAddr ((eval_far _ _ _ _ (by decide)).trans ((eval_far _ _ _ _ (by decide)).trans (eval_of hp2))) (by simp [go_sem, Instr.fieldAt])) ?_
    refine wpRun_at 35 (.agg #[.bool m2.wI, .string m2.wT, .string m2.wP, .int .i64 m2.wQ, .bool m2.wR]) rfl (run_loadOp (eval_same _ _ _ (by (try simp only [put_size]); rw [hsz]; decide)) (by simp [go_sem, Instr.loadAt, hB0.cell (j := 4) rfl, hB0.cell (j := 5) rfl, hB0.cell (j := 6) rfl, hB0.cell (j := 7) rfl, hB0.cell (j := 8) rfl])) ?_
    refine wpRun_at 36 (.bool ((m.wI == m2.wI) && (m.wT.toList == m2.wT.toList) && (m.wP.toList == m2.wP.toList) && (m.wQ == m2.wQ) && (m.wR == m2.wR))) rfl (run_binOp ((eval_far _ _ _ _ (by decide)).trans ((eval_far _ _ _ _ (by decide)).trans (eval_same _ _ _ (by (try simp only [put_size]); rw [hsz]; decide)))) (eval_same _ _ _ (by (try simp only [put_size]); rw [hsz]; decide)) (eqWill _ _ _ _ _) (willEq _ _ _ _ _ _ _ _ _ _ _)) ?_
    exact hK _ _ ((((((Keep.refl _ _).put 32 (by decide) _).put 33 (by decide) _).put 34 (by decide) _).put 35 (by decide) _).put 36 (by decide) _) (eval_same _ _ _ (by (try simp only [put_size]); rw [hsz]; decide)) hI
  clear hf hI
  rintro a w2 hk hf hI
  replace hp1 := (hk.low 2 (by decide)).trans hp1
  replace hp2 := (hk.low 3 (by decide)).trans hp2
  replace hsz := hk.size.trans hsz
  replace hdf := hk.defs.trans hdf
  clear hk
  refine handOn (lo := 4) (.inl rfl) rfl rfl hf (by rw [hsz]; decide) (by decide) ?_
  clear hf
  rintro a hk hf
  replace hp1 := (hk.low 2 (by decide)).trans hp1
  replace hp2 := (hk.low 3 (by decide)).trans hp2
  replace hsz := hk.size.trans hsz
  replace hdf := hk.defs.trans hdf
  clear hk
  refine limb 33 38 39 (m.us.toList == m2.us.toList) (fun w2 => ∃ m, w2 = W0.drewN m) [_, _, _, _, _] (by kernel_rfl) (by decide) hf (by intro o ho; simp only [List.mem_cons, List.not_mem_nil, or_false] at ho; rcases ho with rfl | rfl | rfl | rfl | rfl <;> exact ⟨rfl, _, rfl, by decide⟩) (by rw [hsz]; decide) (by decide) rfl hI (fun _ K hK => ?_) ?_
  · have hA0 := hA.dn hI
    have hB0 := hB.dn hI
    refine wpRun_at 39 (.pointer (some ⟨w.heap.size, 9, none⟩)) rfl (run_fieldAddr (eval_of hp1) (by simp [go_sem, Instr.fieldAt])) ?_
    refine wpRun_at 40 (.string m.us) rfl (run_loadOp (eval_same _ _ _ (by (try simp only [put_size]); rw [hsz]; decide)) (by simp [go_sem, Instr.loadAt, hA0.cell (j := 9) rfl])) ?_
    refine wpRun_at 41 (.pointer (some ⟨(w.heap.size + 1), 9, none⟩)) rfl (run_fieldAddr ((eval_far _ _ _ _ (by decide)).trans ((eval_far _ _ _ _ (by decide)).trans (eval_of hp2))) (by simp [go_sem, Instr.fieldAt])) ?_
    refine wpRun_at 42 (.string m2.us) rfl (run_loadOp (eval_same _ _ _ (by (try simp only [put_size]); rw [hsz]; decide)) (by simp [go_sem, Instr.loadAt, hB0.cell (j := 9) rfl])) ?_
    refine wpRun_at 43 (.bool (m.us.toList == m2.us.toList)) rfl (run_binOp ((eval_far _ _ _ _ (by decide)).trans ((eval_far _ _ _ _ (by decide)).trans (eval_same _ _ _ (by (try simp only [put_size]); rw [hsz]; decide)))) (eval_same _ _ _ (by (try simp only [put_size]); rw [hsz]; decide)) (eqStr _ _ _ _ _) (strEq _ _ _)) ?_
    exact hK _ _ ((((((Keep.refl _ _).put 39 (by decide) _).put 40 (by decide) _).put 41 (by decide) _).put 42 (by decide) _).put 43 (by decide) _) (eval_same _ _ _ (by (try simp only [put_size]); rw [hsz]; decide)) hI
  clear hf hI
  rintro a w2 hk hf hI
  replace hp1 := (hk.low 2 (by decide)).trans hp1
  replace hp2 := (hk.low 3 (by decide)).trans hp2
  replace hsz := hk.size.trans hsz
  replace hdf := hk.defs.trans hdf
  clear hk
  refine handOn (lo := 4) (.inl rfl) rfl rfl hf (by rw [hsz]; decide) (by decide) ?_
  clear hf
  rintro a hk hf
  replace hp1 := (hk.low 2 (by decide)).trans hp1
  replace hp2 := (hk.low 3 (by decide)).trans hp2
  replace hsz := hk.size.trans hsz
  replace hdf := hk.defs.trans hdf
  clear hk
  refine limb 40 45 46 (m.hu == m2.hu) (fun w2 => ∃ m, w2 = W0.drewN m) [_, _, _, _, _] (by kernel_rfl) (by decide) hf (by intro o ho; simp only [List.mem_cons, List.not_mem_nil, or_false] at ho; rcases ho with rfl | rfl | rfl | rfl | rfl <;> exact ⟨rfl, _, rfl, by decide⟩) (by rw [hsz]; decide) (by decide) rfl hI (fun _ K hK => ?_) ?_
  · have hA0 := hA.dn hI
    have hB0 := hB.dn hI
    refine wpRun_at 46 (.pointer (some ⟨w.heap.size, 10, none⟩)) rfl (run_fieldAddr (eval_of hp1) (by simp [go_sem, Instr.fieldAt])) ?_
    refine wpRun_at 47 (.bool m.hu) rfl (run_loadOp (eval_same _ _ _ (by (try simp only [put_size]); rw [hsz]; decide)) (by simp [go_sem, Instr.loadAt, hA0.cell (j := 10) rfl])) ?_
    refine wpRun_at 48 (.pointer (some ⟨(w.heap.size + 1), 10, none⟩)) rfl (run_fieldAddr ((eval_far _ _ _ _ (by decide)).trans ((eval_far _ _ _ _ (by decide)).trans (eval_of hp2))) (by simp [go_sem, Instr.fieldAt])) ?_
    refine wpRun_at 49 (.bool m2.hu) rfl (run_loadOp (eval_same _ _ _ (by (try simp only [put_size]); rw [hsz]; decide)) (by simp [go_sem, Instr.loadAt, hB0.cell (j := 10) rfl])) ?_
    refine wpRun_at 50 (.bool (m.hu == m2.hu)) rfl (run_binOp ((eval_far _ _ _ _ (by decide)).trans ((eval_far _ _ _ _ (by decide)).trans (eval_same _ _ _ (by (try simp only [put_size]); rw [hsz]; decide)))) (eval_same _ _ _ (by (try simp only [put_size]); rw [hsz]; decide)) (eqBool _ _ _ _ _) (boolEq _ _ _)) ?_
    exact hK _ _ ((((((Keep.refl _ _).put 46 (by decide) _).put 47 (by decide) _).put 48 (by decide) _).put 49 (by decide) _).put 50 (by decide) _) (eval_same _ _ _ (by (try simp only [put_size]); rw [hsz]; decide)) hI
  clear hf hI
  rintro a w2 hk hf hI
  replace hp1 := (hk.low 2 (by decide)).trans hp1
  replace hp2 := (hk.low 3 (by decide)).trans hp2
  replace hsz := hk.size.trans hsz
  replace hdf := hk.defs.trans hdf
  clear hk
  refine handOn (lo := 4) (.inl rfl) rfl rfl hf (by rw [hsz]; decide) (by decide) ?_
  clear hf
  rintro a hk hf
  replace hp1 := (hk.low 2 (by decide)).trans hp1
  replace hp2 := (hk.low 3 (by decide)).trans hp2
  replace hsz := hk.size.trans hsz
  replace hdf := hk.defs.trans hdf
  clear hk
  refine limb 47 52 53 (m.pa.toList == m2.pa.toList) (fun w2 => ∃ m, w2 = W0.drewN m) [_, _, _, _, _] (by kernel_rfl) (by decide) hf (by intro o ho; simp only [List.mem_cons, List.not_mem_nil, or_false] at ho; rcases ho with rfl | rfl | rfl | rfl | rfl <;> exact ⟨rfl, _, rfl, by decide⟩) (by rw [hsz]; decide) (by decide) rfl hI (fun _ K hK => ?_) ?_
  · have hA0 := hA.dn hI
    have hB0 := hB.dn hI
    refine wpRun_at 53 (.pointer (some ⟨w.heap.size, 11, none⟩)) rfl (run_fieldAddr (eval_of hp1) (by simp [go_sem, Instr.fieldAt])) ?_
    refine wpRun_at 54 (.string m.pa) rfl (run_loadOp (eval_same _ _ _ (by (try simp only [put_size]); rw [hsz]; decide)) (by simp [go_sem, Instr.loadAt, hA0.cell (j := 11) rfl])) ?_
    refine wpRun_at 55 (.pointer (some ⟨(w.heap.size + 1), 11, none⟩)) rfl (run_fieldAddr ((eval_far _ _ _ _ (by decide)).trans ((eval_far _ _ _ _ (by decide)).trans (eval_of hp2))) (by simp [go_sem, Instr.fieldAt])) ?_
    refine wpRun_at 56 (.string m2.pa) rfl (run_loadOp (eval_same _ _ _ (by (try simp only [put_size]); rw [hsz]; decide)) (by simp [go_sem, Instr.loadAt, hB0.cell (j := 11) rfl])) ?_
    refine wpRun_at 57 (.bool (m.pa.toList == m2.pa.toList)) rfl (run_binOp ((eval_far _ _ _ _ (by decide)).trans ((eval_far _ _ _ _ (by decide)).trans (eval_same _ _ _ (by (try simp only [put_size]); rw [hsz]; decide)))) (eval_same _ _ _ (by (try simp only [put_size]); rw [hsz]; decide)) (eqStr _ _ _ _ _) (strEq _ _ _)) ?_
    exact hK _ _ ((((((Keep.refl _ _).put 53 (by decide) _).put 54 (by decide) _).put 55 (by decide) _).put 56 (by decide) _).put 57 (by decide) _) (eval_same _ _ _ (by (try simp only [put_size]); rw [hsz]; decide)) hI
  clear hf hI
  rintro a w2 hk hf hI
  replace hp1 := (hk.low 2 (by decide)).trans hp1
  replace hp2 := (hk.low 3 (by decide)).trans hp2
  replace hsz := hk.size.trans hsz
  replace hdf := hk.defs.trans hdf
  clear hk
  refine handOn (lo := 4) (.inl rfl) rfl rfl hf (by rw [hsz]; decide) (by decide) ?_
  clear hf
  rintro a hk hf
  replace hp1 := (hk.low 2 (by decide)).trans hp1
  replace hp2 := (hk.low 3 (by decide)).trans hp2
  replace hsz := hk.size.trans hsz
  replace hdf := hk.defs.trans hdf
  clear hk
  refine limb 54 59 60 (m.hp == m2.hp) (fun w2 => ∃ m, w2 = W0.drewN m) [_, _, _, _, _] (by kernel_rfl) (by decide) hf (by intro o ho; simp only [List.mem_cons, List.not_mem_nil, or_false] at ho; rcases ho with rfl | rfl | rfl | rfl | rfl <;> exact ⟨rfl, _, rfl, by decide⟩) (by rw [hsz]; decide) (by decide) rfl hI (fun _ K hK => ?_) ?_
  · have hA0 := hA.dn hI
    have hB0 := hB.dn hI
    refine wpRun_at 60 (.pointer (some ⟨w.heap.size, 12, none⟩)) rfl (run_fieldAddr (eval_of hp1) (by simp [go_sem, Instr.fieldAt])) ?_
    refine wpRun_at 61 (.bool m.hp) rfl (run_loadOp (eval_same _ _ _ (by (try simp only [put_size]); rw [hsz]; decide)) (by simp [go_sem, Instr.loadAt, hA0.cell (j := 12) rfl])) ?_
    refine wpRun_at 62 (.pointer (some ⟨(w.heap.size + 1), 12, none⟩)) rfl (run_fieldAddr ((eval_far _ _ _ _ (by decide)).trans ((eval_far _ _ _ _ (by decide)).trans (eval_of hp2))) (by simp [go_sem, Instr.fieldAt])) ?_
    refine wpRun_at 63 (.bool m2.hp) rfl (run_loadOp (eval_same _ _ _ (by (try simp only [put_size]); rw [hsz]; decide)) (by simp [go_sem, Instr.loadAt, hB0.cell (j := 12) rfl])) ?_
    refine wpRun_at 64 (.bool (m.hp == m2.hp)) rfl (run_binOp ((eval_far _ _ _ _ (by decide)).trans ((eval_far _ _ _ _ (by decide)).trans (eval_same _ _ _ (by (try simp only [put_size]); rw [hsz]; decide)))) (eval_same _ _ _ (by (try simp only [put_size]); rw [hsz]; decide)) (eqBool _ _ _ _ _) (boolEq _ _ _)) ?_
    exact hK _ _ ((((((Keep.refl _ _).put 60 (by decide) _).put 61 (by decide) _).put 62 (by decide) _).put 63 (by decide) _).put 64 (by decide) _) (eval_same _ _ _ (by (try simp only [put_size]); rw [hsz]; decide)) hI
  clear hf hI
  rintro a w2 hk hf hI
  replace hp1 := (hk.low 2 (by decide)).trans hp1
  replace hp2 := (hk.low 3 (by decide)).trans hp2
  replace hsz := hk.size.trans hsz
  replace hdf := hk.defs.trans hdf
  clear hk
  refine handOn (lo := 4) (.inl rfl) rfl rfl hf (by rw [hsz]; decide) (by decide) ?_
  clear hf
  rintro a hk hf
  replace hp1 := (hk.low 2 (by decide)).trans hp1
  replace hp2 := (hk.low 3 (by decide)).trans hp2
  replace hsz := hk.size.trans hsz
  replace hdf := hk.defs.trans hdf
  clear hk
  refine limb 61 66 67 (m.pres == m2.pres) (fun w2 => ∃ m, w2 = W0.drewN m) [_, _, _, _, _] (by kernel_rfl) (by decide) hf (by intro o ho; simp only [List.mem_cons, List.not_mem_nil, or_false] at ho; rcases ho with rfl | rfl | rfl | rfl | rfl <;> exact ⟨rfl, _, rfl, by decide⟩) (by rw [hsz]; decide) (by decide) rfl hI (fun _ K hK => ?_) ?_
  · have hA0 := hA.dn hI
    have hB0 := hB.dn hI
    refine wpRun_at 67 (.pointer (some ⟨w.heap.size, 13, none⟩)) rfl (run_fieldAddr (eval_of hp1) (by simp [go_sem, Instr.fieldAt])) ?_
    refine wpRun_at 68 (.bool m.pres) rfl (run_loadOp (eval_same _ _ _ (by (try simp only [put_size]); rw [hsz]; decide)) (by simp [go_sem, Instr.loadAt, hA0.cell (j := 13) rfl])) ?_
    refine wpRun_at 69 (.pointer (some ⟨(w.heap.size + 1), 13, none⟩)) rfl (run_fieldAddr ((eval_far _ _ _ _ (by decide)).trans ((eval_far _ _ _ _ (by decide)).trans (eval_of hp2))) (by simp [go_sem, Instr.fieldAt])) ?_
    refine wpRun_at 70 (.bool m2.pres) rfl (run_loadOp (eval_same _ _ _ (by (try simp only [put_size]); rw [hsz]; decide)) (by simp [go_sem, Instr.loadAt, hB0.cell (j := 13) rfl])) ?_
    refine wpRun_at 71 (.bool (m.pres == m2.pres)) rfl (run_binOp ((eval_far _ _ _ _ (by decide)).trans ((eval_far _ _ _ _ (by decide)).trans (eval_same _ _ _ (by (try simp only [put_size]); rw [hsz]; decide)))) (eval_same _ _ _ (by (try simp only [put_size]); rw [hsz]; decide)) (eqBool _ _ _ _ _) (boolEq _ _ _)) ?_
    exact hK _ _ ((((((Keep.refl _ _).put 67 (by decide) _).put 68 (by decide) _).put 69 (by decide) _).put 70 (by decide) _).put 71 (by decide) _) (eval_same _ _ _ (by (try simp only [put_size]); rw [hsz]; decide)) hI
  clear hf hI
  rintro a w2 hk hf hI
  replace hp1 := (hk.low 2 (by decide)).trans hp1
  replace hp2 := (hk.low 3 (by decide)).trans hp2
  replace hsz := hk.size.trans hsz
  replace hdf := hk.defs.trans hdf
  clear hk
  refine handOn (lo := 4) (.inl rfl) rfl rfl hf (by rw [hsz]; decide) (by decide) ?_
  clear hf
  rintro a hk hf
  replace hp1 := (hk.low 2 (by decide)).trans hp1
  replace hp2 := (hk.low 3 (by decide)).trans hp2
  replace hsz := hk.size.trans hsz
  replace hdf := hk.defs.trans hdf
  clear hk
  refine limb 68 73 74 (m.code == m2.code) (fun w2 => ∃ m, w2 = W0.drewN m) [_, _, _, _, _] (by kernel_rfl) (by decide) hf (by intro o ho; simp only [List.mem_cons, List.not_mem_nil, or_false] at ho; rcases ho with rfl | rfl | rfl | rfl | rfl <;> exact ⟨rfl, _, rfl, by decide⟩) (by rw [hsz]; decide) (by decide) rfl hI (fun _ K hK => ?_) ?_
  · have hA0 := hA.dn hI
    have hB0 := hB.dn hI
    refine wpRun_at 74 (.pointer (some ⟨w.heap.size, 14, none⟩)) rfl (run_fieldAddr (eval_of hp1) (by simp [go_sem, Instr.fieldAt])) ?_
    refine wpRun_at 75 (.int .i64 m.code) rfl (run_loadOp (eval_same _ _ _ (by (try simp only [put_size]); rw [hsz]; decide)) (by simp [go_sem, Instr.loadAt, hA0.cell (j := 14) rfl])) ?_
    refine wpRun_at 76 (.pointer (some ⟨(w.heap.size + 1), 14, none⟩)) rfl (run_fieldAddr ((eval_far _ _ _ _ (by decide)).trans ((eval_far _ _ _ _ (by decide)).trans (eval_of hp2))) (by simp [go_sem, Instr.fieldAt])) ?_
    refine wpRun_at 77 (.int .i64 m2.code) rfl (run_loadOp (eval_same _ _ _ (by (try simp only [put_size]); rw [hsz]; decide)) (by simp [go_sem, Instr.loadAt, hB0.cell (j := 14) rfl])) ?_
    refine wpRun_at 78 (.bool (m.code == m2.code)) rfl (run_binOp ((eval_far _ _ _ _ (by decide)).trans ((eval_far _ _ _ _ (by decide)).trans (eval_same _ _ _ (by (try simp only [put_size]); rw [hsz]; decide)))) (eval_same _ _ _ (by (try simp only [put_size]); rw [hsz]; decide)) (eqInt _ _ _ _ _) (intEq _ _ _)) ?_
    exact hK _ _ ((((((Keep.refl _ _).put 74 (by decide) _).put 75 (by decide) _).put 76 (by decide) _).put 77 (by decide) _).put 78 (by decide) _) (eval_same _ _ _ (by (try simp only [put_size]); rw [hsz]; decide)) hI
  clear hf hI
  rintro a w2 hk hf hI
  replace hp1 := (hk.low 2 (by decide)).trans hp1
  replace hp2 := (hk.low 3 (by decide)).trans hp2
  replace hsz := hk.size.trans hsz
  replace hdf := hk.defs.trans hdf
  clear hk
  refine handOn (lo := 4) (.inl rfl) rfl rfl hf (by rw [hsz]; decide) (by decide) ?_
  clear hf
  rintro a hk hf
  replace hp1 := (hk.low 2 (by decide)).trans hp1
  replace hp2 := (hk.low 3 (by decide)).trans hp2
  replace hsz := hk.size.trans hsz
  replace hdf := hk.defs.trans hdf
  clear hk
  refine limb 75 80 81 (decide (m.cs = m2.cs)) (fun w2 => ∃ m, w2 = W0.drewN m) [_, _, _, _, _] (by kernel_rfl) (by decide) hf (by intro o ho; simp only [List.mem_cons, List.not_mem_nil, or_false] at ho; rcases ho with rfl | rfl | rfl | rfl | rfl <;> exact ⟨rfl, _, rfl, by decide⟩) (by rw [hsz]; decide) (by decide) rfl hI (fun _ K hK => ?_) ?_
  · have hA0 := hA.dn hI
    have hB0 := hB.dn hI
    refine wpRun_at 81 (.pointer (some ⟨w.heap.size, 15, none⟩)) rfl (run_fieldAddr (eval_of hp1) (by simp [go_sem, Instr.fieldAt])) ?_
    refine wpRun_at 82 vc rfl (run_loadOp (eval_same _ _ _ (by (try simp only [put_size]); rw [hsz]; decide)) (by simp [go_sem, Instr.loadAt, hA0.cell (j := 15) rfl])) ?_
    refine wpRun_at 83 (.pointer (some ⟨(w.heap.size + 1), 15, none⟩)) rfl (run_fieldAddr ((eval_far _ _ _ _ (by decide)).trans ((eval_far _ _ _ _ (by decide)).trans (eval_of hp2))) (by simp [go_sem, Instr.fieldAt])) ?_
    refine wpRun_at 84 vc2 rfl (run_loadOp (eval_same _ _ _ (by (try simp only [put_size]); rw [hsz]; decide)) (by simp [go_sem, Instr.loadAt, hB0.cell (j := 15) rfl])) ?_
    refine wpRun_call 85 (.bool (decide (m.cs = m2.cs))) (fun w2 => ∃ m, w2 = W0.drewN m) rfl _ _ (run_callOp Tryd.func41 rfl rfl (arr2 ((eval_far _ _ _ _ (by decide)).trans ((eval_far _ _ _ _ (by decide)).trans (eval_same _ _ _ (by (try simp only [put_size]); rw [hsz]; decide)))) (eval_same _ _ _ (by (try simp only [put_size]); rw [hsz]; decide)))) (H1 _ hI) ?_
    rintro _ hw2
    exact hK _ _ ((((((Keep.refl _ _).put 81 (by decide) _).put 82 (by decide) _).put 83 (by decide) _).put 84 (by decide) _).put 85 (by decide) _) (eval_same _ _ _ (by (try simp only [put_size]); rw [hsz]; decide)) hw2
  clear hf hI
  rintro a w2 hk hf hI
  replace hp1 := (hk.low 2 (by decide)).trans hp1
  replace hp2 := (hk.low 3 (by decide)).trans hp2
  replace hsz := hk.size.trans hsz
  replace hdf := hk.defs.trans hdf
  clear hk
  refine handOn (lo := 4) (.inl rfl) rfl rfl hf (by rw [hsz]; decide) (by decide) ?_
  clear hf
  rintro a hk hf
  replace hp1 := (hk.low 2 (by decide)).trans hp1
  replace hp2 := (hk.low 3 (by decide)).trans hp2
  replace hsz := hk.size.trans hsz
  replace hdf := hk.defs.trans hdf
  clear hk
  refine limb 82 87 88 (m.dup == m2.dup) (fun w2 => ∃ m, w2 = W0.drewN m) [_, _, _, _, _] (by kernel_rfl) (by decide) hf (by intro o ho; simp only [List.mem_cons, List.not_mem_nil, or_false] at ho; rcases ho with rfl | rfl | rfl | rfl | rfl <;> exact ⟨rfl, _, rfl, by decide⟩) (by rw [hsz]; decide) (by decide) rfl hI (fun _ K hK => ?_) ?_
  · have hA0 := hA.dn hI
    have hB0 := hB.dn hI
    refine wpRun_at 88 (.pointer (some ⟨w.heap.size, 16, none⟩)) rfl (run_fieldAddr (eval_of hp1) (by simp [go_sem, Instr.fieldAt])) ?_
    refine wpRun_at 89 (.bool m.dup) rfl (run_loadOp (eval_same _ _ _ (by (try simp only [put_size]); rw [hsz]; decide)) (by simp [go_sem, Instr.loadAt, hA0.cell (j := 16) rfl])) ?_
    refine wpRun_at 90 (.pointer (some ⟨(w.heap.size + 1), 16, none⟩)) rfl (run_fieldAddr ((eval_far _ _ _ _ (by decide)).trans ((eval_far _ _ _ _ (by decide)).trans (eval_of hp2))) (by simp [go_sem, Instr.fieldAt])) ?_
    refine wpRun_at 91 (.bool m2.dup) rfl (run_loadOp (eval_same _ _ _ (by (try simp only [put_size]); rw [hsz]; decide)) (by simp [go_sem, Instr.loadAt, hB0.cell (j := 16) rfl])) ?_
    refine wpRun_at 92 (.bool (m.dup == m2.dup)) rfl (run_binOp ((eval_far _ _ _ _ (by decide)).trans ((eval_far _ _ _ _ (by decide)).trans (eval_same _ _ _ (by (try simp only [put_size]); rw [hsz]; decide)))) (eval_same _ _ _ (by (try simp only [put_size]); rw [hsz]; decide)) (eqBool _ _ _ _ _) (boolEq _ _ _)) ?_
    exact hK _ _ ((((((Keep.refl _ _).put 88 (by decide) _).put 89 (by decide) _).put 90 (by decide) _).put 91 (by decide) _).put 92 (by decide) _) (eval_same _ _ _ (by (try simp only [put_size]); rw [hsz]; decide)) hI
  clear hf hI
  rintro a w2 hk hf hI
  replace hp1 := (hk.low 2 (by decide)).trans hp1
  replace hp2 := (hk.low 3 (by decide)).trans hp2
  replace hsz := hk.size.trans hsz
  replace hdf := hk.defs.trans hdf
  clear hk
  refine handOn (lo := 4) (.inl rfl) rfl rfl hf (by rw [hsz]; decide) (by decide) ?_
  clear hf
  rintro a hk hf
  replace hp1 := (hk.low 2 (by decide)).trans hp1
  replace hp2 := (hk.low 3 (by decide)).trans hp2
  replace hsz := hk.size.trans hsz
  replace hdf := hk.defs.trans hdf
  clear hk
  refine limb 89 94 95 (m.q == m2.q) (fun w2 => ∃ m, w2 = W0.drewN m) [_, _, _, _, _] (by kernel_rfl) (by decide) hf (by intro o ho; simp only [List.mem_cons, List.not_mem_nil, or_false] at ho; rcases ho with rfl | rfl | rfl | rfl | rfl <;> exact ⟨rfl, _, rfl, by decide⟩) (by rw [hsz]; decide) (by decide) rfl hI (fun _ K hK => ?_) ?_
  · have hA0 := hA.dn hI
    have hB0 := hB.dn hI
    refine wpRun_at 95 (.pointer (some ⟨w.heap.size, 17, none⟩)) rfl (run_fieldAddr (eval_of hp1) (by simp [go_sem, Instr.fieldAt])) ?_
    refine wpRun_at 96 (.int .i64 m.q) rfl (run_loadOp (eval_same _ _ _ (by (try simp only [put_size]); rw [hsz]; decide)) (by simp [go_sem, Instr.loadAt, hA0.cell (j := 17) rfl])) ?_
    refine wpRun_at 97 (.pointer (some ⟨(w.heap.size + 1), 17, none⟩)) rfl (run_fieldAddr ((eval_far _ _ _ _ (by decide)).trans ((eval_far _ _ _ _ (by decide)).trans (eval_of hp2))) (by simp [go_sem, Instr.fieldAt])) ?_
    refine wpRun_at 98 (.int .i64 m2.q) rfl (run_loadOp (eval_same _ _ _ (by (try simp only [put_size]); rw [hsz]; decide)) (by simp [go_sem, Instr.loadAt, hB0.cell (j := 17) rfl])) ?_
    refine wpRun_at 99 (.bool (m.q == m2.q)) rfl (run_binOp ((eval_far _ _ _ _ (by decide)).trans ((eval_far _ _ _ _ (by decide)).trans (eval_same _ _ _ (by (try simp only [put_size]); rw [hsz]; decide)))) (eval_same _ _ _ (by (try simp only [put_size]); rw [hsz]; decide)) (eqInt _ _ _ _ _) (intEq _ _ _)) ?_
    exact hK _ _ ((((((Keep.refl _ _).put 95 (by decide) _).put 96 (by decide) _).put 97 (by decide) _).put 98 (by decide) _).put 99 (by decide) _) (eval_same _ _ _ (by (try simp only [put_size]); rw [hsz]; decide)) hI
  clear hf hI
  rintro a w2 hk hf hI
  replace hp1 := (hk.low 2 (by decide)).trans hp1
  replace hp2 := (hk.low 3 (by decide)).trans hp2
  replace hsz := hk.size.trans hsz
  replace hdf := hk.defs.trans hdf
  clear hk
  refine handOn (lo := 4) (.inl rfl) rfl rfl hf (by rw [hsz]; decide) (by decide) ?_
  clear hf
  rintro a hk hf
  replace hp1 := (hk.low 2 (by decide)).trans hp1
  replace hp2 := (hk.low 3 (by decide)).trans hp2
  replace hsz := hk.size.trans hsz
  replace hdf := hk.defs.trans hdf
  clear hk
  refine limb 96 101 102 (m.re == m2.re) (fun w2 => ∃ m, w2 = W0.drewN m) [_, _, _, _, _] (by kernel_rfl) (by decide) hf (by intro o ho; simp only [List.mem_cons, List.not_mem_nil, or_false] at ho; rcases ho with rfl | rfl | rfl | rfl | rfl <;> exact ⟨rfl, _, rfl, by decide⟩) (by rw [hsz]; decide) (by decide) rfl hI (fun _ K hK => ?_) ?_
  · have hA0 := hA.dn hI
    have hB0 := hB.dn hI
    refine wpRun_at 102 (.pointer (some ⟨w.heap.size, 18, none⟩)) rfl (run_fieldAddr (eval_of hp1) (by simp [go_sem, Instr.fieldAt])) ?_
    refine wpRun_at 103 (.bool m.re) rfl (run_loadOp (eval_same _ _ _ (by (try simp only [put_size]); rw [hsz]; decide)) (by simp [go_sem, Instr.loadAt, hA0.cell (j := 18) rfl])) ?_
    refine wpRun_at 104 (.pointer (some ⟨(w.heap.size + 1), 18, none⟩)) rfl (run_fieldAddr ((eval_far _ _ _ _ (by decide)).trans ((eval_far _ _ _ _ (by decide)).trans (eval_of hp2))) (by simp [go_sem, Instr.fieldAt])) ?_
    refine wpRun_at 105 (.bool m2.re) rfl (run_loadOp (eval_same _ _ _ (by (try simp only [put_size]); rw [hsz]; decide)) (by simp [go_sem, Instr.loadAt, hB0.cell (j := 18) rfl])) ?_
    refine wpRun_at 106 (.bool (m.re == m2.re)) rfl (run_binOp ((eval_far _ _ _ _ (by decide)).trans ((eval_far _ _ _ _ (by decide)).trans (eval_same _ _ _ (by (try simp only [put_size]); rw [hsz]; decide)))) (eval_same _ _ _ (by (try simp only [put_size]); rw [hsz]; decide)) (eqBool _ _ _ _ _) (boolEq _ _ _)) ?_
    exact hK _ _ ((((((Keep.refl _ _).put 102 (by decide) _).put 103 (by decide) _).put 104 (by decide) _).put 105 (by decide) _).put 106 (by decide) _) (eval_same _ _ _ (by (try simp only [put_size]); rw [hsz]; decide)) hI
  clear hf hI
  rintro a w2 hk hf hI
  replace hp1 := (hk.low 2 (by decide)).trans hp1
  replace hp2 := (hk.low 3 (by decide)).trans hp2
  replace hsz := hk.size.trans hsz
  replace hdf := hk.defs.trans hdf
  clear hk
  refine handOn (lo := 4) (.inl rfl) rfl rfl hf (by rw [hsz]; decide) (by decide) ?_
  clear hf
  rintro a hk hf
  replace hp1 := (hk.low 2 (by decide)).trans hp1
  replace hp2 := (hk.low 3 (by decide)).trans hp2
  replace hsz := hk.size.trans hsz
  replace hdf := hk.defs.trans hdf
  clear hk
  refine limb 103 108 109 (m.top.toList == m2.top.toList) (fun w2 => ∃ m, w2 = W0.drewN m) [_, _, _, _, _] (by kernel_rfl) (by decide) hf (by intro o ho; simp only [List.mem_cons, List.not_mem_nil, or_false] at ho; rcases ho with rfl | rfl | rfl | rfl | rfl <;> exact ⟨rfl, _, rfl, by decide⟩) (by rw [hsz]; decide) (by decide) rfl hI (fun _ K hK => ?_) ?_
  · have hA0 := hA.dn hI
    have hB0 := hB.dn hI
    refine wpRun_at 109 (.pointer (some ⟨w.heap.size, 19, none⟩)) rfl (run_fieldAddr (eval_of hp1) (by simp [go_sem, Instr.fieldAt])) ?_
    refine wpRun_at 110 (.string m.top) rfl (run_loadOp (eval_same _ _ _ (by (try simp only [put_size]); rw [hsz]; decide)) (by simp [go_sem, Instr.loadAt, hA0.cell (j := 19) rfl])) ?_
    refine wpRun_at 111 (.pointer (some ⟨(w.heap.size + 1), 19, none⟩)) rfl (run_fieldAddr ((eval_far _ _ _ _ (by decide)).trans ((eval_far _ _ _ _ (by decide)).trans (eval_of hp2))) (by simp [go_sem, Instr.fieldAt])) ?_
    refine wpRun_at 112 (.string m2.top) rfl (run_loadOp (eval_same _ _ _ (by (try simp only [put_size]); rw [hsz]; decide)) (by simp [go_sem, Instr.loadAt, hB0.cell (j := 19) rfl])) ?_
    refine wpRun_at 113 (.bool (m.top.toList == m2.top.toList)) rfl (run_binOp ((eval_far _ _ _ _ (by decide)).trans ((eval_far _ _ _ _ (by decide)).trans (eval_same _ _ _ (by (try simp only [put_size]); rw [hsz]; decide)))) (eval_same _ _ _ (by (try simp only [put_size]); rw [hsz]; decide)) (eqStr _ _ _ _ _) (strEq _ _ _)) ?_
    exact hK _ _ ((((((Keep.refl _ _).put 109 (by decide) _).put 110 (by decide) _).put 111 (by decide) _).put 112 (by decide) _).put 113 (by decide) _) (eval_same _ _ _ (by (try simp only [put_size]); rw [hsz]; decide)) hI
  clear hf hI
  rintro a w2 hk hf hI
  replace hp1 := (hk.low 2 (by decide)).trans hp1
  replace hp2 := (hk.low 3 (by decide)).trans hp2
  replace hsz := hk.size.trans hsz
  replace hdf := hk.defs.trans hdf
  clear hk
  refine handOn (lo := 4) (.inl rfl) rfl rfl hf (by rw [hsz]; decide) (by decide) ?_
  clear hf
  rintro a hk hf
  replace hp1 := (hk.low 2 (by decide)).trans hp1
  replace hp2 := (hk.low 3 (by decide)).trans hp2
  replace hsz := hk.size.trans hsz
  replace hdf := hk.defs.trans hdf
  clear hk
  refine limb 110 115 116 (m.id == m2.id) (fun w2 => ∃ m, w2 = W0.drewN m) [_, _, _, _, _] (by kernel_rfl) (by decide) hf (by intro o ho; simp only [List.mem_cons, List.not_mem_nil, or_false] at ho; rcases ho with rfl | rfl | rfl | rfl | rfl <;> exact ⟨rfl, _, rfl, by decide⟩) (by rw [hsz]; decide) (by decide) rfl hI (fun _ K hK => ?_) ?_
  · have hA0 := hA.dn hI
    have hB0 := hB.dn hI
    refine wpRun_at 116 (.pointer (some ⟨w.heap.size, 20, none⟩)) rfl (run_fieldAddr (eval_of hp1) (by simp [go_sem, Instr.fieldAt])) ?_
    refine wpRun_at 117 (.int .i64 m.id) rfl (run_loadOp (eval_same _ _ _ (by (try simp only [put_size]); rw [hsz]; decide)) (by simp [go_sem, Instr.loadAt, hA0.cell (j := 20) rfl])) ?_
    refine wpRun_at 118 (.pointer (some ⟨(w.heap.size + 1), 20, none⟩)) rfl (run_fieldAddr ((eval_far _ _ _ _ (by decide)).trans ((eval_far _ _ _ _ (by decide)).trans (eval_of hp2))) (by simp [go_sem, Instr.fieldAt])) ?_
    refine wpRun_at 119 (.int .i64 m2.id) rfl (run_loadOp (eval_same _ _ _ (by (try simp only [put_size]); rw [hsz]; decide)) (by simp [go_sem, Instr.loadAt, hB0.cell (j := 20) rfl])) ?_
    refine wpRun_at 120 (.bool (m.id == m2.id)) rfl (run_binOp ((eval_far _ _ _ _ (by decide)).trans ((eval_far _ _ _ _ (by decide)).trans (eval_same _ _ _ (by (try simp only [put_size]); rw [hsz]; decide)))) (eval_same _ _ _ (by (try simp only [put_size]); rw [hsz]; decide)) (eqInt _ _ _ _ _) (intEq _ _ _)) ?_
    exact hK _ _ ((((((Keep.refl _ _).put 116 (by decide) _).put 117 (by decide) _).put 118 (by decide) _).put 119 (by decide) _).put 120 (by decide) _) (eval_same _ _ _ (by (try simp only [put_size]); rw [hsz]; decide)) hI
  clear hf hI
  rintro a w2 hk hf hI
  replace hp1 := (hk.low 2 (by decide)).trans hp1
  replace hp2 := (hk.low 3 (by decide)).trans hp2
  replace hsz := hk.size.trans hsz
  replace hdf := hk.defs.trans hdf
  clear hk
  refine handOn (lo := 4) (.inl rfl) rfl rfl hf (by rw [hsz]; decide) (by decide) ?_
  clear hf
  rintro a hk hf
  replace hp1 := (hk.low 2 (by decide)).trans hp1
  replace hp2 := (hk.low 3 (by decide)).trans hp2
  replace hsz := hk.size.trans hsz
  replace hdf := hk.defs.trans hdf
  clear hk
  refine limb 117 122 123 (m.pay.toList == m2.pay.toList) (fun w2 => ∃ m, w2 = W0.drewN m) [_, _, _, _, _] (by kernel_rfl) (by decide) hf (by intro o ho; simp only [List.mem_cons, List.not_mem_nil, or_false] at ho; rcases ho with rfl | rfl | rfl | rfl | rfl <;> exact ⟨rfl, _, rfl, by decide⟩) (by rw [hsz]; decide) (by decide) rfl hI (fun _ K hK => ?_) ?_
  · have hA0 := hA.dn hI
    have hB0 := hB.dn hI
    refine wpRun_at 123 (.pointer (some ⟨w.heap.size, 21, none⟩)) rfl (run_fieldAddr (eval_of hp1) (by simp [go_sem, Instr.fieldAt])) ?_
    refine wpRun_at 124 (.string m.pay) rfl (run_loadOp (eval_same _ _ _ (by (try simp only [put_size]); rw [hsz]; decide)) (by simp [go_sem, Instr.loadAt, hA0.cell (j := 21) rfl])) ?_
    refine wpRun_at 125 (.pointer (some ⟨(w.heap.size + 1), 21, none⟩)) rfl (run_fieldAddr ((eval_far _ _ _ _ (by decide)).trans ((eval_far _ _ _ _ (by decide)).trans (eval_of hp2))) (by simp [go_sem, Instr.fieldAt])) ?_
    refine wpRun_at 126 (.string m2.pay) rfl (run_loadOp (eval_same _ _ _ (by (try simp only [put_size]); rw [hsz]; decide)) (by simp [go_sem, Instr.loadAt, hB0.cell (j := 21) rfl])) ?_
    refine wpRun_at 127 (.bool (m.pay.toList == m2.pay.toList)) rfl (run_binOp ((eval_far _ _ _ _ (by decide)).trans ((eval_far _ _ _ _ (by decide)).trans (eval_same _ _ _ (by (try simp only [put_size]); rw [hsz]; decide)))) (eval_same _ _ _ (by (try simp only [put_size]); rw [hsz]; decide)) (eqStr _ _ _ _ _) (strEq _ _ _)) ?_
    exact hK _ _ ((((((Keep.refl _ _).put 123 (by decide) _).put 124 (by decide) _).put 125 (by decide) _).put 126 (by decide) _).put 127 (by decide) _) (eval_same _ _ _ (by (try simp only [put_size]); rw [hsz]; decide)) hI
  clear hf hI
  rintro a w2 hk hf hI
  replace hp1 := (hk.low 2 (by decide)).trans hp1
  replace hp2 := (hk.low 3 (by decide)).trans hp2
  replace hsz := hk.size.trans hsz
  replace hdf := hk.defs.trans hdf
  clear hk
  refine handOn (lo := 4) (.inl rfl) rfl rfl hf (by rw [hsz]; decide) (by decide) ?_
  clear hf
  rintro a hk hf
  replace hp1 := (hk.low 2 (by decide)).trans hp1
  replace hp2 := (hk.low 3 (by decide)).trans hp2
  replace hsz := hk.size.trans hsz
  replace hdf := hk.defs.trans hdf
  clear hk
  refine limb 124 129 130 (decide (m.ws = m2.ws)) (fun w2 => ∃ m, w2 = W0.drewN m) [_, _, _, _, _] (by kernel_rfl) (by decide) hf (by intro o ho; simp only [List.mem_cons, List.not_mem_nil, or_false] at ho; rcases ho with rfl | rfl | rfl | rfl | rfl <;> exact ⟨rfl, _, rfl, by decide⟩) (by rw [hsz]; decide) (by decide) rfl hI (fun _ K hK => ?_) ?_
  · have hA0 := hA.dn hI
    have hB0 := hB.dn hI
    refine wpRun_at 130 (.pointer (some ⟨w.heap.size, 22, none⟩)) rfl (run_fieldAddr (eval_of hp1) (by simp [go_sem, Instr.fieldAt])) ?_
    refine wpRun_at 131 vw rfl (run_loadOp (eval_same _ _ _ (by (try simp only [put_size]); rw [hsz]; decide)) (by simp [go_sem, Instr.loadAt, hA0.cell (j := 22) rfl])) ?_
    refine wpRun_at 132 (.pointer (some ⟨(w.heap.size + 1), 22, none⟩)) rfl (run_fieldAddr ((eval_far _ _ _ _ (by decide)).trans ((eval_far _ _ _ _ (by decide)).trans (eval_of hp2))) (by simp [go_sem, Instr.fieldAt])) ?_
    refine wpRun_at 133 vw2 rfl (run_loadOp (eval_same _ _ _ (by (try simp only [put_size]); rw [hsz]; decide)) (by simp [go_sem, Instr.loadAt, hB0.cell (j := 22) rfl])) ?_
    refine wpRun_call 134 (.bool (decide (m.ws = m2.ws))) (fun w2 => ∃ m, w2 = W0.drewN m) rfl _ _ (run_callOp Tryd.func42 rfl rfl (arr2 ((eval_far _ _ _ _ (by decide)).trans ((eval_far _ _ _ _ (by decide)).trans (eval_same _ _ _ (by (try simp only [put_size]); rw [hsz]; decide)))) (eval_same _ _ _ (by (try simp only [put_size]); rw [hsz]; decide)))) (H2 _ hI) ?_
    rintro _ hw2
    exact hK _ _ ((((((Keep.refl _ _).put 130 (by decide) _).put 131 (by decide) _).put 132 (by decide) _).put 133 (by decide) _).put 134 (by decide) _) (eval_same _ _ _ (by (try simp only [put_size]); rw [hsz]; decide)) hw2
  clear hf hI
  rintro a w2 hk hf hI
  replace hp1 := (hk.low 2 (by decide)).trans hp1
  replace hp2 := (hk.low 3 (by decide)).trans hp2
  replace hsz := hk.size.trans hsz
  replace hdf := hk.defs.trans hdf
  clear hk
  refine handOn (lo := 4) (.inl rfl) rfl rfl hf (by rw [hsz]; decide) (by decide) ?_
  clear hf
  rintro a hk hf
  replace hp1 := (hk.low 2 (by decide)).trans hp1
  replace hp2 := (hk.low 3 (by decide)).trans hp2
  replace hsz := hk.size.trans hsz
  replace hdf := hk.defs.trans hdf
  clear hk
  refine limb 131 136 137 (decide (m.fs = m2.fs)) (fun w2 => ∃ m, w2 = W0.drewN m) [_, _, _, _, _] (by kernel_rfl) (by decide) hf (by intro o ho; simp only [List.mem_cons, List.not_mem_nil, or_false] at ho; rcases ho with rfl | rfl | rfl | rfl | rfl <;> exact ⟨rfl, _, rfl, by decide⟩) (by rw [hsz]; decide) (by decide) rfl hI (fun _ K hK => ?_) ?_
  · have hA0 := hA.dn hI
    have hB0 := hB.dn hI
    refine wpRun_at 137 (.pointer (some ⟨w.heap.size, 23, none⟩)) rfl (run_fieldAddr (eval_of hp1) (by simp [go_sem, Instr.fieldAt])) ?_
    refine wpRun_at 138 vf rfl (run_loadOp (eval_same _ _ _ (by (try simp only [put_size]); rw [hsz]; decide)) (by simp [go_sem, Instr.loadAt, hA0.cell (j := 23) rfl])) ?_
    refine wpRun_at 139 (.pointer (some ⟨(w.heap.size + 1), 23, none⟩)) rfl (run_fieldAddr ((eval_far _ _ _ _ (by decide)).trans ((eval_far _ _ _ _ (by decide)).trans (eval_of hp2))) (by simp [go_sem, Instr.fieldAt])) ?_
    refine wpRun_at 140 vf2 rfl (run_loadOp (eval_same _ _ _ (by (try simp only [put_size]); rw [hsz]; decide)) (by simp [go_sem, Instr.loadAt, hB0.cell (j := 23) rfl])) ?_
    refine wpRun_call 141 (.bool (decide (m.fs = m2.fs))) (fun w2 => ∃ m, w2 = W0.drewN m) rfl _ _ (run_callOp Tryd.func43 rfl rfl (arr2 ((eval_far _ _ _ _ (by decide)).trans ((eval_far _ _ _ _ (by decide)).trans (eval_same _ _ _ (by (try simp only [put_size]); rw [hsz]; decide)))) (eval_same _ _ _ (by (try simp only [put_size]); rw [hsz]; decide)))) (H3 _ hI) ?_
    rintro _ hw2
    exact hK _ _ ((((((Keep.refl _ _).put 137 (by decide) _).put 138 (by decide) _).put 139 (by decide) _).put 140 (by decide) _).put 141 (by decide) _) (eval_same _ _ _ (by (try simp only [put_size]); rw [hsz]; decide)) hw2
  clear hf hI
  rintro a w2 hk hf hI
  replace hp1 := (hk.low 2 (by decide)).trans hp1
  replace hp2 := (hk.low 3 (by decide)).trans hp2
  replace hsz := hk.size.trans hsz
  replace hdf := hk.defs.trans hdf
  clear hk
  refine handOn (lo := 4) (.inr rfl) rfl rfl hf (by rw [hsz]; decide) (by decide) ?_
  clear hf
  rintro a hk hf
  obtain ⟨n, rfl⟩ := hI
  exact hK _ _ (hk.defs.trans hdf) hf
theorem eqMq_any (m m2 : Mq) (vc vw vf vc2 vw2 vf2 : Value) (w : World) (hL : m.Lists w vc vw vf) (hL2 : m2.Lists w vc2 vw2 vf2) (hc : m.cs.length ≤ 1000000) (hw : m.ws.length ≤ 1000000) (hf : m.fs.length ≤ 1000000) (hc2 : m2.cs.length ≤ 1000000) (hw2 : m2.ws.length ≤ 1000000) (hf2 : m2.fs.length ≤ 1000000) :
    Calls Tryd.prog 19 #[m.val vc vw vf, m2.val vc2 vw2 vf2] w fun e w' => e = .returned (.bool (m.eqB m2)) ∧ Below w.heap.size w w' := by
  refine calls_of_wp Tryd.func19 rfl ?_
  refine wp_mid (fun a W => a.tmps.size = 143 ∧ a.defers = [] ∧ a.tmps[2]? = some (.pointer (some ⟨w.heap.size, 0, none⟩)) ∧ a.tmps[3]? = some (.pointer (some ⟨w.heap.size + 1, 0, none⟩)) ∧ Below w.heap.size w W ∧ RowAt W w.heap.size (m.row vc vw vf) ∧ RowAt W (w.heap.size + 1) (m2.row vc2 vw2 vf2)) (fun K hK => ?_) ?_
  · simp only [Tryd.ntmps19, List.size_toArray, List.length_cons, List.length_nil, Nat.reduceAdd, Nat.reduceSub, Array.replicate_succ, Array.replicate_zero, List.push_toArray, List.append_toArray, List.nil_append, List.cons_append]
    go_wp2
    refine ⟨((Below.refl _ w).alloc (Nat.le_refl _) _).alloc (by simp) _, (rowAt_alloc w (m.row vc vw vf) _).below ((Below.refl _ _).alloc (Nat.le_refl _) _), ?_⟩
    have := rowAt_alloc (w.alloc (.cells (m.row vc vw vf).toArray 30)) (m2.row vc2 vw2 vf2) 30
    simpa using this
  rintro a W ⟨hsz, hdf, hp1, hp2, hb, hA, hB⟩
  refine wp_mid (fun a' W' => (∃ n, W' = W.drewN n) ∧ a'.defers = [] ∧ a'.tmps[4]? = some (.bool (m.eqB m2))) (fun K hK => ?_) ?_
  · refine wp_region_list ?_
    have g1 := (hL.below hb); have g2 := (hL2.below hb)
    refine eqMq_reg m m2 vc vw vf vc2 vw2 vf2 w W a K _ hsz hdf hp1 hp2 hA hB (fun w2 h2 => ?_) (fun w2 h2 => ?_) (fun w2 h2 => ?_) (fun a' n hd hf => hK _ _ ⟨⟨n, rfl⟩, hd, hf⟩) _ rfl
    · obtain ⟨m0, rfl⟩ := h2
      exact (eqNumbers_any _ _ _ _ _ hc hc2 (g1.c.drewN m0) (g2.c.drewN m0)).mono fun e w' ⟨he, n, hn⟩ => ⟨he, _, hn.trans (World.drewN_drewN _ _ _)⟩
    · obtain ⟨m0, rfl⟩ := h2
      exact (eqWishes_any _ _ _ _ _ hw hw2 (g1.w.drewN m0) (g2.w.drewN m0)).mono fun e w' ⟨he, n, hn⟩ => ⟨he, _, hn.trans (World.drewN_drewN _ _ _)⟩
    · obtain ⟨m0, rfl⟩ := h2
      exact (eqStrings_any _ _ _ _ _ hf hf2 (g1.f.drewN m0) (g2.f.drewN m0)).mono fun e w' ⟨he, n, hn⟩ => ⟨he, _, hn.trans (World.drewN_drewN _ _ _)⟩
  · rintro a' W' ⟨⟨n, rfl⟩, hd, hr⟩
    exact ret_at rfl hd hr ⟨rfl, bdrew hb n⟩
end Go.Proofs.YtpgnlhfokffioaaDoor
