/-
  Packets: the walk of a kind: there and back, with what belongs to another kind, with other flags. Over whatever kind keeps KindOK.
-/
import Derived.Test.YtodmcjeffhkofaaDoorMqY
namespace Go.Proofs.YtodmcjeffhkofaaDoor
open Go.RowKit
theorem addr_add0 (q j : Nat) : (⟨q, 0, none⟩ : Addr).add j = ⟨q, j, none⟩ := by unfold Addr.add; split <;> simp_all
theorem boolNe_self (b : Bool) (w : World) : (binOp .neq 4 (.bool b) (.bool b)).run Tryd.prog w = .ok (.bool false) w := by simp [go_sem]
theorem ifEq0 (b : Bool) (w : World) : (binOp .eql 3 (.int .i64 (if b = true then (0 : Int) else 1)) (.int .i64 0)).run Tryd.prog w = .ok (.bool b) w := by cases b <;> simp [go_sem]
theorem convU8d (x : UInt8) (w : World) : (convert 5 3 (.int .u8 ((x.toNat : Int) / 16))).run Tryd.prog w = .ok (.int .i64 ((x.toNat : Int) / 16)) w := by
  have := x.toNat_lt
  have h := wrap_i64 ((x.toNat : Int) / 16) (by omega) (by omega)
  simp [go_sem, h]
theorem sl_head {w : World} {b o n cap : Nat} {x : UInt8} {l t : List UInt8} (h : Sl w (.slice (some ⟨b, o, none⟩) n cap) l) (he : l = x :: t) : b < w.heap.size ∧ w.cell? ⟨b, o, none⟩ = some (.int .u8 (x.toNat : Int)) := by
  obtain ⟨ao, c, hv, h1, h2, h3, h4⟩ := h
  subst he
  obtain ⟨b', off, he, hb, hB⟩ := h4 (by simp)
  subst he
  simp only [Value.slice.injEq, Option.some.injEq, Addr.mk.injEq, and_true] at hv
  obtain ⟨⟨rfl, rfl⟩, -, -⟩ := hv
  exact ⟨hb, hB 0 x rfl⟩
theorem copyBytes_len (v : Value) (l : List UInt8) (w : World) (hl : l.length ≤ 1000000) (hv : Sl w v l) :
    Calls Tryd.prog 23 #[v] w fun e w' => ∃ v', e = .returned v' ∧ Below w.heap.size w w' ∧ w'.ownsRow w.heap.size 5 1 v' l.length (l.map B8) := (copyBytes_any v l w hl hv).mono fun _ _ h => h
theorem lists_mod {W : World} {m m2 : Mq} {vc vw vf : Value} (h : m.Lists W vc vw vf) (h1 : m2.cs = m.cs := by rfl) (h2 : m2.ws = m.ws := by rfl) (h3 : m2.fs = m.fs := by rfl) : m2.Lists W vc vw vf := ⟨by rw [h1]; exact h.c, by rw [h2]; exact h.w, by rw [h3]; exact h.f⟩
theorem parse_open {e : Ending} {w X : World} {m : Mq} {n z : Int} (h : ∃ vc vw vf, e = .returned (.tuple #[m.val vc vw vf, .int .i64 n, .int .i64 z]) ∧ Below w.heap.size w X ∧ m.Lists X vc vw vf) : ∃ v, e = .returned v ∧ ∃ ac2 nc2 cc2 aw2 nw2 cw2 af2 nf2 cf2, v = .tuple #[m.val (.slice ac2 nc2 cc2) (.slice aw2 nw2 cw2) (.slice af2 nf2 cf2), .int .i64 n, .int .i64 z] ∧ Below w.heap.size w X ∧ m.Lists X (.slice ac2 nc2 cc2) (.slice aw2 nw2 cw2) (.slice af2 nf2 cf2) := by
  obtain ⟨vc, vw, vf, he, hb, hL⟩ := h
  obtain ⟨a, b, c, d, f, g, i, j, k, rfl, rfl, rfl⟩ := lists_open hL
  exact ⟨_, he, a, b, c, d, f, g, i, j, k, rfl, hb, hL⟩
theorem mqcopy_open {e : Ending} {w X : World} {B : Nat} {m : Mq} (h : ∃ v2c v2w v2f, e = .returned (m.val v2c v2w v2f) ∧ Below w.heap.size w X ∧ MqOwn X B m v2c v2w v2f) : ∃ v, e = .returned v ∧ ∃ ac cc aw cw af cf, v = m.val (.slice ac m.cs.length cc) (.slice aw m.ws.length cw) (.slice af m.fs.length cf) ∧ Below w.heap.size w X ∧ MqOwn X B m (.slice ac m.cs.length cc) (.slice aw m.ws.length cw) (.slice af m.fs.length cf) := by
  obtain ⟨vc, vw, vf, he, hb, hO⟩ := h
  obtain ⟨a, b, c, d, f, g, rfl, rfl, rfl⟩ := hO.slices
  exact ⟨_, he, a, b, c, d, f, g, rfl, hb, hO⟩
theorem bytes_open {kk : Int} {mayB : Mq → Bool} {enc : Mq → List UInt8} (K : KindOK kk mayB enc) {m : Mq} (hk : m.k = kk) (hm : mayB m = true) {e : Ending} {w X : World} {v : Value} (he : e = .returned (.tuple #[v, .int .i64 (if mayB m = true then 0 else 1)])) (hb : Below w.heap.size w X) (hs : mayB m = true → Sl X v (enc m)) :
    ∃ v, e = .returned v ∧ ∃ b1 o1 c1, v = .tuple #[.slice (some ⟨b1, o1, none⟩) (enc m).length c1, .int .i64 0] ∧ Below w.heap.size w X ∧ Sl X (.slice (some ⟨b1, o1, none⟩) (enc m).length c1) (enc m) := by
  have h := hs hm
  have hl := (K.len m hm hk).1
  obtain ⟨b, o, c, rfl, -, -, -⟩ := h.at_some (by intro h0; rw [h0] at hl; simp at hl)
  exact ⟨_, he, b, o, c, by rw [hm]; rfl, hb, h⟩
set_option maxRecDepth 100000 in
set_option maxHeartbeats 16000000 in
theorem kind_any (kk : Int) (mayB : Mq → Bool) (enc : Mq → List UInt8) (K : KindOK kk mayB enc) (v : Value) (L : List (Mq × List UInt8)) (w : World) (hS : SlOf w 25 Ask18.At v L) (hLl : L.length ≤ far)
    (WK : ∀ W, Below w.heap.size w W → Calls Tryd.prog 30 #[] W fun e w' => e = .returned (.bool true) ∧ Below W.heap.size W w') :
    Calls Tryd.prog 36 #[v, .int .i64 kk] w fun e w' => e = .returned (.bool true) ∧ Below w.heap.size w w' := by
  have hb0 := Below.refl w.heap.size w
  obtain ⟨ao, cap, rfl, -, -, -, hB⟩ := hS
  have HB := Lib.hid hB; clear hB
  have K := Lib.hid K
  have WK := Lib.hid WK
  have hLl' : L.length ≤ 140737488351232 := hLl
  clear hLl
  refine ow_enter 202 Tryd.func36 rfl Tryd.ntmps36 (by simp) ?_
  rintro a hsz hdf hargs
  have s_0 : a.tmps[0]? = some (.slice ao L.length cap) := hargs 0 _ rfl
  have s_1 : a.tmps[1]? = some (.int .i64 kk) := hargs 1 _ rfl
  clear hargs
  refine wp_seq ?_
  refine ow_region [_] rfl (by intro o ho; simp only [List.mem_cons, List.not_mem_nil, or_false] at ho; subst ho; rfl) ?_
  refine ow_run 4 (.bool false) _ rfl (run_assignOp (eval_cst _ _)) ?_
  refine fresh (C := fun x W => wpRun _ [] x W _) (fun x X => _ = X ∧ x.tmps.size = 202 ∧ x.defers = [] ∧ x.tmps[0]? = some (.slice ao L.length cap) ∧ x.tmps[1]? = some (.int .i64 kk)) ⟨rfl, (by simp only [put_size]; exact hsz), (by simp only [put_defers]; exact hdf), (pf1 (by decide) s_0), (pf1 (by decide) s_1)⟩ ?_
  clear hsz hdf s_0 s_1
  rintro a _ ⟨rfl, hsz, hdf, s_0, s_1⟩
  refine ow_then ?_
  refine wp_seq ?_
  refine wp_seq ?_
  refine ow_region [_] rfl (by intro o ho; simp only [List.mem_cons, List.not_mem_nil, or_false] at ho; subst ho; rfl) ?_
  refine ow_run 5 (.int .i64 0) _ rfl (run_assignOp (eval_cst _ _)) ?_
  refine fresh (C := fun x W => wpRun _ [] x W _) (fun x X => _ = X ∧ x.tmps.size = 202 ∧ x.defers = [] ∧ x.tmps[0]? = some (.slice ao L.length cap) ∧ x.tmps[1]? = some (.int .i64 kk) ∧ x.tmps[5]? = some (.int .i64 0)) ⟨rfl, (by simp only [put_size]; exact hsz), (by simp only [put_defers]; exact hdf), (pf1 (by decide) s_0), (pf1 (by decide) s_1), (put_get _ _ _ (by rw [hsz]; decide))⟩ ?_
  clear hsz hdf s_0 s_1
  rintro a _ ⟨rfl, hsz, hdf, s_0, s_1, s_5⟩
  refine ow_then ?_
  refine wp_block ?_
  refine ow_loop (fun N a W => ∃ (k : Nat), N = L.length - k ∧ k ≤ L.length ∧ a.tmps.size = 202 ∧ a.defers = [] ∧ a.tmps[0]? = some (.slice ao L.length cap) ∧ a.tmps[1]? = some (.int .i64 kk) ∧ a.tmps[5]? = some (.int .i64 ((k : Nat) : Int)) ∧ Below w.heap.size w W) _ ⟨0, rfl, (Nat.zero_le _), hsz, hdf, s_0, s_1, (by first | exact s_5 | (rw [s_5]; congr 2; first | rfl | omega | (push_cast; omega)) | (rw [s_5]; first | rfl | (simp; try omega))), hb0⟩ ?_
  clear hsz hdf s_0 s_1 s_5
  rintro N a W3 ⟨k, rfl, hkl, hsz, hdf, s_0, s_1, s_5, hbW3⟩
  intro K5 hK5
  refine wp_seq ?_
  refine wp_seq ?_
  refine owl_region [_, _, _, _, _, _, _, _] rfl ?_
  refine owl_run (wanted_none rfl) 23 (.int .i64 ((k : Nat) : Int)) _ rfl (run_moveOp (eval_of s_5)) ?_
  refine owl_run (wanted_none rfl) 24 (.slice ao L.length cap) _ rfl (run_moveOp (eval_of (pf1 (by decide) s_0))) ?_
  refine owl_run (wanted_none rfl) 25 (.int .i64 ((L.length : Nat) : Int)) _ rfl (run_lenOp Tryd.underlying22 (eval_of (put_get _ _ _ (by simp only [put_size]; rw [hsz]; decide)))) ?_
  refine owl_run (wanted_none rfl) 26 (.bool (decide (((k : Nat) : Int) < ((L.length : Nat) : Int)))) _ rfl (run_binOp (eval_of (pf2 (by decide) (put_get _ _ _ (by rw [hsz]; decide)))) (eval_of (put_get _ _ _ (by simp only [put_size]; rw [hsz]; decide))) (by simp [go_sem]) (by simp [go_sem])) ?_
  refine owl_run (wanted_none rfl) 27 (.bool (decide (((k : Nat) : Int) < ((L.length : Nat) : Int)))) _ rfl (run_moveOp (eval_of (put_get _ _ _ (by simp only [put_size]; rw [hsz]; decide)))) ?_
  rcases Bool.eq_false_or_eq_true ((decide (((k : Nat) : Int) < ((L.length : Nat) : Int)))) with hb_6 | hb_6
  · skip
    refine owg_run 4 27 true rfl (by kernel_rfl) (flag_of (put_get _ _ _ (by simp only [put_size]; rw [hsz]; decide)) hb_6) 28 (.int .i64 ((k : Nat) : Int)) _ rfl (run_moveOp (eval_of (pf1 (by decide) (pf4 (by decide) s_5)))) ?_
    refine owg_run 4 27 true rfl (by kernel_rfl) (flag_of (pf1 (by decide) (put_get _ _ _ (by simp only [put_size]; rw [hsz]; decide))) hb_6) 29 (.bool (decide (((k : Nat) : Int) < 10))) _ rfl (run_binOp (eval_of (put_get _ _ _ (by simp only [put_size]; rw [hsz]; decide))) (eval_cst _ _) (by simp [go_sem]) (by simp [go_sem])) ?_
    refine owl_run (wanted_none rfl) 30 (.bool (decide (((k : Nat) : Int) < 10))) _ rfl (run_pickT (eval_cast (eval_of (pf2 (by decide) (put_get _ _ _ (by simp only [put_size]; rw [hsz]; decide)))) hb_6) (eval_of (put_get _ _ _ (by simp only [put_size]; rw [hsz]; decide)))) ?_
    refine fresh (C := fun x W => WL _ _ _ [] x W) (fun x X => _ = X ∧ x.tmps.size = 202 ∧ x.defers = [] ∧ x.tmps[0]? = some (.slice ao L.length cap) ∧ x.tmps[1]? = some (.int .i64 kk) ∧ x.tmps[5]? = some (.int .i64 ((k : Nat) : Int)) ∧ x.tmps[30]? = some (.bool (decide (((k : Nat) : Int) < 10)))) ⟨rfl, (by simp only [put_size]; exact hsz), (by simp only [put_defers]; exact hdf), (pf8 (by decide) s_0), (pf8 (by decide) s_1), (pf8 (by decide) s_5), (put_get _ _ _ (by simp only [put_size]; rw [hsz]; decide))⟩ ?_
    clear hsz hdf s_0 s_1 s_5
    rintro a _ ⟨rfl, hsz, hdf, s_0, s_1, s_5, s_30⟩
    refine wl_done ?_
    refine ow_then ?_
    rcases Bool.eq_false_or_eq_true ((decide (((k : Nat) : Int) < 10))) with hb_8 | hb_8
    · skip
      refine ow_true (eval_of (flag_of s_30 hb_8)) ?_
      refine wp_skip ?_
      refine ow_then ?_
      refine wp_seq ?_
      refine wp_block ?_
      refine wp_seq ?_
      refine ow_region [_, _, _, _, _, _] rfl (by intro o ho; simp only [List.mem_cons, List.not_mem_nil, or_false] at ho; rcases ho with rfl | rfl | rfl | rfl | rfl | rfl <;> rfl) ?_
      have hlt : k < L.length := by have h := hb_6; simp only [decide_eq_true_eq] at h; omega
      obtain ⟨b, off, hao, hbw, hBB⟩ := HB.out (by intro h; simp [h] at hlt)
      obtain ⟨⟨m, lx⟩, hq⟩ : ∃ q, L[k]? = some q := ⟨_, List.getElem?_eq_getElem hlt⟩
      obtain ⟨vc, vw, vf, vx, hC, hL, hX, hF, hxl⟩ := hBB k _ hq
      clear hBB hq
      dsimp only at hC hL hX hF hxl
      obtain ⟨ac, nc, cc, aw, nw, cw, af, nf, cf, rfl, rfl, rfl⟩ := lists_open hL
      obtain ⟨ax, cx, rfl, -⟩ := id hX
      generalize lx.length = nx at hC
      have HC := Lib.hid hC; have HL := Lib.hid hL; have HF := Lib.hid hF
      clear hC hL hX hF hxl
      refine ow_run 33 (.slice ao L.length cap) _ rfl (run_moveOp (eval_of s_0)) ?_
      refine ow_run 34 (.int .i64 ((k : Nat) : Int)) _ rfl (run_moveOp (eval_of (pf1 (by decide) s_5))) ?_
      refine ow_run 35 (.pointer (some ⟨b, (off + k * 25), none⟩)) _ rfl (run_indexOp (eval_of (pf1 (by decide) (put_get _ _ _ (by rw [hsz]; decide)))) (eval_of (put_get _ _ _ (by simp only [put_size]; rw [hsz]; decide))) (run_indexAsk ao b off L.length cap k hao hlt _)) ?_
      refine ow_run 36 (.agg (Mq.row m (.slice ac nc cc) (.slice aw nw cw) (.slice af nf cf) ++ [(.slice ax nx cx : Value)]).toArray) _ rfl (run_loadOp (eval_of (put_get _ _ _ (by simp only [put_size]; rw [hsz]; decide))) (run_loadAt_mid W3 b (off + k * 25) 33 [.int .i64 m.k, .string m.cl, .bool m.clean, .int .i64 m.keep, .bool m.wI, .string m.wT, .string m.wP, .int .i64 m.wQ, .bool m.wR, .string m.us, .bool m.hu, .string m.pa, .bool m.hp, .bool m.pres, .int .i64 m.code, .slice ac nc cc, .bool m.dup, .int .i64 m.q, .bool m.re, .string m.top, .int .i64 m.id, .string m.pay, .slice aw nw cw, .slice af nf cf, .slice ax nx cx] _ (fun j v hj => (hbW3.cell (p := ⟨b, off + k * 25 + j, none⟩) hbw).trans (HC.out j v hj)) Tryd.underlying33 rfl (by kernel_rfl))) ?_
      obtain ⟨q9, hq9⟩ : ∃ x, x = W3.heap.size := ⟨_, rfl⟩
      refine ow_run 6 (.pointer (some ⟨q9, 0, none⟩)) (W3.alloc (.cells #[.int .i64 0, .string { data := #[] }, .bool false, .int .i64 0, .bool false, .string { data := #[] }, .string { data := #[] }, .int .i64 0, .bool false, .string { data := #[] }, .bool false, .string { data := #[] }, .bool false, .bool false, .int .i64 0, .slice none 0 0, .bool false, .int .i64 0, .bool false, .string { data := #[] }, .int .i64 0, .string { data := #[] }, .slice none 0 0, .slice none 0 0, .slice none 0 0] 33)) rfl (by rw [hq9]; exact (run_allocOp (by simp [go_sem, Instr.alloc]))) ?_
      have hqq9 : w.heap.size ≤ q9 := by rw [hq9]; exact hbW3.size
      refine fresh (C := fun x W => wpRun _ _ x W _) (fun x X => _ = x ∧ Below w.heap.size w X ∧ RowAt X q9 [.int .i64 0, .string { data := #[] }, .bool false, .int .i64 0, .bool false, .string { data := #[] }, .string { data := #[] }, .int .i64 0, .bool false, .string { data := #[] }, .bool false, .string { data := #[] }, .bool false, .bool false, .int .i64 0, .slice none 0 0, .bool false, .int .i64 0, .bool false, .string { data := #[] }, .int .i64 0, .string { data := #[] }, .slice none 0 0, .slice none 0 0, .slice none 0 0]) ⟨rfl, (hbW3.alloc hbW3.size _), (by rw [hq9]; exact rowAt_alloc _ [.int .i64 0, .string { data := #[] }, .bool false, .int .i64 0, .bool false, .string { data := #[] }, .string { data := #[] }, .int .i64 0, .bool false, .string { data := #[] }, .bool false, .string { data := #[] }, .bool false, .bool false, .int .i64 0, .slice none 0 0, .bool false, .int .i64 0, .bool false, .string { data := #[] }, .int .i64 0, .string { data := #[] }, .slice none 0 0, .slice none 0 0, .slice none 0 0] _)⟩ ?_
      rintro _ W10 ⟨rfl, hbW10, rW10_0⟩
      clear hq9
      refine ow_skip _ rfl (run_storeOp (eval_of (put_get _ _ _ (by simp only [put_size]; rw [hsz]; decide))) (eval_of (pf1 (by decide) (put_get _ _ _ (by simp only [put_size]; rw [hsz]; decide)))) (run_storeN (xs := [.int .i64 m.k, .string m.cl, .bool m.clean, .int .i64 m.keep, .bool m.wI, .string m.wT, .string m.wP, .int .i64 m.wQ, .bool m.wR, .string m.us, .bool m.hu, .string m.pa, .bool m.hp, .bool m.pres, .int .i64 m.code, .slice ac nc cc, .bool m.dup, .int .i64 m.q, .bool m.re, .string m.top, .int .i64 m.id, .string m.pay, .slice aw nw cw, .slice af nf cf, .slice ax nx cx]) rW10_0 (by simp) (by kernel_rfl) rfl)) ?_
      refine fresh (C := fun x W => wpRun _ _ x W _) (fun x X => _ = x ∧ Below w.heap.size w X ∧ RowAt X q9 (Mq.row m (.slice ac nc cc) (.slice aw nw cw) (.slice af nf cf) ++ [(.slice ax nx cx : Value)])) ⟨rfl, (below_sets (by omega) _ _ _ hbW10), (RowAt.sets [.int .i64 m.k, .string m.cl, .bool m.clean, .int .i64 m.keep, .bool m.wI, .string m.wT, .string m.wP, .int .i64 m.wQ, .bool m.wR, .string m.us, .bool m.hu, .string m.pa, .bool m.hp, .bool m.pres, .int .i64 m.code, .slice ac nc cc, .bool m.dup, .int .i64 m.q, .bool m.re, .string m.top, .int .i64 m.id, .string m.pay, .slice aw nw cw, .slice af nf cf, .slice ax nx cx] 0 _ _ rW10_0 (by simp))⟩ ?_
      rintro _ W11 ⟨rfl, hbW11, rW11_0⟩
      refine fresh (C := fun x W => wpRun _ [] x W _) (fun x X => _ = X ∧ x.tmps.size = 202 ∧ x.defers = [] ∧ x.tmps[0]? = some (.slice ao L.length cap) ∧ x.tmps[1]? = some (.int .i64 kk) ∧ x.tmps[5]? = some (.int .i64 ((k : Nat) : Int)) ∧ x.tmps[6]? = some (.pointer (some ⟨q9, 0, none⟩))) ⟨rfl, (by simp only [put_size]; exact hsz), (by simp only [put_defers]; exact hdf), (pf1 (by decide) (pf4 (by decide) s_0)), (pf1 (by decide) (pf4 (by decide) s_1)), (pf1 (by decide) (pf4 (by decide) s_5)), (put_get _ _ _ (by simp only [put_size]; rw [hsz]; decide))⟩ ?_
      clear hsz hdf s_0 s_1 s_5 s_30
      rintro a _ ⟨rfl, hsz, hdf, s_0, s_1, s_5, s_6⟩
      refine ow_then ?_
      refine wp_seq ?_
      refine wp_seq ?_
      refine ow_region [_, _] rfl (by intro o ho; simp only [List.mem_cons, List.not_mem_nil, or_false] at ho; rcases ho with rfl | rfl <;> rfl) ?_
      refine ow_run 37 (.agg (Mq.row m (.slice ac nc cc) (.slice aw nw cw) (.slice af nf cf) ++ [(.slice ax nx cx : Value)]).toArray) _ rfl (run_loadOp (eval_of s_6) (run_loadN [.int .i64 m.k, .string m.cl, .bool m.clean, .int .i64 m.keep, .bool m.wI, .string m.wT, .string m.wP, .int .i64 m.wQ, .bool m.wR, .string m.us, .bool m.hu, .string m.pa, .bool m.hp, .bool m.pres, .int .i64 m.code, .slice ac nc cc, .bool m.dup, .int .i64 m.q, .bool m.re, .string m.top, .int .i64 m.id, .string m.pay, .slice aw nw cw, .slice af nf cf, .slice ax nx cx] rW11_0 (fun j v hj => by simpa using hj) Tryd.underlying33 rfl (by kernel_rfl))) ?_
      refine ow_call 38 (fun v X => ∃ bh, v = .bool bh ∧ Below W11.heap.size W11 X ∧ (bh = false → m.Near 3000 ∧ nx ≤ 3000)) rfl _ _ (run_callOp Tryd.func22 rfl rfl (arr1 (eval_of (put_get _ _ _ (by rw [hsz]; decide))))) ((heavy_any m _ _ _ _ _ _ _ _ _ _ _ _ W11 HF.out (HL.out.below hbW11)).mono fun e X ⟨b, he, hr⟩ => ⟨_, he, b, rfl, hr⟩) ?_
      rintro _ V14 ⟨bh, rfl, hb13, hN⟩
      refine fresh (C := fun x W => wpRun _ _ x W _) (fun x X => _ = x ∧ Below w.heap.size w X ∧ RowAt X q9 (Mq.row m (.slice ac nc cc) (.slice aw nw cw) (.slice af nf cf) ++ [(.slice ax nx cx : Value)])) ⟨rfl, (hbW11.trans (hb13.mono hbW11.size)), (rW11_0.below hb13)⟩ ?_
      rintro _ W15 ⟨rfl, hbW15, rW15_0⟩
      refine fresh (C := fun x W => wpRun _ [] x W _) (fun x X => _ = X ∧ x.tmps.size = 202 ∧ x.defers = [] ∧ x.tmps[0]? = some (.slice ao L.length cap) ∧ x.tmps[1]? = some (.int .i64 kk) ∧ x.tmps[5]? = some (.int .i64 ((k : Nat) : Int)) ∧ x.tmps[6]? = some (.pointer (some ⟨q9, 0, none⟩)) ∧ x.tmps[38]? = some (.bool bh)) ⟨rfl, (by simp only [put_size]; exact hsz), (by simp only [put_defers]; exact hdf), (pf2 (by decide) s_0), (pf2 (by decide) s_1), (pf2 (by decide) s_5), (pf2 (by decide) s_6), (put_get _ _ _ (by simp only [put_size]; rw [hsz]; decide))⟩ ?_
      clear hsz hdf s_0 s_1 s_5 s_6
      rintro a _ ⟨rfl, hsz, hdf, s_0, s_1, s_5, s_6, s_38⟩
      refine ow_then ?_
      rcases Bool.eq_false_or_eq_true (bh) with hb_17 | hb_17
      · skip
        refine ow_true (eval_of (flag_of s_38 hb_17)) ?_
        refine wp_seq ?_
        refine ow_region [_] rfl (by intro o ho; simp only [List.mem_cons, List.not_mem_nil, or_false] at ho; subst ho; rfl) ?_
        refine ow_run 4 (.bool true) _ rfl (run_assignOp (eval_cst _ _)) ?_
        refine fresh (C := fun x W => wpRun _ [] x W _) (fun x X => _ = X ∧ x.tmps.size = 202 ∧ x.defers = [] ∧ x.tmps[4]? = some (.bool true)) ⟨rfl, (by simp only [put_size]; exact hsz), (by simp only [put_defers]; exact hdf), (put_get _ _ _ (by rw [hsz]; decide))⟩ ?_
        clear hsz hdf s_0 s_1 s_5 s_6 s_38
        rintro a _ ⟨rfl, hsz, hdf, s_4⟩
        refine ow_then ?_
        refine wp_ret ?_
        refine ow_then_ret ?_
        refine ow_blk_ret _ ?_
        refine ow_then_ret ?_
        refine ow_then_ret ?_
        refine ow_blk_ret _ ?_
        refine ow_then_ret ?_
        exact ow_ret1 rfl hdf s_4 ⟨rfl, hbW15⟩
      · skip
        refine ow_false (eval_of (flag_of s_38 hb_17)) ?_
        refine wp_skip ?_
        refine ow_then ?_
        refine wp_seq ?_
        refine wp_seq ?_
        refine ow_region [_, _, _, _, _] rfl (by intro o ho; simp only [List.mem_cons, List.not_mem_nil, or_false] at ho; rcases ho with rfl | rfl | rfl | rfl | rfl <;> rfl) ?_
        refine ow_run 39 (.pointer (some ⟨q9, 0, none⟩)) _ rfl (run_fieldAddr (eval_of s_6) (by simp [go_sem, Instr.fieldAt])) ?_
        refine ow_run 40 (.pointer (some ⟨q9, 0, none⟩)) _ rfl (run_fieldAddr (eval_of (put_get _ _ _ (by rw [hsz]; decide))) (by simp [go_sem, Instr.fieldAt])) ?_
        refine ow_run 41 (.int .i64 m.k) _ rfl (run_loadOp (eval_of (put_get _ _ _ (by simp only [put_size]; rw [hsz]; decide))) (by simp [go_sem, Instr.loadAt, rW15_0.cell (j := 0) rfl])) ?_
        refine ow_run 42 (.int .i64 kk) _ rfl (run_moveOp (eval_of (pf1 (by decide) (pf2 (by decide) s_1)))) ?_
        refine ow_run 43 (.bool (!(m.k == kk))) _ rfl (run_binOp (eval_of (pf1 (by decide) (put_get _ _ _ (by simp only [put_size]; rw [hsz]; decide)))) (eval_of (put_get _ _ _ (by simp only [put_size]; rw [hsz]; decide))) (by simp [go_sem]) (intNe _ _ _)) ?_
        refine fresh (C := fun x W => wpRun _ [] x W _) (fun x X => _ = X ∧ x.tmps.size = 202 ∧ x.defers = [] ∧ x.tmps[0]? = some (.slice ao L.length cap) ∧ x.tmps[1]? = some (.int .i64 kk) ∧ x.tmps[5]? = some (.int .i64 ((k : Nat) : Int)) ∧ x.tmps[6]? = some (.pointer (some ⟨q9, 0, none⟩)) ∧ x.tmps[43]? = some (.bool (!(m.k == kk)))) ⟨rfl, (by simp only [put_size]; exact hsz), (by simp only [put_defers]; exact hdf), (pf1 (by decide) (pf4 (by decide) s_0)), (pf1 (by decide) (pf4 (by decide) s_1)), (pf1 (by decide) (pf4 (by decide) s_5)), (pf1 (by decide) (pf4 (by decide) s_6)), (put_get _ _ _ (by simp only [put_size]; rw [hsz]; decide))⟩ ?_
        clear hsz hdf s_0 s_1 s_5 s_6 s_38
        rintro a _ ⟨rfl, hsz, hdf, s_0, s_1, s_5, s_6, s_43⟩
        refine ow_then ?_
        rcases Bool.eq_false_or_eq_true ((m.k == kk)) with hb_20 | hb_20
        · skip
          refine ow_false (eval_of (flag_of s_43 (not_of hb_20))) ?_
          refine wp_skip ?_
          refine ow_then ?_
          refine wp_seq ?_
          rcases Bool.eq_false_or_eq_true ((mayB m)) with hb_21 | hb_21
          · skip
            refine ow_region [_, _, _, _, _, _, _, _] rfl (by intro o ho; simp only [List.mem_cons, List.not_mem_nil, or_false] at ho; rcases ho with rfl | rfl | rfl | rfl | rfl | rfl | rfl | rfl <;> rfl) ?_
            have HNe := Lib.hid (hN hb_17).1
            have hk : m.k = kk := by simpa using hb_20
            have hn1 : m.cs.length ≤ 1000000 := Nat.le_trans HNe.out.cs (by decide)
            have hn2 : m.ws.length ≤ 1000000 := Nat.le_trans HNe.out.ws (by decide)
            have hn3 : m.fs.length ≤ 1000000 := Nat.le_trans HNe.out.fs (by decide)
            have hsTop : m.top.size + (⟨#[(35 : UInt8)]⟩ : ByteArray).size ≤ 9223372036854775807 := by have := HNe.out.top; show m.top.size + 1 ≤ _; omega
            have hsPa : m.pa.size + (⟨#[(120 : UInt8)]⟩ : ByteArray).size ≤ 9223372036854775807 := by have := HNe.out.pa; show m.pa.size + 1 ≤ _; omega
            refine ow_run 45 (.pointer (some ⟨q9, 0, none⟩)) _ rfl (run_fieldAddr (eval_of s_6) (by simp [go_sem, Instr.fieldAt])) ?_
            refine ow_run 46 (.agg (Mq.row m (.slice ac nc cc) (.slice aw nw cw) (.slice af nf cf)).toArray) _ rfl (run_loadOp (eval_of (put_get _ _ _ (by rw [hsz]; decide))) (run_loadN [.int .i64 m.k, .string m.cl, .bool m.clean, .int .i64 m.keep, .bool m.wI, .string m.wT, .string m.wP, .int .i64 m.wQ, .bool m.wR, .string m.us, .bool m.hu, .string m.pa, .bool m.hp, .bool m.pres, .int .i64 m.code, .slice ac nc cc, .bool m.dup, .int .i64 m.q, .bool m.re, .string m.top, .int .i64 m.id, .string m.pay, .slice aw nw cw, .slice af nf cf] rW15_0 (fun j v hj => mid_row 0 24 _ _ rfl j v hj) Tryd.underlying30 rfl (by kernel_rfl))) ?_
            refine ow_call 47 (fun v X => ∃ b1 o1 c1, v = .tuple #[.slice (some ⟨b1, o1, none⟩) (enc m).length c1, .int .i64 0] ∧ Below W15.heap.size W15 X ∧ Sl X (.slice (some ⟨b1, o1, none⟩) (enc m).length c1) (enc m)) rfl _ _ (run_callOp Tryd.func32 rfl rfl (arr1 (eval_of (put_get _ _ _ (by simp only [put_size]; rw [hsz]; decide))))) ((K.out.bytes m _ _ _ W15 hk (HNe.out.mono (by decide)) (HL.out.below hbW15)).mono fun e X ⟨v, he, h, hs⟩ => bytes_open K.out hk hb_21 he h hs) ?_
            rintro _ V23 ⟨b1, o1, c1, rfl, hb22, hSb⟩
            have HSb := Lib.hid hSb
            have hbb := Below.refl V23.heap.size V23
            refine fresh (C := fun x W => wpRun _ _ x W _) (fun x X => _ = x ∧ Below w.heap.size w X ∧ RowAt X q9 (Mq.row m (.slice ac nc cc) (.slice aw nw cw) (.slice af nf cf) ++ [(.slice ax nx cx : Value)]) ∧ Below V23.heap.size V23 X) ⟨rfl, (hbW15.trans (hb22.mono hbW15.size)), (rW15_0.below hb22), hbb⟩ ?_
            rintro _ W24 ⟨rfl, hbW24, rW24_0, fW24_0⟩
            refine ow_run 44 (.tuple #[.slice (some ⟨b1, o1, none⟩) (enc m).length c1, .int .i64 0]) _ rfl (run_moveOp (eval_of (put_get _ _ _ (by simp only [put_size]; rw [hsz]; decide)))) ?_
            refine ow_run 48 (.slice (some ⟨b1, o1, none⟩) (enc m).length c1) _ rfl (run_extractOp (eval_of (put_get _ _ _ (by simp only [put_size]; rw [hsz]; decide))) rfl) ?_
            refine ow_run 49 (.int .i64 0) _ rfl (run_extractOp (eval_of (pf1 (by decide) (put_get _ _ _ (by simp only [put_size]; rw [hsz]; decide)))) rfl) ?_
            refine ow_run 7 (.slice (some ⟨b1, o1, none⟩) (enc m).length c1) _ rfl (run_assignOp (eval_of (pf1 (by decide) (put_get _ _ _ (by simp only [put_size]; rw [hsz]; decide))))) ?_
            refine ow_run 8 (.int .i64 0) _ rfl (run_assignOp (eval_of (pf1 (by decide) (put_get _ _ _ (by simp only [put_size]; rw [hsz]; decide))))) ?_
            refine fresh (C := fun x W => wpRun _ [] x W _) (fun x X => _ = X ∧ x.tmps.size = 202 ∧ x.defers = [] ∧ x.tmps[0]? = some (.slice ao L.length cap) ∧ x.tmps[1]? = some (.int .i64 kk) ∧ x.tmps[5]? = some (.int .i64 ((k : Nat) : Int)) ∧ x.tmps[6]? = some (.pointer (some ⟨q9, 0, none⟩)) ∧ x.tmps[7]? = some (.slice (some ⟨b1, o1, none⟩) (enc m).length c1) ∧ x.tmps[8]? = some (.int .i64 0)) ⟨rfl, (by simp only [put_size]; exact hsz), (by simp only [put_defers]; exact hdf), (pf8 (by decide) s_0), (pf8 (by decide) s_1), (pf8 (by decide) s_5), (pf8 (by decide) s_6), (pf1 (by decide) (put_get _ _ _ (by simp only [put_size]; rw [hsz]; decide))), (put_get _ _ _ (by simp only [put_size]; rw [hsz]; decide))⟩ ?_
            clear hsz hdf s_0 s_1 s_5 s_6 s_43
            rintro a _ ⟨rfl, hsz, hdf, s_0, s_1, s_5, s_6, s_7, s_8⟩
            refine ow_then ?_
            refine wp_seq ?_
            refine ow_region [_, _, _, _] rfl (by intro o ho; simp only [List.mem_cons, List.not_mem_nil, or_false] at ho; rcases ho with rfl | rfl | rfl | rfl <;> rfl) ?_
            refine ow_run 50 (.pointer (some ⟨q9, 0, none⟩)) _ rfl (run_fieldAddr (eval_of s_6) (by simp [go_sem, Instr.fieldAt])) ?_
            refine ow_run 51 (.agg (Mq.row m (.slice ac nc cc) (.slice aw nw cw) (.slice af nf cf)).toArray) _ rfl (run_loadOp (eval_of (put_get _ _ _ (by rw [hsz]; decide))) (run_loadN [.int .i64 m.k, .string m.cl, .bool m.clean, .int .i64 m.keep, .bool m.wI, .string m.wT, .string m.wP, .int .i64 m.wQ, .bool m.wR, .string m.us, .bool m.hu, .string m.pa, .bool m.hp, .bool m.pres, .int .i64 m.code, .slice ac nc cc, .bool m.dup, .int .i64 m.q, .bool m.re, .string m.top, .int .i64 m.id, .string m.pay, .slice aw nw cw, .slice af nf cf] rW24_0 (fun j v hj => mid_row 0 24 _ _ rfl j v hj) Tryd.underlying30 rfl (by kernel_rfl))) ?_
            refine ow_call 52 (fun v X => v = .bool true ∧ Below W24.heap.size W24 X) rfl _ _ (run_callOp Tryd.func33 rfl rfl (arr1 (eval_of (put_get _ _ _ (by simp only [put_size]; rw [hsz]; decide))))) ((K.out.may m _ _ _ W24 hk (HNe.out.mono (by decide)) (HL.out.below hbW24)).mono fun e X h => ⟨_, h.1.trans (by rw [hb_21]), rfl, h.2⟩) ?_
            rintro _ V27 ⟨rfl, hb26⟩
            refine fresh (C := fun x W => wpRun _ _ x W _) (fun x X => _ = x ∧ Below w.heap.size w X ∧ RowAt X q9 (Mq.row m (.slice ac nc cc) (.slice aw nw cw) (.slice af nf cf) ++ [(.slice ax nx cx : Value)]) ∧ Below V23.heap.size V23 X) ⟨rfl, (hbW24.trans (hb26.mono hbW24.size)), (rW24_0.below hb26), (fW24_0.trans (hb26.mono fW24_0.size))⟩ ?_
            rintro _ W28 ⟨rfl, hbW28, rW28_0, fW28_0⟩
            refine ow_run 9 (.bool true) _ rfl (run_assignOp (eval_of (put_get _ _ _ (by simp only [put_size]; rw [hsz]; decide)))) ?_
            refine fresh (C := fun x W => wpRun _ [] x W _) (fun x X => _ = X ∧ x.tmps.size = 202 ∧ x.defers = [] ∧ x.tmps[0]? = some (.slice ao L.length cap) ∧ x.tmps[1]? = some (.int .i64 kk) ∧ x.tmps[5]? = some (.int .i64 ((k : Nat) : Int)) ∧ x.tmps[6]? = some (.pointer (some ⟨q9, 0, none⟩)) ∧ x.tmps[7]? = some (.slice (some ⟨b1, o1, none⟩) (enc m).length c1) ∧ x.tmps[8]? = some (.int .i64 0) ∧ x.tmps[9]? = some (.bool true)) ⟨rfl, (by simp only [put_size]; exact hsz), (by simp only [put_defers]; exact hdf), (pf4 (by decide) s_0), (pf4 (by decide) s_1), (pf4 (by decide) s_5), (pf4 (by decide) s_6), (pf4 (by decide) s_7), (pf4 (by decide) s_8), (put_get _ _ _ (by simp only [put_size]; rw [hsz]; decide))⟩ ?_
            clear hsz hdf s_0 s_1 s_5 s_6 s_7 s_8
            rintro a _ ⟨rfl, hsz, hdf, s_0, s_1, s_5, s_6, s_7, s_8, s_9⟩
            refine ow_then ?_
            refine wp_seq ?_
            refine wp_seq ?_
            refine owl_region [_, _, _, _, _, _, _, _, _, _, _, _, _, _, _, _] rfl ?_
            obtain ⟨hl2, hlenC⟩ := K.out.len m hb_21 hk
            have hlenB : (enc m).length ≤ 1000000 := by omega
            have hlen0 : 0 < (enc m).length := by omega
            have hlne : enc m ≠ [] := by intro h; rw [h] at hlen0; simp at hlen0
            obtain ⟨x0, tl, henc⟩ : ∃ x t, enc m = x :: t := by cases h : enc m with | nil => exact (hlne h).elim | cons x t => exact ⟨x, t, rfl⟩
            have hlen2 : (decide ((((enc m).length : Nat) : Int) < 2)) = false := by simp; omega
            have hhead : ((x0.toNat : Int) / 16 == kk) = true := by have := K.out.head m x0 tl hb_21 hk henc; simp [this]
            obtain ⟨hb1lt, hcb1⟩ := sl_head HSb.out henc
            refine owl_run (wanted_none rfl) 53 (.bool true) _ rfl (run_moveOp (eval_of s_9)) ?_
            refine owl_run (wanted_none rfl) 54 (.int .i64 0) _ rfl (run_moveOp (eval_of (pf1 (by decide) s_8))) ?_
            refine owl_call (wanted_none rfl) 55 (fun v X => v = (.int .i64 0) ∧ W28 = X) rfl _ _ (run_callOp Tryd.func26 rfl rfl (arr1 (eval_of (put_get _ _ _ (by simp only [put_size]; rw [hsz]; decide))))) ((num18_any _ _).mono fun e X h => ⟨_, h.1, rfl, h.2⟩) ?_
            rintro _ _ ⟨rfl, rfl⟩
            refine owl_run (wanted_none rfl) 56 (.bool true) _ rfl (run_binOp (eval_of (put_get _ _ _ (by simp only [put_size]; rw [hsz]; decide))) (eval_cst _ _) (by simp [go_sem]) (by simp [go_sem])) ?_
            refine owl_run (wanted_none rfl) 57 (.bool false) _ rfl (run_binOp (eval_of (pf1 (by decide) (pf2 (by decide) (put_get _ _ _ (by rw [hsz]; decide))))) (eval_of (put_get _ _ _ (by simp only [put_size]; rw [hsz]; decide))) (by simp [go_sem]) (boolNe_self _ _)) ?_
            refine owl_run (wanted_none rfl) 58 (.bool false) _ rfl (run_moveOp (eval_of (put_get _ _ _ (by simp only [put_size]; rw [hsz]; decide)))) ?_
            refine owg_run 5 58 false rfl (by kernel_rfl) (put_get _ _ _ (by simp only [put_size]; rw [hsz]; decide)) 59 (.bool true) _ rfl (run_moveOp (eval_of (pf2 (by decide) (pf4 (by decide) s_9)))) ?_
            refine owg_run 5 58 false rfl (by kernel_rfl) (pf1 (by decide) (put_get _ _ _ (by simp only [put_size]; rw [hsz]; decide))) 60 (.bool true) _ rfl (run_moveOp (eval_of (put_get _ _ _ (by simp only [put_size]; rw [hsz]; decide)))) ?_
            refine owg_run 7 60 true rfl (by kernel_rfl) (put_get _ _ _ (by simp only [put_size]; rw [hsz]; decide)) 61 (.slice (some ⟨b1, o1, none⟩) (enc m).length c1) _ rfl (run_moveOp (eval_of (pf8 (by decide) s_7))) ?_
            refine owg_run 7 60 true rfl (by kernel_rfl) (pf1 (by decide) (put_get _ _ _ (by simp only [put_size]; rw [hsz]; decide))) 62 (.pointer (some ⟨q9, 0, none⟩)) _ rfl (run_fieldAddr (eval_of (pf1 (by decide) (pf8 (by decide) s_6))) (by simp [go_sem, Instr.fieldAt])) ?_
            refine owg_run 7 60 true rfl (by kernel_rfl) (pf2 (by decide) (put_get _ _ _ (by simp only [put_size]; rw [hsz]; decide))) 63 (.agg (Mq.row m (.slice ac nc cc) (.slice aw nw cw) (.slice af nf cf)).toArray) _ rfl (run_loadOp (eval_of (put_get _ _ _ (by simp only [put_size]; rw [hsz]; decide))) (run_loadN [.int .i64 m.k, .string m.cl, .bool m.clean, .int .i64 m.keep, .bool m.wI, .string m.wT, .string m.wP, .int .i64 m.wQ, .bool m.wR, .string m.us, .bool m.hu, .string m.pa, .bool m.hp, .bool m.pres, .int .i64 m.code, .slice ac nc cc, .bool m.dup, .int .i64 m.q, .bool m.re, .string m.top, .int .i64 m.id, .string m.pay, .slice aw nw cw, .slice af nf cf] rW28_0 (fun j v hj => mid_row 0 24 _ _ rfl j v hj) Tryd.underlying30 rfl (by kernel_rfl))) ?_
            refine owg_call 7 60 true rfl (by kernel_rfl) (pf1 (by decide) (pf2 (by decide) (put_get _ _ _ (by simp only [put_size]; rw [hsz]; decide)))) 64 (fun v X => Below W28.heap.size W28 X ∧ Sl X v (enc m)) rfl _ _ (run_callOp Tryd.func35 rfl rfl (arr1 (eval_of (put_get _ _ _ (by simp only [put_size]; rw [hsz]; decide))))) ((K.out.rbytes m _ _ _ W28 hk (HNe.out.mono (by decide)) hb_21 (HL.out.below hbW28)).mono fun e X h => h) ?_
            rintro vr V31 ⟨hb30, hSr⟩
            refine fresh (C := fun x W => WL _ _ _ _ x W) (fun x X => _ = x ∧ Below w.heap.size w X ∧ RowAt X q9 (Mq.row m (.slice ac nc cc) (.slice aw nw cw) (.slice af nf cf) ++ [(.slice ax nx cx : Value)]) ∧ Below V23.heap.size V23 X ∧ Sl X vr (enc m)) ⟨rfl, (hbW28.trans (hb30.mono hbW28.size)), (rW28_0.below hb30), (fW28_0.trans (hb30.mono fW28_0.size)), hSr⟩ ?_
            rintro _ W32 ⟨rfl, hbW32, rW32_0, fW32_0, fW32_1⟩
            refine owg_call 7 60 true rfl (by kernel_rfl) (pf4 (by decide) (put_get _ _ _ (by simp only [put_size]; rw [hsz]; decide))) 65 (fun v X => v = .bool true ∧ Below W32.heap.size W32 X) rfl _ _ (run_callOp Tryd.func28 rfl rfl (arr2 (eval_of (pf1 (by decide) (pf2 (by decide) (put_get _ _ _ (by simp only [put_size]; rw [hsz]; decide))))) (eval_of (put_get _ _ _ (by simp only [put_size]; rw [hsz]; decide))))) ((eqBytes_any _ _ (enc m) (enc m) W32 hlenB hlenB (HSb.out.below fW32_0) fW32_1).mono fun e X ⟨he, k, hX⟩ => ⟨_, he.trans (by simp), rfl, by rw [hX]; exact bdrew (Below.refl _ _) k⟩) ?_
            rintro _ V34 ⟨rfl, hb33⟩
            refine fresh (C := fun x W => WL _ _ _ _ x W) (fun x X => _ = x ∧ Below w.heap.size w X ∧ RowAt X q9 (Mq.row m (.slice ac nc cc) (.slice aw nw cw) (.slice af nf cf) ++ [(.slice ax nx cx : Value)]) ∧ Below V23.heap.size V23 X ∧ Sl X vr (enc m)) ⟨rfl, (hbW32.trans (hb33.mono hbW32.size)), (rW32_0.below hb33), (fW32_0.trans (hb33.mono fW32_0.size)), (fW32_1.below hb33)⟩ ?_
            rintro _ W35 ⟨rfl, hbW35, rW35_0, fW35_0, fW35_1⟩
            refine owg_run 7 60 true rfl (by kernel_rfl) (pf1 (by decide) (pf4 (by decide) (put_get _ _ _ (by simp only [put_size]; rw [hsz]; decide)))) 66 (.bool false) _ rfl (run_notOp (eval_of (put_get _ _ _ (by simp only [put_size]; rw [hsz]; decide)))) ?_
            refine owg_run 5 58 false rfl (by kernel_rfl) (pf8 (by decide) (put_get _ _ _ (by simp only [put_size]; rw [hsz]; decide))) 67 (.bool false) _ rfl (run_pickT (eval_of (pf2 (by decide) (pf4 (by decide) (put_get _ _ _ (by simp only [put_size]; rw [hsz]; decide))))) (eval_of (put_get _ _ _ (by simp only [put_size]; rw [hsz]; decide)))) ?_
            refine owl_run (wanted_none rfl) 68 (.bool false) _ rfl (run_pickF (eval_of (pf1 (by decide) (pf8 (by decide) (put_get _ _ _ (by simp only [put_size]; rw [hsz]; decide))))) (eval_of (put_get _ _ _ (by simp only [put_size]; rw [hsz]; decide)))) ?_
            refine fresh (C := fun x W => WL _ _ _ [] x W) (fun x X => _ = X ∧ x.tmps.size = 202 ∧ x.defers = [] ∧ x.tmps[0]? = some (.slice ao L.length cap) ∧ x.tmps[1]? = some (.int .i64 kk) ∧ x.tmps[5]? = some (.int .i64 ((k : Nat) : Int)) ∧ x.tmps[6]? = some (.pointer (some ⟨q9, 0, none⟩)) ∧ x.tmps[7]? = some (.slice (some ⟨b1, o1, none⟩) (enc m).length c1) ∧ x.tmps[9]? = some (.bool true) ∧ x.tmps[68]? = some (.bool false)) ⟨rfl, (by simp only [put_size]; exact hsz), (by simp only [put_defers]; exact hdf), (pf16 (by decide) s_0), (pf16 (by decide) s_1), (pf16 (by decide) s_5), (pf16 (by decide) s_6), (pf16 (by decide) s_7), (pf16 (by decide) s_9), (put_get _ _ _ (by simp only [put_size]; rw [hsz]; decide))⟩ ?_
            clear hsz hdf s_0 s_1 s_5 s_6 s_7 s_8 s_9
            rintro a _ ⟨rfl, hsz, hdf, s_0, s_1, s_5, s_6, s_7, s_9, s_68⟩
            refine wl_done ?_
            refine ow_then ?_
            refine ow_false (eval_of s_68) ?_
            refine wp_skip ?_
            refine ow_then ?_
            refine wp_seq ?_
            refine wp_seq ?_
            refine ow_region [_, _] rfl (by intro o ho; simp only [List.mem_cons, List.not_mem_nil, or_false] at ho; rcases ho with rfl | rfl <;> rfl) ?_
            refine ow_run 69 (.bool true) _ rfl (run_moveOp (eval_of s_9)) ?_
            refine ow_run 70 (.bool false) _ rfl (run_notOp (eval_of (put_get _ _ _ (by rw [hsz]; decide)))) ?_
            refine fresh (C := fun x W => wpRun _ [] x W _) (fun x X => _ = X ∧ x.tmps.size = 202 ∧ x.defers = [] ∧ x.tmps[0]? = some (.slice ao L.length cap) ∧ x.tmps[1]? = some (.int .i64 kk) ∧ x.tmps[5]? = some (.int .i64 ((k : Nat) : Int)) ∧ x.tmps[6]? = some (.pointer (some ⟨q9, 0, none⟩)) ∧ x.tmps[7]? = some (.slice (some ⟨b1, o1, none⟩) (enc m).length c1) ∧ x.tmps[70]? = some (.bool false)) ⟨rfl, (by simp only [put_size]; exact hsz), (by simp only [put_defers]; exact hdf), (pf2 (by decide) s_0), (pf2 (by decide) s_1), (pf2 (by decide) s_5), (pf2 (by decide) s_6), (pf2 (by decide) s_7), (put_get _ _ _ (by simp only [put_size]; rw [hsz]; decide))⟩ ?_
            clear hsz hdf s_0 s_1 s_5 s_6 s_7 s_9 s_68
            rintro a _ ⟨rfl, hsz, hdf, s_0, s_1, s_5, s_6, s_7, s_70⟩
            refine ow_then ?_
            refine ow_false (eval_of s_70) ?_
            refine wp_skip ?_
            refine ow_then ?_
            refine wp_seq ?_
            refine ow_region [_, _, _, _, _, _, _, _, _, _] rfl (by intro o ho; simp only [List.mem_cons, List.not_mem_nil, or_false] at ho; rcases ho with rfl | rfl | rfl | rfl | rfl | rfl | rfl | rfl | rfl | rfl <;> rfl) ?_
            refine ow_run 72 (.slice (some ⟨b1, o1, none⟩) (enc m).length c1) _ rfl (run_moveOp (eval_of s_7)) ?_
            refine ow_call 73 (fun v X => ∃ ac2 nc2 cc2 aw2 nw2 cw2 af2 nf2 cf2, v = .tuple #[m.val (.slice ac2 nc2 cc2) (.slice aw2 nw2 cw2) (.slice af2 nf2 cf2), .int .i64 (((enc m).length : Nat) : Int), .int .i64 0] ∧ Below W35.heap.size W35 X ∧ m.Lists X (.slice ac2 nc2 cc2) (.slice aw2 nw2 cw2) (.slice af2 nf2 cf2)) rfl _ _ (run_callOp Tryd.func24 rfl rfl (arr1 (eval_of (put_get _ _ _ (by rw [hsz]; decide))))) ((K.out.parse m _ W35 hk (HNe.out.mono (by decide)) hb_21 (HSb.out.below fW35_0)).mono fun e X h => parse_open h) ?_
            rintro _ V39 ⟨ac2, nc2, cc2, aw2, nw2, cw2, af2, nf2, cf2, rfl, hb38, hLp⟩
            have HLp := Lib.hid hLp
            have hbp := Below.refl V39.heap.size V39
            refine fresh (C := fun x W => wpRun _ _ x W _) (fun x X => _ = x ∧ Below w.heap.size w X ∧ RowAt X q9 (Mq.row m (.slice ac nc cc) (.slice aw nw cw) (.slice af nf cf) ++ [(.slice ax nx cx : Value)]) ∧ Below V23.heap.size V23 X ∧ Below V39.heap.size V39 X) ⟨rfl, (hbW35.trans (hb38.mono hbW35.size)), (rW35_0.below hb38), (fW35_0.trans (hb38.mono fW35_0.size)), hbp⟩ ?_
            rintro _ W40 ⟨rfl, hbW40, rW40_0, fW40_0, fW40_1⟩
            refine ow_run 71 (.tuple #[.agg (Mq.row m (.slice ac2 nc2 cc2) (.slice aw2 nw2 cw2) (.slice af2 nf2 cf2)).toArray, .int .i64 (((enc m).length : Nat) : Int), .int .i64 0]) _ rfl (run_moveOp (eval_of (put_get _ _ _ (by simp only [put_size]; rw [hsz]; decide)))) ?_
            refine ow_run 74 (.agg (Mq.row m (.slice ac2 nc2 cc2) (.slice aw2 nw2 cw2) (.slice af2 nf2 cf2)).toArray) _ rfl (run_extractOp (eval_of (put_get _ _ _ (by simp only [put_size]; rw [hsz]; decide))) rfl) ?_
            refine ow_run 75 (.int .i64 (((enc m).length : Nat) : Int)) _ rfl (run_extractOp (eval_of (pf1 (by decide) (put_get _ _ _ (by simp only [put_size]; rw [hsz]; decide)))) rfl) ?_
            refine ow_run 76 (.int .i64 0) _ rfl (run_extractOp (eval_of (pf2 (by decide) (put_get _ _ _ (by simp only [put_size]; rw [hsz]; decide)))) rfl) ?_
            obtain ⟨q41, hq41⟩ : ∃ x, x = W40.heap.size := ⟨_, rfl⟩
            refine ow_run 10 (.pointer (some ⟨q41, 0, none⟩)) (W40.alloc (.cells #[.int .i64 0, .string { data := #[] }, .bool false, .int .i64 0, .bool false, .string { data := #[] }, .string { data := #[] }, .int .i64 0, .bool false, .string { data := #[] }, .bool false, .string { data := #[] }, .bool false, .bool false, .int .i64 0, .slice none 0 0, .bool false, .int .i64 0, .bool false, .string { data := #[] }, .int .i64 0, .string { data := #[] }, .slice none 0 0, .slice none 0 0] 30)) rfl (by rw [hq41]; exact (run_allocOp (by simp [go_sem, Instr.alloc]))) ?_
            have hqq41 : w.heap.size ≤ q41 := by rw [hq41]; exact hbW40.size
            have hqq41_V23 : V23.heap.size ≤ q41 := by rw [hq41]; exact fW40_0.size
            have hqq41_V39 : V39.heap.size ≤ q41 := by rw [hq41]; exact fW40_1.size
            have hnq41_q9 : q9 < q41 := by rw [hq41]; exact rW40_0.2.2
            refine fresh (C := fun x W => wpRun _ _ x W _) (fun x X => _ = x ∧ Below w.heap.size w X ∧ RowAt X q9 (Mq.row m (.slice ac nc cc) (.slice aw nw cw) (.slice af nf cf) ++ [(.slice ax nx cx : Value)]) ∧ RowAt X q41 [.int .i64 0, .string { data := #[] }, .bool false, .int .i64 0, .bool false, .string { data := #[] }, .string { data := #[] }, .int .i64 0, .bool false, .string { data := #[] }, .bool false, .string { data := #[] }, .bool false, .bool false, .int .i64 0, .slice none 0 0, .bool false, .int .i64 0, .bool false, .string { data := #[] }, .int .i64 0, .string { data := #[] }, .slice none 0 0, .slice none 0 0] ∧ Below V23.heap.size V23 X ∧ Below V39.heap.size V39 X) ⟨rfl, (hbW40.alloc hbW40.size _), (rW40_0.below ((Below.refl _ W40).alloc (Nat.le_refl _) _)), (by rw [hq41]; exact rowAt_alloc _ [.int .i64 0, .string { data := #[] }, .bool false, .int .i64 0, .bool false, .string { data := #[] }, .string { data := #[] }, .int .i64 0, .bool false, .string { data := #[] }, .bool false, .string { data := #[] }, .bool false, .bool false, .int .i64 0, .slice none 0 0, .bool false, .int .i64 0, .bool false, .string { data := #[] }, .int .i64 0, .string { data := #[] }, .slice none 0 0, .slice none 0 0] _), (fW40_0.trans (((Below.refl _ W40).alloc (Nat.le_refl _) _).mono fW40_0.size)), (fW40_1.trans (((Below.refl _ W40).alloc (Nat.le_refl _) _).mono fW40_1.size))⟩ ?_
            rintro _ W42 ⟨rfl, hbW42, rW42_0, rW42_1, fW42_0, fW42_1⟩
            clear hq41
            refine ow_skip _ rfl (run_storeOp (eval_of (put_get _ _ _ (by simp only [put_size]; rw [hsz]; decide))) (eval_of (pf1 (by decide) (pf2 (by decide) (put_get _ _ _ (by simp only [put_size]; rw [hsz]; decide))))) (run_storeN (xs := [.int .i64 m.k, .string m.cl, .bool m.clean, .int .i64 m.keep, .bool m.wI, .string m.wT, .string m.wP, .int .i64 m.wQ, .bool m.wR, .string m.us, .bool m.hu, .string m.pa, .bool m.hp, .bool m.pres, .int .i64 m.code, .slice ac2 nc2 cc2, .bool m.dup, .int .i64 m.q, .bool m.re, .string m.top, .int .i64 m.id, .string m.pay, .slice aw2 nw2 cw2, .slice af2 nf2 cf2]) rW42_1 (by simp) (by kernel_rfl) rfl)) ?_
            refine fresh (C := fun x W => wpRun _ _ x W _) (fun x X => _ = x ∧ Below w.heap.size w X ∧ RowAt X q9 (Mq.row m (.slice ac nc cc) (.slice aw nw cw) (.slice af nf cf) ++ [(.slice ax nx cx : Value)]) ∧ RowAt X q41 (Mq.row m (.slice ac2 nc2 cc2) (.slice aw2 nw2 cw2) (.slice af2 nf2 cf2)) ∧ Below V23.heap.size V23 X ∧ Below V39.heap.size V39 X) ⟨rfl, (below_sets (by omega) _ _ _ hbW42), (RowAt.sets_other _ _ _ rW42_0 (by omega)), (RowAt.sets [.int .i64 m.k, .string m.cl, .bool m.clean, .int .i64 m.keep, .bool m.wI, .string m.wT, .string m.wP, .int .i64 m.wQ, .bool m.wR, .string m.us, .bool m.hu, .string m.pa, .bool m.hp, .bool m.pres, .int .i64 m.code, .slice ac2 nc2 cc2, .bool m.dup, .int .i64 m.q, .bool m.re, .string m.top, .int .i64 m.id, .string m.pay, .slice aw2 nw2 cw2, .slice af2 nf2 cf2] 0 _ _ rW42_1 (by simp)), (below_sets (by omega) _ _ _ fW42_0), (below_sets (by omega) _ _ _ fW42_1)⟩ ?_
            rintro _ W43 ⟨rfl, hbW43, rW43_0, rW43_1, fW43_0, fW43_1⟩
            refine ow_run 11 (.int .i64 (((enc m).length : Nat) : Int)) _ rfl (run_assignOp (eval_of (pf2 (by decide) (put_get _ _ _ (by simp only [put_size]; rw [hsz]; decide))))) ?_
            refine ow_run 12 (.int .i64 0) _ rfl (run_assignOp (eval_of (pf2 (by decide) (put_get _ _ _ (by simp only [put_size]; rw [hsz]; decide))))) ?_
            refine fresh (C := fun x W => wpRun _ [] x W _) (fun x X => _ = X ∧ x.tmps.size = 202 ∧ x.defers = [] ∧ x.tmps[0]? = some (.slice ao L.length cap) ∧ x.tmps[1]? = some (.int .i64 kk) ∧ x.tmps[5]? = some (.int .i64 ((k : Nat) : Int)) ∧ x.tmps[6]? = some (.pointer (some ⟨q9, 0, none⟩)) ∧ x.tmps[7]? = some (.slice (some ⟨b1, o1, none⟩) (enc m).length c1) ∧ x.tmps[10]? = some (.pointer (some ⟨q41, 0, none⟩)) ∧ x.tmps[11]? = some (.int .i64 (((enc m).length : Nat) : Int)) ∧ x.tmps[12]? = some (.int .i64 0)) ⟨rfl, (by simp only [put_size]; exact hsz), (by simp only [put_defers]; exact hdf), (pf1 (by decide) (pf8 (by decide) s_0)), (pf1 (by decide) (pf8 (by decide) s_1)), (pf1 (by decide) (pf8 (by decide) s_5)), (pf1 (by decide) (pf8 (by decide) s_6)), (pf1 (by decide) (pf8 (by decide) s_7)), (pf2 (by decide) (put_get _ _ _ (by simp only [put_size]; rw [hsz]; decide))), (pf1 (by decide) (put_get _ _ _ (by simp only [put_size]; rw [hsz]; decide))), (put_get _ _ _ (by simp only [put_size]; rw [hsz]; decide))⟩ ?_
            clear hsz hdf s_0 s_1 s_5 s_6 s_7 s_70
            rintro a _ ⟨rfl, hsz, hdf, s_0, s_1, s_5, s_6, s_7, s_10, s_11, s_12⟩
            refine ow_then ?_
            refine wp_seq ?_
            refine wp_seq ?_
            refine owl_region [_, _, _, _, _, _, _, _, _, _, _, _, _, _, _, _, _, _, _, _, _, _, _, _, _, _, _, _, _, _] rfl ?_
            refine owl_run (wanted_none rfl) 77 (.int .i64 0) _ rfl (run_moveOp (eval_of s_12)) ?_
            refine owl_call (wanted_none rfl) 78 (fun v X => v = (.int .i64 0) ∧ W43 = X) rfl _ _ (run_callOp Tryd.func26 rfl rfl (arr1 (eval_of (put_get _ _ _ (by rw [hsz]; decide))))) ((num18_any _ _).mono fun e X h => ⟨_, h.1, rfl, h.2⟩) ?_
            rintro _ _ ⟨rfl, rfl⟩
            refine owl_run (wanted_none rfl) 79 (.bool false) _ rfl (run_binOp (eval_of (put_get _ _ _ (by simp only [put_size]; rw [hsz]; decide))) (eval_cst _ _) (by simp [go_sem]) (by simp [go_sem])) ?_
            refine owl_run (wanted_none rfl) 80 (.bool false) _ rfl (run_moveOp (eval_of (put_get _ _ _ (by simp only [put_size]; rw [hsz]; decide)))) ?_
            refine owg_run 3 80 false rfl (by kernel_rfl) (put_get _ _ _ (by simp only [put_size]; rw [hsz]; decide)) 81 (.int .i64 (((enc m).length : Nat) : Int)) _ rfl (run_moveOp (eval_of (pf4 (by decide) s_11))) ?_
            refine owg_run 3 80 false rfl (by kernel_rfl) (pf1 (by decide) (put_get _ _ _ (by simp only [put_size]; rw [hsz]; decide))) 82 (.slice (some ⟨b1, o1, none⟩) (enc m).length c1) _ rfl (run_moveOp (eval_of (pf1 (by decide) (pf4 (by decide) s_7)))) ?_
            refine owg_run 3 80 false rfl (by kernel_rfl) (pf2 (by decide) (put_get _ _ _ (by simp only [put_size]; rw [hsz]; decide))) 83 (.int .i64 (((enc m).length : Nat) : Int)) _ rfl (run_lenOp Tryd.underlying31 (eval_of (put_get _ _ _ (by simp only [put_size]; rw [hsz]; decide)))) ?_
            refine owg_run 3 80 false rfl (by kernel_rfl) (pf1 (by decide) (pf2 (by decide) (put_get _ _ _ (by simp only [put_size]; rw [hsz]; decide)))) 84 (.bool false) _ rfl (run_binOp (eval_of (pf2 (by decide) (put_get _ _ _ (by simp only [put_size]; rw [hsz]; decide)))) (eval_of (put_get _ _ _ (by simp only [put_size]; rw [hsz]; decide))) (by simp [go_sem]) (by simp [go_sem])) ?_
            refine owl_run (wanted_none rfl) 85 (.bool false) _ rfl (run_pickF (eval_of (pf4 (by decide) (put_get _ _ _ (by simp only [put_size]; rw [hsz]; decide)))) (eval_of (put_get _ _ _ (by simp only [put_size]; rw [hsz]; decide)))) ?_
            refine owl_run (wanted_none rfl) 86 (.bool false) _ rfl (run_moveOp (eval_of (put_get _ _ _ (by simp only [put_size]; rw [hsz]; decide)))) ?_
            refine owg_run 9 86 false rfl (by kernel_rfl) (put_get _ _ _ (by simp only [put_size]; rw [hsz]; decide)) 87 (.agg (Mq.row m (.slice ac2 nc2 cc2) (.slice aw2 nw2 cw2) (.slice af2 nf2 cf2)).toArray) _ rfl (run_loadOp (eval_of (pf2 (by decide) (pf8 (by decide) s_10))) (run_loadN [.int .i64 m.k, .string m.cl, .bool m.clean, .int .i64 m.keep, .bool m.wI, .string m.wT, .string m.wP, .int .i64 m.wQ, .bool m.wR, .string m.us, .bool m.hu, .string m.pa, .bool m.hp, .bool m.pres, .int .i64 m.code, .slice ac2 nc2 cc2, .bool m.dup, .int .i64 m.q, .bool m.re, .string m.top, .int .i64 m.id, .string m.pay, .slice aw2 nw2 cw2, .slice af2 nf2 cf2] rW43_1 (fun j v hj => by simpa using hj) Tryd.underlying30 rfl (by kernel_rfl))) ?_
            refine owg_run 9 86 false rfl (by kernel_rfl) (pf1 (by decide) (put_get _ _ _ (by simp only [put_size]; rw [hsz]; decide))) 88 (.pointer (some ⟨q9, 0, none⟩)) _ rfl (run_fieldAddr (eval_of (pf1 (by decide) (pf2 (by decide) (pf8 (by decide) s_6)))) (by simp [go_sem, Instr.fieldAt])) ?_
            refine owg_run 9 86 false rfl (by kernel_rfl) (pf2 (by decide) (put_get _ _ _ (by simp only [put_size]; rw [hsz]; decide))) 89 (.agg (Mq.row m (.slice ac nc cc) (.slice aw nw cw) (.slice af nf cf)).toArray) _ rfl (run_loadOp (eval_of (put_get _ _ _ (by simp only [put_size]; rw [hsz]; decide))) (run_loadN [.int .i64 m.k, .string m.cl, .bool m.clean, .int .i64 m.keep, .bool m.wI, .string m.wT, .string m.wP, .int .i64 m.wQ, .bool m.wR, .string m.us, .bool m.hu, .string m.pa, .bool m.hp, .bool m.pres, .int .i64 m.code, .slice ac nc cc, .bool m.dup, .int .i64 m.q, .bool m.re, .string m.top, .int .i64 m.id, .string m.pay, .slice aw nw cw, .slice af nf cf] rW43_0 (fun j v hj => mid_row 0 24 _ _ rfl j v hj) Tryd.underlying30 rfl (by kernel_rfl))) ?_
            refine owg_call 9 86 false rfl (by kernel_rfl) (pf1 (by decide) (pf2 (by decide) (put_get _ _ _ (by simp only [put_size]; rw [hsz]; decide)))) 90 (fun v X => v = .bool true ∧ Below W43.heap.size W43 X) rfl _ _ (run_callOp Tryd.func27 rfl rfl (arr2 (eval_of (pf2 (by decide) (put_get _ _ _ (by simp only [put_size]; rw [hsz]; decide)))) (eval_of (put_get _ _ _ (by simp only [put_size]; rw [hsz]; decide))))) ((eqMq_any m m _ _ _ _ _ _ W43 (HLp.out.below fW43_1) (HL.out.below hbW43) hn1 hn2 hn3 hn1 hn2 hn3).mono fun e X h => ⟨_, h.1.trans (by rw [eqB_refl]), rfl, h.2⟩) ?_
            rintro _ V46 ⟨rfl, hb45⟩
            refine fresh (C := fun x W => WL _ _ _ _ x W) (fun x X => _ = x ∧ Below w.heap.size w X ∧ RowAt X q9 (Mq.row m (.slice ac nc cc) (.slice aw nw cw) (.slice af nf cf) ++ [(.slice ax nx cx : Value)]) ∧ RowAt X q41 (Mq.row m (.slice ac2 nc2 cc2) (.slice aw2 nw2 cw2) (.slice af2 nf2 cf2)) ∧ Below V23.heap.size V23 X ∧ Below V39.heap.size V39 X) ⟨rfl, (hbW43.trans (hb45.mono hbW43.size)), (rW43_0.below hb45), (rW43_1.below hb45), (fW43_0.trans (hb45.mono fW43_0.size)), (fW43_1.trans (hb45.mono fW43_1.size))⟩ ?_
            rintro _ W47 ⟨rfl, hbW47, rW47_0, rW47_1, fW47_0, fW47_1⟩
            refine owg_run 9 86 false rfl (by kernel_rfl) (pf4 (by decide) (put_get _ _ _ (by simp only [put_size]; rw [hsz]; decide))) 91 (.bool false) _ rfl (run_notOp (eval_of (put_get _ _ _ (by simp only [put_size]; rw [hsz]; decide)))) ?_
            refine owl_run (wanted_none rfl) 92 (.bool false) _ rfl (run_pickF (eval_of (pf1 (by decide) (pf4 (by decide) (put_get _ _ _ (by simp only [put_size]; rw [hsz]; decide))))) (eval_of (put_get _ _ _ (by simp only [put_size]; rw [hsz]; decide)))) ?_
            refine owl_run (wanted_none rfl) 93 (.bool false) _ rfl (run_moveOp (eval_of (put_get _ _ _ (by simp only [put_size]; rw [hsz]; decide)))) ?_
            refine owg_run 16 93 false rfl (by kernel_rfl) (put_get _ _ _ (by simp only [put_size]; rw [hsz]; decide)) 94 (.slice (some ⟨b1, o1, none⟩) (enc m).length c1) _ rfl (run_moveOp (eval_of (pf1 (by decide) (pf16 (by decide) s_7)))) ?_
            refine owg_run 16 93 false rfl (by kernel_rfl) (pf1 (by decide) (put_get _ _ _ (by simp only [put_size]; rw [hsz]; decide))) 95 (.int .i64 (((enc m).length : Nat) : Int)) _ rfl (run_lenOp Tryd.underlying31 (eval_of (put_get _ _ _ (by simp only [put_size]; rw [hsz]; decide)))) ?_
            refine owg_run 16 93 false rfl (by kernel_rfl) (pf2 (by decide) (put_get _ _ _ (by simp only [put_size]; rw [hsz]; decide))) 96 (.bool (decide ((((enc m).length : Nat) : Int) < 2))) _ rfl (run_binOp (eval_of (put_get _ _ _ (by simp only [put_size]; rw [hsz]; decide))) (eval_cst _ _) (by simp [go_sem]) (by simp [go_sem])) ?_
            refine owl_run (wanted_none rfl) 97 (.bool (decide ((((enc m).length : Nat) : Int) < 2))) _ rfl (run_pickF (eval_of (pf1 (by decide) (pf2 (by decide) (put_get _ _ _ (by simp only [put_size]; rw [hsz]; decide))))) (eval_of (put_get _ _ _ (by simp only [put_size]; rw [hsz]; decide)))) ?_
            refine owl_run (wanted_none rfl) 98 (.bool (decide ((((enc m).length : Nat) : Int) < 2))) _ rfl (run_moveOp (eval_of (put_get _ _ _ (by simp only [put_size]; rw [hsz]; decide)))) ?_
            refine owg_run 21 98 false rfl (by kernel_rfl) (flag_of (put_get _ _ _ (by simp only [put_size]; rw [hsz]; decide)) hlen2) 99 (.slice (some ⟨b1, o1, none⟩) (enc m).length c1) _ rfl (run_moveOp (eval_of (pf2 (by decide) (pf4 (by decide) (pf16 (by decide) s_7))))) ?_
            refine owg_run 21 98 false rfl (by kernel_rfl) (flag_of (pf1 (by decide) (put_get _ _ _ (by simp only [put_size]; rw [hsz]; decide))) hlen2) 100 (.pointer (some ⟨b1, o1, none⟩)) _ rfl (run_indexOp (eval_of (put_get _ _ _ (by simp only [put_size]; rw [hsz]; decide))) (eval_cst _ _) (run_index0 _ _ _ _ _ hlen0)) ?_
            refine owg_run 21 98 false rfl (by kernel_rfl) (flag_of (pf2 (by decide) (put_get _ _ _ (by simp only [put_size]; rw [hsz]; decide))) hlen2) 101 (.int .u8 (x0.toNat : Int)) _ rfl (run_loadOp (eval_of (put_get _ _ _ (by simp only [put_size]; rw [hsz]; decide))) (by simp [go_sem, Instr.loadAt, (fW47_0.cell (p := ⟨b1, o1, none⟩) hb1lt).trans hcb1])) ?_
            refine owg_run 21 98 false rfl (by kernel_rfl) (flag_of (pf1 (by decide) (pf2 (by decide) (put_get _ _ _ (by simp only [put_size]; rw [hsz]; decide)))) hlen2) 102 (.int .u8 ((x0.toNat : Int) / 16)) _ rfl (run_binOp (eval_of (put_get _ _ _ (by simp only [put_size]; rw [hsz]; decide))) (eval_cst _ _) (by simp [go_sem]) (shrU8 _ _)) ?_
            refine owg_run 21 98 false rfl (by kernel_rfl) (flag_of (pf4 (by decide) (put_get _ _ _ (by simp only [put_size]; rw [hsz]; decide))) hlen2) 103 (.int .i64 ((x0.toNat : Int) / 16)) _ rfl (run_convOp (eval_of (put_get _ _ _ (by simp only [put_size]; rw [hsz]; decide))) (convU8d x0 _)) ?_
            refine owg_run 21 98 false rfl (by kernel_rfl) (flag_of (pf1 (by decide) (pf4 (by decide) (put_get _ _ _ (by simp only [put_size]; rw [hsz]; decide)))) hlen2) 104 (.int .i64 kk) _ rfl (run_moveOp (eval_of (pf1 (by decide) (pf2 (by decide) (pf8 (by decide) (pf16 (by decide) s_1)))))) ?_
            refine owg_run 21 98 false rfl (by kernel_rfl) (flag_of (pf2 (by decide) (pf4 (by decide) (put_get _ _ _ (by simp only [put_size]; rw [hsz]; decide)))) hlen2) 105 (.bool (!(((x0.toNat : Int) / 16) == kk))) _ rfl (run_binOp (eval_of (pf1 (by decide) (put_get _ _ _ (by simp only [put_size]; rw [hsz]; decide)))) (eval_of (put_get _ _ _ (by simp only [put_size]; rw [hsz]; decide))) (by simp [go_sem]) (intNe _ _ _)) ?_
            refine owl_run (wanted_none rfl) 106 (.bool (!(((x0.toNat : Int) / 16) == kk))) _ rfl (run_pickF (eval_cast (eval_of (pf1 (by decide) (pf2 (by decide) (pf4 (by decide) (put_get _ _ _ (by simp only [put_size]; rw [hsz]; decide)))))) hlen2) (eval_of (put_get _ _ _ (by simp only [put_size]; rw [hsz]; decide)))) ?_
            refine fresh (C := fun x W => WL _ _ _ [] x W) (fun x X => _ = X ∧ x.tmps.size = 202 ∧ x.defers = [] ∧ x.tmps[0]? = some (.slice ao L.length cap) ∧ x.tmps[1]? = some (.int .i64 kk) ∧ x.tmps[5]? = some (.int .i64 ((k : Nat) : Int)) ∧ x.tmps[7]? = some (.slice (some ⟨b1, o1, none⟩) (enc m).length c1) ∧ x.tmps[10]? = some (.pointer (some ⟨q41, 0, none⟩)) ∧ x.tmps[106]? = some (.bool (!(((x0.toNat : Int) / 16) == kk)))) ⟨rfl, (by simp only [put_size]; exact hsz), (by simp only [put_defers]; exact hdf), (pf2 (by decide) (pf4 (by decide) (pf8 (by decide) (pf16 (by decide) s_0)))), (pf2 (by decide) (pf4 (by decide) (pf8 (by decide) (pf16 (by decide) s_1)))), (pf2 (by decide) (pf4 (by decide) (pf8 (by decide) (pf16 (by decide) s_5)))), (pf2 (by decide) (pf4 (by decide) (pf8 (by decide) (pf16 (by decide) s_7)))), (pf2 (by decide) (pf4 (by decide) (pf8 (by decide) (pf16 (by decide) s_10)))), (put_get _ _ _ (by simp only [put_size]; rw [hsz]; decide))⟩ ?_
            clear hsz hdf s_0 s_1 s_5 s_6 s_7 s_10 s_11 s_12
            rintro a _ ⟨rfl, hsz, hdf, s_0, s_1, s_5, s_7, s_10, s_106⟩
            refine wl_done ?_
            refine ow_then ?_
            refine ow_false (eval_of (flag_of s_106 (not_of hhead))) ?_
            refine wp_skip ?_
            refine ow_then ?_
            refine wp_seq ?_
            refine wp_seq ?_
            refine ow_region [_] rfl (by intro o ho; simp only [List.mem_cons, List.not_mem_nil, or_false] at ho; subst ho; rfl) ?_
            refine ow_run 13 (.int .i64 0) _ rfl (run_assignOp (eval_cst _ _)) ?_
            refine fresh (C := fun x W => wpRun _ [] x W _) (fun x X => _ = X ∧ x.tmps.size = 202 ∧ x.defers = [] ∧ x.tmps[0]? = some (.slice ao L.length cap) ∧ x.tmps[1]? = some (.int .i64 kk) ∧ x.tmps[5]? = some (.int .i64 ((k : Nat) : Int)) ∧ x.tmps[7]? = some (.slice (some ⟨b1, o1, none⟩) (enc m).length c1) ∧ x.tmps[10]? = some (.pointer (some ⟨q41, 0, none⟩)) ∧ x.tmps[13]? = some (.int .i64 0)) ⟨rfl, (by simp only [put_size]; exact hsz), (by simp only [put_defers]; exact hdf), (pf1 (by decide) s_0), (pf1 (by decide) s_1), (pf1 (by decide) s_5), (pf1 (by decide) s_7), (pf1 (by decide) s_10), (put_get _ _ _ (by rw [hsz]; decide))⟩ ?_
            clear hsz hdf s_0 s_1 s_5 s_7 s_10 s_106
            rintro a _ ⟨rfl, hsz, hdf, s_0, s_1, s_5, s_7, s_10, s_13⟩
            refine ow_then ?_
            refine wp_block ?_
            refine ow_loop (fun N a W => ∃ (j : Nat), N = 8 - j ∧ j ≤ 8 ∧ a.tmps.size = 202 ∧ a.defers = [] ∧ a.tmps[0]? = some (.slice ao L.length cap) ∧ a.tmps[1]? = some (.int .i64 kk) ∧ a.tmps[5]? = some (.int .i64 ((k : Nat) : Int)) ∧ a.tmps[7]? = some (.slice (some ⟨b1, o1, none⟩) (enc m).length c1) ∧ a.tmps[10]? = some (.pointer (some ⟨q41, 0, none⟩)) ∧ a.tmps[13]? = some (.int .i64 ((j : Nat) : Int)) ∧ Below w.heap.size w W ∧ RowAt W q41 (Mq.row m (.slice ac2 nc2 cc2) (.slice aw2 nw2 cw2) (.slice af2 nf2 cf2)) ∧ Below V23.heap.size V23 W ∧ Below V39.heap.size V39 W) _ ⟨0, rfl, (by decide), hsz, hdf, s_0, s_1, s_5, s_7, s_10, (by first | exact s_13 | (rw [s_13]; congr 2; first | rfl | omega | (push_cast; omega)) | (rw [s_13]; first | rfl | (simp; try omega))), hbW47, rW47_1, fW47_0, fW47_1⟩ ?_
            clear hsz hdf s_0 s_1 s_5 s_7 s_10 s_13
            rintro N a W50 ⟨j, rfl, hjl, hsz, hdf, s_0, s_1, s_5, s_7, s_10, s_13, hbW50, rW50_0, fW50_0, fW50_1⟩
            intro K52 hK52
            refine wp_seq ?_
            refine wp_seq ?_
            refine ow_region [_, _] rfl (by intro o ho; simp only [List.mem_cons, List.not_mem_nil, or_false] at ho; rcases ho with rfl | rfl <;> rfl) ?_
            refine ow_run 107 (.int .i64 ((j : Nat) : Int)) _ rfl (run_moveOp (eval_of s_13)) ?_
            refine ow_run 108 (.bool (decide (((j : Nat) : Int) < 8))) _ rfl (run_binOp (eval_of (put_get _ _ _ (by rw [hsz]; decide))) (eval_cst _ _) (by simp [go_sem]) (by simp [go_sem])) ?_
            refine fresh (C := fun x W => wpRun _ [] x W _) (fun x X => _ = X ∧ x.tmps.size = 202 ∧ x.defers = [] ∧ x.tmps[0]? = some (.slice ao L.length cap) ∧ x.tmps[1]? = some (.int .i64 kk) ∧ x.tmps[5]? = some (.int .i64 ((k : Nat) : Int)) ∧ x.tmps[7]? = some (.slice (some ⟨b1, o1, none⟩) (enc m).length c1) ∧ x.tmps[10]? = some (.pointer (some ⟨q41, 0, none⟩)) ∧ x.tmps[13]? = some (.int .i64 ((j : Nat) : Int)) ∧ x.tmps[108]? = some (.bool (decide (((j : Nat) : Int) < 8)))) ⟨rfl, (by simp only [put_size]; exact hsz), (by simp only [put_defers]; exact hdf), (pf2 (by decide) s_0), (pf2 (by decide) s_1), (pf2 (by decide) s_5), (pf2 (by decide) s_7), (pf2 (by decide) s_10), (pf2 (by decide) s_13), (put_get _ _ _ (by simp only [put_size]; rw [hsz]; decide))⟩ ?_
            clear hsz hdf s_0 s_1 s_5 s_7 s_10 s_13
            rintro a _ ⟨rfl, hsz, hdf, s_0, s_1, s_5, s_7, s_10, s_13, s_108⟩
            refine ow_then ?_
            rcases Bool.eq_false_or_eq_true ((decide (((j : Nat) : Int) < 8))) with hb_54 | hb_54
            · skip
              refine ow_true (eval_of (flag_of s_108 hb_54)) ?_
              refine wp_skip ?_
              refine ow_then ?_
              refine wp_seq ?_
              refine wp_block ?_
              refine wp_seq ?_
              refine ow_region [_, _, _, _] rfl (by intro o ho; simp only [List.mem_cons, List.not_mem_nil, or_false] at ho; rcases ho with rfl | rfl | rfl | rfl <;> rfl) ?_
              refine ow_run 111 (.agg (Mq.row m (.slice ac2 nc2 cc2) (.slice aw2 nw2 cw2) (.slice af2 nf2 cf2)).toArray) _ rfl (run_loadOp (eval_of s_10) (run_loadN [.int .i64 m.k, .string m.cl, .bool m.clean, .int .i64 m.keep, .bool m.wI, .string m.wT, .string m.wP, .int .i64 m.wQ, .bool m.wR, .string m.us, .bool m.hu, .string m.pa, .bool m.hp, .bool m.pres, .int .i64 m.code, .slice ac2 nc2 cc2, .bool m.dup, .int .i64 m.q, .bool m.re, .string m.top, .int .i64 m.id, .string m.pay, .slice aw2 nw2 cw2, .slice af2 nf2 cf2] rW50_0 (fun j v hj => by simpa using hj) Tryd.underlying30 rfl (by kernel_rfl))) ?_
              have hVs : V39.heap.size ≤ W50.heap.size := fW50_1.size
              have hbs : V23.heap.size ≤ W50.heap.size := fW50_0.size
              have hq10s : q41 < W50.heap.size := rW50_0.2.2
              have hws : w.heap.size ≤ W50.heap.size := hbW50.size
              refine ow_call 112 (fun v X => ∃ ac3 cc3 aw3 cw3 af3 cf3, v = m.val (.slice ac3 m.cs.length cc3) (.slice aw3 m.ws.length cw3) (.slice af3 m.fs.length cf3) ∧ Below W50.heap.size W50 X ∧ MqOwn X W50.heap.size m (.slice ac3 m.cs.length cc3) (.slice aw3 m.ws.length cw3) (.slice af3 m.fs.length cf3)) rfl _ _ (run_callOp Tryd.func31 rfl rfl (arr1 (eval_of (put_get _ _ _ (by rw [hsz]; decide))))) ((copyMq_any m _ _ _ W50 (HLp.out.below fW50_1) hn1 hn2 hn3).mono fun e X h => mqcopy_open h) ?_
              rintro _ V56 ⟨ac3, cc3, aw3, cw3, af3, cf3, rfl, hb55, hOw⟩
              have hV2y := hb55.size
              have HOw := Lib.hid hOw
              have hby := Below.refl V56.heap.size V56
              refine fresh (C := fun x W => wpRun _ _ x W _) (fun x X => _ = x ∧ Below w.heap.size w X ∧ RowAt X q41 (Mq.row m (.slice ac2 nc2 cc2) (.slice aw2 nw2 cw2) (.slice af2 nf2 cf2)) ∧ Below V23.heap.size V23 X ∧ Below V39.heap.size V39 X ∧ Below V56.heap.size V56 X) ⟨rfl, (hbW50.trans (hb55.mono hbW50.size)), (rW50_0.below hb55), (fW50_0.trans (hb55.mono fW50_0.size)), (fW50_1.trans (hb55.mono fW50_1.size)), hby⟩ ?_
              rintro _ W57 ⟨rfl, hbW57, rW57_0, fW57_0, fW57_1, fW57_2⟩
              obtain ⟨q58, hq58⟩ : ∃ x, x = W57.heap.size := ⟨_, rfl⟩
              refine ow_run 14 (.pointer (some ⟨q58, 0, none⟩)) (W57.alloc (.cells #[.int .i64 0, .string { data := #[] }, .bool false, .int .i64 0, .bool false, .string { data := #[] }, .string { data := #[] }, .int .i64 0, .bool false, .string { data := #[] }, .bool false, .string { data := #[] }, .bool false, .bool false, .int .i64 0, .slice none 0 0, .bool false, .int .i64 0, .bool false, .string { data := #[] }, .int .i64 0, .string { data := #[] }, .slice none 0 0, .slice none 0 0] 30)) rfl (by rw [hq58]; exact (run_allocOp (by simp [go_sem, Instr.alloc]))) ?_
              have hqq58 : w.heap.size ≤ q58 := by rw [hq58]; exact hbW57.size
              have hqq58_V23 : V23.heap.size ≤ q58 := by rw [hq58]; exact fW57_0.size
              have hqq58_V39 : V39.heap.size ≤ q58 := by rw [hq58]; exact fW57_1.size
              have hqq58_V56 : V56.heap.size ≤ q58 := by rw [hq58]; exact fW57_2.size
              have hnq58_q41 : q41 < q58 := by rw [hq58]; exact rW57_0.2.2
              refine fresh (C := fun x W => wpRun _ _ x W _) (fun x X => _ = x ∧ Below w.heap.size w X ∧ RowAt X q41 (Mq.row m (.slice ac2 nc2 cc2) (.slice aw2 nw2 cw2) (.slice af2 nf2 cf2)) ∧ RowAt X q58 [.int .i64 0, .string { data := #[] }, .bool false, .int .i64 0, .bool false, .string { data := #[] }, .string { data := #[] }, .int .i64 0, .bool false, .string { data := #[] }, .bool false, .string { data := #[] }, .bool false, .bool false, .int .i64 0, .slice none 0 0, .bool false, .int .i64 0, .bool false, .string { data := #[] }, .int .i64 0, .string { data := #[] }, .slice none 0 0, .slice none 0 0] ∧ Below V23.heap.size V23 X ∧ Below V39.heap.size V39 X ∧ Below V56.heap.size V56 X) ⟨rfl, (hbW57.alloc hbW57.size _), (rW57_0.below ((Below.refl _ W57).alloc (Nat.le_refl _) _)), (by rw [hq58]; exact rowAt_alloc _ [.int .i64 0, .string { data := #[] }, .bool false, .int .i64 0, .bool false, .string { data := #[] }, .string { data := #[] }, .int .i64 0, .bool false, .string { data := #[] }, .bool false, .string { data := #[] }, .bool false, .bool false, .int .i64 0, .slice none 0 0, .bool false, .int .i64 0, .bool false, .string { data := #[] }, .int .i64 0, .string { data := #[] }, .slice none 0 0, .slice none 0 0] _), (fW57_0.trans (((Below.refl _ W57).alloc (Nat.le_refl _) _).mono fW57_0.size)), (fW57_1.trans (((Below.refl _ W57).alloc (Nat.le_refl _) _).mono fW57_1.size)), (fW57_2.trans (((Below.refl _ W57).alloc (Nat.le_refl _) _).mono fW57_2.size))⟩ ?_
              rintro _ W59 ⟨rfl, hbW59, rW59_0, rW59_1, fW59_0, fW59_1, fW59_2⟩
              clear hq58
              refine ow_skip _ rfl (run_storeOp (eval_of (put_get _ _ _ (by simp only [put_size]; rw [hsz]; decide))) (eval_of (pf1 (by decide) (put_get _ _ _ (by simp only [put_size]; rw [hsz]; decide)))) (run_storeN (xs := [.int .i64 m.k, .string m.cl, .bool m.clean, .int .i64 m.keep, .bool m.wI, .string m.wT, .string m.wP, .int .i64 m.wQ, .bool m.wR, .string m.us, .bool m.hu, .string m.pa, .bool m.hp, .bool m.pres, .int .i64 m.code, .slice ac3 m.cs.length cc3, .bool m.dup, .int .i64 m.q, .bool m.re, .string m.top, .int .i64 m.id, .string m.pay, .slice aw3 m.ws.length cw3, .slice af3 m.fs.length cf3]) rW59_1 (by simp) (by kernel_rfl) rfl)) ?_
              refine fresh (C := fun x W => wpRun _ _ x W _) (fun x X => _ = x ∧ Below w.heap.size w X ∧ RowAt X q41 (Mq.row m (.slice ac2 nc2 cc2) (.slice aw2 nw2 cw2) (.slice af2 nf2 cf2)) ∧ RowAt X q58 (Mq.row m (.slice ac3 m.cs.length cc3) (.slice aw3 m.ws.length cw3) (.slice af3 m.fs.length cf3)) ∧ Below V23.heap.size V23 X ∧ Below V39.heap.size V39 X ∧ Below V56.heap.size V56 X) ⟨rfl, (below_sets (by omega) _ _ _ hbW59), (RowAt.sets_other _ _ _ rW59_0 (by omega)), (RowAt.sets [.int .i64 m.k, .string m.cl, .bool m.clean, .int .i64 m.keep, .bool m.wI, .string m.wT, .string m.wP, .int .i64 m.wQ, .bool m.wR, .string m.us, .bool m.hu, .string m.pa, .bool m.hp, .bool m.pres, .int .i64 m.code, .slice ac3 m.cs.length cc3, .bool m.dup, .int .i64 m.q, .bool m.re, .string m.top, .int .i64 m.id, .string m.pay, .slice aw3 m.ws.length cw3, .slice af3 m.fs.length cf3] 0 _ _ rW59_1 (by simp)), (below_sets (by omega) _ _ _ fW59_0), (below_sets (by omega) _ _ _ fW59_1), (below_sets (by omega) _ _ _ fW59_2)⟩ ?_
              rintro _ W60 ⟨rfl, hbW60, rW60_0, rW60_1, fW60_0, fW60_1, fW60_2⟩
              refine fresh (C := fun x W => wpRun _ [] x W _) (fun x X => _ = X ∧ x.tmps.size = 202 ∧ x.defers = [] ∧ x.tmps[0]? = some (.slice ao L.length cap) ∧ x.tmps[1]? = some (.int .i64 kk) ∧ x.tmps[5]? = some (.int .i64 ((k : Nat) : Int)) ∧ x.tmps[7]? = some (.slice (some ⟨b1, o1, none⟩) (enc m).length c1) ∧ x.tmps[10]? = some (.pointer (some ⟨q41, 0, none⟩)) ∧ x.tmps[13]? = some (.int .i64 ((j : Nat) : Int)) ∧ x.tmps[14]? = some (.pointer (some ⟨q58, 0, none⟩))) ⟨rfl, (by simp only [put_size]; exact hsz), (by simp only [put_defers]; exact hdf), (pf1 (by decide) (pf2 (by decide) s_0)), (pf1 (by decide) (pf2 (by decide) s_1)), (pf1 (by decide) (pf2 (by decide) s_5)), (pf1 (by decide) (pf2 (by decide) s_7)), (pf1 (by decide) (pf2 (by decide) s_10)), (pf1 (by decide) (pf2 (by decide) s_13)), (put_get _ _ _ (by simp only [put_size]; rw [hsz]; decide))⟩ ?_
              clear hsz hdf s_0 s_1 s_5 s_7 s_10 s_108 s_13
              rintro a _ ⟨rfl, hsz, hdf, s_0, s_1, s_5, s_7, s_10, s_13, s_14⟩
              refine ow_then ?_
              refine wp_seq ?_
              refine wp_seq ?_
              refine ow_region [_] rfl (by intro o ho; simp only [List.mem_cons, List.not_mem_nil, or_false] at ho; subst ho; rfl) ?_
              refine ow_run 113 (.int .i64 ((j : Nat) : Int)) _ rfl (run_moveOp (eval_of s_13)) ?_
              refine fresh (C := fun x W => wpRun _ [] x W _) (fun x X => _ = X ∧ x.tmps.size = 202 ∧ x.defers = [] ∧ x.tmps[0]? = some (.slice ao L.length cap) ∧ x.tmps[1]? = some (.int .i64 kk) ∧ x.tmps[5]? = some (.int .i64 ((k : Nat) : Int)) ∧ x.tmps[7]? = some (.slice (some ⟨b1, o1, none⟩) (enc m).length c1) ∧ x.tmps[10]? = some (.pointer (some ⟨q41, 0, none⟩)) ∧ x.tmps[13]? = some (.int .i64 ((j : Nat) : Int)) ∧ x.tmps[14]? = some (.pointer (some ⟨q58, 0, none⟩)) ∧ x.tmps[113]? = some (.int .i64 ((j : Nat) : Int))) ⟨rfl, (by simp only [put_size]; exact hsz), (by simp only [put_defers]; exact hdf), (pf1 (by decide) s_0), (pf1 (by decide) s_1), (pf1 (by decide) s_5), (pf1 (by decide) s_7), (pf1 (by decide) s_10), (pf1 (by decide) s_13), (pf1 (by decide) s_14), (put_get _ _ _ (by rw [hsz]; decide))⟩ ?_
              clear hsz hdf s_0 s_1 s_5 s_7 s_10 s_13 s_14
              rintro a _ ⟨rfl, hsz, hdf, s_0, s_1, s_5, s_7, s_10, s_13, s_14, s_113⟩
              refine ow_then ?_
              refine wp_block ?_
              refine wp_seq ?_
              refine ow_region [_, _] rfl (by intro o ho; simp only [List.mem_cons, List.not_mem_nil, or_false] at ho; rcases ho with rfl | rfl <;> rfl) ?_
              refine ow_run 115 (.bool (((j : Nat) : Int) == 0)) _ rfl (run_binOp (eval_of s_113) (eval_cst _ _) (eqInt _ _ _ _ _) (intEq _ _ _)) ?_
              refine ow_run 114 (.bool (((j : Nat) : Int) == 0)) _ rfl (run_assignOp (eval_of (put_get _ _ _ (by rw [hsz]; decide)))) ?_
              refine fresh (C := fun x W => wpRun _ [] x W _) (fun x X => _ = X ∧ x.tmps.size = 202 ∧ x.defers = [] ∧ x.tmps[0]? = some (.slice ao L.length cap) ∧ x.tmps[1]? = some (.int .i64 kk) ∧ x.tmps[5]? = some (.int .i64 ((k : Nat) : Int)) ∧ x.tmps[7]? = some (.slice (some ⟨b1, o1, none⟩) (enc m).length c1) ∧ x.tmps[10]? = some (.pointer (some ⟨q41, 0, none⟩)) ∧ x.tmps[13]? = some (.int .i64 ((j : Nat) : Int)) ∧ x.tmps[14]? = some (.pointer (some ⟨q58, 0, none⟩)) ∧ x.tmps[113]? = some (.int .i64 ((j : Nat) : Int)) ∧ x.tmps[114]? = some (.bool (((j : Nat) : Int) == 0))) ⟨rfl, (by simp only [put_size]; exact hsz), (by simp only [put_defers]; exact hdf), (pf2 (by decide) s_0), (pf2 (by decide) s_1), (pf2 (by decide) s_5), (pf2 (by decide) s_7), (pf2 (by decide) s_10), (pf2 (by decide) s_13), (pf2 (by decide) s_14), (pf2 (by decide) s_113), (put_get _ _ _ (by simp only [put_size]; rw [hsz]; decide))⟩ ?_
              clear hsz hdf s_0 s_1 s_5 s_7 s_10 s_13 s_14 s_113
              rintro a _ ⟨rfl, hsz, hdf, s_0, s_1, s_5, s_7, s_10, s_13, s_14, s_113, s_114⟩
              refine ow_then ?_
              rcases Bool.eq_false_or_eq_true ((((j : Nat) : Int) == 0)) with hb_64 | hb_64
              · skip
                refine ow_true (eval_of (flag_of s_114 hb_64)) ?_
                refine ow_region [_, _, _, _, _] rfl (by intro o ho; simp only [List.mem_cons, List.not_mem_nil, or_false] at ho; rcases ho with rfl | rfl | rfl | rfl | rfl <;> rfl) ?_
                refine ow_run 116 (.pointer (some ⟨q58, 20, none⟩)) _ rfl (run_fieldAddr (eval_of s_14) (by simp [go_sem, Instr.fieldAt])) ?_
                refine ow_run 117 (.int .i64 m.id) _ rfl (run_loadOp (eval_of (put_get _ _ _ (by rw [hsz]; decide))) (by simp [go_sem, Instr.loadAt, rW60_1.cell (j := 20) rfl])) ?_
                refine ow_run 118 (.int .i64 (IntKind.i64.wrap (m.id + 1))) _ rfl (run_binOp (eval_of (put_get _ _ _ (by simp only [put_size]; rw [hsz]; decide))) (eval_cst _ _) (by simp [go_sem]) (intInc _ _)) ?_
                refine ow_run 119 (.pointer (some ⟨q58, 20, none⟩)) _ rfl (run_fieldAddr (eval_of (pf1 (by decide) (pf2 (by decide) s_14))) (by simp [go_sem, Instr.fieldAt])) ?_
                refine ow_skip _ rfl (run_storeOp (eval_of (put_get _ _ _ (by simp only [put_size]; rw [hsz]; decide))) (eval_of (pf1 (by decide) (put_get _ _ _ (by simp only [put_size]; rw [hsz]; decide)))) (run_store1 rW60_1 (by simp) (by kernel_rfl) rfl)) ?_
                refine fresh (C := fun x W => wpRun _ _ x W _) (fun x X => _ = x ∧ Below w.heap.size w X ∧ RowAt X q41 (Mq.row m (.slice ac2 nc2 cc2) (.slice aw2 nw2 cw2) (.slice af2 nf2 cf2)) ∧ RowAt X q58 (Mq.row ({ m with id := (IntKind.i64.wrap (m.id + 1)) } : Mq) (.slice ac3 m.cs.length cc3) (.slice aw3 m.ws.length cw3) (.slice af3 m.fs.length cf3)) ∧ Below V23.heap.size V23 X ∧ Below V39.heap.size V39 X ∧ Below V56.heap.size V56 X) ⟨rfl, (below_set1 hbW60 (by omega)), (rW60_0.other (by omega)), (rW60_1.set1 20 _ (by simp)), (below_set1 fW60_0 (by omega)), (below_set1 fW60_1 (by omega)), (below_set1 fW60_2 (by omega))⟩ ?_
                rintro _ W65 ⟨rfl, hbW65, rW65_0, rW65_1, fW65_0, fW65_1, fW65_2⟩
                refine fresh (C := fun x W => wpRun _ [] x W _) (fun x X => _ = X ∧ x.tmps.size = 202 ∧ x.defers = [] ∧ x.tmps[0]? = some (.slice ao L.length cap) ∧ x.tmps[1]? = some (.int .i64 kk) ∧ x.tmps[5]? = some (.int .i64 ((k : Nat) : Int)) ∧ x.tmps[7]? = some (.slice (some ⟨b1, o1, none⟩) (enc m).length c1) ∧ x.tmps[10]? = some (.pointer (some ⟨q41, 0, none⟩)) ∧ x.tmps[13]? = some (.int .i64 ((j : Nat) : Int)) ∧ x.tmps[14]? = some (.pointer (some ⟨q58, 0, none⟩))) ⟨rfl, (by simp only [put_size]; exact hsz), (by simp only [put_defers]; exact hdf), (pf4 (by decide) s_0), (pf4 (by decide) s_1), (pf4 (by decide) s_5), (pf4 (by decide) s_7), (pf4 (by decide) s_10), (pf4 (by decide) s_13), (pf4 (by decide) s_14)⟩ ?_
                clear hsz hdf s_0 s_1 s_5 s_7 s_10 s_13 s_14 s_113 s_114
                rintro a _ ⟨rfl, hsz, hdf, s_0, s_1, s_5, s_7, s_10, s_13, s_14⟩
                refine ow_blk _ ?_
                refine ow_then ?_
                refine wp_seq ?_
                refine ah_region (fun W => Below w.heap.size w W ∧ RowAt W q41 (Mq.row m (.slice ac2 nc2 cc2) (.slice aw2 nw2 cw2) (.slice af2 nf2 cf2)) ∧ RowAt W q58 (Mq.row ({ m with id := (IntKind.i64.wrap (m.id + 1)) } : Mq) (.slice ac3 m.cs.length cc3) (.slice aw3 m.ws.length cw3) (.slice af3 m.fs.length cf3)) ∧ Below V23.heap.size V23 W ∧ Below V39.heap.size V39 W ∧ Below V56.heap.size V56 W) (by kernel_rfl) 7 rfl ?_
                refine fresh (C := fun x W => AH _ _ _ _ _ _ x W) (fun x X => _ = x ∧ Below w.heap.size w X ∧ RowAt X q41 (Mq.row m (.slice ac2 nc2 cc2) (.slice aw2 nw2 cw2) (.slice af2 nf2 cf2)) ∧ RowAt X q58 (Mq.row ({ m with id := (IntKind.i64.wrap (m.id + 1)) } : Mq) (.slice ac3 m.cs.length cc3) (.slice aw3 m.ws.length cw3) (.slice af3 m.fs.length cf3)) ∧ Below V23.heap.size V23 X ∧ Below V39.heap.size V39 X ∧ Below V56.heap.size V56 X) ⟨rfl, (hbW65.trans (((Below.refl _ W65).drew).mono hbW65.size)), (rW65_0.below ((Below.refl _ W65).drew)), (rW65_1.below ((Below.refl _ W65).drew)), (fW65_0.trans (((Below.refl _ W65).drew).mono fW65_0.size)), (fW65_1.trans (((Below.refl _ W65).drew).mono fW65_1.size)), (fW65_2.trans (((Below.refl _ W65).drew).mono fW65_2.size))⟩ ?_
                rintro _ W67 ⟨rfl, hbW67, rW67_0, rW67_1, fW67_0, fW67_1, fW67_2⟩
                refine ah_takeW 0 164 (.agg (Mq.row ({ m with id := (IntKind.i64.wrap (m.id + 1)) } : Mq) (.slice ac3 m.cs.length cc3) (.slice aw3 m.ws.length cw3) (.slice af3 m.fs.length cf3)).toArray) rfl (wanted_none rfl) rfl (by kernel_rfl) (by kernel_rfl) (by kernel_rfl) (fun _ _ _ h => h) ⟨hbW67, rW67_0, rW67_1, fW67_0, fW67_1, fW67_2⟩ (fun W hW => by (try obtain ⟨hbW67, rW67_0, rW67_1, fW67_0, fW67_1, fW67_2⟩ := hW); exact (run_loadOp (eval_of s_14) (run_loadN [.int .i64 m.k, .string m.cl, .bool m.clean, .int .i64 m.keep, .bool m.wI, .string m.wT, .string m.wP, .int .i64 m.wQ, .bool m.wR, .string m.us, .bool m.hu, .string m.pa, .bool m.hp, .bool m.pres, .int .i64 m.code, .slice ac3 m.cs.length cc3, .bool m.dup, .int .i64 m.q, .bool m.re, .string m.top, .int .i64 (IntKind.i64.wrap (m.id + 1)), .string m.pay, .slice aw3 m.ws.length cw3, .slice af3 m.fs.length cf3] rW67_1 (fun j v hj => by simpa using hj) Tryd.underlying30 rfl (by kernel_rfl)))) ?_
                refine ah_takeW 4 168 (.agg (Mq.row ({ m with id := (IntKind.i64.wrap (m.id + 1)) } : Mq) (.slice ac3 m.cs.length cc3) (.slice aw3 m.ws.length cw3) (.slice af3 m.fs.length cf3)).toArray) rfl (wanted_none rfl) rfl (by kernel_rfl) (by kernel_rfl) (by kernel_rfl) (fun _ _ _ h => h) ⟨hbW67, rW67_0, rW67_1, fW67_0, fW67_1, fW67_2⟩ (fun W hW => by (try obtain ⟨hbW67, rW67_0, rW67_1, fW67_0, fW67_1, fW67_2⟩ := hW); exact (run_loadOp (eval_of (pf1 (by decide) s_14)) (run_loadN [.int .i64 m.k, .string m.cl, .bool m.clean, .int .i64 m.keep, .bool m.wI, .string m.wT, .string m.wP, .int .i64 m.wQ, .bool m.wR, .string m.us, .bool m.hu, .string m.pa, .bool m.hp, .bool m.pres, .int .i64 m.code, .slice ac3 m.cs.length cc3, .bool m.dup, .int .i64 m.q, .bool m.re, .string m.top, .int .i64 (IntKind.i64.wrap (m.id + 1)), .string m.pay, .slice aw3 m.ws.length cw3, .slice af3 m.fs.length cf3] rW67_1 (fun j v hj => by simpa using hj) Tryd.underlying30 rfl (by kernel_rfl)))) ?_
                refine ah_one 1 (by kernel_rfl) ?_
                refine ao_call rfl (wanted_none rfl) 165 (fun v X => v = .int .i64 (if mayB ({ m with id := IntKind.i64.wrap (m.id + 1) } : Mq) = true then (0 : Int) else 1) ∧ Below W67.heap.size W67 X) rfl _ _ (run_callOp Tryd.func34 rfl rfl (arr1 (eval_of (pf1 (by decide) (put_get _ _ _ (by rw [hsz]; decide)))))) ((K.out.check ({ m with id := IntKind.i64.wrap (m.id + 1) } : Mq) _ _ _ W67 hk (near_id HNe.out _) (lists_mod (HOw.out.below fW67_2).lists)).mono fun e X h => ⟨_, h.1, rfl, h.2⟩) ?_
                rintro _ V69 ⟨rfl, hb68⟩
                have hbN := (hbW67.trans (hb68.mono hbW67.size))
                have hbN70 := hbN
                have rN71 := (rW67_0.below hb68)
                have rN72 := (rW67_1.below hb68)
                have fN73 := (fW67_0.trans (hb68.mono fW67_0.size))
                have fN74 := (fW67_1.trans (hb68.mono fW67_1.size))
                have fN75 := (fW67_2.trans (hb68.mono fW67_2.size))
                refine ⟨⟨hbN70, rN71, rN72, fN73, fN74, fN75⟩, ?_⟩
                refine ah_one 2 (by kernel_rfl) ?_
                refine ao_call rfl (wanted_none rfl) 166 (fun v X => v = (.int .i64 (if mayB ({ m with id := IntKind.i64.wrap (m.id + 1) } : Mq) = true then (0 : Int) else 1)) ∧ V69 = X) rfl _ _ (run_callOp Tryd.func26 rfl rfl (arr1 (eval_of (put_get _ _ _ (by simp only [put_size]; rw [hsz]; decide))))) ((num18_any _ _).mono fun e X h => ⟨_, h.1, rfl, h.2⟩) ?_
                rintro _ _ ⟨rfl, rfl⟩
                refine ⟨⟨hbN70, rN71, rN72, fN73, fN74, fN75⟩, ?_⟩
                refine ah_takeW 3 167 (.bool (mayB ({ m with id := IntKind.i64.wrap (m.id + 1) } : Mq))) rfl (wanted_none rfl) rfl (by kernel_rfl) (by kernel_rfl) (by kernel_rfl) (fun _ _ _ h => h) ⟨hbN70, rN71, rN72, fN73, fN74, fN75⟩ (fun W hW => by (try obtain ⟨hbN70, rN71, rN72, fN73, fN74, fN75⟩ := hW); exact (run_binOp (eval_of (put_get _ _ _ (by simp only [put_size]; rw [hsz]; decide))) (eval_cst _ _) (by simp [go_sem]) (ifEq0 _ _))) ?_
                refine ah_one 5 (by kernel_rfl) ?_
                refine ao_call rfl (wanted_none rfl) 169 (fun v X => v = .bool (mayB ({ m with id := IntKind.i64.wrap (m.id + 1) } : Mq)) ∧ Below V69.heap.size V69 X) rfl _ _ (run_callOp Tryd.func33 rfl rfl (arr1 (eval_of (pf1 (by decide) (pf2 (by decide) (put_get _ _ _ (by simp only [put_size]; rw [hsz]; decide))))))) ((K.out.may ({ m with id := IntKind.i64.wrap (m.id + 1) } : Mq) _ _ _ V69 hk (near_id HNe.out _) (lists_mod (HOw.out.below fN75).lists)).mono fun e X h => ⟨_, h.1, rfl, h.2⟩) ?_
                rintro _ V77 ⟨rfl, hb76⟩
                have hbN := (hbN70.trans (hb76.mono hbN70.size))
                have hbN78 := hbN
                have rN79 := (rN71.below hb76)
                have rN80 := (rN72.below hb76)
                have fN81 := (fN73.trans (hb76.mono fN73.size))
                have fN82 := (fN74.trans (hb76.mono fN74.size))
                have fN83 := (fN75.trans (hb76.mono fN75.size))
                refine ⟨⟨hbN78, rN79, rN80, fN81, fN82, fN83⟩, ?_⟩
                refine ah_takeW 6 170 (.bool false) rfl (wanted_none rfl) rfl (by kernel_rfl) (by kernel_rfl) (by kernel_rfl) (fun _ _ _ h => h) ⟨hbN78, rN79, rN80, fN81, fN82, fN83⟩ (fun W hW => by (try obtain ⟨hbN78, rN79, rN80, fN81, fN82, fN83⟩ := hW); exact (run_binOp (eval_of (pf1 (by decide) (put_get _ _ _ (by simp only [put_size]; rw [hsz]; decide)))) (eval_of (put_get _ _ _ (by simp only [put_size]; rw [hsz]; decide))) (by simp [go_sem]) (boolNe_self _ _))) ?_
                refine fresh (C := fun x W => AH _ _ _ _ _ _ x W) (fun x X => _ = X ∧ x.tmps.size = 202 ∧ x.defers = [] ∧ x.tmps[0]? = some (.slice ao L.length cap) ∧ x.tmps[1]? = some (.int .i64 kk) ∧ x.tmps[5]? = some (.int .i64 ((k : Nat) : Int)) ∧ x.tmps[7]? = some (.slice (some ⟨b1, o1, none⟩) (enc m).length c1) ∧ x.tmps[10]? = some (.pointer (some ⟨q41, 0, none⟩)) ∧ x.tmps[13]? = some (.int .i64 ((j : Nat) : Int)) ∧ x.tmps[170]? = some (.bool false)) ⟨rfl, (by simp only [put_size]; exact hsz), (by simp only [put_defers]; exact hdf), (pf1 (by decide) (pf2 (by decide) (pf4 (by decide) s_0))), (pf1 (by decide) (pf2 (by decide) (pf4 (by decide) s_1))), (pf1 (by decide) (pf2 (by decide) (pf4 (by decide) s_5))), (pf1 (by decide) (pf2 (by decide) (pf4 (by decide) s_7))), (pf1 (by decide) (pf2 (by decide) (pf4 (by decide) s_10))), (pf1 (by decide) (pf2 (by decide) (pf4 (by decide) s_13))), (put_get _ _ _ (by simp only [put_size]; rw [hsz]; decide))⟩ ?_
                clear hsz hdf s_0 s_1 s_5 s_7 s_10 s_13 s_14
                rintro a _ ⟨rfl, hsz, hdf, s_0, s_1, s_5, s_7, s_10, s_13, s_170⟩
                refine ah_done (by kernel_rfl) ?_
                refine ow_then ?_
                refine ow_false (eval_of s_170) ?_
                refine wp_skip ?_
                refine ow_blk _ ?_
                refine ow_then ?_
                refine ow_region [_, _, _] rfl (by intro o ho; simp only [List.mem_cons, List.not_mem_nil, or_false] at ho; rcases ho with rfl | rfl | rfl <;> rfl) ?_
                refine ow_run 109 (.int .i64 ((j : Nat) : Int)) _ rfl (run_moveOp (eval_of s_13)) ?_
                refine ow_run 110 (.int .i64 (((j : Nat) : Int) + 1)) _ rfl (run_binOp (eval_of (put_get _ _ _ (by rw [hsz]; decide))) (eval_cst _ _) (by simp [go_sem]) (addI _ _ _ (by omega) (by omega))) ?_
                refine ow_run 13 (.int .i64 (((j : Nat) : Int) + 1)) _ rfl (run_assignOp (eval_of (put_get _ _ _ (by simp only [put_size]; rw [hsz]; decide)))) ?_
                refine fresh (C := fun x W => wpRun _ [] x W _) (fun x X => _ = X ∧ x.tmps.size = 202 ∧ x.defers = [] ∧ x.tmps[0]? = some (.slice ao L.length cap) ∧ x.tmps[1]? = some (.int .i64 kk) ∧ x.tmps[5]? = some (.int .i64 ((k : Nat) : Int)) ∧ x.tmps[7]? = some (.slice (some ⟨b1, o1, none⟩) (enc m).length c1) ∧ x.tmps[10]? = some (.pointer (some ⟨q41, 0, none⟩)) ∧ x.tmps[13]? = some (.int .i64 (((j : Nat) : Int) + 1))) ⟨rfl, (by simp only [put_size]; exact hsz), (by simp only [put_defers]; exact hdf), (pf1 (by decide) (pf2 (by decide) s_0)), (pf1 (by decide) (pf2 (by decide) s_1)), (pf1 (by decide) (pf2 (by decide) s_5)), (pf1 (by decide) (pf2 (by decide) s_7)), (pf1 (by decide) (pf2 (by decide) s_10)), (put_get _ _ _ (by simp only [put_size]; rw [hsz]; decide))⟩ ?_
                clear hsz hdf s_0 s_1 s_5 s_7 s_10 s_13 s_170
                rintro a _ ⟨rfl, hsz, hdf, s_0, s_1, s_5, s_7, s_10, s_13⟩
                have hj8 : j < 8 := by have h := hb_54; simp only [decide_eq_true_eq] at h; omega
                exact ow_then (hK52 _ _ _ (by omega) ⟨(j + 1), rfl, (by omega), hsz, hdf, s_0, s_1, s_5, s_7, s_10, (by first | exact s_13 | (rw [s_13]; congr 2; first | rfl | omega | (push_cast; omega)) | (rw [s_13]; first | rfl | (simp; try omega))), hbN78, rN79, fN81, fN82⟩)
              · skip
                refine ow_false (eval_of (flag_of s_114 hb_64)) ?_
                refine wp_seq ?_
                refine ow_region [_, _] rfl (by intro o ho; simp only [List.mem_cons, List.not_mem_nil, or_false] at ho; rcases ho with rfl | rfl <;> rfl) ?_
                refine ow_run 121 (.bool (((j : Nat) : Int) == 1)) _ rfl (run_binOp (eval_of s_113) (eval_cst _ _) (eqInt _ _ _ _ _) (intEq _ _ _)) ?_
                refine ow_run 120 (.bool (((j : Nat) : Int) == 1)) _ rfl (run_assignOp (eval_of (put_get _ _ _ (by rw [hsz]; decide)))) ?_
                refine fresh (C := fun x W => wpRun _ [] x W _) (fun x X => _ = X ∧ x.tmps.size = 202 ∧ x.defers = [] ∧ x.tmps[0]? = some (.slice ao L.length cap) ∧ x.tmps[1]? = some (.int .i64 kk) ∧ x.tmps[5]? = some (.int .i64 ((k : Nat) : Int)) ∧ x.tmps[7]? = some (.slice (some ⟨b1, o1, none⟩) (enc m).length c1) ∧ x.tmps[10]? = some (.pointer (some ⟨q41, 0, none⟩)) ∧ x.tmps[13]? = some (.int .i64 ((j : Nat) : Int)) ∧ x.tmps[14]? = some (.pointer (some ⟨q58, 0, none⟩)) ∧ x.tmps[113]? = some (.int .i64 ((j : Nat) : Int)) ∧ x.tmps[120]? = some (.bool (((j : Nat) : Int) == 1))) ⟨rfl, (by simp only [put_size]; exact hsz), (by simp only [put_defers]; exact hdf), (pf2 (by decide) s_0), (pf2 (by decide) s_1), (pf2 (by decide) s_5), (pf2 (by decide) s_7), (pf2 (by decide) s_10), (pf2 (by decide) s_13), (pf2 (by decide) s_14), (pf2 (by decide) s_113), (put_get _ _ _ (by simp only [put_size]; rw [hsz]; decide))⟩ ?_
                clear hsz hdf s_0 s_1 s_5 s_7 s_10 s_13 s_14 s_113 s_114
                rintro a _ ⟨rfl, hsz, hdf, s_0, s_1, s_5, s_7, s_10, s_13, s_14, s_113, s_120⟩
                refine ow_then ?_
                rcases Bool.eq_false_or_eq_true ((((j : Nat) : Int) == 1)) with hb_87 | hb_87
                · skip
                  refine ow_true (eval_of (flag_of s_120 hb_87)) ?_
                  refine ow_region [_, _, _, _, _] rfl (by intro o ho; simp only [List.mem_cons, List.not_mem_nil, or_false] at ho; rcases ho with rfl | rfl | rfl | rfl | rfl <;> rfl) ?_
                  refine ow_run 122 (.pointer (some ⟨q58, 19, none⟩)) _ rfl (run_fieldAddr (eval_of s_14) (by simp [go_sem, Instr.fieldAt])) ?_
                  refine ow_run 123 (.string m.top) _ rfl (run_loadOp (eval_of (put_get _ _ _ (by rw [hsz]; decide))) (by simp [go_sem, Instr.loadAt, rW60_1.cell (j := 19) rfl])) ?_
                  refine ow_run 124 (.string (m.top ++ ⟨#[(35 : UInt8)]⟩)) _ rfl (run_binOp (eval_of (put_get _ _ _ (by simp only [put_size]; rw [hsz]; decide))) (eval_cst _ _) (by simp [go_sem]) (strAdd _ _ _ hsTop)) ?_
                  refine ow_run 125 (.pointer (some ⟨q58, 19, none⟩)) _ rfl (run_fieldAddr (eval_of (pf1 (by decide) (pf2 (by decide) s_14))) (by simp [go_sem, Instr.fieldAt])) ?_
                  refine ow_skip _ rfl (run_storeOp (eval_of (put_get _ _ _ (by simp only [put_size]; rw [hsz]; decide))) (eval_of (pf1 (by decide) (put_get _ _ _ (by simp only [put_size]; rw [hsz]; decide)))) (run_store1 rW60_1 (by simp) (by kernel_rfl) rfl)) ?_
                  refine fresh (C := fun x W => wpRun _ _ x W _) (fun x X => _ = x ∧ Below w.heap.size w X ∧ RowAt X q41 (Mq.row m (.slice ac2 nc2 cc2) (.slice aw2 nw2 cw2) (.slice af2 nf2 cf2)) ∧ RowAt X q58 (Mq.row ({ m with top := (m.top ++ ⟨#[(35 : UInt8)]⟩) } : Mq) (.slice ac3 m.cs.length cc3) (.slice aw3 m.ws.length cw3) (.slice af3 m.fs.length cf3)) ∧ Below V23.heap.size V23 X ∧ Below V39.heap.size V39 X ∧ Below V56.heap.size V56 X) ⟨rfl, (below_set1 hbW60 (by omega)), (rW60_0.other (by omega)), (rW60_1.set1 19 _ (by simp)), (below_set1 fW60_0 (by omega)), (below_set1 fW60_1 (by omega)), (below_set1 fW60_2 (by omega))⟩ ?_
                  rintro _ W88 ⟨rfl, hbW88, rW88_0, rW88_1, fW88_0, fW88_1, fW88_2⟩
                  refine fresh (C := fun x W => wpRun _ [] x W _) (fun x X => _ = X ∧ x.tmps.size = 202 ∧ x.defers = [] ∧ x.tmps[0]? = some (.slice ao L.length cap) ∧ x.tmps[1]? = some (.int .i64 kk) ∧ x.tmps[5]? = some (.int .i64 ((k : Nat) : Int)) ∧ x.tmps[7]? = some (.slice (some ⟨b1, o1, none⟩) (enc m).length c1) ∧ x.tmps[10]? = some (.pointer (some ⟨q41, 0, none⟩)) ∧ x.tmps[13]? = some (.int .i64 ((j : Nat) : Int)) ∧ x.tmps[14]? = some (.pointer (some ⟨q58, 0, none⟩))) ⟨rfl, (by simp only [put_size]; exact hsz), (by simp only [put_defers]; exact hdf), (pf4 (by decide) s_0), (pf4 (by decide) s_1), (pf4 (by decide) s_5), (pf4 (by decide) s_7), (pf4 (by decide) s_10), (pf4 (by decide) s_13), (pf4 (by decide) s_14)⟩ ?_
                  clear hsz hdf s_0 s_1 s_5 s_7 s_10 s_13 s_14 s_113 s_120
                  rintro a _ ⟨rfl, hsz, hdf, s_0, s_1, s_5, s_7, s_10, s_13, s_14⟩
                  refine ow_blk _ ?_
                  refine ow_then ?_
                  refine wp_seq ?_
                  refine ah_region (fun W => Below w.heap.size w W ∧ RowAt W q41 (Mq.row m (.slice ac2 nc2 cc2) (.slice aw2 nw2 cw2) (.slice af2 nf2 cf2)) ∧ RowAt W q58 (Mq.row ({ m with top := (m.top ++ ⟨#[(35 : UInt8)]⟩) } : Mq) (.slice ac3 m.cs.length cc3) (.slice aw3 m.ws.length cw3) (.slice af3 m.fs.length cf3)) ∧ Below V23.heap.size V23 W ∧ Below V39.heap.size V39 W ∧ Below V56.heap.size V56 W) (by kernel_rfl) 7 rfl ?_
                  refine fresh (C := fun x W => AH _ _ _ _ _ _ x W) (fun x X => _ = x ∧ Below w.heap.size w X ∧ RowAt X q41 (Mq.row m (.slice ac2 nc2 cc2) (.slice aw2 nw2 cw2) (.slice af2 nf2 cf2)) ∧ RowAt X q58 (Mq.row ({ m with top := (m.top ++ ⟨#[(35 : UInt8)]⟩) } : Mq) (.slice ac3 m.cs.length cc3) (.slice aw3 m.ws.length cw3) (.slice af3 m.fs.length cf3)) ∧ Below V23.heap.size V23 X ∧ Below V39.heap.size V39 X ∧ Below V56.heap.size V56 X) ⟨rfl, (hbW88.trans (((Below.refl _ W88).drew).mono hbW88.size)), (rW88_0.below ((Below.refl _ W88).drew)), (rW88_1.below ((Below.refl _ W88).drew)), (fW88_0.trans (((Below.refl _ W88).drew).mono fW88_0.size)), (fW88_1.trans (((Below.refl _ W88).drew).mono fW88_1.size)), (fW88_2.trans (((Below.refl _ W88).drew).mono fW88_2.size))⟩ ?_
                  rintro _ W90 ⟨rfl, hbW90, rW90_0, rW90_1, fW90_0, fW90_1, fW90_2⟩
                  refine ah_takeW 0 164 (.agg (Mq.row ({ m with top := (m.top ++ ⟨#[(35 : UInt8)]⟩) } : Mq) (.slice ac3 m.cs.length cc3) (.slice aw3 m.ws.length cw3) (.slice af3 m.fs.length cf3)).toArray) rfl (wanted_none rfl) rfl (by kernel_rfl) (by kernel_rfl) (by kernel_rfl) (fun _ _ _ h => h) ⟨hbW90, rW90_0, rW90_1, fW90_0, fW90_1, fW90_2⟩ (fun W hW => by (try obtain ⟨hbW90, rW90_0, rW90_1, fW90_0, fW90_1, fW90_2⟩ := hW); exact (run_loadOp (eval_of s_14) (run_loadN [.int .i64 m.k, .string m.cl, .bool m.clean, .int .i64 m.keep, .bool m.wI, .string m.wT, .string m.wP, .int .i64 m.wQ, .bool m.wR, .string m.us, .bool m.hu, .string m.pa, .bool m.hp, .bool m.pres, .int .i64 m.code, .slice ac3 m.cs.length cc3, .bool m.dup, .int .i64 m.q, .bool m.re, .string (m.top ++ ⟨#[(35 : UInt8)]⟩), .int .i64 m.id, .string m.pay, .slice aw3 m.ws.length cw3, .slice af3 m.fs.length cf3] rW90_1 (fun j v hj => by simpa using hj) Tryd.underlying30 rfl (by kernel_rfl)))) ?_
                  refine ah_takeW 4 168 (.agg (Mq.row ({ m with top := (m.top ++ ⟨#[(35 : UInt8)]⟩) } : Mq) (.slice ac3 m.cs.length cc3) (.slice aw3 m.ws.length cw3) (.slice af3 m.fs.length cf3)).toArray) rfl (wanted_none rfl) rfl (by kernel_rfl) (by kernel_rfl) (by kernel_rfl) (fun _ _ _ h => h) ⟨hbW90, rW90_0, rW90_1, fW90_0, fW90_1, fW90_2⟩ (fun W hW => by (try obtain ⟨hbW90, rW90_0, rW90_1, fW90_0, fW90_1, fW90_2⟩ := hW); exact (run_loadOp (eval_of (pf1 (by decide) s_14)) (run_loadN [.int .i64 m.k, .string m.cl, .bool m.clean, .int .i64 m.keep, .bool m.wI, .string m.wT, .string m.wP, .int .i64 m.wQ, .bool m.wR, .string m.us, .bool m.hu, .string m.pa, .bool m.hp, .bool m.pres, .int .i64 m.code, .slice ac3 m.cs.length cc3, .bool m.dup, .int .i64 m.q, .bool m.re, .string (m.top ++ ⟨#[(35 : UInt8)]⟩), .int .i64 m.id, .string m.pay, .slice aw3 m.ws.length cw3, .slice af3 m.fs.length cf3] rW90_1 (fun j v hj => by simpa using hj) Tryd.underlying30 rfl (by kernel_rfl)))) ?_
                  refine ah_one 1 (by kernel_rfl) ?_
                  refine ao_call rfl (wanted_none rfl) 165 (fun v X => v = .int .i64 (if mayB ({ m with top := m.top ++ ⟨#[(35 : UInt8)]⟩ } : Mq) = true then (0 : Int) else 1) ∧ Below W90.heap.size W90 X) rfl _ _ (run_callOp Tryd.func34 rfl rfl (arr1 (eval_of (pf1 (by decide) (put_get _ _ _ (by rw [hsz]; decide)))))) ((K.out.check ({ m with top := m.top ++ ⟨#[(35 : UInt8)]⟩ } : Mq) _ _ _ W90 hk (near_top HNe.out 35) (lists_mod (HOw.out.below fW90_2).lists)).mono fun e X h => ⟨_, h.1, rfl, h.2⟩) ?_
                  rintro _ V92 ⟨rfl, hb91⟩
                  have hbN := (hbW90.trans (hb91.mono hbW90.size))
                  have hbN93 := hbN
                  have rN94 := (rW90_0.below hb91)
                  have rN95 := (rW90_1.below hb91)
                  have fN96 := (fW90_0.trans (hb91.mono fW90_0.size))
                  have fN97 := (fW90_1.trans (hb91.mono fW90_1.size))
                  have fN98 := (fW90_2.trans (hb91.mono fW90_2.size))
                  refine ⟨⟨hbN93, rN94, rN95, fN96, fN97, fN98⟩, ?_⟩
                  refine ah_one 2 (by kernel_rfl) ?_
                  refine ao_call rfl (wanted_none rfl) 166 (fun v X => v = (.int .i64 (if mayB ({ m with top := m.top ++ ⟨#[(35 : UInt8)]⟩ } : Mq) = true then (0 : Int) else 1)) ∧ V92 = X) rfl _ _ (run_callOp Tryd.func26 rfl rfl (arr1 (eval_of (put_get _ _ _ (by simp only [put_size]; rw [hsz]; decide))))) ((num18_any _ _).mono fun e X h => ⟨_, h.1, rfl, h.2⟩) ?_
                  rintro _ _ ⟨rfl, rfl⟩
                  refine ⟨⟨hbN93, rN94, rN95, fN96, fN97, fN98⟩, ?_⟩
                  refine ah_takeW 3 167 (.bool (mayB ({ m with top := m.top ++ ⟨#[(35 : UInt8)]⟩ } : Mq))) rfl (wanted_none rfl) rfl (by kernel_rfl) (by kernel_rfl) (by kernel_rfl) (fun _ _ _ h => h) ⟨hbN93, rN94, rN95, fN96, fN97, fN98⟩ (fun W hW => by (try obtain ⟨hbN93, rN94, rN95, fN96, fN97, fN98⟩ := hW); exact (run_binOp (eval_of (put_get _ _ _ (by simp only [put_size]; rw [hsz]; decide))) (eval_cst _ _) (by simp [go_sem]) (ifEq0 _ _))) ?_
                  refine ah_one 5 (by kernel_rfl) ?_
                  refine ao_call rfl (wanted_none rfl) 169 (fun v X => v = .bool (mayB ({ m with top := m.top ++ ⟨#[(35 : UInt8)]⟩ } : Mq)) ∧ Below V92.heap.size V92 X) rfl _ _ (run_callOp Tryd.func33 rfl rfl (arr1 (eval_of (pf1 (by decide) (pf2 (by decide) (put_get _ _ _ (by simp only [put_size]; rw [hsz]; decide))))))) ((K.out.may ({ m with top := m.top ++ ⟨#[(35 : UInt8)]⟩ } : Mq) _ _ _ V92 hk (near_top HNe.out 35) (lists_mod (HOw.out.below fN98).lists)).mono fun e X h => ⟨_, h.1, rfl, h.2⟩) ?_
                  rintro _ V100 ⟨rfl, hb99⟩
                  have hbN := (hbN93.trans (hb99.mono hbN93.size))
                  have hbN101 := hbN
                  have rN102 := (rN94.below hb99)
                  have rN103 := (rN95.below hb99)
                  have fN104 := (fN96.trans (hb99.mono fN96.size))
                  have fN105 := (fN97.trans (hb99.mono fN97.size))
                  have fN106 := (fN98.trans (hb99.mono fN98.size))
                  refine ⟨⟨hbN101, rN102, rN103, fN104, fN105, fN106⟩, ?_⟩
                  refine ah_takeW 6 170 (.bool false) rfl (wanted_none rfl) rfl (by kernel_rfl) (by kernel_rfl) (by kernel_rfl) (fun _ _ _ h => h) ⟨hbN101, rN102, rN103, fN104, fN105, fN106⟩ (fun W hW => by (try obtain ⟨hbN101, rN102, rN103, fN104, fN105, fN106⟩ := hW); exact (run_binOp (eval_of (pf1 (by decide) (put_get _ _ _ (by simp only [put_size]; rw [hsz]; decide)))) (eval_of (put_get _ _ _ (by simp only [put_size]; rw [hsz]; decide))) (by simp [go_sem]) (boolNe_self _ _))) ?_
                  refine fresh (C := fun x W => AH _ _ _ _ _ _ x W) (fun x X => _ = X ∧ x.tmps.size = 202 ∧ x.defers = [] ∧ x.tmps[0]? = some (.slice ao L.length cap) ∧ x.tmps[1]? = some (.int .i64 kk) ∧ x.tmps[5]? = some (.int .i64 ((k : Nat) : Int)) ∧ x.tmps[7]? = some (.slice (some ⟨b1, o1, none⟩) (enc m).length c1) ∧ x.tmps[10]? = some (.pointer (some ⟨q41, 0, none⟩)) ∧ x.tmps[13]? = some (.int .i64 ((j : Nat) : Int)) ∧ x.tmps[170]? = some (.bool false)) ⟨rfl, (by simp only [put_size]; exact hsz), (by simp only [put_defers]; exact hdf), (pf1 (by decide) (pf2 (by decide) (pf4 (by decide) s_0))), (pf1 (by decide) (pf2 (by decide) (pf4 (by decide) s_1))), (pf1 (by decide) (pf2 (by decide) (pf4 (by decide) s_5))), (pf1 (by decide) (pf2 (by decide) (pf4 (by decide) s_7))), (pf1 (by decide) (pf2 (by decide) (pf4 (by decide) s_10))), (pf1 (by decide) (pf2 (by decide) (pf4 (by decide) s_13))), (put_get _ _ _ (by simp only [put_size]; rw [hsz]; decide))⟩ ?_
                  clear hsz hdf s_0 s_1 s_5 s_7 s_10 s_13 s_14
                  rintro a _ ⟨rfl, hsz, hdf, s_0, s_1, s_5, s_7, s_10, s_13, s_170⟩
                  refine ah_done (by kernel_rfl) ?_
                  refine ow_then ?_
                  refine ow_false (eval_of s_170) ?_
                  refine wp_skip ?_
                  refine ow_blk _ ?_
                  refine ow_then ?_
                  refine ow_region [_, _, _] rfl (by intro o ho; simp only [List.mem_cons, List.not_mem_nil, or_false] at ho; rcases ho with rfl | rfl | rfl <;> rfl) ?_
                  refine ow_run 109 (.int .i64 ((j : Nat) : Int)) _ rfl (run_moveOp (eval_of s_13)) ?_
                  refine ow_run 110 (.int .i64 (((j : Nat) : Int) + 1)) _ rfl (run_binOp (eval_of (put_get _ _ _ (by rw [hsz]; decide))) (eval_cst _ _) (by simp [go_sem]) (addI _ _ _ (by omega) (by omega))) ?_
                  refine ow_run 13 (.int .i64 (((j : Nat) : Int) + 1)) _ rfl (run_assignOp (eval_of (put_get _ _ _ (by simp only [put_size]; rw [hsz]; decide)))) ?_
                  refine fresh (C := fun x W => wpRun _ [] x W _) (fun x X => _ = X ∧ x.tmps.size = 202 ∧ x.defers = [] ∧ x.tmps[0]? = some (.slice ao L.length cap) ∧ x.tmps[1]? = some (.int .i64 kk) ∧ x.tmps[5]? = some (.int .i64 ((k : Nat) : Int)) ∧ x.tmps[7]? = some (.slice (some ⟨b1, o1, none⟩) (enc m).length c1) ∧ x.tmps[10]? = some (.pointer (some ⟨q41, 0, none⟩)) ∧ x.tmps[13]? = some (.int .i64 (((j : Nat) : Int) + 1))) ⟨rfl, (by simp only [put_size]; exact hsz), (by simp only [put_defers]; exact hdf), (pf1 (by decide) (pf2 (by decide) s_0)), (pf1 (by decide) (pf2 (by decide) s_1)), (pf1 (by decide) (pf2 (by decide) s_5)), (pf1 (by decide) (pf2 (by decide) s_7)), (pf1 (by decide) (pf2 (by decide) s_10)), (put_get _ _ _ (by simp only [put_size]; rw [hsz]; decide))⟩ ?_
                  clear hsz hdf s_0 s_1 s_5 s_7 s_10 s_13 s_170
                  rintro a _ ⟨rfl, hsz, hdf, s_0, s_1, s_5, s_7, s_10, s_13⟩
                  have hj8 : j < 8 := by have h := hb_54; simp only [decide_eq_true_eq] at h; omega
                  exact ow_then (hK52 _ _ _ (by omega) ⟨(j + 1), rfl, (by omega), hsz, hdf, s_0, s_1, s_5, s_7, s_10, (by first | exact s_13 | (rw [s_13]; congr 2; first | rfl | omega | (push_cast; omega)) | (rw [s_13]; first | rfl | (simp; try omega))), hbN101, rN102, fN104, fN105⟩)
                · skip
                  refine ow_false (eval_of (flag_of s_120 hb_87)) ?_
                  refine wp_seq ?_
                  refine ow_region [_, _] rfl (by intro o ho; simp only [List.mem_cons, List.not_mem_nil, or_false] at ho; rcases ho with rfl | rfl <;> rfl) ?_
                  refine ow_run 127 (.bool (((j : Nat) : Int) == 2)) _ rfl (run_binOp (eval_of s_113) (eval_cst _ _) (eqInt _ _ _ _ _) (intEq _ _ _)) ?_
                  refine ow_run 126 (.bool (((j : Nat) : Int) == 2)) _ rfl (run_assignOp (eval_of (put_get _ _ _ (by rw [hsz]; decide)))) ?_
                  refine fresh (C := fun x W => wpRun _ [] x W _) (fun x X => _ = X ∧ x.tmps.size = 202 ∧ x.defers = [] ∧ x.tmps[0]? = some (.slice ao L.length cap) ∧ x.tmps[1]? = some (.int .i64 kk) ∧ x.tmps[5]? = some (.int .i64 ((k : Nat) : Int)) ∧ x.tmps[7]? = some (.slice (some ⟨b1, o1, none⟩) (enc m).length c1) ∧ x.tmps[10]? = some (.pointer (some ⟨q41, 0, none⟩)) ∧ x.tmps[13]? = some (.int .i64 ((j : Nat) : Int)) ∧ x.tmps[14]? = some (.pointer (some ⟨q58, 0, none⟩)) ∧ x.tmps[113]? = some (.int .i64 ((j : Nat) : Int)) ∧ x.tmps[126]? = some (.bool (((j : Nat) : Int) == 2))) ⟨rfl, (by simp only [put_size]; exact hsz), (by simp only [put_defers]; exact hdf), (pf2 (by decide) s_0), (pf2 (by decide) s_1), (pf2 (by decide) s_5), (pf2 (by decide) s_7), (pf2 (by decide) s_10), (pf2 (by decide) s_13), (pf2 (by decide) s_14), (pf2 (by decide) s_113), (put_get _ _ _ (by simp only [put_size]; rw [hsz]; decide))⟩ ?_
                  clear hsz hdf s_0 s_1 s_5 s_7 s_10 s_13 s_14 s_113 s_120
                  rintro a _ ⟨rfl, hsz, hdf, s_0, s_1, s_5, s_7, s_10, s_13, s_14, s_113, s_126⟩
                  refine ow_then ?_
                  rcases Bool.eq_false_or_eq_true ((((j : Nat) : Int) == 2)) with hb_110 | hb_110
                  · skip
                    refine ow_true (eval_of (flag_of s_126 hb_110)) ?_
                    refine ow_region [_, _, _, _, _, _] rfl (by intro o ho; simp only [List.mem_cons, List.not_mem_nil, or_false] at ho; rcases ho with rfl | rfl | rfl | rfl | rfl | rfl <;> rfl) ?_
                    refine ow_run 128 (.pointer (some ⟨q58, 15, none⟩)) _ rfl (run_fieldAddr (eval_of s_14) (by simp [go_sem, Instr.fieldAt])) ?_
                    refine ow_run 129 (.slice ac3 m.cs.length cc3) _ rfl (run_loadOp (eval_of (put_get _ _ _ (by rw [hsz]; decide))) (by simp [go_sem, Instr.loadAt, rW60_1.cell (j := 15) rfl])) ?_
                    obtain ⟨q111, hq111⟩ : ∃ x, x = W60.heap.size := ⟨_, rfl⟩
                    refine ow_run 130 (.slice (some ⟨q111, 0, none⟩) 1 1) (W60.alloc (.cells #[.int .i64 3] 3)) rfl (by rw [hq111]; exact (run_buildInt1 (eval_cst _ _))) ?_
                    have hqq111 : w.heap.size ≤ q111 := by rw [hq111]; exact hbW60.size
                    have hqq111_V23 : V23.heap.size ≤ q111 := by rw [hq111]; exact fW60_0.size
                    have hqq111_V39 : V39.heap.size ≤ q111 := by rw [hq111]; exact fW60_1.size
                    have hqq111_V56 : V56.heap.size ≤ q111 := by rw [hq111]; exact fW60_2.size
                    have hnq111_q41 : q41 < q111 := by rw [hq111]; exact rW60_0.2.2
                    have hnq111_q58 : q58 < q111 := by rw [hq111]; exact rW60_1.2.2
                    refine fresh (C := fun x W => wpRun _ _ x W _) (fun x X => _ = x ∧ Below w.heap.size w X ∧ RowAt X q41 (Mq.row m (.slice ac2 nc2 cc2) (.slice aw2 nw2 cw2) (.slice af2 nf2 cf2)) ∧ RowAt X q58 (Mq.row m (.slice ac3 m.cs.length cc3) (.slice aw3 m.ws.length cw3) (.slice af3 m.fs.length cf3)) ∧ RowAt X q111 [.int .i64 3] ∧ Below V23.heap.size V23 X ∧ Below V39.heap.size V39 X ∧ Below V56.heap.size V56 X) ⟨rfl, (hbW60.alloc hbW60.size _), (rW60_0.below ((Below.refl _ W60).alloc (Nat.le_refl _) _)), (rW60_1.below ((Below.refl _ W60).alloc (Nat.le_refl _) _)), (by rw [hq111]; exact rowAt_alloc _ [.int .i64 3] _), (fW60_0.trans (((Below.refl _ W60).alloc (Nat.le_refl _) _).mono fW60_0.size)), (fW60_1.trans (((Below.refl _ W60).alloc (Nat.le_refl _) _).mono fW60_1.size)), (fW60_2.trans (((Below.refl _ W60).alloc (Nat.le_refl _) _).mono fW60_2.size))⟩ ?_
                    rintro _ W112 ⟨rfl, hbW112, rW112_0, rW112_1, rW112_2, fW112_0, fW112_1, fW112_2⟩
                    clear hq111
                    have hOw1 := HOw.out.below fW112_2
                    obtain ⟨i0, hi0, hz0, hz1, hz2⟩ := info_parts infoI64
                    refine ow_to 131 rfl (opTo_appendOwn _ _ 26 rfl W50.heap.size 3 i0 (.int .i64 0) 1 8 Tryd.underlying26 hi0 hz0 hz1 hz2 rfl (by decide) _ _ _ (eval_of (pf1 (by decide) (put_get _ _ _ (by simp only [put_size]; rw [hsz]; decide)))) hOw1.c ⟨q111, 0, none⟩ 1 1 [.int .i64 3] (eval_of (put_get _ _ _ (by simp only [put_size]; rw [hsz]; decide))) rfl (fun j u hj => by rw [addr_add0]; exact rW112_2.1 j u hj) (by intro u hu; simp at hu; rcases hu with rfl <;> rfl) (by have := hn1; unfold maxLen; omega) (by have := hn1; omega) (Nat.le_trans (Nat.le_of_lt_succ (Nat.lt_succ_of_le hV2y)) fW112_2.size)) ?_
                    rintro vz V113 ⟨hoz, hgz⟩
                    have hOz : MqOwn V113 W50.heap.size { m with cs := m.cs ++ [3] } vz (Value.slice aw3 m.ws.length cw3) (Value.slice af3 m.fs.length cf3) := hOw1.addC hoz hgz
                    have hnec : ∀ k, ((Value.slice ac3 m.cs.length cc3)).ownBlock = some k → k ≠ q58 := own_ne HOw.out.c (by omega)
                    have hnew : ∀ k, ((Value.slice aw3 m.ws.length cw3)).ownBlock = some k → k ≠ q58 := own_ne HOw.out.w (by omega)
                    have hnef : ∀ k, ((Value.slice af3 m.fs.length cf3)).ownBlock = some k → k ≠ q58 := own_ne HOw.out.f (by omega)
                    have hnez : ∀ k, vz.ownBlock = some k → k ≠ q58 := grew_ne hgz hnec rW112_1.2.2
                    have hbz : Below W50.heap.size W112 V113 := grew_below hgz (Nat.le_trans hV2y fW112_2.size) (fun k hk => (own_lt HOw.out.c hk).1)
                    have hr14 := rowAt_keep rW112_1 hgz.1 (fun he => hnec _ he.symm rfl)
                    obtain ⟨az, cz, rfl⟩ := own_slice hoz
                    have hr10 := rW112_0.low hbz (by omega)
                    have hbw := hbW112.trans (hbz.mono hws)
                    have hhVs4 := fW112_1.trans (hbz.mono hVs)
                    have hhbs4 := fW112_0.trans (hbz.mono hbs)
                    refine fresh (C := fun x W => wpRun _ _ x W _) (fun x X => _ = x ∧ Below w.heap.size w X ∧ RowAt X q41 (Mq.row m (.slice ac2 nc2 cc2) (.slice aw2 nw2 cw2) (.slice af2 nf2 cf2)) ∧ RowAt X q58 (Mq.row m (.slice ac3 m.cs.length cc3) (.slice aw3 m.ws.length cw3) (.slice af3 m.fs.length cf3)) ∧ Below V39.heap.size V39 X ∧ Below V23.heap.size V23 X ∧ MqOwn X W50.heap.size ({ m with cs := m.cs ++ [3] } : Mq) (.slice az (m.cs.length + 1) cz) (Value.slice aw3 m.ws.length cw3) (Value.slice af3 m.fs.length cf3)) ⟨rfl, hbw, hr10, hr14, hhVs4, hhbs4, hOz⟩ ?_
                    rintro _ W114 ⟨rfl, hbW114, rW114_0, rW114_1, fW114_0, fW114_1, fW114_2⟩
                    refine ow_run 132 (.pointer (some ⟨q58, 15, none⟩)) _ rfl (run_fieldAddr (eval_of (pf4 (by decide) s_14)) (by simp [go_sem, Instr.fieldAt])) ?_
                    refine ow_skip _ rfl (run_storeOp (eval_of (put_get _ _ _ (by simp only [put_size]; rw [hsz]; decide))) (eval_of (pf1 (by decide) (put_get _ _ _ (by simp only [put_size]; rw [hsz]; decide)))) (run_store1 rW114_1 (by simp) (by kernel_rfl) rfl)) ?_
                    refine fresh (C := fun x W => wpRun _ _ x W _) (fun x X => _ = x ∧ Below w.heap.size w X ∧ RowAt X q41 (Mq.row m (.slice ac2 nc2 cc2) (.slice aw2 nw2 cw2) (.slice af2 nf2 cf2)) ∧ RowAt X q58 (Mq.row m (.slice az (m.cs.length + 1) cz) (.slice aw3 m.ws.length cw3) (.slice af3 m.fs.length cf3)) ∧ Below V39.heap.size V39 X ∧ Below V23.heap.size V23 X ∧ MqOwn X W50.heap.size ({ m with cs := m.cs ++ [3] } : Mq) (.slice az (m.cs.length + 1) cz) (Value.slice aw3 m.ws.length cw3) (Value.slice af3 m.fs.length cf3)) ⟨rfl, (below_set1 hbW114 (by omega)), (rW114_0.other (by omega)), (rW114_1.set1 15 _ (by simp)), (below_set1 fW114_0 (by omega)), (below_set1 fW114_1 (by omega)), (fW114_2.set1 hnez hnew hnef)⟩ ?_
                    rintro _ W115 ⟨rfl, hbW115, rW115_0, rW115_1, fW115_0, fW115_1, fW115_2⟩
                    refine fresh (C := fun x W => wpRun _ [] x W _) (fun x X => _ = X ∧ x.tmps.size = 202 ∧ x.defers = [] ∧ x.tmps[0]? = some (.slice ao L.length cap) ∧ x.tmps[1]? = some (.int .i64 kk) ∧ x.tmps[5]? = some (.int .i64 ((k : Nat) : Int)) ∧ x.tmps[7]? = some (.slice (some ⟨b1, o1, none⟩) (enc m).length c1) ∧ x.tmps[10]? = some (.pointer (some ⟨q41, 0, none⟩)) ∧ x.tmps[13]? = some (.int .i64 ((j : Nat) : Int)) ∧ x.tmps[14]? = some (.pointer (some ⟨q58, 0, none⟩))) ⟨rfl, (by simp only [put_size]; exact hsz), (by simp only [put_defers]; exact hdf), (pf1 (by decide) (pf4 (by decide) s_0)), (pf1 (by decide) (pf4 (by decide) s_1)), (pf1 (by decide) (pf4 (by decide) s_5)), (pf1 (by decide) (pf4 (by decide) s_7)), (pf1 (by decide) (pf4 (by decide) s_10)), (pf1 (by decide) (pf4 (by decide) s_13)), (pf1 (by decide) (pf4 (by decide) s_14))⟩ ?_
                    clear hsz hdf s_0 s_1 s_5 s_7 s_10 s_13 s_14 s_113 s_126
                    rintro a _ ⟨rfl, hsz, hdf, s_0, s_1, s_5, s_7, s_10, s_13, s_14⟩
                    refine ow_blk _ ?_
                    refine ow_then ?_
                    refine wp_seq ?_
                    refine ah_region (fun W => Below w.heap.size w W ∧ RowAt W q41 (Mq.row m (.slice ac2 nc2 cc2) (.slice aw2 nw2 cw2) (.slice af2 nf2 cf2)) ∧ RowAt W q58 (Mq.row m (.slice az (m.cs.length + 1) cz) (.slice aw3 m.ws.length cw3) (.slice af3 m.fs.length cf3)) ∧ Below V39.heap.size V39 W ∧ Below V23.heap.size V23 W ∧ MqOwn W W50.heap.size ({ m with cs := m.cs ++ [3] } : Mq) (.slice az (m.cs.length + 1) cz) (Value.slice aw3 m.ws.length cw3) (Value.slice af3 m.fs.length cf3)) (by kernel_rfl) 7 rfl ?_
                    refine fresh (C := fun x W => AH _ _ _ _ _ _ x W) (fun x X => _ = x ∧ Below w.heap.size w X ∧ RowAt X q41 (Mq.row m (.slice ac2 nc2 cc2) (.slice aw2 nw2 cw2) (.slice af2 nf2 cf2)) ∧ RowAt X q58 (Mq.row m (.slice az (m.cs.length + 1) cz) (.slice aw3 m.ws.length cw3) (.slice af3 m.fs.length cf3)) ∧ Below V39.heap.size V39 X ∧ Below V23.heap.size V23 X ∧ MqOwn X W50.heap.size ({ m with cs := m.cs ++ [3] } : Mq) (.slice az (m.cs.length + 1) cz) (Value.slice aw3 m.ws.length cw3) (Value.slice af3 m.fs.length cf3)) ⟨rfl, (hbW115.trans (((Below.refl _ W115).drew).mono hbW115.size)), (rW115_0.below ((Below.refl _ W115).drew)), (rW115_1.below ((Below.refl _ W115).drew)), (fW115_0.trans (((Below.refl _ W115).drew).mono fW115_0.size)), (fW115_1.trans (((Below.refl _ W115).drew).mono fW115_1.size)), (fW115_2.below ((Below.refl _ W115).drew))⟩ ?_
                    rintro _ W117 ⟨rfl, hbW117, rW117_0, rW117_1, fW117_0, fW117_1, fW117_2⟩
                    refine ah_takeW 0 164 (.agg (Mq.row m (.slice az (m.cs.length + 1) cz) (.slice aw3 m.ws.length cw3) (.slice af3 m.fs.length cf3)).toArray) rfl (wanted_none rfl) rfl (by kernel_rfl) (by kernel_rfl) (by kernel_rfl) (fun _ _ _ h => h) ⟨hbW117, rW117_0, rW117_1, fW117_0, fW117_1, fW117_2⟩ (fun W hW => by (try obtain ⟨hbW117, rW117_0, rW117_1, fW117_0, fW117_1, fW117_2⟩ := hW); exact (run_loadOp (eval_of s_14) (run_loadN [.int .i64 m.k, .string m.cl, .bool m.clean, .int .i64 m.keep, .bool m.wI, .string m.wT, .string m.wP, .int .i64 m.wQ, .bool m.wR, .string m.us, .bool m.hu, .string m.pa, .bool m.hp, .bool m.pres, .int .i64 m.code, .slice az (m.cs.length + 1) cz, .bool m.dup, .int .i64 m.q, .bool m.re, .string m.top, .int .i64 m.id, .string m.pay, .slice aw3 m.ws.length cw3, .slice af3 m.fs.length cf3] rW117_1 (fun j v hj => by simpa using hj) Tryd.underlying30 rfl (by kernel_rfl)))) ?_
                    refine ah_takeW 4 168 (.agg (Mq.row m (.slice az (m.cs.length + 1) cz) (.slice aw3 m.ws.length cw3) (.slice af3 m.fs.length cf3)).toArray) rfl (wanted_none rfl) rfl (by kernel_rfl) (by kernel_rfl) (by kernel_rfl) (fun _ _ _ h => h) ⟨hbW117, rW117_0, rW117_1, fW117_0, fW117_1, fW117_2⟩ (fun W hW => by (try obtain ⟨hbW117, rW117_0, rW117_1, fW117_0, fW117_1, fW117_2⟩ := hW); exact (run_loadOp (eval_of (pf1 (by decide) s_14)) (run_loadN [.int .i64 m.k, .string m.cl, .bool m.clean, .int .i64 m.keep, .bool m.wI, .string m.wT, .string m.wP, .int .i64 m.wQ, .bool m.wR, .string m.us, .bool m.hu, .string m.pa, .bool m.hp, .bool m.pres, .int .i64 m.code, .slice az (m.cs.length + 1) cz, .bool m.dup, .int .i64 m.q, .bool m.re, .string m.top, .int .i64 m.id, .string m.pay, .slice aw3 m.ws.length cw3, .slice af3 m.fs.length cf3] rW117_1 (fun j v hj => by simpa using hj) Tryd.underlying30 rfl (by kernel_rfl)))) ?_
                    refine ah_one 1 (by kernel_rfl) ?_
                    refine ao_call rfl (wanted_none rfl) 165 (fun v X => v = .int .i64 (if mayB ({ m with cs := m.cs ++ [3] } : Mq) = true then (0 : Int) else 1) ∧ Below W117.heap.size W117 X) rfl _ _ (run_callOp Tryd.func34 rfl rfl (arr1 (eval_of (pf1 (by decide) (put_get _ _ _ (by rw [hsz]; decide)))))) ((K.out.check ({ m with cs := m.cs ++ [3] } : Mq) _ _ _ W117 hk (near_cs HNe.out 3) fW117_2.lists).mono fun e X h => ⟨_, h.1, rfl, h.2⟩) ?_
                    rintro _ V119 ⟨rfl, hb118⟩
                    have hbN := (hbW117.trans (hb118.mono hbW117.size))
                    have hbN120 := hbN
                    have rN121 := (rW117_0.below hb118)
                    have rN122 := (rW117_1.below hb118)
                    have fN123 := (fW117_0.trans (hb118.mono fW117_0.size))
                    have fN124 := (fW117_1.trans (hb118.mono fW117_1.size))
                    have fN125 := (fW117_2.below hb118)
                    refine ⟨⟨hbN120, rN121, rN122, fN123, fN124, fN125⟩, ?_⟩
                    refine ah_one 2 (by kernel_rfl) ?_
                    refine ao_call rfl (wanted_none rfl) 166 (fun v X => v = (.int .i64 (if mayB ({ m with cs := m.cs ++ [3] } : Mq) = true then (0 : Int) else 1)) ∧ V119 = X) rfl _ _ (run_callOp Tryd.func26 rfl rfl (arr1 (eval_of (put_get _ _ _ (by simp only [put_size]; rw [hsz]; decide))))) ((num18_any _ _).mono fun e X h => ⟨_, h.1, rfl, h.2⟩) ?_
                    rintro _ _ ⟨rfl, rfl⟩
                    refine ⟨⟨hbN120, rN121, rN122, fN123, fN124, fN125⟩, ?_⟩
                    refine ah_takeW 3 167 (.bool (mayB ({ m with cs := m.cs ++ [3] } : Mq))) rfl (wanted_none rfl) rfl (by kernel_rfl) (by kernel_rfl) (by kernel_rfl) (fun _ _ _ h => h) ⟨hbN120, rN121, rN122, fN123, fN124, fN125⟩ (fun W hW => by (try obtain ⟨hbN120, rN121, rN122, fN123, fN124, fN125⟩ := hW); exact (run_binOp (eval_of (put_get _ _ _ (by simp only [put_size]; rw [hsz]; decide))) (eval_cst _ _) (by simp [go_sem]) (ifEq0 _ _))) ?_
                    refine ah_one 5 (by kernel_rfl) ?_
                    refine ao_call rfl (wanted_none rfl) 169 (fun v X => v = .bool (mayB ({ m with cs := m.cs ++ [3] } : Mq)) ∧ Below V119.heap.size V119 X) rfl _ _ (run_callOp Tryd.func33 rfl rfl (arr1 (eval_of (pf1 (by decide) (pf2 (by decide) (put_get _ _ _ (by simp only [put_size]; rw [hsz]; decide))))))) ((K.out.may ({ m with cs := m.cs ++ [3] } : Mq) _ _ _ V119 hk (near_cs HNe.out 3) fN125.lists).mono fun e X h => ⟨_, h.1, rfl, h.2⟩) ?_
                    rintro _ V127 ⟨rfl, hb126⟩
                    have hbN := (hbN120.trans (hb126.mono hbN120.size))
                    have hbN128 := hbN
                    have rN129 := (rN121.below hb126)
                    have rN130 := (rN122.below hb126)
                    have fN131 := (fN123.trans (hb126.mono fN123.size))
                    have fN132 := (fN124.trans (hb126.mono fN124.size))
                    have fN133 := (fN125.below hb126)
                    refine ⟨⟨hbN128, rN129, rN130, fN131, fN132, fN133⟩, ?_⟩
                    refine ah_takeW 6 170 (.bool false) rfl (wanted_none rfl) rfl (by kernel_rfl) (by kernel_rfl) (by kernel_rfl) (fun _ _ _ h => h) ⟨hbN128, rN129, rN130, fN131, fN132, fN133⟩ (fun W hW => by (try obtain ⟨hbN128, rN129, rN130, fN131, fN132, fN133⟩ := hW); exact (run_binOp (eval_of (pf1 (by decide) (put_get _ _ _ (by simp only [put_size]; rw [hsz]; decide)))) (eval_of (put_get _ _ _ (by simp only [put_size]; rw [hsz]; decide))) (by simp [go_sem]) (boolNe_self _ _))) ?_
                    refine fresh (C := fun x W => AH _ _ _ _ _ _ x W) (fun x X => _ = X ∧ x.tmps.size = 202 ∧ x.defers = [] ∧ x.tmps[0]? = some (.slice ao L.length cap) ∧ x.tmps[1]? = some (.int .i64 kk) ∧ x.tmps[5]? = some (.int .i64 ((k : Nat) : Int)) ∧ x.tmps[7]? = some (.slice (some ⟨b1, o1, none⟩) (enc m).length c1) ∧ x.tmps[10]? = some (.pointer (some ⟨q41, 0, none⟩)) ∧ x.tmps[13]? = some (.int .i64 ((j : Nat) : Int)) ∧ x.tmps[170]? = some (.bool false)) ⟨rfl, (by simp only [put_size]; exact hsz), (by simp only [put_defers]; exact hdf), (pf1 (by decide) (pf2 (by decide) (pf4 (by decide) s_0))), (pf1 (by decide) (pf2 (by decide) (pf4 (by decide) s_1))), (pf1 (by decide) (pf2 (by decide) (pf4 (by decide) s_5))), (pf1 (by decide) (pf2 (by decide) (pf4 (by decide) s_7))), (pf1 (by decide) (pf2 (by decide) (pf4 (by decide) s_10))), (pf1 (by decide) (pf2 (by decide) (pf4 (by decide) s_13))), (put_get _ _ _ (by simp only [put_size]; rw [hsz]; decide))⟩ ?_
                    clear hsz hdf s_0 s_1 s_5 s_7 s_10 s_13 s_14
                    rintro a _ ⟨rfl, hsz, hdf, s_0, s_1, s_5, s_7, s_10, s_13, s_170⟩
                    refine ah_done (by kernel_rfl) ?_
                    refine ow_then ?_
                    refine ow_false (eval_of s_170) ?_
                    refine wp_skip ?_
                    refine ow_blk _ ?_
                    refine ow_then ?_
                    refine ow_region [_, _, _] rfl (by intro o ho; simp only [List.mem_cons, List.not_mem_nil, or_false] at ho; rcases ho with rfl | rfl | rfl <;> rfl) ?_
                    refine ow_run 109 (.int .i64 ((j : Nat) : Int)) _ rfl (run_moveOp (eval_of s_13)) ?_
                    refine ow_run 110 (.int .i64 (((j : Nat) : Int) + 1)) _ rfl (run_binOp (eval_of (put_get _ _ _ (by rw [hsz]; decide))) (eval_cst _ _) (by simp [go_sem]) (addI _ _ _ (by omega) (by omega))) ?_
                    refine ow_run 13 (.int .i64 (((j : Nat) : Int) + 1)) _ rfl (run_assignOp (eval_of (put_get _ _ _ (by simp only [put_size]; rw [hsz]; decide)))) ?_
                    refine fresh (C := fun x W => wpRun _ [] x W _) (fun x X => _ = X ∧ x.tmps.size = 202 ∧ x.defers = [] ∧ x.tmps[0]? = some (.slice ao L.length cap) ∧ x.tmps[1]? = some (.int .i64 kk) ∧ x.tmps[5]? = some (.int .i64 ((k : Nat) : Int)) ∧ x.tmps[7]? = some (.slice (some ⟨b1, o1, none⟩) (enc m).length c1) ∧ x.tmps[10]? = some (.pointer (some ⟨q41, 0, none⟩)) ∧ x.tmps[13]? = some (.int .i64 (((j : Nat) : Int) + 1))) ⟨rfl, (by simp only [put_size]; exact hsz), (by simp only [put_defers]; exact hdf), (pf1 (by decide) (pf2 (by decide) s_0)), (pf1 (by decide) (pf2 (by decide) s_1)), (pf1 (by decide) (pf2 (by decide) s_5)), (pf1 (by decide) (pf2 (by decide) s_7)), (pf1 (by decide) (pf2 (by decide) s_10)), (put_get _ _ _ (by simp only [put_size]; rw [hsz]; decide))⟩ ?_
                    clear hsz hdf s_0 s_1 s_5 s_7 s_10 s_13 s_170
                    rintro a _ ⟨rfl, hsz, hdf, s_0, s_1, s_5, s_7, s_10, s_13⟩
                    have hj8 : j < 8 := by have h := hb_54; simp only [decide_eq_true_eq] at h; omega
                    exact ow_then (hK52 _ _ _ (by omega) ⟨(j + 1), rfl, (by omega), hsz, hdf, s_0, s_1, s_5, s_7, s_10, (by first | exact s_13 | (rw [s_13]; congr 2; first | rfl | omega | (push_cast; omega)) | (rw [s_13]; first | rfl | (simp; try omega))), hbN128, rN129, fN132, fN131⟩)
                  · skip
                    refine ow_false (eval_of (flag_of s_126 hb_110)) ?_
                    refine wp_seq ?_
                    refine ow_region [_, _] rfl (by intro o ho; simp only [List.mem_cons, List.not_mem_nil, or_false] at ho; rcases ho with rfl | rfl <;> rfl) ?_
                    refine ow_run 134 (.bool (((j : Nat) : Int) == 3)) _ rfl (run_binOp (eval_of s_113) (eval_cst _ _) (eqInt _ _ _ _ _) (intEq _ _ _)) ?_
                    refine ow_run 133 (.bool (((j : Nat) : Int) == 3)) _ rfl (run_assignOp (eval_of (put_get _ _ _ (by rw [hsz]; decide)))) ?_
                    refine fresh (C := fun x W => wpRun _ [] x W _) (fun x X => _ = X ∧ x.tmps.size = 202 ∧ x.defers = [] ∧ x.tmps[0]? = some (.slice ao L.length cap) ∧ x.tmps[1]? = some (.int .i64 kk) ∧ x.tmps[5]? = some (.int .i64 ((k : Nat) : Int)) ∧ x.tmps[7]? = some (.slice (some ⟨b1, o1, none⟩) (enc m).length c1) ∧ x.tmps[10]? = some (.pointer (some ⟨q41, 0, none⟩)) ∧ x.tmps[13]? = some (.int .i64 ((j : Nat) : Int)) ∧ x.tmps[14]? = some (.pointer (some ⟨q58, 0, none⟩)) ∧ x.tmps[113]? = some (.int .i64 ((j : Nat) : Int)) ∧ x.tmps[133]? = some (.bool (((j : Nat) : Int) == 3))) ⟨rfl, (by simp only [put_size]; exact hsz), (by simp only [put_defers]; exact hdf), (pf2 (by decide) s_0), (pf2 (by decide) s_1), (pf2 (by decide) s_5), (pf2 (by decide) s_7), (pf2 (by decide) s_10), (pf2 (by decide) s_13), (pf2 (by decide) s_14), (pf2 (by decide) s_113), (put_get _ _ _ (by simp only [put_size]; rw [hsz]; decide))⟩ ?_
                    clear hsz hdf s_0 s_1 s_5 s_7 s_10 s_13 s_14 s_113 s_126
                    rintro a _ ⟨rfl, hsz, hdf, s_0, s_1, s_5, s_7, s_10, s_13, s_14, s_113, s_133⟩
                    refine ow_then ?_
                    rcases Bool.eq_false_or_eq_true ((((j : Nat) : Int) == 3)) with hb_137 | hb_137
                    · skip
                      refine ow_true (eval_of (flag_of s_133 hb_137)) ?_
                      refine ow_region [_, _, _, _, _, _, _] rfl (by intro o ho; simp only [List.mem_cons, List.not_mem_nil, or_false] at ho; rcases ho with rfl | rfl | rfl | rfl | rfl | rfl | rfl <;> rfl) ?_
                      refine ow_run 135 (.pointer (some ⟨q58, 22, none⟩)) _ rfl (run_fieldAddr (eval_of s_14) (by simp [go_sem, Instr.fieldAt])) ?_
                      refine ow_run 136 (.slice aw3 m.ws.length cw3) _ rfl (run_loadOp (eval_of (put_get _ _ _ (by rw [hsz]; decide))) (by simp [go_sem, Instr.loadAt, rW60_1.cell (j := 22) rfl])) ?_
                      refine ow_run 137 (.agg #[.string { data := #[] }, .int .i64 0]) _ rfl (run_buildOp (vs := #[]) (by simp) (by kernel_rfl)) ?_
                      obtain ⟨q138, hq138⟩ : ∃ x, x = W60.heap.size := ⟨_, rfl⟩
                      refine ow_run 138 (.slice (some ⟨q138, 0, none⟩) 1 1) (W60.alloc (.cells #[.string { data := #[] }, .int .i64 0] 93)) rfl (by rw [hq138]; exact (run_buildWish1 (eval_of (put_get _ _ _ (by simp only [put_size]; rw [hsz]; decide))))) ?_
                      have hqq138 : w.heap.size ≤ q138 := by rw [hq138]; exact hbW60.size
                      have hqq138_V23 : V23.heap.size ≤ q138 := by rw [hq138]; exact fW60_0.size
                      have hqq138_V39 : V39.heap.size ≤ q138 := by rw [hq138]; exact fW60_1.size
                      have hqq138_V56 : V56.heap.size ≤ q138 := by rw [hq138]; exact fW60_2.size
                      have hnq138_q41 : q41 < q138 := by rw [hq138]; exact rW60_0.2.2
                      have hnq138_q58 : q58 < q138 := by rw [hq138]; exact rW60_1.2.2
                      refine fresh (C := fun x W => wpRun _ _ x W _) (fun x X => _ = x ∧ Below w.heap.size w X ∧ RowAt X q41 (Mq.row m (.slice ac2 nc2 cc2) (.slice aw2 nw2 cw2) (.slice af2 nf2 cf2)) ∧ RowAt X q58 (Mq.row m (.slice ac3 m.cs.length cc3) (.slice aw3 m.ws.length cw3) (.slice af3 m.fs.length cf3)) ∧ RowAt X q138 [.string { data := #[] }, .int .i64 0] ∧ Below V23.heap.size V23 X ∧ Below V39.heap.size V39 X ∧ Below V56.heap.size V56 X) ⟨rfl, (hbW60.alloc hbW60.size _), (rW60_0.below ((Below.refl _ W60).alloc (Nat.le_refl _) _)), (rW60_1.below ((Below.refl _ W60).alloc (Nat.le_refl _) _)), (by rw [hq138]; exact rowAt_alloc _ [.string { data := #[] }, .int .i64 0] _), (fW60_0.trans (((Below.refl _ W60).alloc (Nat.le_refl _) _).mono fW60_0.size)), (fW60_1.trans (((Below.refl _ W60).alloc (Nat.le_refl _) _).mono fW60_1.size)), (fW60_2.trans (((Below.refl _ W60).alloc (Nat.le_refl _) _).mono fW60_2.size))⟩ ?_
                      rintro _ W139 ⟨rfl, hbW139, rW139_0, rW139_1, rW139_2, fW139_0, fW139_1, fW139_2⟩
                      clear hq138
                      have hOw1 := HOw.out.below fW139_2
                      obtain ⟨i0, hi0, hz0, hz1, hz2⟩ := info_parts infoWish
                      refine ow_to 139 rfl (opTo_appendOwn _ _ 27 rfl W50.heap.size 93 i0 (.agg #[.string ByteArray.empty, .int .i64 0]) 2 24 Tryd.underlying27 hi0 hz0 hz1 hz2 rfl (by decide) _ _ _ (eval_of (pf2 (by decide) (put_get _ _ _ (by simp only [put_size]; rw [hsz]; decide)))) hOw1.w ⟨q138, 0, none⟩ 1 1 [.string { data := #[] }, .int .i64 0] (eval_of (put_get _ _ _ (by simp only [put_size]; rw [hsz]; decide))) rfl (fun j u hj => by rw [addr_add0]; exact rW139_2.1 j u hj) (by intro u hu; simp at hu; rcases hu with rfl | rfl <;> rfl) (by have := hn2; unfold maxLen; omega) (by have := hn2; omega) (Nat.le_trans (Nat.le_of_lt_succ (Nat.lt_succ_of_le hV2y)) fW139_2.size)) ?_
                      rintro vz V140 ⟨hoz, hgz⟩
                      have hOz : MqOwn V140 W50.heap.size { m with ws := m.ws ++ [⟨E0, 0⟩] } (Value.slice ac3 m.cs.length cc3) vz (Value.slice af3 m.fs.length cf3) := hOw1.addW hoz hgz
                      have hnec : ∀ k, ((Value.slice ac3 m.cs.length cc3)).ownBlock = some k → k ≠ q58 := own_ne HOw.out.c (by omega)
                      have hnew : ∀ k, ((Value.slice aw3 m.ws.length cw3)).ownBlock = some k → k ≠ q58 := own_ne HOw.out.w (by omega)
                      have hnef : ∀ k, ((Value.slice af3 m.fs.length cf3)).ownBlock = some k → k ≠ q58 := own_ne HOw.out.f (by omega)
                      have hnez : ∀ k, vz.ownBlock = some k → k ≠ q58 := grew_ne hgz hnew rW139_1.2.2
                      have hbz : Below W50.heap.size W139 V140 := grew_below hgz (Nat.le_trans hV2y fW139_2.size) (fun k hk => (own_lt HOw.out.w hk).1)
                      have hr14 := rowAt_keep rW139_1 hgz.1 (fun he => hnew _ he.symm rfl)
                      obtain ⟨az, cz, rfl⟩ := own_slice hoz
                      have hr10 := rW139_0.low hbz (by omega)
                      have hbw := hbW139.trans (hbz.mono hws)
                      have hhVs4 := fW139_1.trans (hbz.mono hVs)
                      have hhbs4 := fW139_0.trans (hbz.mono hbs)
                      refine fresh (C := fun x W => wpRun _ _ x W _) (fun x X => _ = x ∧ Below w.heap.size w X ∧ RowAt X q41 (Mq.row m (.slice ac2 nc2 cc2) (.slice aw2 nw2 cw2) (.slice af2 nf2 cf2)) ∧ RowAt X q58 (Mq.row m (.slice ac3 m.cs.length cc3) (.slice aw3 m.ws.length cw3) (.slice af3 m.fs.length cf3)) ∧ Below V39.heap.size V39 X ∧ Below V23.heap.size V23 X ∧ MqOwn X W50.heap.size ({ m with ws := m.ws ++ [⟨E0, 0⟩] } : Mq) (Value.slice ac3 m.cs.length cc3) (.slice az (m.ws.length + 1) cz) (Value.slice af3 m.fs.length cf3)) ⟨rfl, hbw, hr10, hr14, hhVs4, hhbs4, hOz⟩ ?_
                      rintro _ W141 ⟨rfl, hbW141, rW141_0, rW141_1, fW141_0, fW141_1, fW141_2⟩
                      refine ow_run 140 (.pointer (some ⟨q58, 22, none⟩)) _ rfl (run_fieldAddr (eval_of (pf1 (by decide) (pf4 (by decide) s_14))) (by simp [go_sem, Instr.fieldAt])) ?_
                      refine ow_skip _ rfl (run_storeOp (eval_of (put_get _ _ _ (by simp only [put_size]; rw [hsz]; decide))) (eval_of (pf1 (by decide) (put_get _ _ _ (by simp only [put_size]; rw [hsz]; decide)))) (run_store1 rW141_1 (by simp) (by kernel_rfl) rfl)) ?_
                      refine fresh (C := fun x W => wpRun _ _ x W _) (fun x X => _ = x ∧ Below w.heap.size w X ∧ RowAt X q41 (Mq.row m (.slice ac2 nc2 cc2) (.slice aw2 nw2 cw2) (.slice af2 nf2 cf2)) ∧ RowAt X q58 (Mq.row m (.slice ac3 m.cs.length cc3) (.slice az (m.ws.length + 1) cz) (.slice af3 m.fs.length cf3)) ∧ Below V39.heap.size V39 X ∧ Below V23.heap.size V23 X ∧ MqOwn X W50.heap.size ({ m with ws := m.ws ++ [⟨E0, 0⟩] } : Mq) (Value.slice ac3 m.cs.length cc3) (.slice az (m.ws.length + 1) cz) (Value.slice af3 m.fs.length cf3)) ⟨rfl, (below_set1 hbW141 (by omega)), (rW141_0.other (by omega)), (rW141_1.set1 22 _ (by simp)), (below_set1 fW141_0 (by omega)), (below_set1 fW141_1 (by omega)), (fW141_2.set1 hnec hnez hnef)⟩ ?_
                      rintro _ W142 ⟨rfl, hbW142, rW142_0, rW142_1, fW142_0, fW142_1, fW142_2⟩
                      refine fresh (C := fun x W => wpRun _ [] x W _) (fun x X => _ = X ∧ x.tmps.size = 202 ∧ x.defers = [] ∧ x.tmps[0]? = some (.slice ao L.length cap) ∧ x.tmps[1]? = some (.int .i64 kk) ∧ x.tmps[5]? = some (.int .i64 ((k : Nat) : Int)) ∧ x.tmps[7]? = some (.slice (some ⟨b1, o1, none⟩) (enc m).length c1) ∧ x.tmps[10]? = some (.pointer (some ⟨q41, 0, none⟩)) ∧ x.tmps[13]? = some (.int .i64 ((j : Nat) : Int)) ∧ x.tmps[14]? = some (.pointer (some ⟨q58, 0, none⟩))) ⟨rfl, (by simp only [put_size]; exact hsz), (by simp only [put_defers]; exact hdf), (pf2 (by decide) (pf4 (by decide) s_0)), (pf2 (by decide) (pf4 (by decide) s_1)), (pf2 (by decide) (pf4 (by decide) s_5)), (pf2 (by decide) (pf4 (by decide) s_7)), (pf2 (by decide) (pf4 (by decide) s_10)), (pf2 (by decide) (pf4 (by decide) s_13)), (pf2 (by decide) (pf4 (by decide) s_14))⟩ ?_
                      clear hsz hdf s_0 s_1 s_5 s_7 s_133 s_10 s_13 s_14 s_113
                      rintro a _ ⟨rfl, hsz, hdf, s_0, s_1, s_5, s_7, s_10, s_13, s_14⟩
                      refine ow_blk _ ?_
                      refine ow_then ?_
                      refine wp_seq ?_
                      refine ah_region (fun W => Below w.heap.size w W ∧ RowAt W q41 (Mq.row m (.slice ac2 nc2 cc2) (.slice aw2 nw2 cw2) (.slice af2 nf2 cf2)) ∧ RowAt W q58 (Mq.row m (.slice ac3 m.cs.length cc3) (.slice az (m.ws.length + 1) cz) (.slice af3 m.fs.length cf3)) ∧ Below V39.heap.size V39 W ∧ Below V23.heap.size V23 W ∧ MqOwn W W50.heap.size ({ m with ws := m.ws ++ [⟨E0, 0⟩] } : Mq) (Value.slice ac3 m.cs.length cc3) (.slice az (m.ws.length + 1) cz) (Value.slice af3 m.fs.length cf3)) (by kernel_rfl) 7 rfl ?_
                      refine fresh (C := fun x W => AH _ _ _ _ _ _ x W) (fun x X => _ = x ∧ Below w.heap.size w X ∧ RowAt X q41 (Mq.row m (.slice ac2 nc2 cc2) (.slice aw2 nw2 cw2) (.slice af2 nf2 cf2)) ∧ RowAt X q58 (Mq.row m (.slice ac3 m.cs.length cc3) (.slice az (m.ws.length + 1) cz) (.slice af3 m.fs.length cf3)) ∧ Below V39.heap.size V39 X ∧ Below V23.heap.size V23 X ∧ MqOwn X W50.heap.size ({ m with ws := m.ws ++ [⟨E0, 0⟩] } : Mq) (Value.slice ac3 m.cs.length cc3) (.slice az (m.ws.length + 1) cz) (Value.slice af3 m.fs.length cf3)) ⟨rfl, (hbW142.trans (((Below.refl _ W142).drew).mono hbW142.size)), (rW142_0.below ((Below.refl _ W142).drew)), (rW142_1.below ((Below.refl _ W142).drew)), (fW142_0.trans (((Below.refl _ W142).drew).mono fW142_0.size)), (fW142_1.trans (((Below.refl _ W142).drew).mono fW142_1.size)), (fW142_2.below ((Below.refl _ W142).drew))⟩ ?_
                      rintro _ W144 ⟨rfl, hbW144, rW144_0, rW144_1, fW144_0, fW144_1, fW144_2⟩
                      refine ah_takeW 0 164 (.agg (Mq.row m (.slice ac3 m.cs.length cc3) (.slice az (m.ws.length + 1) cz) (.slice af3 m.fs.length cf3)).toArray) rfl (wanted_none rfl) rfl (by kernel_rfl) (by kernel_rfl) (by kernel_rfl) (fun _ _ _ h => h) ⟨hbW144, rW144_0, rW144_1, fW144_0, fW144_1, fW144_2⟩ (fun W hW => by (try obtain ⟨hbW144, rW144_0, rW144_1, fW144_0, fW144_1, fW144_2⟩ := hW); exact (run_loadOp (eval_of s_14) (run_loadN [.int .i64 m.k, .string m.cl, .bool m.clean, .int .i64 m.keep, .bool m.wI, .string m.wT, .string m.wP, .int .i64 m.wQ, .bool m.wR, .string m.us, .bool m.hu, .string m.pa, .bool m.hp, .bool m.pres, .int .i64 m.code, .slice ac3 m.cs.length cc3, .bool m.dup, .int .i64 m.q, .bool m.re, .string m.top, .int .i64 m.id, .string m.pay, .slice az (m.ws.length + 1) cz, .slice af3 m.fs.length cf3] rW144_1 (fun j v hj => by simpa using hj) Tryd.underlying30 rfl (by kernel_rfl)))) ?_
                      refine ah_takeW 4 168 (.agg (Mq.row m (.slice ac3 m.cs.length cc3) (.slice az (m.ws.length + 1) cz) (.slice af3 m.fs.length cf3)).toArray) rfl (wanted_none rfl) rfl (by kernel_rfl) (by kernel_rfl) (by kernel_rfl) (fun _ _ _ h => h) ⟨hbW144, rW144_0, rW144_1, fW144_0, fW144_1, fW144_2⟩ (fun W hW => by (try obtain ⟨hbW144, rW144_0, rW144_1, fW144_0, fW144_1, fW144_2⟩ := hW); exact (run_loadOp (eval_of (pf1 (by decide) s_14)) (run_loadN [.int .i64 m.k, .string m.cl, .bool m.clean, .int .i64 m.keep, .bool m.wI, .string m.wT, .string m.wP, .int .i64 m.wQ, .bool m.wR, .string m.us, .bool m.hu, .string m.pa, .bool m.hp, .bool m.pres, .int .i64 m.code, .slice ac3 m.cs.length cc3, .bool m.dup, .int .i64 m.q, .bool m.re, .string m.top, .int .i64 m.id, .string m.pay, .slice az (m.ws.length + 1) cz, .slice af3 m.fs.length cf3] rW144_1 (fun j v hj => by simpa using hj) Tryd.underlying30 rfl (by kernel_rfl)))) ?_
                      refine ah_one 1 (by kernel_rfl) ?_
                      refine ao_call rfl (wanted_none rfl) 165 (fun v X => v = .int .i64 (if mayB ({ m with ws := m.ws ++ [⟨E0, 0⟩] } : Mq) = true then (0 : Int) else 1) ∧ Below W144.heap.size W144 X) rfl _ _ (run_callOp Tryd.func34 rfl rfl (arr1 (eval_of (pf1 (by decide) (put_get _ _ _ (by rw [hsz]; decide)))))) ((K.out.check ({ m with ws := m.ws ++ [⟨E0, 0⟩] } : Mq) _ _ _ W144 hk (near_ws HNe.out 0) fW144_2.lists).mono fun e X h => ⟨_, h.1, rfl, h.2⟩) ?_
                      rintro _ V146 ⟨rfl, hb145⟩
                      have hbN := (hbW144.trans (hb145.mono hbW144.size))
                      have hbN147 := hbN
                      have rN148 := (rW144_0.below hb145)
                      have rN149 := (rW144_1.below hb145)
                      have fN150 := (fW144_0.trans (hb145.mono fW144_0.size))
                      have fN151 := (fW144_1.trans (hb145.mono fW144_1.size))
                      have fN152 := (fW144_2.below hb145)
                      refine ⟨⟨hbN147, rN148, rN149, fN150, fN151, fN152⟩, ?_⟩
                      refine ah_one 2 (by kernel_rfl) ?_
                      refine ao_call rfl (wanted_none rfl) 166 (fun v X => v = (.int .i64 (if mayB ({ m with ws := m.ws ++ [⟨E0, 0⟩] } : Mq) = true then (0 : Int) else 1)) ∧ V146 = X) rfl _ _ (run_callOp Tryd.func26 rfl rfl (arr1 (eval_of (put_get _ _ _ (by simp only [put_size]; rw [hsz]; decide))))) ((num18_any _ _).mono fun e X h => ⟨_, h.1, rfl, h.2⟩) ?_
                      rintro _ _ ⟨rfl, rfl⟩
                      refine ⟨⟨hbN147, rN148, rN149, fN150, fN151, fN152⟩, ?_⟩
                      refine ah_takeW 3 167 (.bool (mayB ({ m with ws := m.ws ++ [⟨E0, 0⟩] } : Mq))) rfl (wanted_none rfl) rfl (by kernel_rfl) (by kernel_rfl) (by kernel_rfl) (fun _ _ _ h => h) ⟨hbN147, rN148, rN149, fN150, fN151, fN152⟩ (fun W hW => by (try obtain ⟨hbN147, rN148, rN149, fN150, fN151, fN152⟩ := hW); exact (run_binOp (eval_of (put_get _ _ _ (by simp only [put_size]; rw [hsz]; decide))) (eval_cst _ _) (by simp [go_sem]) (ifEq0 _ _))) ?_
                      refine ah_one 5 (by kernel_rfl) ?_
                      refine ao_call rfl (wanted_none rfl) 169 (fun v X => v = .bool (mayB ({ m with ws := m.ws ++ [⟨E0, 0⟩] } : Mq)) ∧ Below V146.heap.size V146 X) rfl _ _ (run_callOp Tryd.func33 rfl rfl (arr1 (eval_of (pf1 (by decide) (pf2 (by decide) (put_get _ _ _ (by simp only [put_size]; rw [hsz]; decide))))))) ((K.out.may ({ m with ws := m.ws ++ [⟨E0, 0⟩] } : Mq) _ _ _ V146 hk (near_ws HNe.out 0) fN152.lists).mono fun e X h => ⟨_, h.1, rfl, h.2⟩) ?_
                      rintro _ V154 ⟨rfl, hb153⟩
                      have hbN := (hbN147.trans (hb153.mono hbN147.size))
                      have hbN155 := hbN
                      have rN156 := (rN148.below hb153)
                      have rN157 := (rN149.below hb153)
                      have fN158 := (fN150.trans (hb153.mono fN150.size))
                      have fN159 := (fN151.trans (hb153.mono fN151.size))
                      have fN160 := (fN152.below hb153)
                      refine ⟨⟨hbN155, rN156, rN157, fN158, fN159, fN160⟩, ?_⟩
                      refine ah_takeW 6 170 (.bool false) rfl (wanted_none rfl) rfl (by kernel_rfl) (by kernel_rfl) (by kernel_rfl) (fun _ _ _ h => h) ⟨hbN155, rN156, rN157, fN158, fN159, fN160⟩ (fun W hW => by (try obtain ⟨hbN155, rN156, rN157, fN158, fN159, fN160⟩ := hW); exact (run_binOp (eval_of (pf1 (by decide) (put_get _ _ _ (by simp only [put_size]; rw [hsz]; decide)))) (eval_of (put_get _ _ _ (by simp only [put_size]; rw [hsz]; decide))) (by simp [go_sem]) (boolNe_self _ _))) ?_
                      refine fresh (C := fun x W => AH _ _ _ _ _ _ x W) (fun x X => _ = X ∧ x.tmps.size = 202 ∧ x.defers = [] ∧ x.tmps[0]? = some (.slice ao L.length cap) ∧ x.tmps[1]? = some (.int .i64 kk) ∧ x.tmps[5]? = some (.int .i64 ((k : Nat) : Int)) ∧ x.tmps[7]? = some (.slice (some ⟨b1, o1, none⟩) (enc m).length c1) ∧ x.tmps[10]? = some (.pointer (some ⟨q41, 0, none⟩)) ∧ x.tmps[13]? = some (.int .i64 ((j : Nat) : Int)) ∧ x.tmps[170]? = some (.bool false)) ⟨rfl, (by simp only [put_size]; exact hsz), (by simp only [put_defers]; exact hdf), (pf1 (by decide) (pf2 (by decide) (pf4 (by decide) s_0))), (pf1 (by decide) (pf2 (by decide) (pf4 (by decide) s_1))), (pf1 (by decide) (pf2 (by decide) (pf4 (by decide) s_5))), (pf1 (by decide) (pf2 (by decide) (pf4 (by decide) s_7))), (pf1 (by decide) (pf2 (by decide) (pf4 (by decide) s_10))), (pf1 (by decide) (pf2 (by decide) (pf4 (by decide) s_13))), (put_get _ _ _ (by simp only [put_size]; rw [hsz]; decide))⟩ ?_
                      clear hsz hdf s_0 s_1 s_5 s_7 s_10 s_13 s_14
                      rintro a _ ⟨rfl, hsz, hdf, s_0, s_1, s_5, s_7, s_10, s_13, s_170⟩
                      refine ah_done (by kernel_rfl) ?_
                      refine ow_then ?_
                      refine ow_false (eval_of s_170) ?_
                      refine wp_skip ?_
                      refine ow_blk _ ?_
                      refine ow_then ?_
                      refine ow_region [_, _, _] rfl (by intro o ho; simp only [List.mem_cons, List.not_mem_nil, or_false] at ho; rcases ho with rfl | rfl | rfl <;> rfl) ?_
                      refine ow_run 109 (.int .i64 ((j : Nat) : Int)) _ rfl (run_moveOp (eval_of s_13)) ?_
                      refine ow_run 110 (.int .i64 (((j : Nat) : Int) + 1)) _ rfl (run_binOp (eval_of (put_get _ _ _ (by rw [hsz]; decide))) (eval_cst _ _) (by simp [go_sem]) (addI _ _ _ (by omega) (by omega))) ?_
                      refine ow_run 13 (.int .i64 (((j : Nat) : Int) + 1)) _ rfl (run_assignOp (eval_of (put_get _ _ _ (by simp only [put_size]; rw [hsz]; decide)))) ?_
                      refine fresh (C := fun x W => wpRun _ [] x W _) (fun x X => _ = X ∧ x.tmps.size = 202 ∧ x.defers = [] ∧ x.tmps[0]? = some (.slice ao L.length cap) ∧ x.tmps[1]? = some (.int .i64 kk) ∧ x.tmps[5]? = some (.int .i64 ((k : Nat) : Int)) ∧ x.tmps[7]? = some (.slice (some ⟨b1, o1, none⟩) (enc m).length c1) ∧ x.tmps[10]? = some (.pointer (some ⟨q41, 0, none⟩)) ∧ x.tmps[13]? = some (.int .i64 (((j : Nat) : Int) + 1))) ⟨rfl, (by simp only [put_size]; exact hsz), (by simp only [put_defers]; exact hdf), (pf1 (by decide) (pf2 (by decide) s_0)), (pf1 (by decide) (pf2 (by decide) s_1)), (pf1 (by decide) (pf2 (by decide) s_5)), (pf1 (by decide) (pf2 (by decide) s_7)), (pf1 (by decide) (pf2 (by decide) s_10)), (put_get _ _ _ (by simp only [put_size]; rw [hsz]; decide))⟩ ?_
                      clear hsz hdf s_0 s_1 s_5 s_7 s_10 s_13 s_170
                      rintro a _ ⟨rfl, hsz, hdf, s_0, s_1, s_5, s_7, s_10, s_13⟩
                      have hj8 : j < 8 := by have h := hb_54; simp only [decide_eq_true_eq] at h; omega
                      exact ow_then (hK52 _ _ _ (by omega) ⟨(j + 1), rfl, (by omega), hsz, hdf, s_0, s_1, s_5, s_7, s_10, (by first | exact s_13 | (rw [s_13]; congr 2; first | rfl | omega | (push_cast; omega)) | (rw [s_13]; first | rfl | (simp; try omega))), hbN155, rN156, fN159, fN158⟩)
                    · skip
                      refine ow_false (eval_of (flag_of s_133 hb_137)) ?_
                      refine wp_seq ?_
                      refine ow_region [_, _] rfl (by intro o ho; simp only [List.mem_cons, List.not_mem_nil, or_false] at ho; rcases ho with rfl | rfl <;> rfl) ?_
                      refine ow_run 142 (.bool (((j : Nat) : Int) == 4)) _ rfl (run_binOp (eval_of s_113) (eval_cst _ _) (eqInt _ _ _ _ _) (intEq _ _ _)) ?_
                      refine ow_run 141 (.bool (((j : Nat) : Int) == 4)) _ rfl (run_assignOp (eval_of (put_get _ _ _ (by rw [hsz]; decide)))) ?_
                      refine fresh (C := fun x W => wpRun _ [] x W _) (fun x X => _ = X ∧ x.tmps.size = 202 ∧ x.defers = [] ∧ x.tmps[0]? = some (.slice ao L.length cap) ∧ x.tmps[1]? = some (.int .i64 kk) ∧ x.tmps[5]? = some (.int .i64 ((k : Nat) : Int)) ∧ x.tmps[7]? = some (.slice (some ⟨b1, o1, none⟩) (enc m).length c1) ∧ x.tmps[10]? = some (.pointer (some ⟨q41, 0, none⟩)) ∧ x.tmps[13]? = some (.int .i64 ((j : Nat) : Int)) ∧ x.tmps[14]? = some (.pointer (some ⟨q58, 0, none⟩)) ∧ x.tmps[113]? = some (.int .i64 ((j : Nat) : Int)) ∧ x.tmps[141]? = some (.bool (((j : Nat) : Int) == 4))) ⟨rfl, (by simp only [put_size]; exact hsz), (by simp only [put_defers]; exact hdf), (pf2 (by decide) s_0), (pf2 (by decide) s_1), (pf2 (by decide) s_5), (pf2 (by decide) s_7), (pf2 (by decide) s_10), (pf2 (by decide) s_13), (pf2 (by decide) s_14), (pf2 (by decide) s_113), (put_get _ _ _ (by simp only [put_size]; rw [hsz]; decide))⟩ ?_
                      clear hsz hdf s_0 s_1 s_5 s_7 s_133 s_10 s_13 s_14 s_113
                      rintro a _ ⟨rfl, hsz, hdf, s_0, s_1, s_5, s_7, s_10, s_13, s_14, s_113, s_141⟩
                      refine ow_then ?_
                      rcases Bool.eq_false_or_eq_true ((((j : Nat) : Int) == 4)) with hb_164 | hb_164
                      · skip
                        refine ow_true (eval_of (flag_of s_141 hb_164)) ?_
                        refine ow_region [_, _, _, _, _, _] rfl (by intro o ho; simp only [List.mem_cons, List.not_mem_nil, or_false] at ho; rcases ho with rfl | rfl | rfl | rfl | rfl | rfl <;> rfl) ?_
                        refine ow_run 143 (.pointer (some ⟨q58, 23, none⟩)) _ rfl (run_fieldAddr (eval_of s_14) (by simp [go_sem, Instr.fieldAt])) ?_
                        refine ow_run 144 (.slice af3 m.fs.length cf3) _ rfl (run_loadOp (eval_of (put_get _ _ _ (by rw [hsz]; decide))) (by simp [go_sem, Instr.loadAt, rW60_1.cell (j := 23) rfl])) ?_
                        obtain ⟨q165, hq165⟩ : ∃ x, x = W60.heap.size := ⟨_, rfl⟩
                        refine ow_run 145 (.slice (some ⟨q165, 0, none⟩) 1 1) (W60.alloc (.cells #[.string { data := #[0] }] 9)) rfl (by rw [hq165]; exact (run_buildStr1 (eval_cst _ _))) ?_
                        have hqq165 : w.heap.size ≤ q165 := by rw [hq165]; exact hbW60.size
                        have hqq165_V23 : V23.heap.size ≤ q165 := by rw [hq165]; exact fW60_0.size
                        have hqq165_V39 : V39.heap.size ≤ q165 := by rw [hq165]; exact fW60_1.size
                        have hqq165_V56 : V56.heap.size ≤ q165 := by rw [hq165]; exact fW60_2.size
                        have hnq165_q41 : q41 < q165 := by rw [hq165]; exact rW60_0.2.2
                        have hnq165_q58 : q58 < q165 := by rw [hq165]; exact rW60_1.2.2
                        refine fresh (C := fun x W => wpRun _ _ x W _) (fun x X => _ = x ∧ Below w.heap.size w X ∧ RowAt X q41 (Mq.row m (.slice ac2 nc2 cc2) (.slice aw2 nw2 cw2) (.slice af2 nf2 cf2)) ∧ RowAt X q58 (Mq.row m (.slice ac3 m.cs.length cc3) (.slice aw3 m.ws.length cw3) (.slice af3 m.fs.length cf3)) ∧ RowAt X q165 [.string { data := #[0] }] ∧ Below V23.heap.size V23 X ∧ Below V39.heap.size V39 X ∧ Below V56.heap.size V56 X) ⟨rfl, (hbW60.alloc hbW60.size _), (rW60_0.below ((Below.refl _ W60).alloc (Nat.le_refl _) _)), (rW60_1.below ((Below.refl _ W60).alloc (Nat.le_refl _) _)), (by rw [hq165]; exact rowAt_alloc _ [.string { data := #[0] }] _), (fW60_0.trans (((Below.refl _ W60).alloc (Nat.le_refl _) _).mono fW60_0.size)), (fW60_1.trans (((Below.refl _ W60).alloc (Nat.le_refl _) _).mono fW60_1.size)), (fW60_2.trans (((Below.refl _ W60).alloc (Nat.le_refl _) _).mono fW60_2.size))⟩ ?_
                        rintro _ W166 ⟨rfl, hbW166, rW166_0, rW166_1, rW166_2, fW166_0, fW166_1, fW166_2⟩
                        clear hq165
                        have hOw1 := HOw.out.below fW166_2
                        obtain ⟨i0, hi0, hz0, hz1, hz2⟩ := info_parts infoStr
                        refine ow_to 146 rfl (opTo_appendOwn _ _ 28 rfl W50.heap.size 9 i0 (.string ByteArray.empty) 1 16 Tryd.underlying28 hi0 hz0 hz1 hz2 rfl (by decide) _ _ _ (eval_of (pf1 (by decide) (put_get _ _ _ (by simp only [put_size]; rw [hsz]; decide)))) hOw1.f ⟨q165, 0, none⟩ 1 1 [.string { data := #[0] }] (eval_of (put_get _ _ _ (by simp only [put_size]; rw [hsz]; decide))) rfl (fun j u hj => by rw [addr_add0]; exact rW166_2.1 j u hj) (by intro u hu; simp at hu; rcases hu with rfl <;> rfl) (by have := hn3; unfold maxLen; omega) (by have := hn3; omega) (Nat.le_trans (Nat.le_of_lt_succ (Nat.lt_succ_of_le hV2y)) fW166_2.size)) ?_
                        rintro vz V167 ⟨hoz, hgz⟩
                        have hOz : MqOwn V167 W50.heap.size { m with fs := m.fs ++ [⟨#[(0 : UInt8)]⟩] } (Value.slice ac3 m.cs.length cc3) (Value.slice aw3 m.ws.length cw3) vz := hOw1.addF hoz hgz
                        have hnec : ∀ k, ((Value.slice ac3 m.cs.length cc3)).ownBlock = some k → k ≠ q58 := own_ne HOw.out.c (by omega)
                        have hnew : ∀ k, ((Value.slice aw3 m.ws.length cw3)).ownBlock = some k → k ≠ q58 := own_ne HOw.out.w (by omega)
                        have hnef : ∀ k, ((Value.slice af3 m.fs.length cf3)).ownBlock = some k → k ≠ q58 := own_ne HOw.out.f (by omega)
                        have hnez : ∀ k, vz.ownBlock = some k → k ≠ q58 := grew_ne hgz hnef rW166_1.2.2
                        have hbz : Below W50.heap.size W166 V167 := grew_below hgz (Nat.le_trans hV2y fW166_2.size) (fun k hk => (own_lt HOw.out.f hk).1)
                        have hr14 := rowAt_keep rW166_1 hgz.1 (fun he => hnef _ he.symm rfl)
                        obtain ⟨az, cz, rfl⟩ := own_slice hoz
                        have hr10 := rW166_0.low hbz (by omega)
                        have hbw := hbW166.trans (hbz.mono hws)
                        have hhVs4 := fW166_1.trans (hbz.mono hVs)
                        have hhbs4 := fW166_0.trans (hbz.mono hbs)
                        refine fresh (C := fun x W => wpRun _ _ x W _) (fun x X => _ = x ∧ Below w.heap.size w X ∧ RowAt X q41 (Mq.row m (.slice ac2 nc2 cc2) (.slice aw2 nw2 cw2) (.slice af2 nf2 cf2)) ∧ RowAt X q58 (Mq.row m (.slice ac3 m.cs.length cc3) (.slice aw3 m.ws.length cw3) (.slice af3 m.fs.length cf3)) ∧ Below V39.heap.size V39 X ∧ Below V23.heap.size V23 X ∧ MqOwn X W50.heap.size ({ m with fs := m.fs ++ [⟨#[(0 : UInt8)]⟩] } : Mq) (Value.slice ac3 m.cs.length cc3) (Value.slice aw3 m.ws.length cw3) (.slice az (m.fs.length + 1) cz)) ⟨rfl, hbw, hr10, hr14, hhVs4, hhbs4, hOz⟩ ?_
                        rintro _ W168 ⟨rfl, hbW168, rW168_0, rW168_1, fW168_0, fW168_1, fW168_2⟩
                        refine ow_run 147 (.pointer (some ⟨q58, 23, none⟩)) _ rfl (run_fieldAddr (eval_of (pf4 (by decide) s_14)) (by simp [go_sem, Instr.fieldAt])) ?_
                        refine ow_skip _ rfl (run_storeOp (eval_of (put_get _ _ _ (by simp only [put_size]; rw [hsz]; decide))) (eval_of (pf1 (by decide) (put_get _ _ _ (by simp only [put_size]; rw [hsz]; decide)))) (run_store1 rW168_1 (by simp) (by kernel_rfl) rfl)) ?_
                        refine fresh (C := fun x W => wpRun _ _ x W _) (fun x X => _ = x ∧ Below w.heap.size w X ∧ RowAt X q41 (Mq.row m (.slice ac2 nc2 cc2) (.slice aw2 nw2 cw2) (.slice af2 nf2 cf2)) ∧ RowAt X q58 (Mq.row m (.slice ac3 m.cs.length cc3) (.slice aw3 m.ws.length cw3) (.slice az (m.fs.length + 1) cz)) ∧ Below V39.heap.size V39 X ∧ Below V23.heap.size V23 X ∧ MqOwn X W50.heap.size ({ m with fs := m.fs ++ [⟨#[(0 : UInt8)]⟩] } : Mq) (Value.slice ac3 m.cs.length cc3) (Value.slice aw3 m.ws.length cw3) (.slice az (m.fs.length + 1) cz)) ⟨rfl, (below_set1 hbW168 (by omega)), (rW168_0.other (by omega)), (rW168_1.set1 23 _ (by simp)), (below_set1 fW168_0 (by omega)), (below_set1 fW168_1 (by omega)), (fW168_2.set1 hnec hnew hnez)⟩ ?_
                        rintro _ W169 ⟨rfl, hbW169, rW169_0, rW169_1, fW169_0, fW169_1, fW169_2⟩
                        refine fresh (C := fun x W => wpRun _ [] x W _) (fun x X => _ = X ∧ x.tmps.size = 202 ∧ x.defers = [] ∧ x.tmps[0]? = some (.slice ao L.length cap) ∧ x.tmps[1]? = some (.int .i64 kk) ∧ x.tmps[5]? = some (.int .i64 ((k : Nat) : Int)) ∧ x.tmps[7]? = some (.slice (some ⟨b1, o1, none⟩) (enc m).length c1) ∧ x.tmps[10]? = some (.pointer (some ⟨q41, 0, none⟩)) ∧ x.tmps[13]? = some (.int .i64 ((j : Nat) : Int)) ∧ x.tmps[14]? = some (.pointer (some ⟨q58, 0, none⟩))) ⟨rfl, (by simp only [put_size]; exact hsz), (by simp only [put_defers]; exact hdf), (pf1 (by decide) (pf4 (by decide) s_0)), (pf1 (by decide) (pf4 (by decide) s_1)), (pf1 (by decide) (pf4 (by decide) s_5)), (pf1 (by decide) (pf4 (by decide) s_7)), (pf1 (by decide) (pf4 (by decide) s_10)), (pf1 (by decide) (pf4 (by decide) s_13)), (pf1 (by decide) (pf4 (by decide) s_14))⟩ ?_
                        clear hsz hdf s_0 s_1 s_5 s_7 s_10 s_13 s_14 s_141 s_113
                        rintro a _ ⟨rfl, hsz, hdf, s_0, s_1, s_5, s_7, s_10, s_13, s_14⟩
                        refine ow_blk _ ?_
                        refine ow_then ?_
                        refine wp_seq ?_
                        refine ah_region (fun W => Below w.heap.size w W ∧ RowAt W q41 (Mq.row m (.slice ac2 nc2 cc2) (.slice aw2 nw2 cw2) (.slice af2 nf2 cf2)) ∧ RowAt W q58 (Mq.row m (.slice ac3 m.cs.length cc3) (.slice aw3 m.ws.length cw3) (.slice az (m.fs.length + 1) cz)) ∧ Below V39.heap.size V39 W ∧ Below V23.heap.size V23 W ∧ MqOwn W W50.heap.size ({ m with fs := m.fs ++ [⟨#[(0 : UInt8)]⟩] } : Mq) (Value.slice ac3 m.cs.length cc3) (Value.slice aw3 m.ws.length cw3) (.slice az (m.fs.length + 1) cz)) (by kernel_rfl) 7 rfl ?_
                        refine fresh (C := fun x W => AH _ _ _ _ _ _ x W) (fun x X => _ = x ∧ Below w.heap.size w X ∧ RowAt X q41 (Mq.row m (.slice ac2 nc2 cc2) (.slice aw2 nw2 cw2) (.slice af2 nf2 cf2)) ∧ RowAt X q58 (Mq.row m (.slice ac3 m.cs.length cc3) (.slice aw3 m.ws.length cw3) (.slice az (m.fs.length + 1) cz)) ∧ Below V39.heap.size V39 X ∧ Below V23.heap.size V23 X ∧ MqOwn X W50.heap.size ({ m with fs := m.fs ++ [⟨#[(0 : UInt8)]⟩] } : Mq) (Value.slice ac3 m.cs.length cc3) (Value.slice aw3 m.ws.length cw3) (.slice az (m.fs.length + 1) cz)) ⟨rfl, (hbW169.trans (((Below.refl _ W169).drew).mono hbW169.size)), (rW169_0.below ((Below.refl _ W169).drew)), (rW169_1.below ((Below.refl _ W169).drew)), (fW169_0.trans (((Below.refl _ W169).drew).mono fW169_0.size)), (fW169_1.trans (((Below.refl _ W169).drew).mono fW169_1.size)), (fW169_2.below ((Below.refl _ W169).drew))⟩ ?_
                        rintro _ W171 ⟨rfl, hbW171, rW171_0, rW171_1, fW171_0, fW171_1, fW171_2⟩
                        refine ah_takeW 0 164 (.agg (Mq.row m (.slice ac3 m.cs.length cc3) (.slice aw3 m.ws.length cw3) (.slice az (m.fs.length + 1) cz)).toArray) rfl (wanted_none rfl) rfl (by kernel_rfl) (by kernel_rfl) (by kernel_rfl) (fun _ _ _ h => h) ⟨hbW171, rW171_0, rW171_1, fW171_0, fW171_1, fW171_2⟩ (fun W hW => by (try obtain ⟨hbW171, rW171_0, rW171_1, fW171_0, fW171_1, fW171_2⟩ := hW); exact (run_loadOp (eval_of s_14) (run_loadN [.int .i64 m.k, .string m.cl, .bool m.clean, .int .i64 m.keep, .bool m.wI, .string m.wT, .string m.wP, .int .i64 m.wQ, .bool m.wR, .string m.us, .bool m.hu, .string m.pa, .bool m.hp, .bool m.pres, .int .i64 m.code, .slice ac3 m.cs.length cc3, .bool m.dup, .int .i64 m.q, .bool m.re, .string m.top, .int .i64 m.id, .string m.pay, .slice aw3 m.ws.length cw3, .slice az (m.fs.length + 1) cz] rW171_1 (fun j v hj => by simpa using hj) Tryd.underlying30 rfl (by kernel_rfl)))) ?_
                        refine ah_takeW 4 168 (.agg (Mq.row m (.slice ac3 m.cs.length cc3) (.slice aw3 m.ws.length cw3) (.slice az (m.fs.length + 1) cz)).toArray) rfl (wanted_none rfl) rfl (by kernel_rfl) (by kernel_rfl) (by kernel_rfl) (fun _ _ _ h => h) ⟨hbW171, rW171_0, rW171_1, fW171_0, fW171_1, fW171_2⟩ (fun W hW => by (try obtain ⟨hbW171, rW171_0, rW171_1, fW171_0, fW171_1, fW171_2⟩ := hW); exact (run_loadOp (eval_of (pf1 (by decide) s_14)) (run_loadN [.int .i64 m.k, .string m.cl, .bool m.clean, .int .i64 m.keep, .bool m.wI, .string m.wT, .string m.wP, .int .i64 m.wQ, .bool m.wR, .string m.us, .bool m.hu, .string m.pa, .bool m.hp, .bool m.pres, .int .i64 m.code, .slice ac3 m.cs.length cc3, .bool m.dup, .int .i64 m.q, .bool m.re, .string m.top, .int .i64 m.id, .string m.pay, .slice aw3 m.ws.length cw3, .slice az (m.fs.length + 1) cz] rW171_1 (fun j v hj => by simpa using hj) Tryd.underlying30 rfl (by kernel_rfl)))) ?_
                        refine ah_one 1 (by kernel_rfl) ?_
                        refine ao_call rfl (wanted_none rfl) 165 (fun v X => v = .int .i64 (if mayB ({ m with fs := m.fs ++ [⟨#[(0 : UInt8)]⟩] } : Mq) = true then (0 : Int) else 1) ∧ Below W171.heap.size W171 X) rfl _ _ (run_callOp Tryd.func34 rfl rfl (arr1 (eval_of (pf1 (by decide) (put_get _ _ _ (by rw [hsz]; decide)))))) ((K.out.check ({ m with fs := m.fs ++ [⟨#[(0 : UInt8)]⟩] } : Mq) _ _ _ W171 hk (near_fs HNe.out 0) fW171_2.lists).mono fun e X h => ⟨_, h.1, rfl, h.2⟩) ?_
                        rintro _ V173 ⟨rfl, hb172⟩
                        have hbN := (hbW171.trans (hb172.mono hbW171.size))
                        have hbN174 := hbN
                        have rN175 := (rW171_0.below hb172)
                        have rN176 := (rW171_1.below hb172)
                        have fN177 := (fW171_0.trans (hb172.mono fW171_0.size))
                        have fN178 := (fW171_1.trans (hb172.mono fW171_1.size))
                        have fN179 := (fW171_2.below hb172)
                        refine ⟨⟨hbN174, rN175, rN176, fN177, fN178, fN179⟩, ?_⟩
                        refine ah_one 2 (by kernel_rfl) ?_
                        refine ao_call rfl (wanted_none rfl) 166 (fun v X => v = (.int .i64 (if mayB ({ m with fs := m.fs ++ [⟨#[(0 : UInt8)]⟩] } : Mq) = true then (0 : Int) else 1)) ∧ V173 = X) rfl _ _ (run_callOp Tryd.func26 rfl rfl (arr1 (eval_of (put_get _ _ _ (by simp only [put_size]; rw [hsz]; decide))))) ((num18_any _ _).mono fun e X h => ⟨_, h.1, rfl, h.2⟩) ?_
                        rintro _ _ ⟨rfl, rfl⟩
                        refine ⟨⟨hbN174, rN175, rN176, fN177, fN178, fN179⟩, ?_⟩
                        refine ah_takeW 3 167 (.bool (mayB ({ m with fs := m.fs ++ [⟨#[(0 : UInt8)]⟩] } : Mq))) rfl (wanted_none rfl) rfl (by kernel_rfl) (by kernel_rfl) (by kernel_rfl) (fun _ _ _ h => h) ⟨hbN174, rN175, rN176, fN177, fN178, fN179⟩ (fun W hW => by (try obtain ⟨hbN174, rN175, rN176, fN177, fN178, fN179⟩ := hW); exact (run_binOp (eval_of (put_get _ _ _ (by simp only [put_size]; rw [hsz]; decide))) (eval_cst _ _) (by simp [go_sem]) (ifEq0 _ _))) ?_
                        refine ah_one 5 (by kernel_rfl) ?_
                        refine ao_call rfl (wanted_none rfl) 169 (fun v X => v = .bool (mayB ({ m with fs := m.fs ++ [⟨#[(0 : UInt8)]⟩] } : Mq)) ∧ Below V173.heap.size V173 X) rfl _ _ (run_callOp Tryd.func33 rfl rfl (arr1 (eval_of (pf1 (by decide) (pf2 (by decide) (put_get _ _ _ (by simp only [put_size]; rw [hsz]; decide))))))) ((K.out.may ({ m with fs := m.fs ++ [⟨#[(0 : UInt8)]⟩] } : Mq) _ _ _ V173 hk (near_fs HNe.out 0) fN179.lists).mono fun e X h => ⟨_, h.1, rfl, h.2⟩) ?_
                        rintro _ V181 ⟨rfl, hb180⟩
                        have hbN := (hbN174.trans (hb180.mono hbN174.size))
                        have hbN182 := hbN
                        have rN183 := (rN175.below hb180)
                        have rN184 := (rN176.below hb180)
                        have fN185 := (fN177.trans (hb180.mono fN177.size))
                        have fN186 := (fN178.trans (hb180.mono fN178.size))
                        have fN187 := (fN179.below hb180)
                        refine ⟨⟨hbN182, rN183, rN184, fN185, fN186, fN187⟩, ?_⟩
                        refine ah_takeW 6 170 (.bool false) rfl (wanted_none rfl) rfl (by kernel_rfl) (by kernel_rfl) (by kernel_rfl) (fun _ _ _ h => h) ⟨hbN182, rN183, rN184, fN185, fN186, fN187⟩ (fun W hW => by (try obtain ⟨hbN182, rN183, rN184, fN185, fN186, fN187⟩ := hW); exact (run_binOp (eval_of (pf1 (by decide) (put_get _ _ _ (by simp only [put_size]; rw [hsz]; decide)))) (eval_of (put_get _ _ _ (by simp only [put_size]; rw [hsz]; decide))) (by simp [go_sem]) (boolNe_self _ _))) ?_
                        refine fresh (C := fun x W => AH _ _ _ _ _ _ x W) (fun x X => _ = X ∧ x.tmps.size = 202 ∧ x.defers = [] ∧ x.tmps[0]? = some (.slice ao L.length cap) ∧ x.tmps[1]? = some (.int .i64 kk) ∧ x.tmps[5]? = some (.int .i64 ((k : Nat) : Int)) ∧ x.tmps[7]? = some (.slice (some ⟨b1, o1, none⟩) (enc m).length c1) ∧ x.tmps[10]? = some (.pointer (some ⟨q41, 0, none⟩)) ∧ x.tmps[13]? = some (.int .i64 ((j : Nat) : Int)) ∧ x.tmps[170]? = some (.bool false)) ⟨rfl, (by simp only [put_size]; exact hsz), (by simp only [put_defers]; exact hdf), (pf1 (by decide) (pf2 (by decide) (pf4 (by decide) s_0))), (pf1 (by decide) (pf2 (by decide) (pf4 (by decide) s_1))), (pf1 (by decide) (pf2 (by decide) (pf4 (by decide) s_5))), (pf1 (by decide) (pf2 (by decide) (pf4 (by decide) s_7))), (pf1 (by decide) (pf2 (by decide) (pf4 (by decide) s_10))), (pf1 (by decide) (pf2 (by decide) (pf4 (by decide) s_13))), (put_get _ _ _ (by simp only [put_size]; rw [hsz]; decide))⟩ ?_
                        clear hsz hdf s_0 s_1 s_5 s_7 s_10 s_13 s_14
                        rintro a _ ⟨rfl, hsz, hdf, s_0, s_1, s_5, s_7, s_10, s_13, s_170⟩
                        refine ah_done (by kernel_rfl) ?_
                        refine ow_then ?_
                        refine ow_false (eval_of s_170) ?_
                        refine wp_skip ?_
                        refine ow_blk _ ?_
                        refine ow_then ?_
                        refine ow_region [_, _, _] rfl (by intro o ho; simp only [List.mem_cons, List.not_mem_nil, or_false] at ho; rcases ho with rfl | rfl | rfl <;> rfl) ?_
                        refine ow_run 109 (.int .i64 ((j : Nat) : Int)) _ rfl (run_moveOp (eval_of s_13)) ?_
                        refine ow_run 110 (.int .i64 (((j : Nat) : Int) + 1)) _ rfl (run_binOp (eval_of (put_get _ _ _ (by rw [hsz]; decide))) (eval_cst _ _) (by simp [go_sem]) (addI _ _ _ (by omega) (by omega))) ?_
                        refine ow_run 13 (.int .i64 (((j : Nat) : Int) + 1)) _ rfl (run_assignOp (eval_of (put_get _ _ _ (by simp only [put_size]; rw [hsz]; decide)))) ?_
                        refine fresh (C := fun x W => wpRun _ [] x W _) (fun x X => _ = X ∧ x.tmps.size = 202 ∧ x.defers = [] ∧ x.tmps[0]? = some (.slice ao L.length cap) ∧ x.tmps[1]? = some (.int .i64 kk) ∧ x.tmps[5]? = some (.int .i64 ((k : Nat) : Int)) ∧ x.tmps[7]? = some (.slice (some ⟨b1, o1, none⟩) (enc m).length c1) ∧ x.tmps[10]? = some (.pointer (some ⟨q41, 0, none⟩)) ∧ x.tmps[13]? = some (.int .i64 (((j : Nat) : Int) + 1))) ⟨rfl, (by simp only [put_size]; exact hsz), (by simp only [put_defers]; exact hdf), (pf1 (by decide) (pf2 (by decide) s_0)), (pf1 (by decide) (pf2 (by decide) s_1)), (pf1 (by decide) (pf2 (by decide) s_5)), (pf1 (by decide) (pf2 (by decide) s_7)), (pf1 (by decide) (pf2 (by decide) s_10)), (put_get _ _ _ (by simp only [put_size]; rw [hsz]; decide))⟩ ?_
                        clear hsz hdf s_0 s_1 s_5 s_7 s_10 s_13 s_170
                        rintro a _ ⟨rfl, hsz, hdf, s_0, s_1, s_5, s_7, s_10, s_13⟩
                        have hj8 : j < 8 := by have h := hb_54; simp only [decide_eq_true_eq] at h; omega
                        exact ow_then (hK52 _ _ _ (by omega) ⟨(j + 1), rfl, (by omega), hsz, hdf, s_0, s_1, s_5, s_7, s_10, (by first | exact s_13 | (rw [s_13]; congr 2; first | rfl | omega | (push_cast; omega)) | (rw [s_13]; first | rfl | (simp; try omega))), hbN182, rN183, fN186, fN185⟩)
                      · skip
                        refine ow_false (eval_of (flag_of s_141 hb_164)) ?_
                        refine wp_seq ?_
                        refine ow_region [_, _] rfl (by intro o ho; simp only [List.mem_cons, List.not_mem_nil, or_false] at ho; rcases ho with rfl | rfl <;> rfl) ?_
                        refine ow_run 149 (.bool (((j : Nat) : Int) == 5)) _ rfl (run_binOp (eval_of s_113) (eval_cst _ _) (eqInt _ _ _ _ _) (intEq _ _ _)) ?_
                        refine ow_run 148 (.bool (((j : Nat) : Int) == 5)) _ rfl (run_assignOp (eval_of (put_get _ _ _ (by rw [hsz]; decide)))) ?_
                        refine fresh (C := fun x W => wpRun _ [] x W _) (fun x X => _ = X ∧ x.tmps.size = 202 ∧ x.defers = [] ∧ x.tmps[0]? = some (.slice ao L.length cap) ∧ x.tmps[1]? = some (.int .i64 kk) ∧ x.tmps[5]? = some (.int .i64 ((k : Nat) : Int)) ∧ x.tmps[7]? = some (.slice (some ⟨b1, o1, none⟩) (enc m).length c1) ∧ x.tmps[10]? = some (.pointer (some ⟨q41, 0, none⟩)) ∧ x.tmps[13]? = some (.int .i64 ((j : Nat) : Int)) ∧ x.tmps[14]? = some (.pointer (some ⟨q58, 0, none⟩)) ∧ x.tmps[113]? = some (.int .i64 ((j : Nat) : Int)) ∧ x.tmps[148]? = some (.bool (((j : Nat) : Int) == 5))) ⟨rfl, (by simp only [put_size]; exact hsz), (by simp only [put_defers]; exact hdf), (pf2 (by decide) s_0), (pf2 (by decide) s_1), (pf2 (by decide) s_5), (pf2 (by decide) s_7), (pf2 (by decide) s_10), (pf2 (by decide) s_13), (pf2 (by decide) s_14), (pf2 (by decide) s_113), (put_get _ _ _ (by simp only [put_size]; rw [hsz]; decide))⟩ ?_
                        clear hsz hdf s_0 s_1 s_5 s_7 s_10 s_13 s_14 s_141 s_113
                        rintro a _ ⟨rfl, hsz, hdf, s_0, s_1, s_5, s_7, s_10, s_13, s_14, s_113, s_148⟩
                        refine ow_then ?_
                        rcases Bool.eq_false_or_eq_true ((((j : Nat) : Int) == 5)) with hb_191 | hb_191
                        · skip
                          refine ow_true (eval_of (flag_of s_148 hb_191)) ?_
                          refine ow_region [_, _, _] rfl (by intro o ho; simp only [List.mem_cons, List.not_mem_nil, or_false] at ho; rcases ho with rfl | rfl | rfl <;> rfl) ?_
                          refine ow_run 150 (.pointer (some ⟨q58, 4, none⟩)) _ rfl (run_fieldAddr (eval_of s_14) (by simp [go_sem, Instr.fieldAt])) ?_
                          refine ow_run 151 (.pointer (some ⟨q58, 7, none⟩)) _ rfl (run_fieldAddr (eval_of (put_get _ _ _ (by rw [hsz]; decide))) (by simp [go_sem, Instr.fieldAt])) ?_
                          refine ow_skip _ rfl (run_storeOp (eval_of (put_get _ _ _ (by simp only [put_size]; rw [hsz]; decide))) (eval_cst _ _) (run_store1 rW60_1 (by simp) (by kernel_rfl) rfl)) ?_
                          refine fresh (C := fun x W => wpRun _ _ x W _) (fun x X => _ = x ∧ Below w.heap.size w X ∧ RowAt X q41 (Mq.row m (.slice ac2 nc2 cc2) (.slice aw2 nw2 cw2) (.slice af2 nf2 cf2)) ∧ RowAt X q58 (Mq.row ({ m with wQ := 3 } : Mq) (.slice ac3 m.cs.length cc3) (.slice aw3 m.ws.length cw3) (.slice af3 m.fs.length cf3)) ∧ Below V23.heap.size V23 X ∧ Below V39.heap.size V39 X ∧ Below V56.heap.size V56 X) ⟨rfl, (below_set1 hbW60 (by omega)), (rW60_0.other (by omega)), (rW60_1.set1 7 _ (by simp)), (below_set1 fW60_0 (by omega)), (below_set1 fW60_1 (by omega)), (below_set1 fW60_2 (by omega))⟩ ?_
                          rintro _ W192 ⟨rfl, hbW192, rW192_0, rW192_1, fW192_0, fW192_1, fW192_2⟩
                          refine fresh (C := fun x W => wpRun _ [] x W _) (fun x X => _ = X ∧ x.tmps.size = 202 ∧ x.defers = [] ∧ x.tmps[0]? = some (.slice ao L.length cap) ∧ x.tmps[1]? = some (.int .i64 kk) ∧ x.tmps[5]? = some (.int .i64 ((k : Nat) : Int)) ∧ x.tmps[7]? = some (.slice (some ⟨b1, o1, none⟩) (enc m).length c1) ∧ x.tmps[10]? = some (.pointer (some ⟨q41, 0, none⟩)) ∧ x.tmps[13]? = some (.int .i64 ((j : Nat) : Int)) ∧ x.tmps[14]? = some (.pointer (some ⟨q58, 0, none⟩))) ⟨rfl, (by simp only [put_size]; exact hsz), (by simp only [put_defers]; exact hdf), (pf2 (by decide) s_0), (pf2 (by decide) s_1), (pf2 (by decide) s_5), (pf2 (by decide) s_7), (pf2 (by decide) s_10), (pf2 (by decide) s_13), (pf2 (by decide) s_14)⟩ ?_
                          clear hsz hdf s_0 s_1 s_5 s_7 s_10 s_13 s_14 s_113 s_148
                          rintro a _ ⟨rfl, hsz, hdf, s_0, s_1, s_5, s_7, s_10, s_13, s_14⟩
                          refine ow_blk _ ?_
                          refine ow_then ?_
                          refine wp_seq ?_
                          refine ah_region (fun W => Below w.heap.size w W ∧ RowAt W q41 (Mq.row m (.slice ac2 nc2 cc2) (.slice aw2 nw2 cw2) (.slice af2 nf2 cf2)) ∧ RowAt W q58 (Mq.row ({ m with wQ := 3 } : Mq) (.slice ac3 m.cs.length cc3) (.slice aw3 m.ws.length cw3) (.slice af3 m.fs.length cf3)) ∧ Below V23.heap.size V23 W ∧ Below V39.heap.size V39 W ∧ Below V56.heap.size V56 W) (by kernel_rfl) 7 rfl ?_
                          refine fresh (C := fun x W => AH _ _ _ _ _ _ x W) (fun x X => _ = x ∧ Below w.heap.size w X ∧ RowAt X q41 (Mq.row m (.slice ac2 nc2 cc2) (.slice aw2 nw2 cw2) (.slice af2 nf2 cf2)) ∧ RowAt X q58 (Mq.row ({ m with wQ := 3 } : Mq) (.slice ac3 m.cs.length cc3) (.slice aw3 m.ws.length cw3) (.slice af3 m.fs.length cf3)) ∧ Below V23.heap.size V23 X ∧ Below V39.heap.size V39 X ∧ Below V56.heap.size V56 X) ⟨rfl, (hbW192.trans (((Below.refl _ W192).drew).mono hbW192.size)), (rW192_0.below ((Below.refl _ W192).drew)), (rW192_1.below ((Below.refl _ W192).drew)), (fW192_0.trans (((Below.refl _ W192).drew).mono fW192_0.size)), (fW192_1.trans (((Below.refl _ W192).drew).mono fW192_1.size)), (fW192_2.trans (((Below.refl _ W192).drew).mono fW192_2.size))⟩ ?_
                          rintro _ W194 ⟨rfl, hbW194, rW194_0, rW194_1, fW194_0, fW194_1, fW194_2⟩
                          refine ah_takeW 0 164 (.agg (Mq.row ({ m with wQ := 3 } : Mq) (.slice ac3 m.cs.length cc3) (.slice aw3 m.ws.length cw3) (.slice af3 m.fs.length cf3)).toArray) rfl (wanted_none rfl) rfl (by kernel_rfl) (by kernel_rfl) (by kernel_rfl) (fun _ _ _ h => h) ⟨hbW194, rW194_0, rW194_1, fW194_0, fW194_1, fW194_2⟩ (fun W hW => by (try obtain ⟨hbW194, rW194_0, rW194_1, fW194_0, fW194_1, fW194_2⟩ := hW); exact (run_loadOp (eval_of s_14) (run_loadN [.int .i64 m.k, .string m.cl, .bool m.clean, .int .i64 m.keep, .bool m.wI, .string m.wT, .string m.wP, .int .i64 3, .bool m.wR, .string m.us, .bool m.hu, .string m.pa, .bool m.hp, .bool m.pres, .int .i64 m.code, .slice ac3 m.cs.length cc3, .bool m.dup, .int .i64 m.q, .bool m.re, .string m.top, .int .i64 m.id, .string m.pay, .slice aw3 m.ws.length cw3, .slice af3 m.fs.length cf3] rW194_1 (fun j v hj => by simpa using hj) Tryd.underlying30 rfl (by kernel_rfl)))) ?_
                          refine ah_takeW 4 168 (.agg (Mq.row ({ m with wQ := 3 } : Mq) (.slice ac3 m.cs.length cc3) (.slice aw3 m.ws.length cw3) (.slice af3 m.fs.length cf3)).toArray) rfl (wanted_none rfl) rfl (by kernel_rfl) (by kernel_rfl) (by kernel_rfl) (fun _ _ _ h => h) ⟨hbW194, rW194_0, rW194_1, fW194_0, fW194_1, fW194_2⟩ (fun W hW => by (try obtain ⟨hbW194, rW194_0, rW194_1, fW194_0, fW194_1, fW194_2⟩ := hW); exact (run_loadOp (eval_of (pf1 (by decide) s_14)) (run_loadN [.int .i64 m.k, .string m.cl, .bool m.clean, .int .i64 m.keep, .bool m.wI, .string m.wT, .string m.wP, .int .i64 3, .bool m.wR, .string m.us, .bool m.hu, .string m.pa, .bool m.hp, .bool m.pres, .int .i64 m.code, .slice ac3 m.cs.length cc3, .bool m.dup, .int .i64 m.q, .bool m.re, .string m.top, .int .i64 m.id, .string m.pay, .slice aw3 m.ws.length cw3, .slice af3 m.fs.length cf3] rW194_1 (fun j v hj => by simpa using hj) Tryd.underlying30 rfl (by kernel_rfl)))) ?_
                          refine ah_one 1 (by kernel_rfl) ?_
                          refine ao_call rfl (wanted_none rfl) 165 (fun v X => v = .int .i64 (if mayB ({ m with wQ := 3 } : Mq) = true then (0 : Int) else 1) ∧ Below W194.heap.size W194 X) rfl _ _ (run_callOp Tryd.func34 rfl rfl (arr1 (eval_of (pf1 (by decide) (put_get _ _ _ (by rw [hsz]; decide)))))) ((K.out.check ({ m with wQ := 3 } : Mq) _ _ _ W194 hk (near_wQ HNe.out 3) (lists_mod (HOw.out.below fW194_2).lists)).mono fun e X h => ⟨_, h.1, rfl, h.2⟩) ?_
                          rintro _ V196 ⟨rfl, hb195⟩
                          have hbN := (hbW194.trans (hb195.mono hbW194.size))
                          have hbN197 := hbN
                          have rN198 := (rW194_0.below hb195)
                          have rN199 := (rW194_1.below hb195)
                          have fN200 := (fW194_0.trans (hb195.mono fW194_0.size))
                          have fN201 := (fW194_1.trans (hb195.mono fW194_1.size))
                          have fN202 := (fW194_2.trans (hb195.mono fW194_2.size))
                          refine ⟨⟨hbN197, rN198, rN199, fN200, fN201, fN202⟩, ?_⟩
                          refine ah_one 2 (by kernel_rfl) ?_
                          refine ao_call rfl (wanted_none rfl) 166 (fun v X => v = (.int .i64 (if mayB ({ m with wQ := 3 } : Mq) = true then (0 : Int) else 1)) ∧ V196 = X) rfl _ _ (run_callOp Tryd.func26 rfl rfl (arr1 (eval_of (put_get _ _ _ (by simp only [put_size]; rw [hsz]; decide))))) ((num18_any _ _).mono fun e X h => ⟨_, h.1, rfl, h.2⟩) ?_
                          rintro _ _ ⟨rfl, rfl⟩
                          refine ⟨⟨hbN197, rN198, rN199, fN200, fN201, fN202⟩, ?_⟩
                          refine ah_takeW 3 167 (.bool (mayB ({ m with wQ := 3 } : Mq))) rfl (wanted_none rfl) rfl (by kernel_rfl) (by kernel_rfl) (by kernel_rfl) (fun _ _ _ h => h) ⟨hbN197, rN198, rN199, fN200, fN201, fN202⟩ (fun W hW => by (try obtain ⟨hbN197, rN198, rN199, fN200, fN201, fN202⟩ := hW); exact (run_binOp (eval_of (put_get _ _ _ (by simp only [put_size]; rw [hsz]; decide))) (eval_cst _ _) (by simp [go_sem]) (ifEq0 _ _))) ?_
                          refine ah_one 5 (by kernel_rfl) ?_
                          refine ao_call rfl (wanted_none rfl) 169 (fun v X => v = .bool (mayB ({ m with wQ := 3 } : Mq)) ∧ Below V196.heap.size V196 X) rfl _ _ (run_callOp Tryd.func33 rfl rfl (arr1 (eval_of (pf1 (by decide) (pf2 (by decide) (put_get _ _ _ (by simp only [put_size]; rw [hsz]; decide))))))) ((K.out.may ({ m with wQ := 3 } : Mq) _ _ _ V196 hk (near_wQ HNe.out 3) (lists_mod (HOw.out.below fN202).lists)).mono fun e X h => ⟨_, h.1, rfl, h.2⟩) ?_
                          rintro _ V204 ⟨rfl, hb203⟩
                          have hbN := (hbN197.trans (hb203.mono hbN197.size))
                          have hbN205 := hbN
                          have rN206 := (rN198.below hb203)
                          have rN207 := (rN199.below hb203)
                          have fN208 := (fN200.trans (hb203.mono fN200.size))
                          have fN209 := (fN201.trans (hb203.mono fN201.size))
                          have fN210 := (fN202.trans (hb203.mono fN202.size))
                          refine ⟨⟨hbN205, rN206, rN207, fN208, fN209, fN210⟩, ?_⟩
                          refine ah_takeW 6 170 (.bool false) rfl (wanted_none rfl) rfl (by kernel_rfl) (by kernel_rfl) (by kernel_rfl) (fun _ _ _ h => h) ⟨hbN205, rN206, rN207, fN208, fN209, fN210⟩ (fun W hW => by (try obtain ⟨hbN205, rN206, rN207, fN208, fN209, fN210⟩ := hW); exact (run_binOp (eval_of (pf1 (by decide) (put_get _ _ _ (by simp only [put_size]; rw [hsz]; decide)))) (eval_of (put_get _ _ _ (by simp only [put_size]; rw [hsz]; decide))) (by simp [go_sem]) (boolNe_self _ _))) ?_
                          refine fresh (C := fun x W => AH _ _ _ _ _ _ x W) (fun x X => _ = X ∧ x.tmps.size = 202 ∧ x.defers = [] ∧ x.tmps[0]? = some (.slice ao L.length cap) ∧ x.tmps[1]? = some (.int .i64 kk) ∧ x.tmps[5]? = some (.int .i64 ((k : Nat) : Int)) ∧ x.tmps[7]? = some (.slice (some ⟨b1, o1, none⟩) (enc m).length c1) ∧ x.tmps[10]? = some (.pointer (some ⟨q41, 0, none⟩)) ∧ x.tmps[13]? = some (.int .i64 ((j : Nat) : Int)) ∧ x.tmps[170]? = some (.bool false)) ⟨rfl, (by simp only [put_size]; exact hsz), (by simp only [put_defers]; exact hdf), (pf1 (by decide) (pf2 (by decide) (pf4 (by decide) s_0))), (pf1 (by decide) (pf2 (by decide) (pf4 (by decide) s_1))), (pf1 (by decide) (pf2 (by decide) (pf4 (by decide) s_5))), (pf1 (by decide) (pf2 (by decide) (pf4 (by decide) s_7))), (pf1 (by decide) (pf2 (by decide) (pf4 (by decide) s_10))), (pf1 (by decide) (pf2 (by decide) (pf4 (by decide) s_13))), (put_get _ _ _ (by simp only [put_size]; rw [hsz]; decide))⟩ ?_
                          clear hsz hdf s_0 s_1 s_5 s_7 s_10 s_13 s_14
                          rintro a _ ⟨rfl, hsz, hdf, s_0, s_1, s_5, s_7, s_10, s_13, s_170⟩
                          refine ah_done (by kernel_rfl) ?_
                          refine ow_then ?_
                          refine ow_false (eval_of s_170) ?_
                          refine wp_skip ?_
                          refine ow_blk _ ?_
                          refine ow_then ?_
                          refine ow_region [_, _, _] rfl (by intro o ho; simp only [List.mem_cons, List.not_mem_nil, or_false] at ho; rcases ho with rfl | rfl | rfl <;> rfl) ?_
                          refine ow_run 109 (.int .i64 ((j : Nat) : Int)) _ rfl (run_moveOp (eval_of s_13)) ?_
                          refine ow_run 110 (.int .i64 (((j : Nat) : Int) + 1)) _ rfl (run_binOp (eval_of (put_get _ _ _ (by rw [hsz]; decide))) (eval_cst _ _) (by simp [go_sem]) (addI _ _ _ (by omega) (by omega))) ?_
                          refine ow_run 13 (.int .i64 (((j : Nat) : Int) + 1)) _ rfl (run_assignOp (eval_of (put_get _ _ _ (by simp only [put_size]; rw [hsz]; decide)))) ?_
                          refine fresh (C := fun x W => wpRun _ [] x W _) (fun x X => _ = X ∧ x.tmps.size = 202 ∧ x.defers = [] ∧ x.tmps[0]? = some (.slice ao L.length cap) ∧ x.tmps[1]? = some (.int .i64 kk) ∧ x.tmps[5]? = some (.int .i64 ((k : Nat) : Int)) ∧ x.tmps[7]? = some (.slice (some ⟨b1, o1, none⟩) (enc m).length c1) ∧ x.tmps[10]? = some (.pointer (some ⟨q41, 0, none⟩)) ∧ x.tmps[13]? = some (.int .i64 (((j : Nat) : Int) + 1))) ⟨rfl, (by simp only [put_size]; exact hsz), (by simp only [put_defers]; exact hdf), (pf1 (by decide) (pf2 (by decide) s_0)), (pf1 (by decide) (pf2 (by decide) s_1)), (pf1 (by decide) (pf2 (by decide) s_5)), (pf1 (by decide) (pf2 (by decide) s_7)), (pf1 (by decide) (pf2 (by decide) s_10)), (put_get _ _ _ (by simp only [put_size]; rw [hsz]; decide))⟩ ?_
                          clear hsz hdf s_0 s_1 s_5 s_7 s_10 s_13 s_170
                          rintro a _ ⟨rfl, hsz, hdf, s_0, s_1, s_5, s_7, s_10, s_13⟩
                          have hj8 : j < 8 := by have h := hb_54; simp only [decide_eq_true_eq] at h; omega
                          exact ow_then (hK52 _ _ _ (by omega) ⟨(j + 1), rfl, (by omega), hsz, hdf, s_0, s_1, s_5, s_7, s_10, (by first | exact s_13 | (rw [s_13]; congr 2; first | rfl | omega | (push_cast; omega)) | (rw [s_13]; first | rfl | (simp; try omega))), hbN205, rN206, fN208, fN209⟩)
                        · skip
                          refine ow_false (eval_of (flag_of s_148 hb_191)) ?_
                          refine wp_seq ?_
                          refine ow_region [_, _] rfl (by intro o ho; simp only [List.mem_cons, List.not_mem_nil, or_false] at ho; rcases ho with rfl | rfl <;> rfl) ?_
                          refine ow_run 153 (.bool (((j : Nat) : Int) == 6)) _ rfl (run_binOp (eval_of s_113) (eval_cst _ _) (eqInt _ _ _ _ _) (intEq _ _ _)) ?_
                          refine ow_run 152 (.bool (((j : Nat) : Int) == 6)) _ rfl (run_assignOp (eval_of (put_get _ _ _ (by rw [hsz]; decide)))) ?_
                          refine fresh (C := fun x W => wpRun _ [] x W _) (fun x X => _ = X ∧ x.tmps.size = 202 ∧ x.defers = [] ∧ x.tmps[0]? = some (.slice ao L.length cap) ∧ x.tmps[1]? = some (.int .i64 kk) ∧ x.tmps[5]? = some (.int .i64 ((k : Nat) : Int)) ∧ x.tmps[7]? = some (.slice (some ⟨b1, o1, none⟩) (enc m).length c1) ∧ x.tmps[10]? = some (.pointer (some ⟨q41, 0, none⟩)) ∧ x.tmps[13]? = some (.int .i64 ((j : Nat) : Int)) ∧ x.tmps[14]? = some (.pointer (some ⟨q58, 0, none⟩)) ∧ x.tmps[113]? = some (.int .i64 ((j : Nat) : Int)) ∧ x.tmps[152]? = some (.bool (((j : Nat) : Int) == 6))) ⟨rfl, (by simp only [put_size]; exact hsz), (by simp only [put_defers]; exact hdf), (pf2 (by decide) s_0), (pf2 (by decide) s_1), (pf2 (by decide) s_5), (pf2 (by decide) s_7), (pf2 (by decide) s_10), (pf2 (by decide) s_13), (pf2 (by decide) s_14), (pf2 (by decide) s_113), (put_get _ _ _ (by simp only [put_size]; rw [hsz]; decide))⟩ ?_
                          clear hsz hdf s_0 s_1 s_5 s_7 s_10 s_13 s_14 s_113 s_148
                          rintro a _ ⟨rfl, hsz, hdf, s_0, s_1, s_5, s_7, s_10, s_13, s_14, s_113, s_152⟩
                          refine ow_then ?_
                          rcases Bool.eq_false_or_eq_true ((((j : Nat) : Int) == 6)) with hb_214 | hb_214
                          · skip
                            refine ow_true (eval_of (flag_of s_152 hb_214)) ?_
                            refine ow_region [_, _, _, _, _] rfl (by intro o ho; simp only [List.mem_cons, List.not_mem_nil, or_false] at ho; rcases ho with rfl | rfl | rfl | rfl | rfl <;> rfl) ?_
                            refine ow_run 154 (.pointer (some ⟨q58, 11, none⟩)) _ rfl (run_fieldAddr (eval_of s_14) (by simp [go_sem, Instr.fieldAt])) ?_
                            refine ow_run 155 (.string m.pa) _ rfl (run_loadOp (eval_of (put_get _ _ _ (by rw [hsz]; decide))) (by simp [go_sem, Instr.loadAt, rW60_1.cell (j := 11) rfl])) ?_
                            refine ow_run 156 (.string (m.pa ++ ⟨#[(120 : UInt8)]⟩)) _ rfl (run_binOp (eval_of (put_get _ _ _ (by simp only [put_size]; rw [hsz]; decide))) (eval_cst _ _) (by simp [go_sem]) (strAdd _ _ _ hsPa)) ?_
                            refine ow_run 157 (.pointer (some ⟨q58, 11, none⟩)) _ rfl (run_fieldAddr (eval_of (pf1 (by decide) (pf2 (by decide) s_14))) (by simp [go_sem, Instr.fieldAt])) ?_
                            refine ow_skip _ rfl (run_storeOp (eval_of (put_get _ _ _ (by simp only [put_size]; rw [hsz]; decide))) (eval_of (pf1 (by decide) (put_get _ _ _ (by simp only [put_size]; rw [hsz]; decide)))) (run_store1 rW60_1 (by simp) (by kernel_rfl) rfl)) ?_
                            refine fresh (C := fun x W => wpRun _ _ x W _) (fun x X => _ = x ∧ Below w.heap.size w X ∧ RowAt X q41 (Mq.row m (.slice ac2 nc2 cc2) (.slice aw2 nw2 cw2) (.slice af2 nf2 cf2)) ∧ RowAt X q58 (Mq.row ({ m with pa := (m.pa ++ ⟨#[(120 : UInt8)]⟩) } : Mq) (.slice ac3 m.cs.length cc3) (.slice aw3 m.ws.length cw3) (.slice af3 m.fs.length cf3)) ∧ Below V23.heap.size V23 X ∧ Below V39.heap.size V39 X ∧ Below V56.heap.size V56 X) ⟨rfl, (below_set1 hbW60 (by omega)), (rW60_0.other (by omega)), (rW60_1.set1 11 _ (by simp)), (below_set1 fW60_0 (by omega)), (below_set1 fW60_1 (by omega)), (below_set1 fW60_2 (by omega))⟩ ?_
                            rintro _ W215 ⟨rfl, hbW215, rW215_0, rW215_1, fW215_0, fW215_1, fW215_2⟩
                            refine fresh (C := fun x W => wpRun _ [] x W _) (fun x X => _ = X ∧ x.tmps.size = 202 ∧ x.defers = [] ∧ x.tmps[0]? = some (.slice ao L.length cap) ∧ x.tmps[1]? = some (.int .i64 kk) ∧ x.tmps[5]? = some (.int .i64 ((k : Nat) : Int)) ∧ x.tmps[7]? = some (.slice (some ⟨b1, o1, none⟩) (enc m).length c1) ∧ x.tmps[10]? = some (.pointer (some ⟨q41, 0, none⟩)) ∧ x.tmps[13]? = some (.int .i64 ((j : Nat) : Int)) ∧ x.tmps[14]? = some (.pointer (some ⟨q58, 0, none⟩))) ⟨rfl, (by simp only [put_size]; exact hsz), (by simp only [put_defers]; exact hdf), (pf4 (by decide) s_0), (pf4 (by decide) s_1), (pf4 (by decide) s_5), (pf4 (by decide) s_7), (pf4 (by decide) s_10), (pf4 (by decide) s_13), (pf4 (by decide) s_14)⟩ ?_
                            clear hsz hdf s_0 s_1 s_5 s_7 s_10 s_13 s_14 s_113 s_152
                            rintro a _ ⟨rfl, hsz, hdf, s_0, s_1, s_5, s_7, s_10, s_13, s_14⟩
                            refine ow_blk _ ?_
                            refine ow_then ?_
                            refine wp_seq ?_
                            refine ah_region (fun W => Below w.heap.size w W ∧ RowAt W q41 (Mq.row m (.slice ac2 nc2 cc2) (.slice aw2 nw2 cw2) (.slice af2 nf2 cf2)) ∧ RowAt W q58 (Mq.row ({ m with pa := (m.pa ++ ⟨#[(120 : UInt8)]⟩) } : Mq) (.slice ac3 m.cs.length cc3) (.slice aw3 m.ws.length cw3) (.slice af3 m.fs.length cf3)) ∧ Below V23.heap.size V23 W ∧ Below V39.heap.size V39 W ∧ Below V56.heap.size V56 W) (by kernel_rfl) 7 rfl ?_
                            refine fresh (C := fun x W => AH _ _ _ _ _ _ x W) (fun x X => _ = x ∧ Below w.heap.size w X ∧ RowAt X q41 (Mq.row m (.slice ac2 nc2 cc2) (.slice aw2 nw2 cw2) (.slice af2 nf2 cf2)) ∧ RowAt X q58 (Mq.row ({ m with pa := (m.pa ++ ⟨#[(120 : UInt8)]⟩) } : Mq) (.slice ac3 m.cs.length cc3) (.slice aw3 m.ws.length cw3) (.slice af3 m.fs.length cf3)) ∧ Below V23.heap.size V23 X ∧ Below V39.heap.size V39 X ∧ Below V56.heap.size V56 X) ⟨rfl, (hbW215.trans (((Below.refl _ W215).drew).mono hbW215.size)), (rW215_0.below ((Below.refl _ W215).drew)), (rW215_1.below ((Below.refl _ W215).drew)), (fW215_0.trans (((Below.refl _ W215).drew).mono fW215_0.size)), (fW215_1.trans (((Below.refl _ W215).drew).mono fW215_1.size)), (fW215_2.trans (((Below.refl _ W215).drew).mono fW215_2.size))⟩ ?_
                            rintro _ W217 ⟨rfl, hbW217, rW217_0, rW217_1, fW217_0, fW217_1, fW217_2⟩
                            refine ah_takeW 0 164 (.agg (Mq.row ({ m with pa := (m.pa ++ ⟨#[(120 : UInt8)]⟩) } : Mq) (.slice ac3 m.cs.length cc3) (.slice aw3 m.ws.length cw3) (.slice af3 m.fs.length cf3)).toArray) rfl (wanted_none rfl) rfl (by kernel_rfl) (by kernel_rfl) (by kernel_rfl) (fun _ _ _ h => h) ⟨hbW217, rW217_0, rW217_1, fW217_0, fW217_1, fW217_2⟩ (fun W hW => by (try obtain ⟨hbW217, rW217_0, rW217_1, fW217_0, fW217_1, fW217_2⟩ := hW); exact (run_loadOp (eval_of s_14) (run_loadN [.int .i64 m.k, .string m.cl, .bool m.clean, .int .i64 m.keep, .bool m.wI, .string m.wT, .string m.wP, .int .i64 m.wQ, .bool m.wR, .string m.us, .bool m.hu, .string (m.pa ++ ⟨#[(120 : UInt8)]⟩), .bool m.hp, .bool m.pres, .int .i64 m.code, .slice ac3 m.cs.length cc3, .bool m.dup, .int .i64 m.q, .bool m.re, .string m.top, .int .i64 m.id, .string m.pay, .slice aw3 m.ws.length cw3, .slice af3 m.fs.length cf3] rW217_1 (fun j v hj => by simpa using hj) Tryd.underlying30 rfl (by kernel_rfl)))) ?_
                            refine ah_takeW 4 168 (.agg (Mq.row ({ m with pa := (m.pa ++ ⟨#[(120 : UInt8)]⟩) } : Mq) (.slice ac3 m.cs.length cc3) (.slice aw3 m.ws.length cw3) (.slice af3 m.fs.length cf3)).toArray) rfl (wanted_none rfl) rfl (by kernel_rfl) (by kernel_rfl) (by kernel_rfl) (fun _ _ _ h => h) ⟨hbW217, rW217_0, rW217_1, fW217_0, fW217_1, fW217_2⟩ (fun W hW => by (try obtain ⟨hbW217, rW217_0, rW217_1, fW217_0, fW217_1, fW217_2⟩ := hW); exact (run_loadOp (eval_of (pf1 (by decide) s_14)) (run_loadN [.int .i64 m.k, .string m.cl, .bool m.clean, .int .i64 m.keep, .bool m.wI, .string m.wT, .string m.wP, .int .i64 m.wQ, .bool m.wR, .string m.us, .bool m.hu, .string (m.pa ++ ⟨#[(120 : UInt8)]⟩), .bool m.hp, .bool m.pres, .int .i64 m.code, .slice ac3 m.cs.length cc3, .bool m.dup, .int .i64 m.q, .bool m.re, .string m.top, .int .i64 m.id, .string m.pay, .slice aw3 m.ws.length cw3, .slice af3 m.fs.length cf3] rW217_1 (fun j v hj => by simpa using hj) Tryd.underlying30 rfl (by kernel_rfl)))) ?_
                            refine ah_one 1 (by kernel_rfl) ?_
                            refine ao_call rfl (wanted_none rfl) 165 (fun v X => v = .int .i64 (if mayB ({ m with pa := m.pa ++ ⟨#[(120 : UInt8)]⟩ } : Mq) = true then (0 : Int) else 1) ∧ Below W217.heap.size W217 X) rfl _ _ (run_callOp Tryd.func34 rfl rfl (arr1 (eval_of (pf1 (by decide) (put_get _ _ _ (by rw [hsz]; decide)))))) ((K.out.check ({ m with pa := m.pa ++ ⟨#[(120 : UInt8)]⟩ } : Mq) _ _ _ W217 hk (near_pa HNe.out 120) (lists_mod (HOw.out.below fW217_2).lists)).mono fun e X h => ⟨_, h.1, rfl, h.2⟩) ?_
                            rintro _ V219 ⟨rfl, hb218⟩
                            have hbN := (hbW217.trans (hb218.mono hbW217.size))
                            have hbN220 := hbN
                            have rN221 := (rW217_0.below hb218)
                            have rN222 := (rW217_1.below hb218)
                            have fN223 := (fW217_0.trans (hb218.mono fW217_0.size))
                            have fN224 := (fW217_1.trans (hb218.mono fW217_1.size))
                            have fN225 := (fW217_2.trans (hb218.mono fW217_2.size))
                            refine ⟨⟨hbN220, rN221, rN222, fN223, fN224, fN225⟩, ?_⟩
                            refine ah_one 2 (by kernel_rfl) ?_
                            refine ao_call rfl (wanted_none rfl) 166 (fun v X => v = (.int .i64 (if mayB ({ m with pa := m.pa ++ ⟨#[(120 : UInt8)]⟩ } : Mq) = true then (0 : Int) else 1)) ∧ V219 = X) rfl _ _ (run_callOp Tryd.func26 rfl rfl (arr1 (eval_of (put_get _ _ _ (by simp only [put_size]; rw [hsz]; decide))))) ((num18_any _ _).mono fun e X h => ⟨_, h.1, rfl, h.2⟩) ?_
                            rintro _ _ ⟨rfl, rfl⟩
                            refine ⟨⟨hbN220, rN221, rN222, fN223, fN224, fN225⟩, ?_⟩
                            refine ah_takeW 3 167 (.bool (mayB ({ m with pa := m.pa ++ ⟨#[(120 : UInt8)]⟩ } : Mq))) rfl (wanted_none rfl) rfl (by kernel_rfl) (by kernel_rfl) (by kernel_rfl) (fun _ _ _ h => h) ⟨hbN220, rN221, rN222, fN223, fN224, fN225⟩ (fun W hW => by (try obtain ⟨hbN220, rN221, rN222, fN223, fN224, fN225⟩ := hW); exact (run_binOp (eval_of (put_get _ _ _ (by simp only [put_size]; rw [hsz]; decide))) (eval_cst _ _) (by simp [go_sem]) (ifEq0 _ _))) ?_
                            refine ah_one 5 (by kernel_rfl) ?_
                            refine ao_call rfl (wanted_none rfl) 169 (fun v X => v = .bool (mayB ({ m with pa := m.pa ++ ⟨#[(120 : UInt8)]⟩ } : Mq)) ∧ Below V219.heap.size V219 X) rfl _ _ (run_callOp Tryd.func33 rfl rfl (arr1 (eval_of (pf1 (by decide) (pf2 (by decide) (put_get _ _ _ (by simp only [put_size]; rw [hsz]; decide))))))) ((K.out.may ({ m with pa := m.pa ++ ⟨#[(120 : UInt8)]⟩ } : Mq) _ _ _ V219 hk (near_pa HNe.out 120) (lists_mod (HOw.out.below fN225).lists)).mono fun e X h => ⟨_, h.1, rfl, h.2⟩) ?_
                            rintro _ V227 ⟨rfl, hb226⟩
                            have hbN := (hbN220.trans (hb226.mono hbN220.size))
                            have hbN228 := hbN
                            have rN229 := (rN221.below hb226)
                            have rN230 := (rN222.below hb226)
                            have fN231 := (fN223.trans (hb226.mono fN223.size))
                            have fN232 := (fN224.trans (hb226.mono fN224.size))
                            have fN233 := (fN225.trans (hb226.mono fN225.size))
                            refine ⟨⟨hbN228, rN229, rN230, fN231, fN232, fN233⟩, ?_⟩
                            refine ah_takeW 6 170 (.bool false) rfl (wanted_none rfl) rfl (by kernel_rfl) (by kernel_rfl) (by kernel_rfl) (fun _ _ _ h => h) ⟨hbN228, rN229, rN230, fN231, fN232, fN233⟩ (fun W hW => by (try obtain ⟨hbN228, rN229, rN230, fN231, fN232, fN233⟩ := hW); exact (run_binOp (eval_of (pf1 (by decide) (put_get _ _ _ (by simp only [put_size]; rw [hsz]; decide)))) (eval_of (put_get _ _ _ (by simp only [put_size]; rw [hsz]; decide))) (by simp [go_sem]) (boolNe_self _ _))) ?_
                            refine fresh (C := fun x W => AH _ _ _ _ _ _ x W) (fun x X => _ = X ∧ x.tmps.size = 202 ∧ x.defers = [] ∧ x.tmps[0]? = some (.slice ao L.length cap) ∧ x.tmps[1]? = some (.int .i64 kk) ∧ x.tmps[5]? = some (.int .i64 ((k : Nat) : Int)) ∧ x.tmps[7]? = some (.slice (some ⟨b1, o1, none⟩) (enc m).length c1) ∧ x.tmps[10]? = some (.pointer (some ⟨q41, 0, none⟩)) ∧ x.tmps[13]? = some (.int .i64 ((j : Nat) : Int)) ∧ x.tmps[170]? = some (.bool false)) ⟨rfl, (by simp only [put_size]; exact hsz), (by simp only [put_defers]; exact hdf), (pf1 (by decide) (pf2 (by decide) (pf4 (by decide) s_0))), (pf1 (by decide) (pf2 (by decide) (pf4 (by decide) s_1))), (pf1 (by decide) (pf2 (by decide) (pf4 (by decide) s_5))), (pf1 (by decide) (pf2 (by decide) (pf4 (by decide) s_7))), (pf1 (by decide) (pf2 (by decide) (pf4 (by decide) s_10))), (pf1 (by decide) (pf2 (by decide) (pf4 (by decide) s_13))), (put_get _ _ _ (by simp only [put_size]; rw [hsz]; decide))⟩ ?_
                            clear hsz hdf s_0 s_1 s_5 s_7 s_10 s_13 s_14
                            rintro a _ ⟨rfl, hsz, hdf, s_0, s_1, s_5, s_7, s_10, s_13, s_170⟩
                            refine ah_done (by kernel_rfl) ?_
                            refine ow_then ?_
                            refine ow_false (eval_of s_170) ?_
                            refine wp_skip ?_
                            refine ow_blk _ ?_
                            refine ow_then ?_
                            refine ow_region [_, _, _] rfl (by intro o ho; simp only [List.mem_cons, List.not_mem_nil, or_false] at ho; rcases ho with rfl | rfl | rfl <;> rfl) ?_
                            refine ow_run 109 (.int .i64 ((j : Nat) : Int)) _ rfl (run_moveOp (eval_of s_13)) ?_
                            refine ow_run 110 (.int .i64 (((j : Nat) : Int) + 1)) _ rfl (run_binOp (eval_of (put_get _ _ _ (by rw [hsz]; decide))) (eval_cst _ _) (by simp [go_sem]) (addI _ _ _ (by omega) (by omega))) ?_
                            refine ow_run 13 (.int .i64 (((j : Nat) : Int) + 1)) _ rfl (run_assignOp (eval_of (put_get _ _ _ (by simp only [put_size]; rw [hsz]; decide)))) ?_
                            refine fresh (C := fun x W => wpRun _ [] x W _) (fun x X => _ = X ∧ x.tmps.size = 202 ∧ x.defers = [] ∧ x.tmps[0]? = some (.slice ao L.length cap) ∧ x.tmps[1]? = some (.int .i64 kk) ∧ x.tmps[5]? = some (.int .i64 ((k : Nat) : Int)) ∧ x.tmps[7]? = some (.slice (some ⟨b1, o1, none⟩) (enc m).length c1) ∧ x.tmps[10]? = some (.pointer (some ⟨q41, 0, none⟩)) ∧ x.tmps[13]? = some (.int .i64 (((j : Nat) : Int) + 1))) ⟨rfl, (by simp only [put_size]; exact hsz), (by simp only [put_defers]; exact hdf), (pf1 (by decide) (pf2 (by decide) s_0)), (pf1 (by decide) (pf2 (by decide) s_1)), (pf1 (by decide) (pf2 (by decide) s_5)), (pf1 (by decide) (pf2 (by decide) s_7)), (pf1 (by decide) (pf2 (by decide) s_10)), (put_get _ _ _ (by simp only [put_size]; rw [hsz]; decide))⟩ ?_
                            clear hsz hdf s_0 s_1 s_5 s_7 s_10 s_13 s_170
                            rintro a _ ⟨rfl, hsz, hdf, s_0, s_1, s_5, s_7, s_10, s_13⟩
                            have hj8 : j < 8 := by have h := hb_54; simp only [decide_eq_true_eq] at h; omega
                            exact ow_then (hK52 _ _ _ (by omega) ⟨(j + 1), rfl, (by omega), hsz, hdf, s_0, s_1, s_5, s_7, s_10, (by first | exact s_13 | (rw [s_13]; congr 2; first | rfl | omega | (push_cast; omega)) | (rw [s_13]; first | rfl | (simp; try omega))), hbN228, rN229, fN231, fN232⟩)
                          · skip
                            refine ow_false (eval_of (flag_of s_152 hb_214)) ?_
                            refine wp_seq ?_
                            refine ow_region [_, _] rfl (by intro o ho; simp only [List.mem_cons, List.not_mem_nil, or_false] at ho; rcases ho with rfl | rfl <;> rfl) ?_
                            refine ow_run 159 (.bool (((j : Nat) : Int) == 7)) _ rfl (run_binOp (eval_of s_113) (eval_cst _ _) (eqInt _ _ _ _ _) (intEq _ _ _)) ?_
                            refine ow_run 158 (.bool (((j : Nat) : Int) == 7)) _ rfl (run_assignOp (eval_of (put_get _ _ _ (by rw [hsz]; decide)))) ?_
                            refine fresh (C := fun x W => wpRun _ [] x W _) (fun x X => _ = X ∧ x.tmps.size = 202 ∧ x.defers = [] ∧ x.tmps[0]? = some (.slice ao L.length cap) ∧ x.tmps[1]? = some (.int .i64 kk) ∧ x.tmps[5]? = some (.int .i64 ((k : Nat) : Int)) ∧ x.tmps[7]? = some (.slice (some ⟨b1, o1, none⟩) (enc m).length c1) ∧ x.tmps[10]? = some (.pointer (some ⟨q41, 0, none⟩)) ∧ x.tmps[13]? = some (.int .i64 ((j : Nat) : Int)) ∧ x.tmps[14]? = some (.pointer (some ⟨q58, 0, none⟩)) ∧ x.tmps[158]? = some (.bool (((j : Nat) : Int) == 7))) ⟨rfl, (by simp only [put_size]; exact hsz), (by simp only [put_defers]; exact hdf), (pf2 (by decide) s_0), (pf2 (by decide) s_1), (pf2 (by decide) s_5), (pf2 (by decide) s_7), (pf2 (by decide) s_10), (pf2 (by decide) s_13), (pf2 (by decide) s_14), (put_get _ _ _ (by simp only [put_size]; rw [hsz]; decide))⟩ ?_
                            clear hsz hdf s_0 s_1 s_5 s_7 s_10 s_13 s_14 s_113 s_152
                            rintro a _ ⟨rfl, hsz, hdf, s_0, s_1, s_5, s_7, s_10, s_13, s_14, s_158⟩
                            refine ow_then ?_
                            rcases Bool.eq_false_or_eq_true ((((j : Nat) : Int) == 7)) with hb_237 | hb_237
                            · skip
                              refine ow_true (eval_of (flag_of s_158 hb_237)) ?_
                              refine ow_region [_, _, _, _, _] rfl (by intro o ho; simp only [List.mem_cons, List.not_mem_nil, or_false] at ho; rcases ho with rfl | rfl | rfl | rfl | rfl <;> rfl) ?_
                              refine ow_run 160 (.pointer (some ⟨q58, 13, none⟩)) _ rfl (run_fieldAddr (eval_of s_14) (by simp [go_sem, Instr.fieldAt])) ?_
                              refine ow_run 161 (.bool m.pres) _ rfl (run_loadOp (eval_of (put_get _ _ _ (by rw [hsz]; decide))) (by simp [go_sem, Instr.loadAt, rW60_1.cell (j := 13) rfl])) ?_
                              refine ow_run 162 (.bool (!m.pres)) _ rfl (run_notOp (eval_of (put_get _ _ _ (by simp only [put_size]; rw [hsz]; decide)))) ?_
                              refine ow_run 163 (.pointer (some ⟨q58, 13, none⟩)) _ rfl (run_fieldAddr (eval_of (pf1 (by decide) (pf2 (by decide) s_14))) (by simp [go_sem, Instr.fieldAt])) ?_
                              refine ow_skip _ rfl (run_storeOp (eval_of (put_get _ _ _ (by simp only [put_size]; rw [hsz]; decide))) (eval_of (pf1 (by decide) (put_get _ _ _ (by simp only [put_size]; rw [hsz]; decide)))) (run_store1 rW60_1 (by simp) (by kernel_rfl) rfl)) ?_
                              refine fresh (C := fun x W => wpRun _ _ x W _) (fun x X => _ = x ∧ Below w.heap.size w X ∧ RowAt X q41 (Mq.row m (.slice ac2 nc2 cc2) (.slice aw2 nw2 cw2) (.slice af2 nf2 cf2)) ∧ RowAt X q58 (Mq.row ({ m with pres := (!m.pres) } : Mq) (.slice ac3 m.cs.length cc3) (.slice aw3 m.ws.length cw3) (.slice af3 m.fs.length cf3)) ∧ Below V23.heap.size V23 X ∧ Below V39.heap.size V39 X ∧ Below V56.heap.size V56 X) ⟨rfl, (below_set1 hbW60 (by omega)), (rW60_0.other (by omega)), (rW60_1.set1 13 _ (by simp)), (below_set1 fW60_0 (by omega)), (below_set1 fW60_1 (by omega)), (below_set1 fW60_2 (by omega))⟩ ?_
                              rintro _ W238 ⟨rfl, hbW238, rW238_0, rW238_1, fW238_0, fW238_1, fW238_2⟩
                              refine fresh (C := fun x W => wpRun _ [] x W _) (fun x X => _ = X ∧ x.tmps.size = 202 ∧ x.defers = [] ∧ x.tmps[0]? = some (.slice ao L.length cap) ∧ x.tmps[1]? = some (.int .i64 kk) ∧ x.tmps[5]? = some (.int .i64 ((k : Nat) : Int)) ∧ x.tmps[7]? = some (.slice (some ⟨b1, o1, none⟩) (enc m).length c1) ∧ x.tmps[10]? = some (.pointer (some ⟨q41, 0, none⟩)) ∧ x.tmps[13]? = some (.int .i64 ((j : Nat) : Int)) ∧ x.tmps[14]? = some (.pointer (some ⟨q58, 0, none⟩))) ⟨rfl, (by simp only [put_size]; exact hsz), (by simp only [put_defers]; exact hdf), (pf4 (by decide) s_0), (pf4 (by decide) s_1), (pf4 (by decide) s_5), (pf4 (by decide) s_7), (pf4 (by decide) s_10), (pf4 (by decide) s_13), (pf4 (by decide) s_14)⟩ ?_
                              clear hsz hdf s_0 s_1 s_5 s_7 s_10 s_13 s_14 s_158
                              rintro a _ ⟨rfl, hsz, hdf, s_0, s_1, s_5, s_7, s_10, s_13, s_14⟩
                              refine ow_blk _ ?_
                              refine ow_then ?_
                              refine wp_seq ?_
                              refine ah_region (fun W => Below w.heap.size w W ∧ RowAt W q41 (Mq.row m (.slice ac2 nc2 cc2) (.slice aw2 nw2 cw2) (.slice af2 nf2 cf2)) ∧ RowAt W q58 (Mq.row ({ m with pres := (!m.pres) } : Mq) (.slice ac3 m.cs.length cc3) (.slice aw3 m.ws.length cw3) (.slice af3 m.fs.length cf3)) ∧ Below V23.heap.size V23 W ∧ Below V39.heap.size V39 W ∧ Below V56.heap.size V56 W) (by kernel_rfl) 7 rfl ?_
                              refine fresh (C := fun x W => AH _ _ _ _ _ _ x W) (fun x X => _ = x ∧ Below w.heap.size w X ∧ RowAt X q41 (Mq.row m (.slice ac2 nc2 cc2) (.slice aw2 nw2 cw2) (.slice af2 nf2 cf2)) ∧ RowAt X q58 (Mq.row ({ m with pres := (!m.pres) } : Mq) (.slice ac3 m.cs.length cc3) (.slice aw3 m.ws.length cw3) (.slice af3 m.fs.length cf3)) ∧ Below V23.heap.size V23 X ∧ Below V39.heap.size V39 X ∧ Below V56.heap.size V56 X) ⟨rfl, (hbW238.trans (((Below.refl _ W238).drew).mono hbW238.size)), (rW238_0.below ((Below.refl _ W238).drew)), (rW238_1.below ((Below.refl _ W238).drew)), (fW238_0.trans (((Below.refl _ W238).drew).mono fW238_0.size)), (fW238_1.trans (((Below.refl _ W238).drew).mono fW238_1.size)), (fW238_2.trans (((Below.refl _ W238).drew).mono fW238_2.size))⟩ ?_
                              rintro _ W240 ⟨rfl, hbW240, rW240_0, rW240_1, fW240_0, fW240_1, fW240_2⟩
                              refine ah_takeW 0 164 (.agg (Mq.row ({ m with pres := (!m.pres) } : Mq) (.slice ac3 m.cs.length cc3) (.slice aw3 m.ws.length cw3) (.slice af3 m.fs.length cf3)).toArray) rfl (wanted_none rfl) rfl (by kernel_rfl) (by kernel_rfl) (by kernel_rfl) (fun _ _ _ h => h) ⟨hbW240, rW240_0, rW240_1, fW240_0, fW240_1, fW240_2⟩ (fun W hW => by (try obtain ⟨hbW240, rW240_0, rW240_1, fW240_0, fW240_1, fW240_2⟩ := hW); exact (run_loadOp (eval_of s_14) (run_loadN [.int .i64 m.k, .string m.cl, .bool m.clean, .int .i64 m.keep, .bool m.wI, .string m.wT, .string m.wP, .int .i64 m.wQ, .bool m.wR, .string m.us, .bool m.hu, .string m.pa, .bool m.hp, .bool (!m.pres), .int .i64 m.code, .slice ac3 m.cs.length cc3, .bool m.dup, .int .i64 m.q, .bool m.re, .string m.top, .int .i64 m.id, .string m.pay, .slice aw3 m.ws.length cw3, .slice af3 m.fs.length cf3] rW240_1 (fun j v hj => by simpa using hj) Tryd.underlying30 rfl (by kernel_rfl)))) ?_
                              refine ah_takeW 4 168 (.agg (Mq.row ({ m with pres := (!m.pres) } : Mq) (.slice ac3 m.cs.length cc3) (.slice aw3 m.ws.length cw3) (.slice af3 m.fs.length cf3)).toArray) rfl (wanted_none rfl) rfl (by kernel_rfl) (by kernel_rfl) (by kernel_rfl) (fun _ _ _ h => h) ⟨hbW240, rW240_0, rW240_1, fW240_0, fW240_1, fW240_2⟩ (fun W hW => by (try obtain ⟨hbW240, rW240_0, rW240_1, fW240_0, fW240_1, fW240_2⟩ := hW); exact (run_loadOp (eval_of (pf1 (by decide) s_14)) (run_loadN [.int .i64 m.k, .string m.cl, .bool m.clean, .int .i64 m.keep, .bool m.wI, .string m.wT, .string m.wP, .int .i64 m.wQ, .bool m.wR, .string m.us, .bool m.hu, .string m.pa, .bool m.hp, .bool (!m.pres), .int .i64 m.code, .slice ac3 m.cs.length cc3, .bool m.dup, .int .i64 m.q, .bool m.re, .string m.top, .int .i64 m.id, .string m.pay, .slice aw3 m.ws.length cw3, .slice af3 m.fs.length cf3] rW240_1 (fun j v hj => by simpa using hj) Tryd.underlying30 rfl (by kernel_rfl)))) ?_
                              refine ah_one 1 (by kernel_rfl) ?_
                              refine ao_call rfl (wanted_none rfl) 165 (fun v X => v = .int .i64 (if mayB ({ m with pres := (!m.pres) } : Mq) = true then (0 : Int) else 1) ∧ Below W240.heap.size W240 X) rfl _ _ (run_callOp Tryd.func34 rfl rfl (arr1 (eval_of (pf1 (by decide) (put_get _ _ _ (by rw [hsz]; decide)))))) ((K.out.check ({ m with pres := (!m.pres) } : Mq) _ _ _ W240 hk (near_pres HNe.out _) (lists_mod (HOw.out.below fW240_2).lists)).mono fun e X h => ⟨_, h.1, rfl, h.2⟩) ?_
                              rintro _ V242 ⟨rfl, hb241⟩
                              have hbN := (hbW240.trans (hb241.mono hbW240.size))
                              have hbN243 := hbN
                              have rN244 := (rW240_0.below hb241)
                              have rN245 := (rW240_1.below hb241)
                              have fN246 := (fW240_0.trans (hb241.mono fW240_0.size))
                              have fN247 := (fW240_1.trans (hb241.mono fW240_1.size))
                              have fN248 := (fW240_2.trans (hb241.mono fW240_2.size))
                              refine ⟨⟨hbN243, rN244, rN245, fN246, fN247, fN248⟩, ?_⟩
                              refine ah_one 2 (by kernel_rfl) ?_
                              refine ao_call rfl (wanted_none rfl) 166 (fun v X => v = (.int .i64 (if mayB ({ m with pres := (!m.pres) } : Mq) = true then (0 : Int) else 1)) ∧ V242 = X) rfl _ _ (run_callOp Tryd.func26 rfl rfl (arr1 (eval_of (put_get _ _ _ (by simp only [put_size]; rw [hsz]; decide))))) ((num18_any _ _).mono fun e X h => ⟨_, h.1, rfl, h.2⟩) ?_
                              rintro _ _ ⟨rfl, rfl⟩
                              refine ⟨⟨hbN243, rN244, rN245, fN246, fN247, fN248⟩, ?_⟩
                              refine ah_takeW 3 167 (.bool (mayB ({ m with pres := (!m.pres) } : Mq))) rfl (wanted_none rfl) rfl (by kernel_rfl) (by kernel_rfl) (by kernel_rfl) (fun _ _ _ h => h) ⟨hbN243, rN244, rN245, fN246, fN247, fN248⟩ (fun W hW => by (try obtain ⟨hbN243, rN244, rN245, fN246, fN247, fN248⟩ := hW); exact (run_binOp (eval_of (put_get _ _ _ (by simp only [put_size]; rw [hsz]; decide))) (eval_cst _ _) (by simp [go_sem]) (ifEq0 _ _))) ?_
                              refine ah_one 5 (by kernel_rfl) ?_
                              refine ao_call rfl (wanted_none rfl) 169 (fun v X => v = .bool (mayB ({ m with pres := (!m.pres) } : Mq)) ∧ Below V242.heap.size V242 X) rfl _ _ (run_callOp Tryd.func33 rfl rfl (arr1 (eval_of (pf1 (by decide) (pf2 (by decide) (put_get _ _ _ (by simp only [put_size]; rw [hsz]; decide))))))) ((K.out.may ({ m with pres := (!m.pres) } : Mq) _ _ _ V242 hk (near_pres HNe.out _) (lists_mod (HOw.out.below fN248).lists)).mono fun e X h => ⟨_, h.1, rfl, h.2⟩) ?_
                              rintro _ V250 ⟨rfl, hb249⟩
                              have hbN := (hbN243.trans (hb249.mono hbN243.size))
                              have hbN251 := hbN
                              have rN252 := (rN244.below hb249)
                              have rN253 := (rN245.below hb249)
                              have fN254 := (fN246.trans (hb249.mono fN246.size))
                              have fN255 := (fN247.trans (hb249.mono fN247.size))
                              have fN256 := (fN248.trans (hb249.mono fN248.size))
                              refine ⟨⟨hbN251, rN252, rN253, fN254, fN255, fN256⟩, ?_⟩
                              refine ah_takeW 6 170 (.bool false) rfl (wanted_none rfl) rfl (by kernel_rfl) (by kernel_rfl) (by kernel_rfl) (fun _ _ _ h => h) ⟨hbN251, rN252, rN253, fN254, fN255, fN256⟩ (fun W hW => by (try obtain ⟨hbN251, rN252, rN253, fN254, fN255, fN256⟩ := hW); exact (run_binOp (eval_of (pf1 (by decide) (put_get _ _ _ (by simp only [put_size]; rw [hsz]; decide)))) (eval_of (put_get _ _ _ (by simp only [put_size]; rw [hsz]; decide))) (by simp [go_sem]) (boolNe_self _ _))) ?_
                              refine fresh (C := fun x W => AH _ _ _ _ _ _ x W) (fun x X => _ = X ∧ x.tmps.size = 202 ∧ x.defers = [] ∧ x.tmps[0]? = some (.slice ao L.length cap) ∧ x.tmps[1]? = some (.int .i64 kk) ∧ x.tmps[5]? = some (.int .i64 ((k : Nat) : Int)) ∧ x.tmps[7]? = some (.slice (some ⟨b1, o1, none⟩) (enc m).length c1) ∧ x.tmps[10]? = some (.pointer (some ⟨q41, 0, none⟩)) ∧ x.tmps[13]? = some (.int .i64 ((j : Nat) : Int)) ∧ x.tmps[170]? = some (.bool false)) ⟨rfl, (by simp only [put_size]; exact hsz), (by simp only [put_defers]; exact hdf), (pf1 (by decide) (pf2 (by decide) (pf4 (by decide) s_0))), (pf1 (by decide) (pf2 (by decide) (pf4 (by decide) s_1))), (pf1 (by decide) (pf2 (by decide) (pf4 (by decide) s_5))), (pf1 (by decide) (pf2 (by decide) (pf4 (by decide) s_7))), (pf1 (by decide) (pf2 (by decide) (pf4 (by decide) s_10))), (pf1 (by decide) (pf2 (by decide) (pf4 (by decide) s_13))), (put_get _ _ _ (by simp only [put_size]; rw [hsz]; decide))⟩ ?_
                              clear hsz hdf s_0 s_1 s_5 s_7 s_10 s_13 s_14
                              rintro a _ ⟨rfl, hsz, hdf, s_0, s_1, s_5, s_7, s_10, s_13, s_170⟩
                              refine ah_done (by kernel_rfl) ?_
                              refine ow_then ?_
                              refine ow_false (eval_of s_170) ?_
                              refine wp_skip ?_
                              refine ow_blk _ ?_
                              refine ow_then ?_
                              refine ow_region [_, _, _] rfl (by intro o ho; simp only [List.mem_cons, List.not_mem_nil, or_false] at ho; rcases ho with rfl | rfl | rfl <;> rfl) ?_
                              refine ow_run 109 (.int .i64 ((j : Nat) : Int)) _ rfl (run_moveOp (eval_of s_13)) ?_
                              refine ow_run 110 (.int .i64 (((j : Nat) : Int) + 1)) _ rfl (run_binOp (eval_of (put_get _ _ _ (by rw [hsz]; decide))) (eval_cst _ _) (by simp [go_sem]) (addI _ _ _ (by omega) (by omega))) ?_
                              refine ow_run 13 (.int .i64 (((j : Nat) : Int) + 1)) _ rfl (run_assignOp (eval_of (put_get _ _ _ (by simp only [put_size]; rw [hsz]; decide)))) ?_
                              refine fresh (C := fun x W => wpRun _ [] x W _) (fun x X => _ = X ∧ x.tmps.size = 202 ∧ x.defers = [] ∧ x.tmps[0]? = some (.slice ao L.length cap) ∧ x.tmps[1]? = some (.int .i64 kk) ∧ x.tmps[5]? = some (.int .i64 ((k : Nat) : Int)) ∧ x.tmps[7]? = some (.slice (some ⟨b1, o1, none⟩) (enc m).length c1) ∧ x.tmps[10]? = some (.pointer (some ⟨q41, 0, none⟩)) ∧ x.tmps[13]? = some (.int .i64 (((j : Nat) : Int) + 1))) ⟨rfl, (by simp only [put_size]; exact hsz), (by simp only [put_defers]; exact hdf), (pf1 (by decide) (pf2 (by decide) s_0)), (pf1 (by decide) (pf2 (by decide) s_1)), (pf1 (by decide) (pf2 (by decide) s_5)), (pf1 (by decide) (pf2 (by decide) s_7)), (pf1 (by decide) (pf2 (by decide) s_10)), (put_get _ _ _ (by simp only [put_size]; rw [hsz]; decide))⟩ ?_
                              clear hsz hdf s_0 s_1 s_5 s_7 s_10 s_13 s_170
                              rintro a _ ⟨rfl, hsz, hdf, s_0, s_1, s_5, s_7, s_10, s_13⟩
                              have hj8 : j < 8 := by have h := hb_54; simp only [decide_eq_true_eq] at h; omega
                              exact ow_then (hK52 _ _ _ (by omega) ⟨(j + 1), rfl, (by omega), hsz, hdf, s_0, s_1, s_5, s_7, s_10, (by first | exact s_13 | (rw [s_13]; congr 2; first | rfl | omega | (push_cast; omega)) | (rw [s_13]; first | rfl | (simp; try omega))), hbN251, rN252, fN254, fN255⟩)
                            · skip
                              refine ow_false (eval_of (flag_of s_158 hb_237)) ?_
                              refine wp_skip ?_
                              refine ow_blk _ ?_
                              refine ow_then ?_
                              refine wp_seq ?_
                              refine ah_region (fun W => Below w.heap.size w W ∧ RowAt W q41 (Mq.row m (.slice ac2 nc2 cc2) (.slice aw2 nw2 cw2) (.slice af2 nf2 cf2)) ∧ RowAt W q58 (Mq.row m (.slice ac3 m.cs.length cc3) (.slice aw3 m.ws.length cw3) (.slice af3 m.fs.length cf3)) ∧ Below V23.heap.size V23 W ∧ Below V39.heap.size V39 W ∧ Below V56.heap.size V56 W) (by kernel_rfl) 7 rfl ?_
                              refine fresh (C := fun x W => AH _ _ _ _ _ _ x W) (fun x X => _ = x ∧ Below w.heap.size w X ∧ RowAt X q41 (Mq.row m (.slice ac2 nc2 cc2) (.slice aw2 nw2 cw2) (.slice af2 nf2 cf2)) ∧ RowAt X q58 (Mq.row m (.slice ac3 m.cs.length cc3) (.slice aw3 m.ws.length cw3) (.slice af3 m.fs.length cf3)) ∧ Below V23.heap.size V23 X ∧ Below V39.heap.size V39 X ∧ Below V56.heap.size V56 X) ⟨rfl, (hbW60.trans (((Below.refl _ W60).drew).mono hbW60.size)), (rW60_0.below ((Below.refl _ W60).drew)), (rW60_1.below ((Below.refl _ W60).drew)), (fW60_0.trans (((Below.refl _ W60).drew).mono fW60_0.size)), (fW60_1.trans (((Below.refl _ W60).drew).mono fW60_1.size)), (fW60_2.trans (((Below.refl _ W60).drew).mono fW60_2.size))⟩ ?_
                              rintro _ W259 ⟨rfl, hbW259, rW259_0, rW259_1, fW259_0, fW259_1, fW259_2⟩
                              refine ah_takeW 0 164 (.agg (Mq.row m (.slice ac3 m.cs.length cc3) (.slice aw3 m.ws.length cw3) (.slice af3 m.fs.length cf3)).toArray) rfl (wanted_none rfl) rfl (by kernel_rfl) (by kernel_rfl) (by kernel_rfl) (fun _ _ _ h => h) ⟨hbW259, rW259_0, rW259_1, fW259_0, fW259_1, fW259_2⟩ (fun W hW => by (try obtain ⟨hbW259, rW259_0, rW259_1, fW259_0, fW259_1, fW259_2⟩ := hW); exact (run_loadOp (eval_of s_14) (run_loadN [.int .i64 m.k, .string m.cl, .bool m.clean, .int .i64 m.keep, .bool m.wI, .string m.wT, .string m.wP, .int .i64 m.wQ, .bool m.wR, .string m.us, .bool m.hu, .string m.pa, .bool m.hp, .bool m.pres, .int .i64 m.code, .slice ac3 m.cs.length cc3, .bool m.dup, .int .i64 m.q, .bool m.re, .string m.top, .int .i64 m.id, .string m.pay, .slice aw3 m.ws.length cw3, .slice af3 m.fs.length cf3] rW259_1 (fun j v hj => by simpa using hj) Tryd.underlying30 rfl (by kernel_rfl)))) ?_
                              refine ah_takeW 4 168 (.agg (Mq.row m (.slice ac3 m.cs.length cc3) (.slice aw3 m.ws.length cw3) (.slice af3 m.fs.length cf3)).toArray) rfl (wanted_none rfl) rfl (by kernel_rfl) (by kernel_rfl) (by kernel_rfl) (fun _ _ _ h => h) ⟨hbW259, rW259_0, rW259_1, fW259_0, fW259_1, fW259_2⟩ (fun W hW => by (try obtain ⟨hbW259, rW259_0, rW259_1, fW259_0, fW259_1, fW259_2⟩ := hW); exact (run_loadOp (eval_of (pf1 (by decide) s_14)) (run_loadN [.int .i64 m.k, .string m.cl, .bool m.clean, .int .i64 m.keep, .bool m.wI, .string m.wT, .string m.wP, .int .i64 m.wQ, .bool m.wR, .string m.us, .bool m.hu, .string m.pa, .bool m.hp, .bool m.pres, .int .i64 m.code, .slice ac3 m.cs.length cc3, .bool m.dup, .int .i64 m.q, .bool m.re, .string m.top, .int .i64 m.id, .string m.pay, .slice aw3 m.ws.length cw3, .slice af3 m.fs.length cf3] rW259_1 (fun j v hj => by simpa using hj) Tryd.underlying30 rfl (by kernel_rfl)))) ?_
                              refine ah_one 1 (by kernel_rfl) ?_
                              refine ao_call rfl (wanted_none rfl) 165 (fun v X => v = .int .i64 (if mayB m = true then (0 : Int) else 1) ∧ Below W259.heap.size W259 X) rfl _ _ (run_callOp Tryd.func34 rfl rfl (arr1 (eval_of (pf1 (by decide) (put_get _ _ _ (by rw [hsz]; decide)))))) ((K.out.check m _ _ _ W259 hk (HNe.out.mono (by decide)) (HOw.out.below fW259_2).lists).mono fun e X h => ⟨_, h.1, rfl, h.2⟩) ?_
                              rintro _ V261 ⟨rfl, hb260⟩
                              have hbN := (hbW259.trans (hb260.mono hbW259.size))
                              have hbN262 := hbN
                              have rN263 := (rW259_0.below hb260)
                              have rN264 := (rW259_1.below hb260)
                              have fN265 := (fW259_0.trans (hb260.mono fW259_0.size))
                              have fN266 := (fW259_1.trans (hb260.mono fW259_1.size))
                              have fN267 := (fW259_2.trans (hb260.mono fW259_2.size))
                              refine ⟨⟨hbN262, rN263, rN264, fN265, fN266, fN267⟩, ?_⟩
                              refine ah_one 2 (by kernel_rfl) ?_
                              refine ao_call rfl (wanted_none rfl) 166 (fun v X => v = (.int .i64 (if mayB m = true then (0 : Int) else 1)) ∧ V261 = X) rfl _ _ (run_callOp Tryd.func26 rfl rfl (arr1 (eval_of (put_get _ _ _ (by simp only [put_size]; rw [hsz]; decide))))) ((num18_any _ _).mono fun e X h => ⟨_, h.1, rfl, h.2⟩) ?_
                              rintro _ _ ⟨rfl, rfl⟩
                              refine ⟨⟨hbN262, rN263, rN264, fN265, fN266, fN267⟩, ?_⟩
                              refine ah_takeW 3 167 (.bool (mayB m)) rfl (wanted_none rfl) rfl (by kernel_rfl) (by kernel_rfl) (by kernel_rfl) (fun _ _ _ h => h) ⟨hbN262, rN263, rN264, fN265, fN266, fN267⟩ (fun W hW => by (try obtain ⟨hbN262, rN263, rN264, fN265, fN266, fN267⟩ := hW); exact (run_binOp (eval_of (put_get _ _ _ (by simp only [put_size]; rw [hsz]; decide))) (eval_cst _ _) (by simp [go_sem]) (ifEq0 _ _))) ?_
                              refine ah_one 5 (by kernel_rfl) ?_
                              refine ao_call rfl (wanted_none rfl) 169 (fun v X => v = .bool (mayB m) ∧ Below V261.heap.size V261 X) rfl _ _ (run_callOp Tryd.func33 rfl rfl (arr1 (eval_of (pf1 (by decide) (pf2 (by decide) (put_get _ _ _ (by simp only [put_size]; rw [hsz]; decide))))))) ((K.out.may m _ _ _ V261 hk (HNe.out.mono (by decide)) (HOw.out.below fN267).lists).mono fun e X h => ⟨_, h.1, rfl, h.2⟩) ?_
                              rintro _ V269 ⟨rfl, hb268⟩
                              have hbN := (hbN262.trans (hb268.mono hbN262.size))
                              have hbN270 := hbN
                              have rN271 := (rN263.below hb268)
                              have rN272 := (rN264.below hb268)
                              have fN273 := (fN265.trans (hb268.mono fN265.size))
                              have fN274 := (fN266.trans (hb268.mono fN266.size))
                              have fN275 := (fN267.trans (hb268.mono fN267.size))
                              refine ⟨⟨hbN270, rN271, rN272, fN273, fN274, fN275⟩, ?_⟩
                              refine ah_takeW 6 170 (.bool false) rfl (wanted_none rfl) rfl (by kernel_rfl) (by kernel_rfl) (by kernel_rfl) (fun _ _ _ h => h) ⟨hbN270, rN271, rN272, fN273, fN274, fN275⟩ (fun W hW => by (try obtain ⟨hbN270, rN271, rN272, fN273, fN274, fN275⟩ := hW); exact (run_binOp (eval_of (pf1 (by decide) (put_get _ _ _ (by simp only [put_size]; rw [hsz]; decide)))) (eval_of (put_get _ _ _ (by simp only [put_size]; rw [hsz]; decide))) (by simp [go_sem]) (boolNe_self _ _))) ?_
                              refine fresh (C := fun x W => AH _ _ _ _ _ _ x W) (fun x X => _ = X ∧ x.tmps.size = 202 ∧ x.defers = [] ∧ x.tmps[0]? = some (.slice ao L.length cap) ∧ x.tmps[1]? = some (.int .i64 kk) ∧ x.tmps[5]? = some (.int .i64 ((k : Nat) : Int)) ∧ x.tmps[7]? = some (.slice (some ⟨b1, o1, none⟩) (enc m).length c1) ∧ x.tmps[10]? = some (.pointer (some ⟨q41, 0, none⟩)) ∧ x.tmps[13]? = some (.int .i64 ((j : Nat) : Int)) ∧ x.tmps[170]? = some (.bool false)) ⟨rfl, (by simp only [put_size]; exact hsz), (by simp only [put_defers]; exact hdf), (pf1 (by decide) (pf2 (by decide) (pf4 (by decide) s_0))), (pf1 (by decide) (pf2 (by decide) (pf4 (by decide) s_1))), (pf1 (by decide) (pf2 (by decide) (pf4 (by decide) s_5))), (pf1 (by decide) (pf2 (by decide) (pf4 (by decide) s_7))), (pf1 (by decide) (pf2 (by decide) (pf4 (by decide) s_10))), (pf1 (by decide) (pf2 (by decide) (pf4 (by decide) s_13))), (put_get _ _ _ (by simp only [put_size]; rw [hsz]; decide))⟩ ?_
                              clear hsz hdf s_0 s_1 s_5 s_7 s_10 s_13 s_14 s_158
                              rintro a _ ⟨rfl, hsz, hdf, s_0, s_1, s_5, s_7, s_10, s_13, s_170⟩
                              refine ah_done (by kernel_rfl) ?_
                              refine ow_then ?_
                              refine ow_false (eval_of s_170) ?_
                              refine wp_skip ?_
                              refine ow_blk _ ?_
                              refine ow_then ?_
                              refine ow_region [_, _, _] rfl (by intro o ho; simp only [List.mem_cons, List.not_mem_nil, or_false] at ho; rcases ho with rfl | rfl | rfl <;> rfl) ?_
                              refine ow_run 109 (.int .i64 ((j : Nat) : Int)) _ rfl (run_moveOp (eval_of s_13)) ?_
                              refine ow_run 110 (.int .i64 (((j : Nat) : Int) + 1)) _ rfl (run_binOp (eval_of (put_get _ _ _ (by rw [hsz]; decide))) (eval_cst _ _) (by simp [go_sem]) (addI _ _ _ (by omega) (by omega))) ?_
                              refine ow_run 13 (.int .i64 (((j : Nat) : Int) + 1)) _ rfl (run_assignOp (eval_of (put_get _ _ _ (by simp only [put_size]; rw [hsz]; decide)))) ?_
                              refine fresh (C := fun x W => wpRun _ [] x W _) (fun x X => _ = X ∧ x.tmps.size = 202 ∧ x.defers = [] ∧ x.tmps[0]? = some (.slice ao L.length cap) ∧ x.tmps[1]? = some (.int .i64 kk) ∧ x.tmps[5]? = some (.int .i64 ((k : Nat) : Int)) ∧ x.tmps[7]? = some (.slice (some ⟨b1, o1, none⟩) (enc m).length c1) ∧ x.tmps[10]? = some (.pointer (some ⟨q41, 0, none⟩)) ∧ x.tmps[13]? = some (.int .i64 (((j : Nat) : Int) + 1))) ⟨rfl, (by simp only [put_size]; exact hsz), (by simp only [put_defers]; exact hdf), (pf1 (by decide) (pf2 (by decide) s_0)), (pf1 (by decide) (pf2 (by decide) s_1)), (pf1 (by decide) (pf2 (by decide) s_5)), (pf1 (by decide) (pf2 (by decide) s_7)), (pf1 (by decide) (pf2 (by decide) s_10)), (put_get _ _ _ (by simp only [put_size]; rw [hsz]; decide))⟩ ?_
                              clear hsz hdf s_0 s_1 s_5 s_7 s_10 s_13 s_170
                              rintro a _ ⟨rfl, hsz, hdf, s_0, s_1, s_5, s_7, s_10, s_13⟩
                              have hj8 : j < 8 := by have h := hb_54; simp only [decide_eq_true_eq] at h; omega
                              exact ow_then (hK52 _ _ _ (by omega) ⟨(j + 1), rfl, (by omega), hsz, hdf, s_0, s_1, s_5, s_7, s_10, (by first | exact s_13 | (rw [s_13]; congr 2; first | rfl | omega | (push_cast; omega)) | (rw [s_13]; first | rfl | (simp; try omega))), hbN270, rN271, fN273, fN274⟩)
            · skip
              refine ow_false (eval_of (flag_of s_108 hb_54)) ?_
              refine wp_exit ?_
              refine ow_then_exit ?_
              refine ow_then_exit ?_
              refine ow_blk_exit _ ?_
              refine ow_then ?_
              refine wp_seq ?_
              refine ow_region [_] rfl (by intro o ho; simp only [List.mem_cons, List.not_mem_nil, or_false] at ho; subst ho; rfl) ?_
              refine ow_run 15 (.int .i64 1) _ rfl (run_assignOp (eval_cst _ _)) ?_
              refine fresh (C := fun x W => wpRun _ [] x W _) (fun x X => _ = X ∧ x.tmps.size = 202 ∧ x.defers = [] ∧ x.tmps[0]? = some (.slice ao L.length cap) ∧ x.tmps[1]? = some (.int .i64 kk) ∧ x.tmps[5]? = some (.int .i64 ((k : Nat) : Int)) ∧ x.tmps[7]? = some (.slice (some ⟨b1, o1, none⟩) (enc m).length c1) ∧ x.tmps[15]? = some (.int .i64 1)) ⟨rfl, (by simp only [put_size]; exact hsz), (by simp only [put_defers]; exact hdf), (pf1 (by decide) s_0), (pf1 (by decide) s_1), (pf1 (by decide) s_5), (pf1 (by decide) s_7), (put_get _ _ _ (by rw [hsz]; decide))⟩ ?_
              clear hsz hdf s_0 s_1 s_5 s_7 s_10 s_108 s_13
              rintro a _ ⟨rfl, hsz, hdf, s_0, s_1, s_5, s_7, s_15⟩
              refine ow_then ?_
              refine wp_block ?_
              refine ow_loop (fun N a W => ∃ (j : Nat), N = 16 - j ∧ 1 ≤ j ∧ j ≤ 16 ∧ a.tmps.size = 202 ∧ a.defers = [] ∧ a.tmps[0]? = some (.slice ao L.length cap) ∧ a.tmps[1]? = some (.int .i64 kk) ∧ a.tmps[5]? = some (.int .i64 ((k : Nat) : Int)) ∧ a.tmps[7]? = some (.slice (some ⟨b1, o1, none⟩) (enc m).length c1) ∧ a.tmps[15]? = some (.int .i64 ((j : Nat) : Int)) ∧ Below w.heap.size w W ∧ Below V23.heap.size V23 W) _ ⟨1, rfl, (by decide), (by decide), hsz, hdf, s_0, s_1, s_5, s_7, (by first | exact s_15 | (rw [s_15]; congr 2; first | rfl | omega | (push_cast; omega)) | (rw [s_15]; first | rfl | (simp; try omega))), hbW50, fW50_0⟩ ?_
              clear hsz hdf s_0 s_1 s_5 s_7 s_15
              rintro N a W279 ⟨j, rfl, hj1, hjl, hsz, hdf, s_0, s_1, s_5, s_7, s_15, hbW279, fW279_0⟩
              intro K281 hK281
              refine wp_seq ?_
              refine wp_seq ?_
              refine ow_region [_, _] rfl (by intro o ho; simp only [List.mem_cons, List.not_mem_nil, or_false] at ho; rcases ho with rfl | rfl <;> rfl) ?_
              refine ow_run 171 (.int .i64 ((j : Nat) : Int)) _ rfl (run_moveOp (eval_of s_15)) ?_
              refine ow_run 172 (.bool (decide (((j : Nat) : Int) < 16))) _ rfl (run_binOp (eval_of (put_get _ _ _ (by rw [hsz]; decide))) (eval_cst _ _) (by simp [go_sem]) (by simp [go_sem])) ?_
              refine fresh (C := fun x W => wpRun _ [] x W _) (fun x X => _ = X ∧ x.tmps.size = 202 ∧ x.defers = [] ∧ x.tmps[0]? = some (.slice ao L.length cap) ∧ x.tmps[1]? = some (.int .i64 kk) ∧ x.tmps[5]? = some (.int .i64 ((k : Nat) : Int)) ∧ x.tmps[7]? = some (.slice (some ⟨b1, o1, none⟩) (enc m).length c1) ∧ x.tmps[15]? = some (.int .i64 ((j : Nat) : Int)) ∧ x.tmps[172]? = some (.bool (decide (((j : Nat) : Int) < 16)))) ⟨rfl, (by simp only [put_size]; exact hsz), (by simp only [put_defers]; exact hdf), (pf2 (by decide) s_0), (pf2 (by decide) s_1), (pf2 (by decide) s_5), (pf2 (by decide) s_7), (pf2 (by decide) s_15), (put_get _ _ _ (by simp only [put_size]; rw [hsz]; decide))⟩ ?_
              clear hsz hdf s_0 s_1 s_5 s_7 s_15
              rintro a _ ⟨rfl, hsz, hdf, s_0, s_1, s_5, s_7, s_15, s_172⟩
              refine ow_then ?_
              rcases Bool.eq_false_or_eq_true ((decide (((j : Nat) : Int) < 16))) with hb_283 | hb_283
              · skip
                obtain ⟨ev, hP1, hP2⟩ := K.out.flip m (UInt8.ofNat j) hk (HNe.out.mono (by decide)) hb_21 (by have h := hb_283; simp only [decide_eq_true_eq] at h; simp only [UInt8.toNat_ofNat']; omega) (by have h := hb_283; simp only [decide_eq_true_eq] at h; simp only [UInt8.toNat_ofNat']; omega)
                have hP1 := Lib.hid hP1; have hP2 := Lib.hid hP2
                refine ow_true (eval_of (flag_of s_172 hb_283)) ?_
                refine wp_skip ?_
                refine ow_then ?_
                refine wp_seq ?_
                refine wp_block ?_
                refine wp_seq ?_
                refine ow_region [_, _, _] rfl (by intro o ho; simp only [List.mem_cons, List.not_mem_nil, or_false] at ho; rcases ho with rfl | rfl | rfl <;> rfl) ?_
                refine ow_run 175 (.slice (some ⟨b1, o1, none⟩) (enc m).length c1) _ rfl (run_moveOp (eval_of s_7)) ?_
                have hws : w.heap.size ≤ W279.heap.size := hbW279.size
                have hbs : V23.heap.size ≤ W279.heap.size := fW279_0.size
                refine ow_call 176 (fun v X => ∃ g cg, v = .slice (some ⟨g, 0, none⟩) (enc m).length cg ∧ Below W279.heap.size W279 X ∧ RowAt X g ((enc m).map B8) ∧ W279.heap.size ≤ g ∧ (enc m).length ≤ cg ∧ cg ≤ maxLen) rfl _ _ (run_callOp Tryd.func23 rfl rfl (arr1 (eval_of (put_get _ _ _ (by rw [hsz]; decide))))) ((copyBytes_len _ (enc m) W279 hlenB (HSb.out.below fW279_0)).mono fun e X h => copy_open hlne h) ?_
                rintro _ V285 ⟨g, cg, rfl, hb284, hrg, hgl, hcg, hcm⟩
                refine fresh (C := fun x W => wpRun _ _ x W _) (fun x X => _ = x ∧ Below w.heap.size w X ∧ RowAt X g ((enc m).map B8) ∧ Below V23.heap.size V23 X) ⟨rfl, (hbW279.trans (hb284.mono hbW279.size)), hrg, (fW279_0.trans (hb284.mono fW279_0.size))⟩ ?_
                rintro _ W286 ⟨rfl, hbW286, rW286_0, fW286_0⟩
                refine ow_run 16 (.slice (some ⟨g, 0, none⟩) (enc m).length cg) _ rfl (run_assignOp (eval_of (put_get _ _ _ (by simp only [put_size]; rw [hsz]; decide)))) ?_
                refine fresh (C := fun x W => wpRun _ [] x W _) (fun x X => _ = X ∧ x.tmps.size = 202 ∧ x.defers = [] ∧ x.tmps[0]? = some (.slice ao L.length cap) ∧ x.tmps[1]? = some (.int .i64 kk) ∧ x.tmps[5]? = some (.int .i64 ((k : Nat) : Int)) ∧ x.tmps[7]? = some (.slice (some ⟨b1, o1, none⟩) (enc m).length c1) ∧ x.tmps[15]? = some (.int .i64 ((j : Nat) : Int)) ∧ x.tmps[16]? = some (.slice (some ⟨g, 0, none⟩) (enc m).length cg)) ⟨rfl, (by simp only [put_size]; exact hsz), (by simp only [put_defers]; exact hdf), (pf1 (by decide) (pf2 (by decide) s_0)), (pf1 (by decide) (pf2 (by decide) s_1)), (pf1 (by decide) (pf2 (by decide) s_5)), (pf1 (by decide) (pf2 (by decide) s_7)), (pf1 (by decide) (pf2 (by decide) s_15)), (put_get _ _ _ (by simp only [put_size]; rw [hsz]; decide))⟩ ?_
                clear hsz hdf s_0 s_1 s_5 s_7 s_172 s_15
                rintro a _ ⟨rfl, hsz, hdf, s_0, s_1, s_5, s_7, s_15, s_16⟩
                refine ow_then ?_
                refine wp_seq ?_
                refine ow_region [_, _, _, _, _, _, _, _, _] rfl (by intro o ho; simp only [List.mem_cons, List.not_mem_nil, or_false] at ho; rcases ho with rfl | rfl | rfl | rfl | rfl | rfl | rfl | rfl | rfl <;> rfl) ?_
                refine ow_run 177 (.slice (some ⟨g, 0, none⟩) (enc m).length cg) _ rfl (run_moveOp (eval_of s_16)) ?_
                refine ow_run 178 (.slice (some ⟨g, 0, none⟩) (enc m).length cg) _ rfl (run_moveOp (eval_of (pf1 (by decide) s_16))) ?_
                refine ow_run 179 (.pointer (some ⟨g, 0, none⟩)) _ rfl (run_indexOp (eval_of (put_get _ _ _ (by simp only [put_size]; rw [hsz]; decide))) (eval_cst _ _) (run_index0 _ _ _ _ _ hlen0)) ?_
                refine ow_run 180 (.int .u8 (x0.toNat : Int)) _ rfl (run_loadOp (eval_of (put_get _ _ _ (by simp only [put_size]; rw [hsz]; decide))) (by simp [go_sem, Instr.loadAt, rW286_0.1 0 (B8 x0) (by rw [henc]; rfl)])) ?_
                refine ow_run 181 (.int .i64 ((j : Nat) : Int)) _ rfl (run_moveOp (eval_of (pf4 (by decide) s_15))) ?_
                refine ow_run 182 (.int .u8 ((UInt8.ofNat j).toNat : Int)) _ rfl (run_convOp (eval_of (put_get _ _ _ (by simp only [put_size]; rw [hsz]; decide))) (convI8 j (by have h := hb_283; simp only [decide_eq_true_eq] at h; omega) _)) ?_
                refine ow_run 183 (.int .u8 ((x0 ^^^ UInt8.ofNat j).toNat : Int)) _ rfl (run_binOp (eval_of (pf2 (by decide) (put_get _ _ _ (by simp only [put_size]; rw [hsz]; decide)))) (eval_of (put_get _ _ _ (by simp only [put_size]; rw [hsz]; decide))) (by simp [go_sem]) (xorU8 _ _ _)) ?_
                refine ow_run 184 (.pointer (some ⟨g, 0, none⟩)) _ rfl (run_indexOp (eval_of (pf2 (by decide) (pf4 (by decide) (put_get _ _ _ (by rw [hsz]; decide))))) (eval_cst _ _) (run_index0 _ _ _ _ _ hlen0)) ?_
                refine ow_skip _ rfl (run_storeOp (eval_of (put_get _ _ _ (by simp only [put_size]; rw [hsz]; decide))) (eval_of (pf1 (by decide) (put_get _ _ _ (by simp only [put_size]; rw [hsz]; decide)))) (run_store1 rW286_0 (by simp; omega) (by kernel_rfl) rfl)) ?_
                refine fresh (C := fun x W => wpRun _ _ x W _) (fun x X => _ = x ∧ Below w.heap.size w X ∧ RowAt X g ((flipB (enc m) (UInt8.ofNat j)).map B8) ∧ Below V23.heap.size V23 X) ⟨rfl, (below_set1 hbW286 (by omega)), (row_flip rW286_0 henc), (below_set1 fW286_0 (by omega))⟩ ?_
                rintro _ W288 ⟨rfl, hbW288, rW288_0, fW288_0⟩
                refine fresh (C := fun x W => wpRun _ [] x W _) (fun x X => _ = X ∧ x.tmps.size = 202 ∧ x.defers = [] ∧ x.tmps[0]? = some (.slice ao L.length cap) ∧ x.tmps[1]? = some (.int .i64 kk) ∧ x.tmps[5]? = some (.int .i64 ((k : Nat) : Int)) ∧ x.tmps[7]? = some (.slice (some ⟨b1, o1, none⟩) (enc m).length c1) ∧ x.tmps[15]? = some (.int .i64 ((j : Nat) : Int)) ∧ x.tmps[16]? = some (.slice (some ⟨g, 0, none⟩) (enc m).length cg)) ⟨rfl, (by simp only [put_size]; exact hsz), (by simp only [put_defers]; exact hdf), (pf8 (by decide) s_0), (pf8 (by decide) s_1), (pf8 (by decide) s_5), (pf8 (by decide) s_7), (pf8 (by decide) s_15), (pf8 (by decide) s_16)⟩ ?_
                clear hsz hdf s_0 s_1 s_5 s_7 s_15 s_16
                rintro a _ ⟨rfl, hsz, hdf, s_0, s_1, s_5, s_7, s_15, s_16⟩
                refine ow_then ?_
                refine wp_seq ?_
                refine ow_region [_, _, _, _, _, _, _, _, _, _] rfl (by intro o ho; simp only [List.mem_cons, List.not_mem_nil, or_false] at ho; rcases ho with rfl | rfl | rfl | rfl | rfl | rfl | rfl | rfl | rfl | rfl <;> rfl) ?_
                refine ow_run 186 (.slice (some ⟨g, 0, none⟩) (enc m).length cg) _ rfl (run_moveOp (eval_of s_16)) ?_
                refine ow_call 187 (fun v X => ∃ (m5 : Mq) (ac5 aw5 af5 : Option Addr) (nc5 nw5 nf5 cc5 cw5 cf5 : Nat) (n5 : Int), v = .tuple #[m5.val (.slice ac5 nc5 cc5) (.slice aw5 nw5 cw5) (.slice af5 nf5 cf5), .int .i64 n5, .int .i64 ev] ∧ Below W288.heap.size W288 X) rfl _ _ (run_callOp Tryd.func24 rfl rfl (arr1 (eval_of (put_get _ _ _ (by rw [hsz]; decide))))) ((hP1.out _ W288 (sl_of_row rW288_0 (flipB_len _ _).symm hcg hcm)).mono fun e X ⟨m2, ac, aw, af, nc, nw, nf, cc, cw, cf, n, he, h⟩ => ⟨_, he, m2, ac, aw, af, nc, nw, nf, cc, cw, cf, n, rfl, h⟩) ?_
                rintro _ V291 ⟨m5, ac5, aw5, af5, nc5, nw5, nf5, cc5, cw5, cf5, n5, rfl, hb290⟩
                refine fresh (C := fun x W => wpRun _ _ x W _) (fun x X => _ = x ∧ Below w.heap.size w X ∧ RowAt X g ((flipB (enc m) (UInt8.ofNat j)).map B8) ∧ Below V23.heap.size V23 X) ⟨rfl, (hbW288.trans (hb290.mono hbW288.size)), (rW288_0.below hb290), (fW288_0.trans (hb290.mono fW288_0.size))⟩ ?_
                rintro _ W292 ⟨rfl, hbW292, rW292_0, fW292_0⟩
                refine ow_run 185 (.tuple #[.agg (Mq.row m5 (.slice ac5 nc5 cc5) (.slice aw5 nw5 cw5) (.slice af5 nf5 cf5)).toArray, .int .i64 n5, .int .i64 ev]) _ rfl (run_moveOp (eval_of (put_get _ _ _ (by simp only [put_size]; rw [hsz]; decide)))) ?_
                refine ow_run 188 (.agg (Mq.row m5 (.slice ac5 nc5 cc5) (.slice aw5 nw5 cw5) (.slice af5 nf5 cf5)).toArray) _ rfl (run_extractOp (eval_of (put_get _ _ _ (by simp only [put_size]; rw [hsz]; decide))) rfl) ?_
                refine ow_run 189 (.int .i64 n5) _ rfl (run_extractOp (eval_of (pf1 (by decide) (put_get _ _ _ (by simp only [put_size]; rw [hsz]; decide)))) rfl) ?_
                refine ow_run 190 (.int .i64 ev) _ rfl (run_extractOp (eval_of (pf2 (by decide) (put_get _ _ _ (by simp only [put_size]; rw [hsz]; decide)))) rfl) ?_
                obtain ⟨q293, hq293⟩ : ∃ x, x = W292.heap.size := ⟨_, rfl⟩
                refine ow_run 17 (.pointer (some ⟨q293, 0, none⟩)) (W292.alloc (.cells #[.int .i64 0, .string { data := #[] }, .bool false, .int .i64 0, .bool false, .string { data := #[] }, .string { data := #[] }, .int .i64 0, .bool false, .string { data := #[] }, .bool false, .string { data := #[] }, .bool false, .bool false, .int .i64 0, .slice none 0 0, .bool false, .int .i64 0, .bool false, .string { data := #[] }, .int .i64 0, .string { data := #[] }, .slice none 0 0, .slice none 0 0] 30)) rfl (by rw [hq293]; exact (run_allocOp (by simp [go_sem, Instr.alloc]))) ?_
                have hqq293 : w.heap.size ≤ q293 := by rw [hq293]; exact hbW292.size
                have hqq293_V23 : V23.heap.size ≤ q293 := by rw [hq293]; exact fW292_0.size
                have hnq293_g : g < q293 := by rw [hq293]; exact rW292_0.2.2
                refine fresh (C := fun x W => wpRun _ _ x W _) (fun x X => _ = x ∧ Below w.heap.size w X ∧ RowAt X g ((flipB (enc m) (UInt8.ofNat j)).map B8) ∧ RowAt X q293 [.int .i64 0, .string { data := #[] }, .bool false, .int .i64 0, .bool false, .string { data := #[] }, .string { data := #[] }, .int .i64 0, .bool false, .string { data := #[] }, .bool false, .string { data := #[] }, .bool false, .bool false, .int .i64 0, .slice none 0 0, .bool false, .int .i64 0, .bool false, .string { data := #[] }, .int .i64 0, .string { data := #[] }, .slice none 0 0, .slice none 0 0] ∧ Below V23.heap.size V23 X) ⟨rfl, (hbW292.alloc hbW292.size _), (rW292_0.below ((Below.refl _ W292).alloc (Nat.le_refl _) _)), (by rw [hq293]; exact rowAt_alloc _ [.int .i64 0, .string { data := #[] }, .bool false, .int .i64 0, .bool false, .string { data := #[] }, .string { data := #[] }, .int .i64 0, .bool false, .string { data := #[] }, .bool false, .string { data := #[] }, .bool false, .bool false, .int .i64 0, .slice none 0 0, .bool false, .int .i64 0, .bool false, .string { data := #[] }, .int .i64 0, .string { data := #[] }, .slice none 0 0, .slice none 0 0] _), (fW292_0.trans (((Below.refl _ W292).alloc (Nat.le_refl _) _).mono fW292_0.size))⟩ ?_
                rintro _ W294 ⟨rfl, hbW294, rW294_0, rW294_1, fW294_0⟩
                clear hq293
                refine ow_skip _ rfl (run_storeOp (eval_of (put_get _ _ _ (by simp only [put_size]; rw [hsz]; decide))) (eval_of (pf1 (by decide) (pf2 (by decide) (put_get _ _ _ (by simp only [put_size]; rw [hsz]; decide))))) (run_storeN (xs := [.int .i64 m5.k, .string m5.cl, .bool m5.clean, .int .i64 m5.keep, .bool m5.wI, .string m5.wT, .string m5.wP, .int .i64 m5.wQ, .bool m5.wR, .string m5.us, .bool m5.hu, .string m5.pa, .bool m5.hp, .bool m5.pres, .int .i64 m5.code, .slice ac5 nc5 cc5, .bool m5.dup, .int .i64 m5.q, .bool m5.re, .string m5.top, .int .i64 m5.id, .string m5.pay, .slice aw5 nw5 cw5, .slice af5 nf5 cf5]) rW294_1 (by simp) (by kernel_rfl) rfl)) ?_
                refine fresh (C := fun x W => wpRun _ _ x W _) (fun x X => _ = x ∧ Below w.heap.size w X ∧ RowAt X g ((flipB (enc m) (UInt8.ofNat j)).map B8) ∧ RowAt X q293 (Mq.row m5 (.slice ac5 nc5 cc5) (.slice aw5 nw5 cw5) (.slice af5 nf5 cf5)) ∧ Below V23.heap.size V23 X) ⟨rfl, (below_sets (by omega) _ _ _ hbW294), (RowAt.sets_other _ _ _ rW294_0 (by omega)), (RowAt.sets [.int .i64 m5.k, .string m5.cl, .bool m5.clean, .int .i64 m5.keep, .bool m5.wI, .string m5.wT, .string m5.wP, .int .i64 m5.wQ, .bool m5.wR, .string m5.us, .bool m5.hu, .string m5.pa, .bool m5.hp, .bool m5.pres, .int .i64 m5.code, .slice ac5 nc5 cc5, .bool m5.dup, .int .i64 m5.q, .bool m5.re, .string m5.top, .int .i64 m5.id, .string m5.pay, .slice aw5 nw5 cw5, .slice af5 nf5 cf5] 0 _ _ rW294_1 (by simp)), (below_sets (by omega) _ _ _ fW294_0)⟩ ?_
                rintro _ W295 ⟨rfl, hbW295, rW295_0, rW295_1, fW295_0⟩
                refine ow_run 18 (.int .i64 n5) _ rfl (run_assignOp (eval_of (pf2 (by decide) (put_get _ _ _ (by simp only [put_size]; rw [hsz]; decide))))) ?_
                refine ow_run 19 (.int .i64 ev) _ rfl (run_assignOp (eval_of (pf2 (by decide) (put_get _ _ _ (by simp only [put_size]; rw [hsz]; decide))))) ?_
                refine fresh (C := fun x W => wpRun _ [] x W _) (fun x X => _ = X ∧ x.tmps.size = 202 ∧ x.defers = [] ∧ x.tmps[0]? = some (.slice ao L.length cap) ∧ x.tmps[1]? = some (.int .i64 kk) ∧ x.tmps[5]? = some (.int .i64 ((k : Nat) : Int)) ∧ x.tmps[7]? = some (.slice (some ⟨b1, o1, none⟩) (enc m).length c1) ∧ x.tmps[15]? = some (.int .i64 ((j : Nat) : Int)) ∧ x.tmps[16]? = some (.slice (some ⟨g, 0, none⟩) (enc m).length cg) ∧ x.tmps[19]? = some (.int .i64 ev)) ⟨rfl, (by simp only [put_size]; exact hsz), (by simp only [put_defers]; exact hdf), (pf1 (by decide) (pf8 (by decide) s_0)), (pf1 (by decide) (pf8 (by decide) s_1)), (pf1 (by decide) (pf8 (by decide) s_5)), (pf1 (by decide) (pf8 (by decide) s_7)), (pf1 (by decide) (pf8 (by decide) s_15)), (pf1 (by decide) (pf8 (by decide) s_16)), (put_get _ _ _ (by simp only [put_size]; rw [hsz]; decide))⟩ ?_
                clear hsz hdf s_0 s_1 s_5 s_7 s_15 s_16
                rintro a _ ⟨rfl, hsz, hdf, s_0, s_1, s_5, s_7, s_15, s_16, s_19⟩
                refine ow_then ?_
                refine wp_seq ?_
                refine ow_region [_, _, _, _, _, _, _, _, _, _] rfl (by intro o ho; simp only [List.mem_cons, List.not_mem_nil, or_false] at ho; rcases ho with rfl | rfl | rfl | rfl | rfl | rfl | rfl | rfl | rfl | rfl <;> rfl) ?_
                refine ow_run 192 (.slice (some ⟨g, 0, none⟩) (enc m).length cg) _ rfl (run_moveOp (eval_of s_16)) ?_
                refine ow_call 193 (fun v X => ∃ (m6 : Mq) (ac6 aw6 af6 : Option Addr) (nc6 nw6 nf6 cc6 cw6 cf6 : Nat) (n6 : Int), v = .tuple #[m6.val (.slice ac6 nc6 cc6) (.slice aw6 nw6 cw6) (.slice af6 nf6 cf6), .int .i64 n6, .int .i64 ev] ∧ Below W295.heap.size W295 X) rfl _ _ (run_callOp Tryd.func25 rfl rfl (arr1 (eval_of (put_get _ _ _ (by rw [hsz]; decide))))) ((hP2.out _ W295 (sl_of_row rW295_0 (flipB_len _ _).symm hcg hcm)).mono fun e X ⟨m2, ac, aw, af, nc, nw, nf, cc, cw, cf, n, he, h⟩ => ⟨_, he, m2, ac, aw, af, nc, nw, nf, cc, cw, cf, n, rfl, h⟩) ?_
                rintro _ V298 ⟨m6, ac6, aw6, af6, nc6, nw6, nf6, cc6, cw6, cf6, n6, rfl, hb297⟩
                refine fresh (C := fun x W => wpRun _ _ x W _) (fun x X => _ = x ∧ Below w.heap.size w X ∧ RowAt X g ((flipB (enc m) (UInt8.ofNat j)).map B8) ∧ RowAt X q293 (Mq.row m5 (.slice ac5 nc5 cc5) (.slice aw5 nw5 cw5) (.slice af5 nf5 cf5)) ∧ Below V23.heap.size V23 X) ⟨rfl, (hbW295.trans (hb297.mono hbW295.size)), (rW295_0.below hb297), (rW295_1.below hb297), (fW295_0.trans (hb297.mono fW295_0.size))⟩ ?_
                rintro _ W299 ⟨rfl, hbW299, rW299_0, rW299_1, fW299_0⟩
                refine ow_run 191 (.tuple #[.agg (Mq.row m6 (.slice ac6 nc6 cc6) (.slice aw6 nw6 cw6) (.slice af6 nf6 cf6)).toArray, .int .i64 n6, .int .i64 ev]) _ rfl (run_moveOp (eval_of (put_get _ _ _ (by simp only [put_size]; rw [hsz]; decide)))) ?_
                refine ow_run 194 (.agg (Mq.row m6 (.slice ac6 nc6 cc6) (.slice aw6 nw6 cw6) (.slice af6 nf6 cf6)).toArray) _ rfl (run_extractOp (eval_of (put_get _ _ _ (by simp only [put_size]; rw [hsz]; decide))) rfl) ?_
                refine ow_run 195 (.int .i64 n6) _ rfl (run_extractOp (eval_of (pf1 (by decide) (put_get _ _ _ (by simp only [put_size]; rw [hsz]; decide)))) rfl) ?_
                refine ow_run 196 (.int .i64 ev) _ rfl (run_extractOp (eval_of (pf2 (by decide) (put_get _ _ _ (by simp only [put_size]; rw [hsz]; decide)))) rfl) ?_
                obtain ⟨q300, hq300⟩ : ∃ x, x = W299.heap.size := ⟨_, rfl⟩
                refine ow_run 20 (.pointer (some ⟨q300, 0, none⟩)) (W299.alloc (.cells #[.int .i64 0, .string { data := #[] }, .bool false, .int .i64 0, .bool false, .string { data := #[] }, .string { data := #[] }, .int .i64 0, .bool false, .string { data := #[] }, .bool false, .string { data := #[] }, .bool false, .bool false, .int .i64 0, .slice none 0 0, .bool false, .int .i64 0, .bool false, .string { data := #[] }, .int .i64 0, .string { data := #[] }, .slice none 0 0, .slice none 0 0] 30)) rfl (by rw [hq300]; exact (run_allocOp (by simp [go_sem, Instr.alloc]))) ?_
                have hqq300 : w.heap.size ≤ q300 := by rw [hq300]; exact hbW299.size
                have hqq300_V23 : V23.heap.size ≤ q300 := by rw [hq300]; exact fW299_0.size
                have hnq300_g : g < q300 := by rw [hq300]; exact rW299_0.2.2
                have hnq300_q293 : q293 < q300 := by rw [hq300]; exact rW299_1.2.2
                refine fresh (C := fun x W => wpRun _ _ x W _) (fun x X => _ = x ∧ Below w.heap.size w X ∧ RowAt X g ((flipB (enc m) (UInt8.ofNat j)).map B8) ∧ RowAt X q293 (Mq.row m5 (.slice ac5 nc5 cc5) (.slice aw5 nw5 cw5) (.slice af5 nf5 cf5)) ∧ RowAt X q300 [.int .i64 0, .string { data := #[] }, .bool false, .int .i64 0, .bool false, .string { data := #[] }, .string { data := #[] }, .int .i64 0, .bool false, .string { data := #[] }, .bool false, .string { data := #[] }, .bool false, .bool false, .int .i64 0, .slice none 0 0, .bool false, .int .i64 0, .bool false, .string { data := #[] }, .int .i64 0, .string { data := #[] }, .slice none 0 0, .slice none 0 0] ∧ Below V23.heap.size V23 X) ⟨rfl, (hbW299.alloc hbW299.size _), (rW299_0.below ((Below.refl _ W299).alloc (Nat.le_refl _) _)), (rW299_1.below ((Below.refl _ W299).alloc (Nat.le_refl _) _)), (by rw [hq300]; exact rowAt_alloc _ [.int .i64 0, .string { data := #[] }, .bool false, .int .i64 0, .bool false, .string { data := #[] }, .string { data := #[] }, .int .i64 0, .bool false, .string { data := #[] }, .bool false, .string { data := #[] }, .bool false, .bool false, .int .i64 0, .slice none 0 0, .bool false, .int .i64 0, .bool false, .string { data := #[] }, .int .i64 0, .string { data := #[] }, .slice none 0 0, .slice none 0 0] _), (fW299_0.trans (((Below.refl _ W299).alloc (Nat.le_refl _) _).mono fW299_0.size))⟩ ?_
                rintro _ W301 ⟨rfl, hbW301, rW301_0, rW301_1, rW301_2, fW301_0⟩
                clear hq300
                refine ow_skip _ rfl (run_storeOp (eval_of (put_get _ _ _ (by simp only [put_size]; rw [hsz]; decide))) (eval_of (pf1 (by decide) (pf2 (by decide) (put_get _ _ _ (by simp only [put_size]; rw [hsz]; decide))))) (run_storeN (xs := [.int .i64 m6.k, .string m6.cl, .bool m6.clean, .int .i64 m6.keep, .bool m6.wI, .string m6.wT, .string m6.wP, .int .i64 m6.wQ, .bool m6.wR, .string m6.us, .bool m6.hu, .string m6.pa, .bool m6.hp, .bool m6.pres, .int .i64 m6.code, .slice ac6 nc6 cc6, .bool m6.dup, .int .i64 m6.q, .bool m6.re, .string m6.top, .int .i64 m6.id, .string m6.pay, .slice aw6 nw6 cw6, .slice af6 nf6 cf6]) rW301_2 (by simp) (by kernel_rfl) rfl)) ?_
                refine fresh (C := fun x W => wpRun _ _ x W _) (fun x X => _ = x ∧ Below w.heap.size w X ∧ RowAt X g ((flipB (enc m) (UInt8.ofNat j)).map B8) ∧ RowAt X q293 (Mq.row m5 (.slice ac5 nc5 cc5) (.slice aw5 nw5 cw5) (.slice af5 nf5 cf5)) ∧ RowAt X q300 (Mq.row m6 (.slice ac6 nc6 cc6) (.slice aw6 nw6 cw6) (.slice af6 nf6 cf6)) ∧ Below V23.heap.size V23 X) ⟨rfl, (below_sets (by omega) _ _ _ hbW301), (RowAt.sets_other _ _ _ rW301_0 (by omega)), (RowAt.sets_other _ _ _ rW301_1 (by omega)), (RowAt.sets [.int .i64 m6.k, .string m6.cl, .bool m6.clean, .int .i64 m6.keep, .bool m6.wI, .string m6.wT, .string m6.wP, .int .i64 m6.wQ, .bool m6.wR, .string m6.us, .bool m6.hu, .string m6.pa, .bool m6.hp, .bool m6.pres, .int .i64 m6.code, .slice ac6 nc6 cc6, .bool m6.dup, .int .i64 m6.q, .bool m6.re, .string m6.top, .int .i64 m6.id, .string m6.pay, .slice aw6 nw6 cw6, .slice af6 nf6 cf6] 0 _ _ rW301_2 (by simp)), (below_sets (by omega) _ _ _ fW301_0)⟩ ?_
                rintro _ W302 ⟨rfl, hbW302, rW302_0, rW302_1, rW302_2, fW302_0⟩
                refine ow_run 21 (.int .i64 n6) _ rfl (run_assignOp (eval_of (pf2 (by decide) (put_get _ _ _ (by simp only [put_size]; rw [hsz]; decide))))) ?_
                refine ow_run 22 (.int .i64 ev) _ rfl (run_assignOp (eval_of (pf2 (by decide) (put_get _ _ _ (by simp only [put_size]; rw [hsz]; decide))))) ?_
                refine fresh (C := fun x W => wpRun _ [] x W _) (fun x X => _ = X ∧ x.tmps.size = 202 ∧ x.defers = [] ∧ x.tmps[0]? = some (.slice ao L.length cap) ∧ x.tmps[1]? = some (.int .i64 kk) ∧ x.tmps[5]? = some (.int .i64 ((k : Nat) : Int)) ∧ x.tmps[7]? = some (.slice (some ⟨b1, o1, none⟩) (enc m).length c1) ∧ x.tmps[15]? = some (.int .i64 ((j : Nat) : Int)) ∧ x.tmps[19]? = some (.int .i64 ev) ∧ x.tmps[22]? = some (.int .i64 ev)) ⟨rfl, (by simp only [put_size]; exact hsz), (by simp only [put_defers]; exact hdf), (pf1 (by decide) (pf8 (by decide) s_0)), (pf1 (by decide) (pf8 (by decide) s_1)), (pf1 (by decide) (pf8 (by decide) s_5)), (pf1 (by decide) (pf8 (by decide) s_7)), (pf1 (by decide) (pf8 (by decide) s_15)), (pf1 (by decide) (pf8 (by decide) s_19)), (put_get _ _ _ (by simp only [put_size]; rw [hsz]; decide))⟩ ?_
                clear hsz hdf s_0 s_1 s_5 s_7 s_15 s_16 s_19
                rintro a _ ⟨rfl, hsz, hdf, s_0, s_1, s_5, s_7, s_15, s_19, s_22⟩
                refine ow_then ?_
                refine wp_seq ?_
                refine ow_region [_, _, _, _] rfl (by intro o ho; simp only [List.mem_cons, List.not_mem_nil, or_false] at ho; rcases ho with rfl | rfl | rfl | rfl <;> rfl) ?_
                refine ow_run 197 (.int .i64 ev) _ rfl (run_moveOp (eval_of s_19)) ?_
                refine ow_call 198 (fun v X => v = (.int .i64 ev) ∧ W302 = X) rfl _ _ (run_callOp Tryd.func26 rfl rfl (arr1 (eval_of (put_get _ _ _ (by rw [hsz]; decide))))) ((num18_any _ _).mono fun e X h => ⟨_, h.1, rfl, h.2⟩) ?_
                rintro _ _ ⟨rfl, rfl⟩
                refine ow_run 199 (.int .i64 ev) _ rfl (run_moveOp (eval_of (pf2 (by decide) s_22))) ?_
                refine ow_run 200 (.bool false) _ rfl (run_binOp (eval_of (pf1 (by decide) (put_get _ _ _ (by simp only [put_size]; rw [hsz]; decide)))) (eval_of (put_get _ _ _ (by simp only [put_size]; rw [hsz]; decide))) (by simp [go_sem]) (by simp [go_sem])) ?_
                refine fresh (C := fun x W => wpRun _ [] x W _) (fun x X => _ = X ∧ x.tmps.size = 202 ∧ x.defers = [] ∧ x.tmps[0]? = some (.slice ao L.length cap) ∧ x.tmps[1]? = some (.int .i64 kk) ∧ x.tmps[5]? = some (.int .i64 ((k : Nat) : Int)) ∧ x.tmps[7]? = some (.slice (some ⟨b1, o1, none⟩) (enc m).length c1) ∧ x.tmps[15]? = some (.int .i64 ((j : Nat) : Int)) ∧ x.tmps[200]? = some (.bool false)) ⟨rfl, (by simp only [put_size]; exact hsz), (by simp only [put_defers]; exact hdf), (pf4 (by decide) s_0), (pf4 (by decide) s_1), (pf4 (by decide) s_5), (pf4 (by decide) s_7), (pf4 (by decide) s_15), (put_get _ _ _ (by simp only [put_size]; rw [hsz]; decide))⟩ ?_
                clear hsz hdf s_0 s_1 s_5 s_7 s_15 s_19 s_22
                rintro a _ ⟨rfl, hsz, hdf, s_0, s_1, s_5, s_7, s_15, s_200⟩
                refine ow_then ?_
                refine ow_false (eval_of s_200) ?_
                refine wp_skip ?_
                refine ow_blk _ ?_
                refine ow_then ?_
                refine ow_region [_, _, _] rfl (by intro o ho; simp only [List.mem_cons, List.not_mem_nil, or_false] at ho; rcases ho with rfl | rfl | rfl <;> rfl) ?_
                refine ow_run 173 (.int .i64 ((j : Nat) : Int)) _ rfl (run_moveOp (eval_of s_15)) ?_
                refine ow_run 174 (.int .i64 (((j : Nat) : Int) + 1)) _ rfl (run_binOp (eval_of (put_get _ _ _ (by rw [hsz]; decide))) (eval_cst _ _) (by simp [go_sem]) (addI _ _ _ (by omega) (by omega))) ?_
                refine ow_run 15 (.int .i64 (((j : Nat) : Int) + 1)) _ rfl (run_assignOp (eval_of (put_get _ _ _ (by simp only [put_size]; rw [hsz]; decide)))) ?_
                refine fresh (C := fun x W => wpRun _ [] x W _) (fun x X => _ = X ∧ x.tmps.size = 202 ∧ x.defers = [] ∧ x.tmps[0]? = some (.slice ao L.length cap) ∧ x.tmps[1]? = some (.int .i64 kk) ∧ x.tmps[5]? = some (.int .i64 ((k : Nat) : Int)) ∧ x.tmps[7]? = some (.slice (some ⟨b1, o1, none⟩) (enc m).length c1) ∧ x.tmps[15]? = some (.int .i64 (((j : Nat) : Int) + 1))) ⟨rfl, (by simp only [put_size]; exact hsz), (by simp only [put_defers]; exact hdf), (pf1 (by decide) (pf2 (by decide) s_0)), (pf1 (by decide) (pf2 (by decide) s_1)), (pf1 (by decide) (pf2 (by decide) s_5)), (pf1 (by decide) (pf2 (by decide) s_7)), (put_get _ _ _ (by simp only [put_size]; rw [hsz]; decide))⟩ ?_
                clear hsz hdf s_0 s_1 s_5 s_7 s_200 s_15
                rintro a _ ⟨rfl, hsz, hdf, s_0, s_1, s_5, s_7, s_15⟩
                have hj16 : j < 16 := by have h := hb_283; simp only [decide_eq_true_eq] at h; omega
                exact ow_then (hK281 _ _ _ (by omega) ⟨(j + 1), rfl, (by omega), (by omega), hsz, hdf, s_0, s_1, s_5, s_7, (by first | exact s_15 | (rw [s_15]; congr 2; first | rfl | omega | (push_cast; omega)) | (rw [s_15]; first | rfl | (simp; try omega))), hbW302, fW302_0⟩)
              · skip
                refine ow_false (eval_of (flag_of s_172 hb_283)) ?_
                refine wp_exit ?_
                refine ow_then_exit ?_
                refine ow_then_exit ?_
                refine ow_blk_exit _ ?_
                refine ow_blk _ ?_
                refine ow_then ?_
                refine ow_region [_, _, _] rfl (by intro o ho; simp only [List.mem_cons, List.not_mem_nil, or_false] at ho; rcases ho with rfl | rfl | rfl <;> rfl) ?_
                refine ow_run 31 (.int .i64 ((k : Nat) : Int)) _ rfl (run_moveOp (eval_of s_5)) ?_
                refine ow_run 32 (.int .i64 (((k : Nat) : Int) + 1)) _ rfl (run_binOp (eval_of (put_get _ _ _ (by rw [hsz]; decide))) (eval_cst _ _) (by simp [go_sem]) (addI _ _ _ (by omega) (by omega))) ?_
                refine ow_run 5 (.int .i64 (((k : Nat) : Int) + 1)) _ rfl (run_assignOp (eval_of (put_get _ _ _ (by simp only [put_size]; rw [hsz]; decide)))) ?_
                refine fresh (C := fun x W => wpRun _ [] x W _) (fun x X => _ = X ∧ x.tmps.size = 202 ∧ x.defers = [] ∧ x.tmps[0]? = some (.slice ao L.length cap) ∧ x.tmps[1]? = some (.int .i64 kk) ∧ x.tmps[5]? = some (.int .i64 (((k : Nat) : Int) + 1))) ⟨rfl, (by simp only [put_size]; exact hsz), (by simp only [put_defers]; exact hdf), (pf1 (by decide) (pf2 (by decide) s_0)), (pf1 (by decide) (pf2 (by decide) s_1)), (put_get _ _ _ (by simp only [put_size]; rw [hsz]; decide))⟩ ?_
                clear hsz hdf s_0 s_1 s_5 s_7 s_172 s_15
                rintro a _ ⟨rfl, hsz, hdf, s_0, s_1, s_5⟩
                have hlt1 : k < L.length := by have h := hb_6; simp only [decide_eq_true_eq] at h; omega
                exact ow_then (hK5 _ _ _ (by omega) ⟨(k + 1), rfl, (by omega), hsz, hdf, s_0, s_1, (by first | exact s_5 | (rw [s_5]; congr 2; first | rfl | omega | (push_cast; omega)) | (rw [s_5]; first | rfl | (simp; try omega))), hbW279⟩)
          · skip
            refine ow_region [_, _, _, _, _, _, _, _] rfl (by intro o ho; simp only [List.mem_cons, List.not_mem_nil, or_false] at ho; rcases ho with rfl | rfl | rfl | rfl | rfl | rfl | rfl | rfl <;> rfl) ?_
            have HNe := Lib.hid (hN hb_17).1
            have hk : m.k = kk := by simpa using hb_20
            have hn1 : m.cs.length ≤ 1000000 := Nat.le_trans HNe.out.cs (by decide)
            have hn2 : m.ws.length ≤ 1000000 := Nat.le_trans HNe.out.ws (by decide)
            have hn3 : m.fs.length ≤ 1000000 := Nat.le_trans HNe.out.fs (by decide)
            have hsTop : m.top.size + (⟨#[(35 : UInt8)]⟩ : ByteArray).size ≤ 9223372036854775807 := by have := HNe.out.top; show m.top.size + 1 ≤ _; omega
            have hsPa : m.pa.size + (⟨#[(120 : UInt8)]⟩ : ByteArray).size ≤ 9223372036854775807 := by have := HNe.out.pa; show m.pa.size + 1 ≤ _; omega
            refine ow_run 45 (.pointer (some ⟨q9, 0, none⟩)) _ rfl (run_fieldAddr (eval_of s_6) (by simp [go_sem, Instr.fieldAt])) ?_
            refine ow_run 46 (.agg (Mq.row m (.slice ac nc cc) (.slice aw nw cw) (.slice af nf cf)).toArray) _ rfl (run_loadOp (eval_of (put_get _ _ _ (by rw [hsz]; decide))) (run_loadN [.int .i64 m.k, .string m.cl, .bool m.clean, .int .i64 m.keep, .bool m.wI, .string m.wT, .string m.wP, .int .i64 m.wQ, .bool m.wR, .string m.us, .bool m.hu, .string m.pa, .bool m.hp, .bool m.pres, .int .i64 m.code, .slice ac nc cc, .bool m.dup, .int .i64 m.q, .bool m.re, .string m.top, .int .i64 m.id, .string m.pay, .slice aw nw cw, .slice af nf cf] rW15_0 (fun j v hj => mid_row 0 24 _ _ rfl j v hj) Tryd.underlying30 rfl (by kernel_rfl))) ?_
            refine ow_call 47 (fun v X => ∃ vz, v = .tuple #[vz, .int .i64 1] ∧ Below W15.heap.size W15 X) rfl _ _ (run_callOp Tryd.func32 rfl rfl (arr1 (eval_of (put_get _ _ _ (by simp only [put_size]; rw [hsz]; decide))))) ((K.out.bytes m _ _ _ W15 hk (HNe.out.mono (by decide)) (HL.out.below hbW15)).mono fun e X ⟨v, he, h, _⟩ => ⟨_, he, v, by rw [hb_21]; rfl, h⟩) ?_
            rintro _ V308 ⟨vz, rfl, hb307⟩
            refine fresh (C := fun x W => wpRun _ _ x W _) (fun x X => _ = x ∧ Below w.heap.size w X ∧ RowAt X q9 (Mq.row m (.slice ac nc cc) (.slice aw nw cw) (.slice af nf cf) ++ [(.slice ax nx cx : Value)])) ⟨rfl, (hbW15.trans (hb307.mono hbW15.size)), (rW15_0.below hb307)⟩ ?_
            rintro _ W309 ⟨rfl, hbW309, rW309_0⟩
            refine ow_run 44 (.tuple #[vz, .int .i64 1]) _ rfl (run_moveOp (eval_of (put_get _ _ _ (by simp only [put_size]; rw [hsz]; decide)))) ?_
            refine ow_run 48 (vz) _ rfl (run_extractOp (eval_of (put_get _ _ _ (by simp only [put_size]; rw [hsz]; decide))) rfl) ?_
            refine ow_run 49 (.int .i64 1) _ rfl (run_extractOp (eval_of (pf1 (by decide) (put_get _ _ _ (by simp only [put_size]; rw [hsz]; decide)))) rfl) ?_
            refine ow_run 7 (vz) _ rfl (run_assignOp (eval_of (pf1 (by decide) (put_get _ _ _ (by simp only [put_size]; rw [hsz]; decide))))) ?_
            refine ow_run 8 (.int .i64 1) _ rfl (run_assignOp (eval_of (pf1 (by decide) (put_get _ _ _ (by simp only [put_size]; rw [hsz]; decide))))) ?_
            refine fresh (C := fun x W => wpRun _ [] x W _) (fun x X => _ = X ∧ x.tmps.size = 202 ∧ x.defers = [] ∧ x.tmps[0]? = some (.slice ao L.length cap) ∧ x.tmps[1]? = some (.int .i64 kk) ∧ x.tmps[5]? = some (.int .i64 ((k : Nat) : Int)) ∧ x.tmps[6]? = some (.pointer (some ⟨q9, 0, none⟩)) ∧ x.tmps[7]? = some (vz) ∧ x.tmps[8]? = some (.int .i64 1)) ⟨rfl, (by simp only [put_size]; exact hsz), (by simp only [put_defers]; exact hdf), (pf8 (by decide) s_0), (pf8 (by decide) s_1), (pf8 (by decide) s_5), (pf8 (by decide) s_6), (pf1 (by decide) (put_get _ _ _ (by simp only [put_size]; rw [hsz]; decide))), (put_get _ _ _ (by simp only [put_size]; rw [hsz]; decide))⟩ ?_
            clear hsz hdf s_0 s_1 s_5 s_6 s_43
            rintro a _ ⟨rfl, hsz, hdf, s_0, s_1, s_5, s_6, s_7, s_8⟩
            refine ow_then ?_
            refine wp_seq ?_
            refine ow_region [_, _, _, _] rfl (by intro o ho; simp only [List.mem_cons, List.not_mem_nil, or_false] at ho; rcases ho with rfl | rfl | rfl | rfl <;> rfl) ?_
            refine ow_run 50 (.pointer (some ⟨q9, 0, none⟩)) _ rfl (run_fieldAddr (eval_of s_6) (by simp [go_sem, Instr.fieldAt])) ?_
            refine ow_run 51 (.agg (Mq.row m (.slice ac nc cc) (.slice aw nw cw) (.slice af nf cf)).toArray) _ rfl (run_loadOp (eval_of (put_get _ _ _ (by rw [hsz]; decide))) (run_loadN [.int .i64 m.k, .string m.cl, .bool m.clean, .int .i64 m.keep, .bool m.wI, .string m.wT, .string m.wP, .int .i64 m.wQ, .bool m.wR, .string m.us, .bool m.hu, .string m.pa, .bool m.hp, .bool m.pres, .int .i64 m.code, .slice ac nc cc, .bool m.dup, .int .i64 m.q, .bool m.re, .string m.top, .int .i64 m.id, .string m.pay, .slice aw nw cw, .slice af nf cf] rW309_0 (fun j v hj => mid_row 0 24 _ _ rfl j v hj) Tryd.underlying30 rfl (by kernel_rfl))) ?_
            refine ow_call 52 (fun v X => v = .bool false ∧ Below W309.heap.size W309 X) rfl _ _ (run_callOp Tryd.func33 rfl rfl (arr1 (eval_of (put_get _ _ _ (by simp only [put_size]; rw [hsz]; decide))))) ((K.out.may m _ _ _ W309 hk (HNe.out.mono (by decide)) (HL.out.below hbW309)).mono fun e X h => ⟨_, h.1.trans (by rw [hb_21]), rfl, h.2⟩) ?_
            rintro _ V312 ⟨rfl, hb311⟩
            refine fresh (C := fun x W => wpRun _ _ x W _) (fun x X => _ = x ∧ Below w.heap.size w X ∧ RowAt X q9 (Mq.row m (.slice ac nc cc) (.slice aw nw cw) (.slice af nf cf) ++ [(.slice ax nx cx : Value)])) ⟨rfl, (hbW309.trans (hb311.mono hbW309.size)), (rW309_0.below hb311)⟩ ?_
            rintro _ W313 ⟨rfl, hbW313, rW313_0⟩
            refine ow_run 9 (.bool false) _ rfl (run_assignOp (eval_of (put_get _ _ _ (by simp only [put_size]; rw [hsz]; decide)))) ?_
            refine fresh (C := fun x W => wpRun _ [] x W _) (fun x X => _ = X ∧ x.tmps.size = 202 ∧ x.defers = [] ∧ x.tmps[0]? = some (.slice ao L.length cap) ∧ x.tmps[1]? = some (.int .i64 kk) ∧ x.tmps[5]? = some (.int .i64 ((k : Nat) : Int)) ∧ x.tmps[6]? = some (.pointer (some ⟨q9, 0, none⟩)) ∧ x.tmps[7]? = some (vz) ∧ x.tmps[8]? = some (.int .i64 1) ∧ x.tmps[9]? = some (.bool false)) ⟨rfl, (by simp only [put_size]; exact hsz), (by simp only [put_defers]; exact hdf), (pf4 (by decide) s_0), (pf4 (by decide) s_1), (pf4 (by decide) s_5), (pf4 (by decide) s_6), (pf4 (by decide) s_7), (pf4 (by decide) s_8), (put_get _ _ _ (by simp only [put_size]; rw [hsz]; decide))⟩ ?_
            clear hsz hdf s_0 s_1 s_5 s_6 s_7 s_8
            rintro a _ ⟨rfl, hsz, hdf, s_0, s_1, s_5, s_6, s_7, s_8, s_9⟩
            refine ow_then ?_
            refine wp_seq ?_
            refine wp_seq ?_
            refine owl_region [_, _, _, _, _, _, _, _, _, _, _, _, _, _, _, _] rfl ?_
            refine owl_run (wanted_none rfl) 53 (.bool false) _ rfl (run_moveOp (eval_of s_9)) ?_
            refine owl_run (wanted_none rfl) 54 (.int .i64 1) _ rfl (run_moveOp (eval_of (pf1 (by decide) s_8))) ?_
            refine owl_call (wanted_none rfl) 55 (fun v X => v = (.int .i64 1) ∧ W313 = X) rfl _ _ (run_callOp Tryd.func26 rfl rfl (arr1 (eval_of (put_get _ _ _ (by simp only [put_size]; rw [hsz]; decide))))) ((num18_any _ _).mono fun e X h => ⟨_, h.1, rfl, h.2⟩) ?_
            rintro _ _ ⟨rfl, rfl⟩
            refine owl_run (wanted_none rfl) 56 (.bool false) _ rfl (run_binOp (eval_of (put_get _ _ _ (by simp only [put_size]; rw [hsz]; decide))) (eval_cst _ _) (by simp [go_sem]) (by simp [go_sem])) ?_
            refine owl_run (wanted_none rfl) 57 (.bool false) _ rfl (run_binOp (eval_of (pf1 (by decide) (pf2 (by decide) (put_get _ _ _ (by rw [hsz]; decide))))) (eval_of (put_get _ _ _ (by simp only [put_size]; rw [hsz]; decide))) (by simp [go_sem]) (boolNe_self _ _)) ?_
            refine owl_run (wanted_none rfl) 58 (.bool false) _ rfl (run_moveOp (eval_of (put_get _ _ _ (by simp only [put_size]; rw [hsz]; decide)))) ?_
            refine owg_run 5 58 false rfl (by kernel_rfl) (put_get _ _ _ (by simp only [put_size]; rw [hsz]; decide)) 59 (.bool false) _ rfl (run_moveOp (eval_of (pf2 (by decide) (pf4 (by decide) s_9)))) ?_
            refine owg_run 5 58 false rfl (by kernel_rfl) (pf1 (by decide) (put_get _ _ _ (by simp only [put_size]; rw [hsz]; decide))) 60 (.bool false) _ rfl (run_moveOp (eval_of (put_get _ _ _ (by simp only [put_size]; rw [hsz]; decide)))) ?_
            refine owg_no 7 60 true false rfl (by kernel_rfl) (put_get _ _ _ (by simp only [put_size]; rw [hsz]; decide)) (by decide) 61 rfl ?_
            refine owg_no 7 60 true false rfl (by kernel_rfl) (pf1 (by decide) (put_get _ _ _ (by simp only [put_size]; rw [hsz]; decide))) (by decide) 62 rfl ?_
            refine owg_no 7 60 true false rfl (by kernel_rfl) (pf2 (by decide) (put_get _ _ _ (by simp only [put_size]; rw [hsz]; decide))) (by decide) 63 rfl ?_
            refine owg_no 7 60 true false rfl (by kernel_rfl) (pf1 (by decide) (pf2 (by decide) (put_get _ _ _ (by simp only [put_size]; rw [hsz]; decide)))) (by decide) 64 rfl ?_
            refine owg_no 7 60 true false rfl (by kernel_rfl) (pf4 (by decide) (put_get _ _ _ (by simp only [put_size]; rw [hsz]; decide))) (by decide) 65 rfl ?_
            refine owg_no 7 60 true false rfl (by kernel_rfl) (pf1 (by decide) (pf4 (by decide) (put_get _ _ _ (by simp only [put_size]; rw [hsz]; decide)))) (by decide) 66 rfl ?_
            refine owg_run 5 58 false rfl (by kernel_rfl) (pf8 (by decide) (put_get _ _ _ (by simp only [put_size]; rw [hsz]; decide))) 67 (.bool false) _ rfl (run_pickF (eval_of (pf2 (by decide) (pf4 (by decide) (put_get _ _ _ (by simp only [put_size]; rw [hsz]; decide))))) (eval_cst _ _)) ?_
            refine owl_run (wanted_none rfl) 68 (.bool false) _ rfl (run_pickF (eval_of (pf1 (by decide) (pf8 (by decide) (put_get _ _ _ (by simp only [put_size]; rw [hsz]; decide))))) (eval_of (put_get _ _ _ (by simp only [put_size]; rw [hsz]; decide)))) ?_
            refine fresh (C := fun x W => WL _ _ _ [] x W) (fun x X => _ = X ∧ x.tmps.size = 202 ∧ x.defers = [] ∧ x.tmps[0]? = some (.slice ao L.length cap) ∧ x.tmps[1]? = some (.int .i64 kk) ∧ x.tmps[5]? = some (.int .i64 ((k : Nat) : Int)) ∧ x.tmps[6]? = some (.pointer (some ⟨q9, 0, none⟩)) ∧ x.tmps[7]? = some (vz) ∧ x.tmps[9]? = some (.bool false) ∧ x.tmps[68]? = some (.bool false)) ⟨rfl, (by simp only [put_size]; exact hsz), (by simp only [put_defers]; exact hdf), (pf16 (by decide) s_0), (pf16 (by decide) s_1), (pf16 (by decide) s_5), (pf16 (by decide) s_6), (pf16 (by decide) s_7), (pf16 (by decide) s_9), (put_get _ _ _ (by simp only [put_size]; rw [hsz]; decide))⟩ ?_
            clear hsz hdf s_0 s_1 s_5 s_6 s_7 s_8 s_9
            rintro a _ ⟨rfl, hsz, hdf, s_0, s_1, s_5, s_6, s_7, s_9, s_68⟩
            refine wl_done ?_
            refine ow_then ?_
            refine ow_false (eval_of s_68) ?_
            refine wp_skip ?_
            refine ow_then ?_
            refine wp_seq ?_
            refine wp_seq ?_
            refine ow_region [_, _] rfl (by intro o ho; simp only [List.mem_cons, List.not_mem_nil, or_false] at ho; rcases ho with rfl | rfl <;> rfl) ?_
            refine ow_run 69 (.bool false) _ rfl (run_moveOp (eval_of s_9)) ?_
            refine ow_run 70 (.bool true) _ rfl (run_notOp (eval_of (put_get _ _ _ (by rw [hsz]; decide)))) ?_
            refine fresh (C := fun x W => wpRun _ [] x W _) (fun x X => _ = X ∧ x.tmps.size = 202 ∧ x.defers = [] ∧ x.tmps[0]? = some (.slice ao L.length cap) ∧ x.tmps[1]? = some (.int .i64 kk) ∧ x.tmps[5]? = some (.int .i64 ((k : Nat) : Int)) ∧ x.tmps[6]? = some (.pointer (some ⟨q9, 0, none⟩)) ∧ x.tmps[7]? = some (vz) ∧ x.tmps[70]? = some (.bool true)) ⟨rfl, (by simp only [put_size]; exact hsz), (by simp only [put_defers]; exact hdf), (pf2 (by decide) s_0), (pf2 (by decide) s_1), (pf2 (by decide) s_5), (pf2 (by decide) s_6), (pf2 (by decide) s_7), (put_get _ _ _ (by simp only [put_size]; rw [hsz]; decide))⟩ ?_
            clear hsz hdf s_0 s_1 s_5 s_6 s_7 s_9 s_68
            rintro a _ ⟨rfl, hsz, hdf, s_0, s_1, s_5, s_6, s_7, s_70⟩
            refine ow_then ?_
            refine ow_true (eval_of s_70) ?_
            refine wp_exit ?_
            refine ow_then_exit ?_
            refine ow_blk_exit _ ?_
            refine ow_then ?_
            refine ow_region [_, _, _] rfl (by intro o ho; simp only [List.mem_cons, List.not_mem_nil, or_false] at ho; rcases ho with rfl | rfl | rfl <;> rfl) ?_
            refine ow_run 31 (.int .i64 ((k : Nat) : Int)) _ rfl (run_moveOp (eval_of s_5)) ?_
            refine ow_run 32 (.int .i64 (((k : Nat) : Int) + 1)) _ rfl (run_binOp (eval_of (put_get _ _ _ (by rw [hsz]; decide))) (eval_cst _ _) (by simp [go_sem]) (addI _ _ _ (by omega) (by omega))) ?_
            refine ow_run 5 (.int .i64 (((k : Nat) : Int) + 1)) _ rfl (run_assignOp (eval_of (put_get _ _ _ (by simp only [put_size]; rw [hsz]; decide)))) ?_
            refine fresh (C := fun x W => wpRun _ [] x W _) (fun x X => _ = X ∧ x.tmps.size = 202 ∧ x.defers = [] ∧ x.tmps[0]? = some (.slice ao L.length cap) ∧ x.tmps[1]? = some (.int .i64 kk) ∧ x.tmps[5]? = some (.int .i64 (((k : Nat) : Int) + 1))) ⟨rfl, (by simp only [put_size]; exact hsz), (by simp only [put_defers]; exact hdf), (pf1 (by decide) (pf2 (by decide) s_0)), (pf1 (by decide) (pf2 (by decide) s_1)), (put_get _ _ _ (by simp only [put_size]; rw [hsz]; decide))⟩ ?_
            clear hsz hdf s_0 s_1 s_5 s_6 s_7 s_70
            rintro a _ ⟨rfl, hsz, hdf, s_0, s_1, s_5⟩
            have hlt1 : k < L.length := by have h := hb_6; simp only [decide_eq_true_eq] at h; omega
            exact ow_then (hK5 _ _ _ (by omega) ⟨(k + 1), rfl, (by omega), hsz, hdf, s_0, s_1, (by first | exact s_5 | (rw [s_5]; congr 2; first | rfl | omega | (push_cast; omega)) | (rw [s_5]; first | rfl | (simp; try omega))), hbW313⟩)
        · skip
          refine ow_true (eval_of (flag_of s_43 (not_of hb_20))) ?_
          refine wp_exit ?_
          refine ow_then_exit ?_
          refine ow_blk_exit _ ?_
          refine ow_then ?_
          refine ow_region [_, _, _] rfl (by intro o ho; simp only [List.mem_cons, List.not_mem_nil, or_false] at ho; rcases ho with rfl | rfl | rfl <;> rfl) ?_
          refine ow_run 31 (.int .i64 ((k : Nat) : Int)) _ rfl (run_moveOp (eval_of s_5)) ?_
          refine ow_run 32 (.int .i64 (((k : Nat) : Int) + 1)) _ rfl (run_binOp (eval_of (put_get _ _ _ (by rw [hsz]; decide))) (eval_cst _ _) (by simp [go_sem]) (addI _ _ _ (by omega) (by omega))) ?_
          refine ow_run 5 (.int .i64 (((k : Nat) : Int) + 1)) _ rfl (run_assignOp (eval_of (put_get _ _ _ (by simp only [put_size]; rw [hsz]; decide)))) ?_
          refine fresh (C := fun x W => wpRun _ [] x W _) (fun x X => _ = X ∧ x.tmps.size = 202 ∧ x.defers = [] ∧ x.tmps[0]? = some (.slice ao L.length cap) ∧ x.tmps[1]? = some (.int .i64 kk) ∧ x.tmps[5]? = some (.int .i64 (((k : Nat) : Int) + 1))) ⟨rfl, (by simp only [put_size]; exact hsz), (by simp only [put_defers]; exact hdf), (pf1 (by decide) (pf2 (by decide) s_0)), (pf1 (by decide) (pf2 (by decide) s_1)), (put_get _ _ _ (by simp only [put_size]; rw [hsz]; decide))⟩ ?_
          clear hsz hdf s_0 s_1 s_5 s_6 s_43
          rintro a _ ⟨rfl, hsz, hdf, s_0, s_1, s_5⟩
          have hlt1 : k < L.length := by have h := hb_6; simp only [decide_eq_true_eq] at h; omega
          exact ow_then (hK5 _ _ _ (by omega) ⟨(k + 1), rfl, (by omega), hsz, hdf, s_0, s_1, (by first | exact s_5 | (rw [s_5]; congr 2; first | rfl | omega | (push_cast; omega)) | (rw [s_5]; first | rfl | (simp; try omega))), hbW15⟩)
    · skip
      refine ow_false (eval_of (flag_of s_30 hb_8)) ?_
      refine wp_exit ?_
      refine ow_then_exit ?_
      refine ow_then_exit ?_
      refine ow_blk_exit _ ?_
      refine ow_then ?_
      refine wp_seq ?_
      refine ow_region [_, _] rfl (by intro o ho; simp only [List.mem_cons, List.not_mem_nil, or_false] at ho; rcases ho with rfl | rfl <;> rfl) ?_
      refine ow_call 201 (fun v X => v = .bool true ∧ Below W3.heap.size W3 X) rfl _ _ (run_callOp Tryd.func30 rfl rfl (arr0 )) ((WK.out W3 hbW3).mono fun e X h => ⟨_, h.1, rfl, h.2⟩) ?_
      rintro _ V320 ⟨rfl, hb319⟩
      refine fresh (C := fun x W => wpRun _ _ x W _) (fun x X => _ = x ∧ Below w.heap.size w X) ⟨rfl, (hbW3.trans (hb319.mono hbW3.size))⟩ ?_
      rintro _ W321 ⟨rfl, hbW321⟩
      refine ow_run 4 (.bool true) _ rfl (run_assignOp (eval_of (put_get _ _ _ (by rw [hsz]; decide)))) ?_
      refine fresh (C := fun x W => wpRun _ [] x W _) (fun x X => _ = X ∧ x.tmps.size = 202 ∧ x.defers = [] ∧ x.tmps[4]? = some (.bool true)) ⟨rfl, (by simp only [put_size]; exact hsz), (by simp only [put_defers]; exact hdf), (put_get _ _ _ (by simp only [put_size]; rw [hsz]; decide))⟩ ?_
      clear hsz hdf s_0 s_1 s_5 s_30
      rintro a _ ⟨rfl, hsz, hdf, s_4⟩
      refine ow_then ?_
      refine wp_ret ?_
      exact ow_ret1 rfl hdf s_4 ⟨rfl, hbW321⟩
  · skip
    refine owg_no 4 27 true false rfl (by kernel_rfl) (flag_of (put_get _ _ _ (by simp only [put_size]; rw [hsz]; decide)) hb_6) (by decide) 28 rfl ?_
    refine owg_no 4 27 true false rfl (by kernel_rfl) (flag_of (pf1 (by decide) (put_get _ _ _ (by simp only [put_size]; rw [hsz]; decide))) hb_6) (by decide) 29 rfl ?_
    refine owl_run (wanted_none rfl) 30 (.bool false) _ rfl (run_pickF (eval_cast (eval_of (pf2 (by decide) (put_get _ _ _ (by simp only [put_size]; rw [hsz]; decide)))) hb_6) (eval_cst _ _)) ?_
    refine fresh (C := fun x W => WL _ _ _ [] x W) (fun x X => _ = X ∧ x.tmps.size = 202 ∧ x.defers = [] ∧ x.tmps[0]? = some (.slice ao L.length cap) ∧ x.tmps[1]? = some (.int .i64 kk) ∧ x.tmps[5]? = some (.int .i64 ((k : Nat) : Int)) ∧ x.tmps[30]? = some (.bool false)) ⟨rfl, (by simp only [put_size]; exact hsz), (by simp only [put_defers]; exact hdf), (pf8 (by decide) s_0), (pf8 (by decide) s_1), (pf8 (by decide) s_5), (put_get _ _ _ (by simp only [put_size]; rw [hsz]; decide))⟩ ?_
    clear hsz hdf s_0 s_1 s_5
    rintro a _ ⟨rfl, hsz, hdf, s_0, s_1, s_5, s_30⟩
    refine wl_done ?_
    refine ow_then ?_
    refine ow_false (eval_of s_30) ?_
    refine wp_exit ?_
    refine ow_then_exit ?_
    refine ow_then_exit ?_
    refine ow_blk_exit _ ?_
    refine ow_then ?_
    refine wp_seq ?_
    refine ow_region [_, _] rfl (by intro o ho; simp only [List.mem_cons, List.not_mem_nil, or_false] at ho; rcases ho with rfl | rfl <;> rfl) ?_
    refine ow_call 201 (fun v X => v = .bool true ∧ Below W3.heap.size W3 X) rfl _ _ (run_callOp Tryd.func30 rfl rfl (arr0 )) ((WK.out W3 hbW3).mono fun e X h => ⟨_, h.1, rfl, h.2⟩) ?_
    rintro _ V325 ⟨rfl, hb324⟩
    refine fresh (C := fun x W => wpRun _ _ x W _) (fun x X => _ = x ∧ Below w.heap.size w X) ⟨rfl, (hbW3.trans (hb324.mono hbW3.size))⟩ ?_
    rintro _ W326 ⟨rfl, hbW326⟩
    refine ow_run 4 (.bool true) _ rfl (run_assignOp (eval_of (put_get _ _ _ (by rw [hsz]; decide)))) ?_
    refine fresh (C := fun x W => wpRun _ [] x W _) (fun x X => _ = X ∧ x.tmps.size = 202 ∧ x.defers = [] ∧ x.tmps[4]? = some (.bool true)) ⟨rfl, (by simp only [put_size]; exact hsz), (by simp only [put_defers]; exact hdf), (put_get _ _ _ (by simp only [put_size]; rw [hsz]; decide))⟩ ?_
    clear hsz hdf s_0 s_1 s_5 s_30
    rintro a _ ⟨rfl, hsz, hdf, s_4⟩
    refine ow_then ?_
    refine wp_ret ?_
    exact ow_ret1 rfl hdf s_4 ⟨rfl, hbW326⟩
end Go.Proofs.YtodmcjeffhkofaaDoor
