/-
  The law PackBack: its walk.
-/
import Derived.Test.YtpgnlhfokffioaaDoorPlA
namespace Go.Proofs.YtpgnlhfokffioaaDoor
open Go.RowKit Go.Lib
set_option maxRecDepth 100000 in
set_option maxHeartbeats 4000000 in
theorem packBack_any (aS : Option Addr) (nS cS : Nat) (L : List (Mq × List UInt8)) (w : World) (hS : SlOf w 25 Ask18.At (.slice aS nS cS) L) (hLl : L.length ≤ far) (hT : Tabs w) :
    Calls Tryd.prog 5 #[.slice aS nS cS] w fun e w' => e = .returned (.bool true) ∧ Below w.heap.size w w' := by
  have hLl0 : L.length ≤ 140737488351232 := hLl
  obtain rfl : nS = L.length := ask_len hS
  have hb0 := Below.refl w.heap.size w
  refine fw_en 151 [(0, .slice aS L.length cS)] Tryd.func5 rfl Tryd.ntmps5 rfl ⟨rfl, trivial⟩ ?_
  refine fw_sq ?_
  refine fw_rg rfl ?_
  refine fw_pu rfl ?_
  refine fw_dt ?_
  refine fw_sq ?_
  refine fw_sq ?_
  refine fw_rg rfl ?_
  refine fw_pu rfl ?_
  refine fw_dt ?_
  refine fw_bk ?_
  refine fw_lp (fun N K W => ∃ (i : Nat), N = L.length - i ∧ i ≤ L.length ∧ K = [(0, .slice aS L.length cS), (3, .int .i64 ((i : Nat) : Int))] ∧ Below w.heap.size w W) _ _ ⟨0, rfl, Nat.zero_le _, rfl, hb0⟩ ⟨rfl, (by first | rfl | (simp only [Look, cond, Nat.beq]; first | rfl | (congr 2; first | rfl | omega | (push_cast; omega)) | (simp; try omega))), trivial⟩ ?_
  rintro N _ W1 ⟨i, rfl, hil, rfl, bW1⟩
  intro K3 hK3
  refine fw_sq ?_
  refine fw_sq ?_
  refine fw_rg rfl ?_
  iterate 5 refine fw_pu rfl ?_
  rcases Bool.eq_false_or_eq_true ((decide (((i : Nat) : Int) < ((L.length : Nat) : Int)))) with hb_4 | hb_4
  · skip
    refine fw_kn 22 rfl hb_4 ?_
    iterate 3 refine fw_pu rfl ?_
    refine fw_dt ?_
    rcases Bool.eq_false_or_eq_true ((decide (((i : Nat) : Int) < 10))) with hb_5 | hb_5
    · skip
      refine fw_cT rfl hb_5 ?_
      refine fw_sk ?_
      refine fw_th ?_
      refine fw_sq ?_
      refine fw_bk ?_
      refine fw_sq ?_
      refine fw_sq ?_
      have hiL : i < L.length := by have h := of_decide_eq_true hb_4; omega
      obtain ⟨⟨m, xs⟩, hmx⟩ : ∃ p, L[i]? = some p := ⟨_, List.getElem?_eq_getElem hiL⟩
      obtain ⟨bP, oP, haP, hbP, hAt⟩ := ask_at hS hmx
      obtain ⟨vc, vw, vf, vx, hcP, hL, hX, hF, hxf⟩ := hAt
      dsimp only at hcP hL hX hF hxf
      obtain ⟨ac, nc, cc, aw, nw, cw, af, nf, cf, rfl, rfl, rfl⟩ := lists_open hL
      obtain ⟨ax, nx, cx, rfl⟩ : ∃ ax nx cx, vx = .slice ax nx cx := by obtain ⟨p, q, e, -⟩ := hX; exact ⟨_, _, _, e⟩
      have hcx := sl_cap hX
      obtain rfl : nc = m.cs.length := by have := slR_len hL.c; simpa using this
      obtain rfl : nw = m.ws.length := by have := slR_len hL.w; simpa using this
      obtain rfl : nf = m.fs.length := by have := slR_len hL.f; simpa using this
      obtain rfl : nx = xs.length := hcx.1
      refine fw_rg rfl ?_
      iterate 2 refine fw_pu rfl ?_
      refine fw_ex 30 (.pointer (some ⟨bP, (oP + i * 25), none⟩)) rfl rfl rfl (fun a h => (run_indexOp (h.ev rfl) (h.ev rfl) (by rw [haP]; exact idxAsk _ _ _ _ _ (by have := ask_len hS; omega) _))) ?_
      refine fw_ex 31 (.agg (Mq.row m (.slice ac m.cs.length cc) (.slice aw m.ws.length cw) (.slice af m.fs.length cf) ++ [(.slice ax xs.length cx : Value)]).toArray) rfl rfl rfl (fun a h => (run_loadOp (h.ev rfl) (run_loadAt_mid _ bP _ _ [.int .i64 m.k, .string m.cl, .bool m.clean, .int .i64 m.keep, .bool m.wI, .string m.wT, .string m.wP, .int .i64 m.wQ, .bool m.wR, .string m.us, .bool m.hu, .string m.pa, .bool m.hp, .bool m.pres, .int .i64 m.code, .slice ac m.cs.length cc, .bool m.dup, .int .i64 m.q, .bool m.re, .string m.top, .int .i64 m.id, .string m.pay, .slice aw m.ws.length cw, .slice af m.fs.length cf, .slice ax xs.length cx] _ (fun j u hj => (Below.cell bW1 (p := ⟨bP, oP + i * 25 + j, none⟩) hbP).trans (hcP j u hj)) Tryd.underlying33 rfl (by kernel_rfl)))) ?_
      refine fw_ca Tryd.func14 rfl rfl rfl ((heavy_any m ac aw af ax _ _ _ _ cc cw cf cx W1 hF (hL.below bW1))) ?_
      rintro _ V7 ⟨bH, rfl, hbH, hnear⟩
      refine ⟨(.bool bH), rfl, ?_⟩
      have b8 := bW1.trans (hbH.mono bW1.size)
      refine fw_dt ?_
      rcases Bool.eq_false_or_eq_true (bH) with hb_9 | hb_9
      · skip
        refine fw_cT rfl hb_9 ?_
        refine fw_sq ?_
        refine fw_rg rfl ?_
        refine fw_pu rfl ?_
        refine fw_dt ?_
        refine fw_rt ?_
        refine fw_tr ?_
        refine fw_br ?_
        iterate 2 refine fw_tr ?_
        refine fw_br ?_
        refine fw_tr ?_
        refine ⟨fun a h => ?_⟩
        exact ow_ret1 rfl h.df (h.g 2 rfl) ⟨rfl, b8⟩
      refine fw_cF rfl hb_9 ?_
      refine fw_sk ?_
      refine fw_th ?_
      refine fw_sq ?_
      obtain ⟨hN3, hx3⟩ := hnear hb_9
      have hNc := hN3.cs
      have hNw := hN3.ws
      have hNf := hN3.fs
      rcases Bool.eq_false_or_eq_true ((mayG m)) with hb_10 | hb_10
      · skip
        obtain ⟨hN3, hx3⟩ := hnear hb_9
        have hNc := hN3.cs
        have hNw := hN3.ws
        have hNf := hN3.fs
        refine fw_rg rfl ?_
        iterate 2 refine fw_pu rfl ?_
        refine fw_ex 36 (.pointer (some ⟨bP, (oP + i * 25), none⟩)) rfl rfl rfl (fun a h => (run_indexOp (h.ev rfl) (h.ev rfl) (by rw [haP]; exact idxAsk _ _ _ _ _ (by have := ask_len hS; omega) _))) ?_
        refine fw_pu rfl ?_
        refine fw_ex 38 (.agg (Mq.row m (.slice ac m.cs.length cc) (.slice aw m.ws.length cw) (.slice af m.fs.length cf)).toArray) rfl rfl rfl (fun a h => (run_loadOp (h.ev rfl) (run_loadAt_mid _ bP _ _ [.int .i64 m.k, .string m.cl, .bool m.clean, .int .i64 m.keep, .bool m.wI, .string m.wT, .string m.wP, .int .i64 m.wQ, .bool m.wR, .string m.us, .bool m.hu, .string m.pa, .bool m.hp, .bool m.pres, .int .i64 m.code, .slice ac m.cs.length cc, .bool m.dup, .int .i64 m.q, .bool m.re, .string m.top, .int .i64 m.id, .string m.pay, .slice aw m.ws.length cw, .slice af m.fs.length cf] _ (fun j u hj => (Below.cell b8 (p := ⟨bP, oP + i * 25 + j, none⟩) hbP).trans (hcP j u (by rw [List.getElem?_append_left (by have := (List.getElem?_eq_some_iff.1 hj).1; exact this)]; exact hj))) Tryd.underlying30 rfl (by kernel_rfl)))) ?_
        refine fw_ca Tryd.func24 rfl rfl rfl ((bytesOk m _ _ _ _ _ _ _ _ _ V7 (hL.below b8) hF (hT.below b8) hb_10)) ?_
        rintro _ V11 ⟨_, aB, cB, rfl, rfl, hnB, hoB, hbB⟩
        refine ⟨_, rfl, ?_⟩
        have b12 := b8.trans (hbB.mono b8.size)
        iterate 5 refine fw_pu rfl ?_
        refine fw_dt ?_
        refine fw_sq ?_
        refine fw_sq ?_
        have heS := ob_some hoB (en_ne m)
        have heL := (en_len hb_10).2
        have heC := sl_cap (Sl.of_own hoB).1
        refine fw_rg rfl ?_
        refine fw_pu rfl ?_
        refine fw_ca Tryd.func18 rfl rfl rfl ((num18_any 0 V11)) ?_
        rintro _ _ ⟨rfl, rfl⟩
        refine ⟨(.int .i64 0), rfl, ?_⟩
        refine fw_pu rfl ?_
        refine fw_dt ?_
        refine fw_cT rfl rfl ?_
        refine fw_sq ?_
        refine fw_hr (fun X => Below w.heap.size w X) (by kernel_rfl) 17 rfl ?_
        intro W13 s14
        have b15 := b12.trans (s14.mono b12.size)
        have f16 := (below_own hoB s14)
        refine ⟨b15, ?_⟩
        refine fw_tk 0 rfl rfl (by kernel_rfl) (fun _ _ _ _ _ h => h) ?_
        refine fw_tk 2 rfl rfl (by kernel_rfl) (fun _ _ _ _ _ h => h) ?_
        refine fw_tk 3 rfl rfl (by kernel_rfl) (fun _ _ _ _ _ h => h) ?_
        refine fw_tx 4 50 (.pointer (some ⟨bP, (oP + i * 25), none⟩)) rfl rfl rfl rfl (fun a h W hW => by have b15 := hW; exact (run_indexOp (h.ev rfl) (h.ev rfl) (by rw [haP]; exact idxAsk _ _ _ _ _ (by have := ask_len hS; omega) _))) (by kernel_rfl) (fun _ _ _ _ _ h => h) ?_
        refine fw_tk 5 rfl rfl (by kernel_rfl) (fun _ _ _ _ _ h => h) ?_
        refine fw_tx 6 52 (.slice ax xs.length cx) rfl rfl rfl rfl (fun a h W hW => by have b15 := hW; exact (run_loadOp (h.ev rfl) (ldSl ((Below.cell b15 (p := ⟨bP, oP + i * 25 + 24, none⟩) hbP).trans (hcP 24 _ rfl))))) (by kernel_rfl) (fun _ _ _ _ _ h => h) ?_
        refine fw_o2 1 13 (by kernel_rfl) ?_ ?_
        · skip
          refine fw_oc rfl Tryd.func15 rfl rfl rfl ((copyBytes_any _ (enG m) W13 (by omega) (Sl.of_own f16).1)) ?_
          rintro _ VC ⟨vC, rfl, hbC, hoC⟩
          refine ⟨_, rfl, ?_⟩
          obtain ⟨aC, cC, rfl⟩ := own_slice hoC
          have hBl : ∀ k, (Value.slice aB (enG m).length cB).ownBlock = some k → k < W13.heap.size := fun k hk => (blk_lt f16 hk).2
          have hwC : w.heap.size ≤ W13.heap.size := b15.size
          have hBC : W13.heap.size ≤ VC.heap.size := hbC.size
          have b17 := b15.trans (hbC.mono b15.size)
          have f18 := (below_own f16 hbC)
          refine ⟨b17, ?_⟩
          refine fw_o2 7 13 (by kernel_rfl) ?_ ?_
          · skip
            refine fw_ot rfl 53 rfl rfl rfl (fun a h => opTo_byt (l := enG m) (ad := aC) (c := cC) _ _ rfl (h.ev rfl) hoC (h.ev rfl) (hX.below b17) (by omega) (by omega) hBC) ?_
            rintro _ V19 ⟨lA, aA, cA, rfl, hlA, hgA, hoA⟩
            have b20 := ob_low b17 hoC hgA hwC b17.size
            have f21 := ob_apart f18 hgA hoC hBl
            refine ⟨b20, ?_⟩
            refine fw_o2 8 13 (by kernel_rfl) ?_ ?_
            · skip
              refine fw_oc rfl Tryd.func16 rfl rfl rfl ((by have h := (parseN (n := lA.length) (ad := aA) (cd := cA) (l := enG m ++ xs) (p := (m, (enG m).length, 0)) (by rw [hlA]) (pa_en hb_10 xs) (by have h := (Sl.of_own hoA).1; rw [hlA] at h ⊢; exact h) (by rw [List.length_append]; omega) (hT.below b20)); dsimp only at h; exact h)) ?_
              rintro _ V23 ⟨acp22, ccp22, awp22, cwp22, afp22, cfp22, rfl, hOp22, hbp22⟩
              refine ⟨_, rfl, ?_⟩
              have b24 := b20.trans (hbp22.mono b20.size)
              have f25 := (below_own f21 hbp22)
              have f26 := (below_own hoA hbp22)
              refine ⟨b24, ?_⟩
              refine fw_tk 9 rfl rfl (by kernel_rfl) (fun _ _ _ _ _ h => h) ?_
              refine fw_tk 10 rfl rfl (by kernel_rfl) (fun _ _ _ _ _ h => h) ?_
              refine fw_tk 11 rfl rfl (by kernel_rfl) (fun _ _ _ _ _ h => h) ?_
              refine fw_tk 12 rfl rfl (by kernel_rfl) (fun _ _ _ _ _ h => h) ?_
              refine fw_o1 13 (by kernel_rfl) ?_
              refine fw_oa rfl (t := 30) (u := fun q => .pointer (some ⟨q, 0, none⟩)) 6 [.int .i64 0, .string { data := #[] }, .bool false, .int .i64 0, .bool false, .string { data := #[] }, .string { data := #[] }, .int .i64 0, .bool false, .string { data := #[] }, .bool false, .string { data := #[] }, .bool false, .bool false, .int .i64 0, .slice none 0 0, .bool false, .int .i64 0, .bool false, .string { data := #[] }, .int .i64 0, .string { data := #[] }, .slice none 0 0, .slice none 0 0] rfl rfl rfl (fun a h => (run_allocOp (by simp [go_sem, Instr.alloc]))) ?_
              intro q27 W28 g31 s29 r30
              have := Nat.le_trans b24.size g31
              have hhoB_q27 := ob_new f25 g31
              have hhOp22_q27 := OL3.ltq hOp22 g31
              have b32 := b24.trans (s29.mono b24.size)
              have f33 := (below_own f25 s29)
              have f34 := (below_own f26 s29)
              have f35 := (hOp22.below s29)
              refine ⟨b32, ?_⟩
              refine fw_o1 14 (by kernel_rfl) ?_
              refine fw_os rfl r30 rfl rfl ?_
              intro W36 s37 r38
              have b39 := below_chg b32 s37 (by omega) b32.size
              have f40 := (ob_chg f33 s37 hhoB_q27)
              have f41 := (by first | exact OL3.chgN f35 s37 hhOp22_q27 | exact OL3.chg f35 s37 (by omega))
              refine ⟨b39, ?_⟩
              refine fw_tk 15 rfl rfl (by kernel_rfl) (fun _ _ _ _ _ h => h) ?_
              refine fw_tk 16 rfl rfl (by kernel_rfl) (fun _ _ _ _ _ h => h) ?_
              refine fw_ht (by kernel_rfl) ?_
              refine fw_sq ?_
              refine fw_sq ?_
              refine fw_hr (fun X => Below w.heap.size w X) (by kernel_rfl) 24 rfl ?_
              intro W42 s43
              have b44 := b39.trans (s43.mono b39.size)
              have r45 := r38.below s43
              have f46 := (below_own f40 s43)
              have f47 := (f41.below s43)
              refine ⟨b44, ?_⟩
              refine fw_tk 0 rfl rfl (by kernel_rfl) (fun _ _ _ _ _ h => h) ?_
              refine fw_o1 1 (by kernel_rfl) ?_
              refine fw_oc rfl Tryd.func18 rfl rfl rfl ((num18_any 0 W42)) ?_
              rintro _ _ ⟨rfl, rfl⟩
              refine ⟨(.int .i64 0), rfl, ?_⟩
              refine ⟨b44, ?_⟩
              refine fw_tk 2 rfl rfl (by kernel_rfl) (fun _ _ _ _ _ h => h) ?_
              refine fw_tk 3 rfl rfl (by kernel_rfl) (fun _ _ _ _ _ h => h) ?_
              refine fw_tk 4 rfl rfl (by kernel_rfl) (fun _ _ _ _ _ h => h) ?_
              refine fw_tk 5 rfl rfl (by kernel_rfl) (fun _ _ _ _ _ h => h) ?_
              refine fw_tk 6 rfl rfl (by kernel_rfl) (fun _ _ _ _ _ h => h) ?_
              refine fw_tx 7 65 (.bool false) rfl rfl rfl rfl (fun a h W hW => by have b44 := hW; exact (run_binOp (h.ev rfl) (h.ev rfl) (eqIntI _ _ _ _ _ _ _) (neqIb _ _ _ false (beq_self_eq_true _)))) (by kernel_rfl) (fun _ _ _ _ _ h => h) ?_
              refine fw_tk 8 rfl rfl (by kernel_rfl) (fun _ _ _ _ _ h => h) ?_
              refine fw_tk 9 rfl rfl (by kernel_rfl) (fun _ _ _ _ _ h => h) ?_
              refine fw_tk 11 rfl rfl (by kernel_rfl) (fun _ _ _ _ _ h => h) ?_
              refine fw_tk 12 rfl rfl (by kernel_rfl) (fun _ _ _ _ _ h => h) ?_
              refine fw_tx 13 71 (.pointer (some ⟨bP, (oP + i * 25), none⟩)) rfl rfl rfl rfl (fun a h W hW => by have b44 := hW; exact (run_indexOp (h.ev rfl) (h.ev rfl) (by rw [haP]; exact idxAsk _ _ _ _ _ (by have := ask_len hS; omega) _))) (by kernel_rfl) (fun _ _ _ _ _ h => h) ?_
              refine fw_tk 14 rfl rfl (by kernel_rfl) (fun _ _ _ _ _ h => h) ?_
              refine fw_tx 15 73 (.agg (Mq.row m (.slice ac m.cs.length cc) (.slice aw m.ws.length cw) (.slice af m.fs.length cf)).toArray) rfl rfl rfl rfl (fun a h W hW => by have b44 := hW; exact (run_loadOp (h.ev rfl) (run_loadAt_mid _ bP _ _ [.int .i64 m.k, .string m.cl, .bool m.clean, .int .i64 m.keep, .bool m.wI, .string m.wT, .string m.wP, .int .i64 m.wQ, .bool m.wR, .string m.us, .bool m.hu, .string m.pa, .bool m.hp, .bool m.pres, .int .i64 m.code, .slice ac m.cs.length cc, .bool m.dup, .int .i64 m.q, .bool m.re, .string m.top, .int .i64 m.id, .string m.pay, .slice aw m.ws.length cw, .slice af m.fs.length cf] _ (fun j u hj => (Below.cell b44 (p := ⟨bP, oP + i * 25 + j, none⟩) hbP).trans (hcP j u (by rw [List.getElem?_append_left (by have := (List.getElem?_eq_some_iff.1 hj).1; exact this)]; exact hj))) Tryd.underlying30 rfl (by kernel_rfl)))) (by kernel_rfl) (fun _ _ _ _ _ h => h) ?_
              refine fw_o1 10 (by kernel_rfl) ?_
              refine fw_ol rfl r45 rfl rfl ?_
              refine fw_o1 16 (by kernel_rfl) ?_
              refine fw_oc rfl Tryd.func19 rfl rfl rfl ((by have h := eqMq_any m m _ _ _ _ _ _ W42 (OL3.lists f47) (hL.below b44) (by omega) (by omega) (by omega) (by omega) (by omega) (by omega); rw [eqB_refl m] at h; exact h)) ?_
              rintro _ V49 ⟨rfl, hb48⟩
              refine ⟨(.bool true), rfl, ?_⟩
              have b50 := b44.trans (hb48.mono b44.size)
              have r51 := r45.below hb48
              have f52 := (below_own f46 hb48)
              have f53 := (f47.below hb48)
              refine ⟨b50, ?_⟩
              refine fw_tk 17 rfl rfl (by kernel_rfl) (fun _ _ _ _ _ h => h) ?_
              refine fw_tk 18 rfl rfl (by kernel_rfl) (fun _ _ _ _ _ h => h) ?_
              refine fw_tk 19 rfl rfl (by kernel_rfl) (fun _ _ _ _ _ h => h) ?_
              refine fw_tk 20 rfl rfl (by kernel_rfl) (fun _ _ _ _ _ h => h) ?_
              refine fw_tk 21 rfl rfl (by kernel_rfl) (fun _ _ _ _ _ h => h) ?_
              refine fw_tx 22 80 (.bool false) rfl rfl rfl rfl (fun a h W hW => by have b50 := hW; exact (run_binOp (h.ev rfl) (h.ev rfl) (by simp [go_sem]) (gtrIb _ _ _ false (decide_eq_false (by omega))))) (by kernel_rfl) (fun _ _ _ _ _ h => h) ?_
              refine fw_tk 23 rfl rfl (by kernel_rfl) (fun _ _ _ _ _ h => h) ?_
              refine fw_ht (by kernel_rfl) ?_
              refine fw_cF rfl rfl ?_
              refine fw_sk ?_
              refine fw_th ?_
              refine fw_sq ?_
              refine fw_rg rfl ?_
              refine fw_pu rfl ?_
              refine fw_dt ?_
              refine fw_bk ?_
              refine fw_lp (fun N K W => ∃ (k : Nat), N = (enG m).length - k ∧ k ≤ (enG m).length + 1000 ∧ K = [(0, .slice aS L.length cS), (3, .int .i64 ((i : Nat) : Int)), (4, .slice aB (enG m).length cB), (9, .int .i64 ((k : Nat) : Int))] ∧ Below w.heap.size w W ∧ OB W V7.heap.size aB cB (enG m)) _ _ ⟨0, rfl, Nat.zero_le _, rfl, b50, f52⟩ ⟨rfl, rfl, rfl, (by first | rfl | (simp only [Look, cond, Nat.beq]; first | rfl | (congr 2; first | rfl | omega | (push_cast; omega)) | (simp; try omega))), trivial⟩ ?_
              rintro N _ W54 ⟨k, rfl, hkl, rfl, bW54, fW54_0⟩
              intro K56 hK56
              refine fw_sq ?_
              refine fw_sq ?_
              refine fw_rg rfl ?_
              iterate 4 refine fw_pu rfl ?_
              refine fw_dt ?_
              rcases Bool.eq_false_or_eq_true ((decide (((k : Nat) : Int) < (((enG m).length : Nat) : Int)))) with hb_57 | hb_57
              · skip
                refine fw_cT rfl hb_57 ?_
                refine fw_sk ?_
                refine fw_th ?_
                refine fw_sq ?_
                refine fw_bk ?_
                refine fw_sq ?_
                have hkE : k < (enG m).length := by have h := of_decide_eq_true hb_57; omega
                refine fw_rg rfl ?_
                iterate 2 refine fw_pu rfl ?_
                refine fw_ex 95 (.slice aB k cB) rfl rfl rfl (fun a h => (run_sliceOp1 (h.ev rfl) (h.ev rfl) (slcA heS (by omega) heC.2.2 _))) ?_
                refine fw_ca Tryd.func16 rfl rfl rfl ((by have h := (parseN (n := k) (ad := aB) (cd := cB) (l := (enG m).take k) (p := (zM 0, 0, 7)) (by rw [List.length_take]; omega) (pa_cut hb_10 hkE) (sl_pre (Sl.of_own fW54_0).1 heS (by omega)) (by rw [List.length_take]; omega) (hT.below bW54)); dsimp only at h; exact h)) ?_
                rintro _ V59 ⟨acp58, ccp58, awp58, cwp58, afp58, cfp58, rfl, hOp58, hbp58⟩
                refine ⟨_, rfl, ?_⟩
                have b60 := bW54.trans (hbp58.mono bW54.size)
                have f61 := (below_own fW54_0 hbp58)
                iterate 4 refine fw_pu rfl ?_
                refine fw_al (t := 30) (u := fun q => .pointer (some ⟨q, 0, none⟩)) 10 [.int .i64 0, .string { data := #[] }, .bool false, .int .i64 0, .bool false, .string { data := #[] }, .string { data := #[] }, .int .i64 0, .bool false, .string { data := #[] }, .bool false, .string { data := #[] }, .bool false, .bool false, .int .i64 0, .slice none 0 0, .bool false, .int .i64 0, .bool false, .string { data := #[] }, .int .i64 0, .string { data := #[] }, .slice none 0 0, .slice none 0 0] rfl rfl rfl (fun a h => (run_allocOp (by simp [go_sem, Instr.alloc]))) ?_
                intro q62 W63 g66 s64 r65
                have := Nat.le_trans b60.size g66
                have hhoB_q62 := ob_new f61 g66
                have b67 := b60.trans (s64.mono b60.size)
                have f68 := (below_own f61 s64)
                refine fw_st r65 rfl rfl ?_
                intro W69 s70 r71
                have b72 := below_chg b67 s70 (by omega) b67.size
                have f73 := (ob_chg f68 s70 hhoB_q62)
                iterate 2 refine fw_pu rfl ?_
                refine fw_dt ?_
                refine fw_sq ?_
                refine fw_rg rfl ?_
                refine fw_pu rfl ?_
                refine fw_ca Tryd.func18 rfl rfl rfl ((num18_any 7 W69)) ?_
                rintro _ _ ⟨rfl, rfl⟩
                refine ⟨(.int .i64 7), rfl, ?_⟩
                iterate 5 refine fw_pu rfl ?_
                refine fw_dt ?_
                refine fw_cF rfl rfl ?_
                refine fw_sk ?_
                refine fw_bn ?_
                refine fw_th ?_
                refine fw_rg rfl ?_
                refine fw_pu rfl ?_
                refine fw_ex 87 (.int .i64 (((k + 1) : Nat) : Int)) rfl rfl rfl (fun a h => (run_binOp (h.ev rfl) (h.ev rfl) (by simp [go_sem]) (addIw _ _ _ _ (by omega) (by omega) (by omega)))) ?_
                iterate 2 refine fw_pu rfl ?_
                refine fw_ex 90 (.int .i64 ((((enG m).length / 40) : Nat) : Int)) rfl rfl rfl (fun a h => (run_binOp (h.ev rfl) (h.ev rfl) (by simp [go_sem]) (quo40 _ _ (by omega)))) ?_
                refine fw_ex 91 (.int .i64 (((k + 1 + (enG m).length / 40) : Nat) : Int)) rfl rfl rfl (fun a h => (run_binOp (h.ev rfl) (h.ev rfl) (by simp [go_sem]) (addIw _ _ _ _ (by omega) (by omega) (by omega)))) ?_
                refine fw_pu rfl ?_
                refine fw_dn ?_
                exact fw_th (fw_gf (hK56 _ _ _ (by have h := of_decide_eq_true hb_57; omega) ⟨(k + 1 + (enG m).length / 40), rfl, (by have h := of_decide_eq_true hb_57; omega), rfl, b72, f73⟩) ⟨rfl, rfl, rfl, (by first | rfl | (simp only [Look, cond, Nat.beq]; first | rfl | (congr 2; first | rfl | omega | (push_cast; omega)) | (simp; try omega))), trivial⟩)
              refine fw_cF rfl hb_57 ?_
              refine fw_xt ?_
              refine fw_te ?_
              refine fw_te ?_
              refine fw_be ?_
              refine fw_th ?_
              refine fw_sq ?_
              obtain ⟨pm, pn, pe, hP⟩ : ∃ x y z, paG xs = (x, y, z) := ⟨_, _, _, rfl⟩
              refine fw_rg rfl ?_
              iterate 2 refine fw_pu rfl ?_
              refine fw_ex 110 (.pointer (some ⟨bP, (oP + i * 25), none⟩)) rfl rfl rfl (fun a h => (run_indexOp (h.ev rfl) (h.ev rfl) (by rw [haP]; exact idxAsk _ _ _ _ _ (by have := ask_len hS; omega) _))) ?_
              refine fw_pu rfl ?_
              refine fw_ex 112 (.slice ax xs.length cx) rfl rfl rfl (fun a h => (run_loadOp (h.ev rfl) (ldSl ((Below.cell bW54 (p := ⟨bP, oP + i * 25 + 24, none⟩) hbP).trans (hcP 24 _ rfl))))) ?_
              refine fw_ca Tryd.func16 rfl rfl rfl ((by have h := (parseN (n := xs.length) (ad := ax) (cd := cx) (l := xs) (p := (pm, pn, pe)) rfl hP (hX.below bW54) (by omega) (hT.below bW54)); dsimp only at h; exact h)) ?_
              rintro _ V75 ⟨acp74, ccp74, awp74, cwp74, afp74, cfp74, rfl, hOp74, hbp74⟩
              refine ⟨_, rfl, ?_⟩
              have b76 := bW54.trans (hbp74.mono bW54.size)
              have f77 := (below_own fW54_0 hbp74)
              iterate 4 refine fw_pu rfl ?_
              refine fw_al (t := 30) (u := fun q => .pointer (some ⟨q, 0, none⟩)) 13 [.int .i64 0, .string { data := #[] }, .bool false, .int .i64 0, .bool false, .string { data := #[] }, .string { data := #[] }, .int .i64 0, .bool false, .string { data := #[] }, .bool false, .string { data := #[] }, .bool false, .bool false, .int .i64 0, .slice none 0 0, .bool false, .int .i64 0, .bool false, .string { data := #[] }, .int .i64 0, .string { data := #[] }, .slice none 0 0, .slice none 0 0] rfl rfl rfl (fun a h => (run_allocOp (by simp [go_sem, Instr.alloc]))) ?_
              intro q78 W79 g82 s80 r81
              have := Nat.le_trans b76.size g82
              have hhoB_q78 := ob_new f77 g82
              have hhOp74_q78 := OL3.ltq hOp74 g82
              have b83 := b76.trans (s80.mono b76.size)
              have f84 := (below_own f77 s80)
              have f85 := (hOp74.below s80)
              refine fw_st r81 rfl rfl ?_
              intro W86 s87 r88
              have b89 := below_chg b83 s87 (by omega) b83.size
              have f90 := (ob_chg f84 s87 hhoB_q78)
              have f91 := (by first | exact OL3.chgN f85 s87 hhOp74_q78 | exact OL3.chg f85 s87 (by omega))
              iterate 2 refine fw_pu rfl ?_
              refine fw_dt ?_
              refine fw_sq ?_
              refine fw_rg rfl ?_
              refine fw_pu rfl ?_
              refine fw_ca Tryd.func18 rfl rfl rfl ((num18_any pe W86)) ?_
              rintro _ _ ⟨rfl, rfl⟩
              refine ⟨(.int .i64 pe), rfl, ?_⟩
              refine fw_pu rfl ?_
              refine fw_dt ?_
              rcases Bool.eq_false_or_eq_true ((pe == 0)) with hb_92 | hb_92
              · skip
                refine fw_cT rfl hb_92 ?_
                refine fw_sq ?_
                have hpe : pe = 0 := beq_iff_eq.1 hb_92
                subst hpe
                obtain ⟨hm2, hen2, hle2, hge2⟩ := pa_ok hP
                have hxne : xs ≠ [] := by rintro rfl; simp at hle2; omega
                have hxs := sl_some hX hxne
                have heL2 := (en_len hm2).2
                refine fw_rg rfl ?_
                refine fw_ld r88 rfl rfl ?_
                refine fw_ca Tryd.func24 rfl rfl rfl ((bytesOk pm _ _ _ _ _ _ _ _ _ W86 (OL3.lists f91) (may_far hm2) (hT.below b89) hm2)) ?_
                rintro _ V93 ⟨_, aD, cD, rfl, rfl, hnD, hoD, hbD⟩
                refine ⟨_, rfl, ?_⟩
                have b94 := b89.trans (hbD.mono b89.size)
                have r95 := r88.below hbD
                have f96 := (below_own f90 hbD)
                have f97 := (f91.below hbD)
                iterate 5 refine fw_pu rfl ?_
                refine fw_dt ?_
                refine fw_sq ?_
                refine fw_rg rfl ?_
                refine fw_pu rfl ?_
                refine fw_ca Tryd.func18 rfl rfl rfl ((num18_any 0 V93)) ?_
                rintro _ _ ⟨rfl, rfl⟩
                refine ⟨(.int .i64 0), rfl, ?_⟩
                iterate 5 refine fw_pu rfl ?_
                refine fw_ex 132 (.pointer (some ⟨bP, (oP + i * 25), none⟩)) rfl rfl rfl (fun a h => (run_indexOp (h.ev rfl) (h.ev rfl) (by rw [haP]; exact idxAsk _ _ _ _ _ (by have := ask_len hS; omega) _))) ?_
                refine fw_pu rfl ?_
                refine fw_ex 134 (.slice ax xs.length cx) rfl rfl rfl (fun a h => (run_loadOp (h.ev rfl) (ldSl ((Below.cell b94 (p := ⟨bP, oP + i * 25 + 24, none⟩) hbP).trans (hcP 24 _ rfl))))) ?_
                refine fw_pu rfl ?_
                refine fw_ex 136 (.bool false) rfl rfl rfl (fun a h => (run_binOp (h.ev rfl) (h.ev rfl) (by simp [go_sem]) (gtrIb _ _ _ false (decide_eq_false (by omega))))) ?_
                iterate 5 refine fw_pu rfl ?_
                refine fw_ex 142 (.pointer (some ⟨bP, (oP + i * 25), none⟩)) rfl rfl rfl (fun a h => (run_indexOp (h.ev rfl) (h.ev rfl) (by rw [haP]; exact idxAsk _ _ _ _ _ (by have := ask_len hS; omega) _))) ?_
                refine fw_pu rfl ?_
                refine fw_ex 144 (.slice ax xs.length cx) rfl rfl rfl (fun a h => (run_loadOp (h.ev rfl) (ldSl ((Below.cell b94 (p := ⟨bP, oP + i * 25 + 24, none⟩) hbP).trans (hcP 24 _ rfl))))) ?_
                refine fw_pu rfl ?_
                refine fw_ex 146 (.slice ax pn cx) rfl rfl rfl (fun a h => (run_sliceOp1 (h.ev rfl) (h.ev rfl) (slcA hxs (by omega) hcx.2.2 _))) ?_
                refine fw_ca Tryd.func20 rfl rfl rfl ((eqBytes_any _ _ (enG pm) (xs.take pn) V93 (by omega) (by rw [List.length_take]; omega) (Sl.of_own hoD).1 (sl_pre (hX.below b94) hxs hle2)).mono fun e X h => (show e = .returned (.bool true) ∧ Below V93.heap.size V93 X from ⟨h.1.trans (by rw [hen2]; simp), by obtain ⟨m, rfl⟩ := h.2; exact bdrew (Below.refl _ _) m⟩)) ?_
                rintro _ V99 ⟨rfl, hb98⟩
                refine ⟨(.bool true), rfl, ?_⟩
                have b100 := b94.trans (hb98.mono b94.size)
                have r101 := r95.below hb98
                have f102 := (below_own f96 hb98)
                have f103 := (f97.below hb98)
                have f104 := (below_own hoD hb98)
                iterate 2 refine fw_pu rfl ?_
                refine fw_dt ?_
                refine fw_cF rfl rfl ?_
                refine fw_sk ?_
                refine fw_bn ?_
                refine fw_th ?_
                refine fw_rg rfl ?_
                refine fw_pu rfl ?_
                refine fw_ex 27 (.int .i64 (((i + 1) : Nat) : Int)) rfl rfl rfl (fun a h => (run_binOp (h.ev rfl) (h.ev rfl) (by simp [go_sem]) (addIw _ _ _ _ (by omega) (by omega) (by omega)))) ?_
                refine fw_pu rfl ?_
                refine fw_dn ?_
                exact fw_th (fw_gf (hK3 _ _ _ (by omega) ⟨(i + 1), rfl, (by omega), rfl, b100⟩) ⟨rfl, (by first | rfl | (simp only [Look, cond, Nat.beq]; first | rfl | (congr 2; first | rfl | omega | (push_cast; omega)) | (simp; try omega))), trivial⟩)
              refine fw_cF rfl hb_92 ?_
              refine fw_sk ?_
              refine fw_bn ?_
              refine fw_th ?_
              refine fw_rg rfl ?_
              refine fw_pu rfl ?_
              refine fw_ex 27 (.int .i64 (((i + 1) : Nat) : Int)) rfl rfl rfl (fun a h => (run_binOp (h.ev rfl) (h.ev rfl) (by simp [go_sem]) (addIw _ _ _ _ (by omega) (by omega) (by omega)))) ?_
              refine fw_pu rfl ?_
              refine fw_dn ?_
              exact fw_th (fw_gf (hK3 _ _ _ (by omega) ⟨(i + 1), rfl, (by omega), rfl, b89⟩) ⟨rfl, (by first | rfl | (simp only [Look, cond, Nat.beq]; first | rfl | (congr 2; first | rfl | omega | (push_cast; omega)) | (simp; try omega))), trivial⟩)
            refine fw_oa rfl (t := 30) (u := fun q => .pointer (some ⟨q, 0, none⟩)) 6 [.int .i64 0, .string { data := #[] }, .bool false, .int .i64 0, .bool false, .string { data := #[] }, .string { data := #[] }, .int .i64 0, .bool false, .string { data := #[] }, .bool false, .string { data := #[] }, .bool false, .bool false, .int .i64 0, .slice none 0 0, .bool false, .int .i64 0, .bool false, .string { data := #[] }, .int .i64 0, .string { data := #[] }, .slice none 0 0, .slice none 0 0] rfl rfl rfl (fun a h => (run_allocOp (by simp [go_sem, Instr.alloc]))) ?_
            intro q105 W106 g109 s107 r108
            have := Nat.le_trans b20.size g109
            have hhoB_q105 := ob_new f21 g109
            have b110 := b20.trans (s107.mono b20.size)
            have f111 := (below_own f21 s107)
            have f112 := (below_own hoA s107)
            refine ⟨b110, ?_⟩
            refine fw_o1 8 (by kernel_rfl) ?_
            refine fw_oc rfl Tryd.func16 rfl rfl rfl ((by have h := (parseN (n := lA.length) (ad := aA) (cd := cA) (l := enG m ++ xs) (p := (m, (enG m).length, 0)) (by rw [hlA]) (pa_en hb_10 xs) (by have h := (Sl.of_own f112).1; rw [hlA] at h ⊢; exact h) (by rw [List.length_append]; omega) (hT.below b110)); dsimp only at h; exact h)) ?_
            rintro _ V114 ⟨acp113, ccp113, awp113, cwp113, afp113, cfp113, rfl, hOp113, hbp113⟩
            refine ⟨_, rfl, ?_⟩
            have hltp113_q105 : q105 < W106.heap.size := r108.2.2
            have b115 := b110.trans (hbp113.mono b110.size)
            have r116 := r108.below hbp113
            have f117 := (below_own f111 hbp113)
            have f118 := (below_own f112 hbp113)
            refine ⟨b115, ?_⟩
            refine fw_tk 9 rfl rfl (by kernel_rfl) (fun _ _ _ _ _ h => h) ?_
            refine fw_tk 10 rfl rfl (by kernel_rfl) (fun _ _ _ _ _ h => h) ?_
            refine fw_tk 11 rfl rfl (by kernel_rfl) (fun _ _ _ _ _ h => h) ?_
            refine fw_tk 12 rfl rfl (by kernel_rfl) (fun _ _ _ _ _ h => h) ?_
            refine fw_o1 14 (by kernel_rfl) ?_
            refine fw_os rfl r116 rfl rfl ?_
            intro W119 s120 r121
            have b122 := below_chg b115 s120 (by omega) b115.size
            have f123 := (ob_chg f117 s120 hhoB_q105)
            have f124 := (by first | exact OL3.chgN hOp113 s120 hhOp113_q105 | exact OL3.chg hOp113 s120 (by omega))
            refine ⟨b122, ?_⟩
            refine fw_tk 15 rfl rfl (by kernel_rfl) (fun _ _ _ _ _ h => h) ?_
            refine fw_tk 16 rfl rfl (by kernel_rfl) (fun _ _ _ _ _ h => h) ?_
            refine fw_ht (by kernel_rfl) ?_
            refine fw_sq ?_
            refine fw_sq ?_
            refine fw_hr (fun X => Below w.heap.size w X) (by kernel_rfl) 24 rfl ?_
            intro W125 s126
            have b127 := b122.trans (s126.mono b122.size)
            have r128 := r121.below s126
            have f129 := (below_own f123 s126)
            have f130 := (f124.below s126)
            refine ⟨b127, ?_⟩
            refine fw_tk 0 rfl rfl (by kernel_rfl) (fun _ _ _ _ _ h => h) ?_
            refine fw_o1 1 (by kernel_rfl) ?_
            refine fw_oc rfl Tryd.func18 rfl rfl rfl ((num18_any 0 W125)) ?_
            rintro _ _ ⟨rfl, rfl⟩
            refine ⟨(.int .i64 0), rfl, ?_⟩
            refine ⟨b127, ?_⟩
            refine fw_tk 2 rfl rfl (by kernel_rfl) (fun _ _ _ _ _ h => h) ?_
            refine fw_tk 3 rfl rfl (by kernel_rfl) (fun _ _ _ _ _ h => h) ?_
            refine fw_tk 4 rfl rfl (by kernel_rfl) (fun _ _ _ _ _ h => h) ?_
            refine fw_tk 5 rfl rfl (by kernel_rfl) (fun _ _ _ _ _ h => h) ?_
            refine fw_tk 6 rfl rfl (by kernel_rfl) (fun _ _ _ _ _ h => h) ?_
            refine fw_tx 7 65 (.bool false) rfl rfl rfl rfl (fun a h W hW => by have b127 := hW; exact (run_binOp (h.ev rfl) (h.ev rfl) (eqIntI _ _ _ _ _ _ _) (neqIb _ _ _ false (beq_self_eq_true _)))) (by kernel_rfl) (fun _ _ _ _ _ h => h) ?_
            refine fw_tk 8 rfl rfl (by kernel_rfl) (fun _ _ _ _ _ h => h) ?_
            refine fw_tk 9 rfl rfl (by kernel_rfl) (fun _ _ _ _ _ h => h) ?_
            refine fw_tk 11 rfl rfl (by kernel_rfl) (fun _ _ _ _ _ h => h) ?_
            refine fw_tk 12 rfl rfl (by kernel_rfl) (fun _ _ _ _ _ h => h) ?_
            refine fw_tx 13 71 (.pointer (some ⟨bP, (oP + i * 25), none⟩)) rfl rfl rfl rfl (fun a h W hW => by have b127 := hW; exact (run_indexOp (h.ev rfl) (h.ev rfl) (by rw [haP]; exact idxAsk _ _ _ _ _ (by have := ask_len hS; omega) _))) (by kernel_rfl) (fun _ _ _ _ _ h => h) ?_
            refine fw_tk 14 rfl rfl (by kernel_rfl) (fun _ _ _ _ _ h => h) ?_
            refine fw_tx 15 73 (.agg (Mq.row m (.slice ac m.cs.length cc) (.slice aw m.ws.length cw) (.slice af m.fs.length cf)).toArray) rfl rfl rfl rfl (fun a h W hW => by have b127 := hW; exact (run_loadOp (h.ev rfl) (run_loadAt_mid _ bP _ _ [.int .i64 m.k, .string m.cl, .bool m.clean, .int .i64 m.keep, .bool m.wI, .string m.wT, .string m.wP, .int .i64 m.wQ, .bool m.wR, .string m.us, .bool m.hu, .string m.pa, .bool m.hp, .bool m.pres, .int .i64 m.code, .slice ac m.cs.length cc, .bool m.dup, .int .i64 m.q, .bool m.re, .string m.top, .int .i64 m.id, .string m.pay, .slice aw m.ws.length cw, .slice af m.fs.length cf] _ (fun j u hj => (Below.cell b127 (p := ⟨bP, oP + i * 25 + j, none⟩) hbP).trans (hcP j u (by rw [List.getElem?_append_left (by have := (List.getElem?_eq_some_iff.1 hj).1; exact this)]; exact hj))) Tryd.underlying30 rfl (by kernel_rfl)))) (by kernel_rfl) (fun _ _ _ _ _ h => h) ?_
            refine fw_o1 10 (by kernel_rfl) ?_
            refine fw_ol rfl r128 rfl rfl ?_
            refine fw_o1 16 (by kernel_rfl) ?_
            refine fw_oc rfl Tryd.func19 rfl rfl rfl ((by have h := eqMq_any m m _ _ _ _ _ _ W125 (OL3.lists f130) (hL.below b127) (by omega) (by omega) (by omega) (by omega) (by omega) (by omega); rw [eqB_refl m] at h; exact h)) ?_
            rintro _ V132 ⟨rfl, hb131⟩
            refine ⟨(.bool true), rfl, ?_⟩
            have b133 := b127.trans (hb131.mono b127.size)
            have r134 := r128.below hb131
            have f135 := (below_own f129 hb131)
            have f136 := (f130.below hb131)
            refine ⟨b133, ?_⟩
            refine fw_tk 17 rfl rfl (by kernel_rfl) (fun _ _ _ _ _ h => h) ?_
            refine fw_tk 18 rfl rfl (by kernel_rfl) (fun _ _ _ _ _ h => h) ?_
            refine fw_tk 19 rfl rfl (by kernel_rfl) (fun _ _ _ _ _ h => h) ?_
            refine fw_tk 20 rfl rfl (by kernel_rfl) (fun _ _ _ _ _ h => h) ?_
            refine fw_tk 21 rfl rfl (by kernel_rfl) (fun _ _ _ _ _ h => h) ?_
            refine fw_tx 22 80 (.bool false) rfl rfl rfl rfl (fun a h W hW => by have b133 := hW; exact (run_binOp (h.ev rfl) (h.ev rfl) (by simp [go_sem]) (gtrIb _ _ _ false (decide_eq_false (by omega))))) (by kernel_rfl) (fun _ _ _ _ _ h => h) ?_
            refine fw_tk 23 rfl rfl (by kernel_rfl) (fun _ _ _ _ _ h => h) ?_
            refine fw_ht (by kernel_rfl) ?_
            refine fw_cF rfl rfl ?_
            refine fw_sk ?_
            refine fw_th ?_
            refine fw_sq ?_
            refine fw_rg rfl ?_
            refine fw_pu rfl ?_
            refine fw_dt ?_
            refine fw_bk ?_
            refine fw_lp (fun N K W => ∃ (k : Nat), N = (enG m).length - k ∧ k ≤ (enG m).length + 1000 ∧ K = [(0, .slice aS L.length cS), (3, .int .i64 ((i : Nat) : Int)), (4, .slice aB (enG m).length cB), (9, .int .i64 ((k : Nat) : Int))] ∧ Below w.heap.size w W ∧ OB W V7.heap.size aB cB (enG m)) _ _ ⟨0, rfl, Nat.zero_le _, rfl, b133, f135⟩ ⟨rfl, rfl, rfl, (by first | rfl | (simp only [Look, cond, Nat.beq]; first | rfl | (congr 2; first | rfl | omega | (push_cast; omega)) | (simp; try omega))), trivial⟩ ?_
            rintro N _ W137 ⟨k, rfl, hkl, rfl, bW137, fW137_0⟩
            intro K139 hK139
            refine fw_sq ?_
            refine fw_sq ?_
            refine fw_rg rfl ?_
            iterate 4 refine fw_pu rfl ?_
            refine fw_dt ?_
            rcases Bool.eq_false_or_eq_true ((decide (((k : Nat) : Int) < (((enG m).length : Nat) : Int)))) with hb_140 | hb_140
            · skip
              refine fw_cT rfl hb_140 ?_
              refine fw_sk ?_
              refine fw_th ?_
              refine fw_sq ?_
              refine fw_bk ?_
              refine fw_sq ?_
              have hkE : k < (enG m).length := by have h := of_decide_eq_true hb_140; omega
              refine fw_rg rfl ?_
              iterate 2 refine fw_pu rfl ?_
              refine fw_ex 95 (.slice aB k cB) rfl rfl rfl (fun a h => (run_sliceOp1 (h.ev rfl) (h.ev rfl) (slcA heS (by omega) heC.2.2 _))) ?_
              refine fw_ca Tryd.func16 rfl rfl rfl ((by have h := (parseN (n := k) (ad := aB) (cd := cB) (l := (enG m).take k) (p := (zM 0, 0, 7)) (by rw [List.length_take]; omega) (pa_cut hb_10 hkE) (sl_pre (Sl.of_own fW137_0).1 heS (by omega)) (by rw [List.length_take]; omega) (hT.below bW137)); dsimp only at h; exact h)) ?_
              rintro _ V142 ⟨acp141, ccp141, awp141, cwp141, afp141, cfp141, rfl, hOp141, hbp141⟩
              refine ⟨_, rfl, ?_⟩
              have b143 := bW137.trans (hbp141.mono bW137.size)
              have f144 := (below_own fW137_0 hbp141)
              iterate 4 refine fw_pu rfl ?_
              refine fw_al (t := 30) (u := fun q => .pointer (some ⟨q, 0, none⟩)) 10 [.int .i64 0, .string { data := #[] }, .bool false, .int .i64 0, .bool false, .string { data := #[] }, .string { data := #[] }, .int .i64 0, .bool false, .string { data := #[] }, .bool false, .string { data := #[] }, .bool false, .bool false, .int .i64 0, .slice none 0 0, .bool false, .int .i64 0, .bool false, .string { data := #[] }, .int .i64 0, .string { data := #[] }, .slice none 0 0, .slice none 0 0] rfl rfl rfl (fun a h => (run_allocOp (by simp [go_sem, Instr.alloc]))) ?_
              intro q145 W146 g149 s147 r148
              have := Nat.le_trans b143.size g149
              have hhoB_q145 := ob_new f144 g149
              have b150 := b143.trans (s147.mono b143.size)
              have f151 := (below_own f144 s147)
              refine fw_st r148 rfl rfl ?_
              intro W152 s153 r154
              have b155 := below_chg b150 s153 (by omega) b150.size
              have f156 := (ob_chg f151 s153 hhoB_q145)
              iterate 2 refine fw_pu rfl ?_
              refine fw_dt ?_
              refine fw_sq ?_
              refine fw_rg rfl ?_
              refine fw_pu rfl ?_
              refine fw_ca Tryd.func18 rfl rfl rfl ((num18_any 7 W152)) ?_
              rintro _ _ ⟨rfl, rfl⟩
              refine ⟨(.int .i64 7), rfl, ?_⟩
              iterate 5 refine fw_pu rfl ?_
              refine fw_dt ?_
              refine fw_cF rfl rfl ?_
              refine fw_sk ?_
              refine fw_bn ?_
              refine fw_th ?_
              refine fw_rg rfl ?_
              refine fw_pu rfl ?_
              refine fw_ex 87 (.int .i64 (((k + 1) : Nat) : Int)) rfl rfl rfl (fun a h => (run_binOp (h.ev rfl) (h.ev rfl) (by simp [go_sem]) (addIw _ _ _ _ (by omega) (by omega) (by omega)))) ?_
              iterate 2 refine fw_pu rfl ?_
              refine fw_ex 90 (.int .i64 ((((enG m).length / 40) : Nat) : Int)) rfl rfl rfl (fun a h => (run_binOp (h.ev rfl) (h.ev rfl) (by simp [go_sem]) (quo40 _ _ (by omega)))) ?_
              refine fw_ex 91 (.int .i64 (((k + 1 + (enG m).length / 40) : Nat) : Int)) rfl rfl rfl (fun a h => (run_binOp (h.ev rfl) (h.ev rfl) (by simp [go_sem]) (addIw _ _ _ _ (by omega) (by omega) (by omega)))) ?_
              refine fw_pu rfl ?_
              refine fw_dn ?_
              exact fw_th (fw_gf (hK139 _ _ _ (by have h := of_decide_eq_true hb_140; omega) ⟨(k + 1 + (enG m).length / 40), rfl, (by have h := of_decide_eq_true hb_140; omega), rfl, b155, f156⟩) ⟨rfl, rfl, rfl, (by first | rfl | (simp only [Look, cond, Nat.beq]; first | rfl | (congr 2; first | rfl | omega | (push_cast; omega)) | (simp; try omega))), trivial⟩)
            refine fw_cF rfl hb_140 ?_
            refine fw_xt ?_
            refine fw_te ?_
            refine fw_te ?_
            refine fw_be ?_
            refine fw_th ?_
            refine fw_sq ?_
            obtain ⟨pm, pn, pe, hP⟩ : ∃ x y z, paG xs = (x, y, z) := ⟨_, _, _, rfl⟩
            refine fw_rg rfl ?_
            iterate 2 refine fw_pu rfl ?_
            refine fw_ex 110 (.pointer (some ⟨bP, (oP + i * 25), none⟩)) rfl rfl rfl (fun a h => (run_indexOp (h.ev rfl) (h.ev rfl) (by rw [haP]; exact idxAsk _ _ _ _ _ (by have := ask_len hS; omega) _))) ?_
            refine fw_pu rfl ?_
            refine fw_ex 112 (.slice ax xs.length cx) rfl rfl rfl (fun a h => (run_loadOp (h.ev rfl) (ldSl ((Below.cell bW137 (p := ⟨bP, oP + i * 25 + 24, none⟩) hbP).trans (hcP 24 _ rfl))))) ?_
            refine fw_ca Tryd.func16 rfl rfl rfl ((by have h := (parseN (n := xs.length) (ad := ax) (cd := cx) (l := xs) (p := (pm, pn, pe)) rfl hP (hX.below bW137) (by omega) (hT.below bW137)); dsimp only at h; exact h)) ?_
            rintro _ V158 ⟨acp157, ccp157, awp157, cwp157, afp157, cfp157, rfl, hOp157, hbp157⟩
            refine ⟨_, rfl, ?_⟩
            have b159 := bW137.trans (hbp157.mono bW137.size)
            have f160 := (below_own fW137_0 hbp157)
            iterate 4 refine fw_pu rfl ?_
            refine fw_al (t := 30) (u := fun q => .pointer (some ⟨q, 0, none⟩)) 13 [.int .i64 0, .string { data := #[] }, .bool false, .int .i64 0, .bool false, .string { data := #[] }, .string { data := #[] }, .int .i64 0, .bool false, .string { data := #[] }, .bool false, .string { data := #[] }, .bool false, .bool false, .int .i64 0, .slice none 0 0, .bool false, .int .i64 0, .bool false, .string { data := #[] }, .int .i64 0, .string { data := #[] }, .slice none 0 0, .slice none 0 0] rfl rfl rfl (fun a h => (run_allocOp (by simp [go_sem, Instr.alloc]))) ?_
            intro q161 W162 g165 s163 r164
            have := Nat.le_trans b159.size g165
            have hhoB_q161 := ob_new f160 g165
            have hhOp157_q161 := OL3.ltq hOp157 g165
            have b166 := b159.trans (s163.mono b159.size)
            have f167 := (below_own f160 s163)
            have f168 := (hOp157.below s163)
            refine fw_st r164 rfl rfl ?_
            intro W169 s170 r171
            have b172 := below_chg b166 s170 (by omega) b166.size
            have f173 := (ob_chg f167 s170 hhoB_q161)
            have f174 := (by first | exact OL3.chgN f168 s170 hhOp157_q161 | exact OL3.chg f168 s170 (by omega))
            iterate 2 refine fw_pu rfl ?_
            refine fw_dt ?_
            refine fw_sq ?_
            refine fw_rg rfl ?_
            refine fw_pu rfl ?_
            refine fw_ca Tryd.func18 rfl rfl rfl ((num18_any pe W169)) ?_
            rintro _ _ ⟨rfl, rfl⟩
            refine ⟨(.int .i64 pe), rfl, ?_⟩
            refine fw_pu rfl ?_
            refine fw_dt ?_
            rcases Bool.eq_false_or_eq_true ((pe == 0)) with hb_175 | hb_175
            · skip
              refine fw_cT rfl hb_175 ?_
              refine fw_sq ?_
              have hpe : pe = 0 := beq_iff_eq.1 hb_175
              subst hpe
              obtain ⟨hm2, hen2, hle2, hge2⟩ := pa_ok hP
              have hxne : xs ≠ [] := by rintro rfl; simp at hle2; omega
              have hxs := sl_some hX hxne
              have heL2 := (en_len hm2).2
              refine fw_rg rfl ?_
              refine fw_ld r171 rfl rfl ?_
              refine fw_ca Tryd.func24 rfl rfl rfl ((bytesOk pm _ _ _ _ _ _ _ _ _ W169 (OL3.lists f174) (may_far hm2) (hT.below b172) hm2)) ?_
              rintro _ V176 ⟨_, aD, cD, rfl, rfl, hnD, hoD, hbD⟩
              refine ⟨_, rfl, ?_⟩
              have b177 := b172.trans (hbD.mono b172.size)
              have r178 := r171.below hbD
              have f179 := (below_own f173 hbD)
              have f180 := (f174.below hbD)
              iterate 5 refine fw_pu rfl ?_
              refine fw_dt ?_
              refine fw_sq ?_
              refine fw_rg rfl ?_
              refine fw_pu rfl ?_
              refine fw_ca Tryd.func18 rfl rfl rfl ((num18_any 0 V176)) ?_
              rintro _ _ ⟨rfl, rfl⟩
              refine ⟨(.int .i64 0), rfl, ?_⟩
              iterate 5 refine fw_pu rfl ?_
              refine fw_ex 132 (.pointer (some ⟨bP, (oP + i * 25), none⟩)) rfl rfl rfl (fun a h => (run_indexOp (h.ev rfl) (h.ev rfl) (by rw [haP]; exact idxAsk _ _ _ _ _ (by have := ask_len hS; omega) _))) ?_
              refine fw_pu rfl ?_
              refine fw_ex 134 (.slice ax xs.length cx) rfl rfl rfl (fun a h => (run_loadOp (h.ev rfl) (ldSl ((Below.cell b177 (p := ⟨bP, oP + i * 25 + 24, none⟩) hbP).trans (hcP 24 _ rfl))))) ?_
              refine fw_pu rfl ?_
              refine fw_ex 136 (.bool false) rfl rfl rfl (fun a h => (run_binOp (h.ev rfl) (h.ev rfl) (by simp [go_sem]) (gtrIb _ _ _ false (decide_eq_false (by omega))))) ?_
              iterate 5 refine fw_pu rfl ?_
              refine fw_ex 142 (.pointer (some ⟨bP, (oP + i * 25), none⟩)) rfl rfl rfl (fun a h => (run_indexOp (h.ev rfl) (h.ev rfl) (by rw [haP]; exact idxAsk _ _ _ _ _ (by have := ask_len hS; omega) _))) ?_
              refine fw_pu rfl ?_
              refine fw_ex 144 (.slice ax xs.length cx) rfl rfl rfl (fun a h => (run_loadOp (h.ev rfl) (ldSl ((Below.cell b177 (p := ⟨bP, oP + i * 25 + 24, none⟩) hbP).trans (hcP 24 _ rfl))))) ?_
              refine fw_pu rfl ?_
              refine fw_ex 146 (.slice ax pn cx) rfl rfl rfl (fun a h => (run_sliceOp1 (h.ev rfl) (h.ev rfl) (slcA hxs (by omega) hcx.2.2 _))) ?_
              refine fw_ca Tryd.func20 rfl rfl rfl ((eqBytes_any _ _ (enG pm) (xs.take pn) V176 (by omega) (by rw [List.length_take]; omega) (Sl.of_own hoD).1 (sl_pre (hX.below b177) hxs hle2)).mono fun e X h => (show e = .returned (.bool true) ∧ Below V176.heap.size V176 X from ⟨h.1.trans (by rw [hen2]; simp), by obtain ⟨m, rfl⟩ := h.2; exact bdrew (Below.refl _ _) m⟩)) ?_
              rintro _ V182 ⟨rfl, hb181⟩
              refine ⟨(.bool true), rfl, ?_⟩
              have b183 := b177.trans (hb181.mono b177.size)
              have r184 := r178.below hb181
              have f185 := (below_own f179 hb181)
              have f186 := (f180.below hb181)
              have f187 := (below_own hoD hb181)
              iterate 2 refine fw_pu rfl ?_
              refine fw_dt ?_
              refine fw_cF rfl rfl ?_
              refine fw_sk ?_
              refine fw_bn ?_
              refine fw_th ?_
              refine fw_rg rfl ?_
              refine fw_pu rfl ?_
              refine fw_ex 27 (.int .i64 (((i + 1) : Nat) : Int)) rfl rfl rfl (fun a h => (run_binOp (h.ev rfl) (h.ev rfl) (by simp [go_sem]) (addIw _ _ _ _ (by omega) (by omega) (by omega)))) ?_
              refine fw_pu rfl ?_
              refine fw_dn ?_
              exact fw_th (fw_gf (hK3 _ _ _ (by omega) ⟨(i + 1), rfl, (by omega), rfl, b183⟩) ⟨rfl, (by first | rfl | (simp only [Look, cond, Nat.beq]; first | rfl | (congr 2; first | rfl | omega | (push_cast; omega)) | (simp; try omega))), trivial⟩)
            refine fw_cF rfl hb_175 ?_
            refine fw_sk ?_
            refine fw_bn ?_
            refine fw_th ?_
            refine fw_rg rfl ?_
            refine fw_pu rfl ?_
            refine fw_ex 27 (.int .i64 (((i + 1) : Nat) : Int)) rfl rfl rfl (fun a h => (run_binOp (h.ev rfl) (h.ev rfl) (by simp [go_sem]) (addIw _ _ _ _ (by omega) (by omega) (by omega)))) ?_
            refine fw_pu rfl ?_
            refine fw_dn ?_
            exact fw_th (fw_gf (hK3 _ _ _ (by omega) ⟨(i + 1), rfl, (by omega), rfl, b172⟩) ⟨rfl, (by first | rfl | (simp only [Look, cond, Nat.beq]; first | rfl | (congr 2; first | rfl | omega | (push_cast; omega)) | (simp; try omega))), trivial⟩)
          refine fw_oa rfl (t := 30) (u := fun q => .pointer (some ⟨q, 0, none⟩)) 6 [.int .i64 0, .string { data := #[] }, .bool false, .int .i64 0, .bool false, .string { data := #[] }, .string { data := #[] }, .int .i64 0, .bool false, .string { data := #[] }, .bool false, .string { data := #[] }, .bool false, .bool false, .int .i64 0, .slice none 0 0, .bool false, .int .i64 0, .bool false, .string { data := #[] }, .int .i64 0, .string { data := #[] }, .slice none 0 0, .slice none 0 0] rfl rfl rfl (fun a h => (run_allocOp (by simp [go_sem, Instr.alloc]))) ?_
          intro q188 W189 g192 s190 r191
          have := Nat.le_trans b17.size g192
          have hhoB_q188 := ob_new f18 g192
          have hhoC_q188 := ob_new hoC g192
          have b193 := b17.trans (s190.mono b17.size)
          have f194 := (below_own f18 s190)
          have f195 := (below_own hoC s190)
          have f196 := (Nat.le_trans hBC s190.size)
          refine ⟨b193, ?_⟩
          refine fw_o1 7 (by kernel_rfl) ?_
          refine fw_ot rfl 53 rfl rfl rfl (fun a h => opTo_byt (l := enG m) (ad := aC) (c := cC) _ _ rfl (h.ev rfl) f195 (h.ev rfl) (hX.below b193) (by omega) (by omega) f196) ?_
          rintro _ V197 ⟨lA, aA, cA, rfl, hlA, hgA, hoA⟩
          have r198 := row_grew r191 hgA (by first | exact hhoC_q188 | exact ob_off f195 (by omega))
          have b199 := ob_low b193 f195 hgA hwC b193.size
          have f200 := ob_apart f194 hgA f195 hBl
          refine ⟨b199, ?_⟩
          refine fw_o1 8 (by kernel_rfl) ?_
          refine fw_oc rfl Tryd.func16 rfl rfl rfl ((by have h := (parseN (n := lA.length) (ad := aA) (cd := cA) (l := enG m ++ xs) (p := (m, (enG m).length, 0)) (by rw [hlA]) (pa_en hb_10 xs) (by have h := (Sl.of_own hoA).1; rw [hlA] at h ⊢; exact h) (by rw [List.length_append]; omega) (hT.below b199)); dsimp only at h; exact h)) ?_
          rintro _ V202 ⟨acp201, ccp201, awp201, cwp201, afp201, cfp201, rfl, hOp201, hbp201⟩
          refine ⟨_, rfl, ?_⟩
          have hltp201_q188 : q188 < V197.heap.size := r198.2.2
          have b203 := b199.trans (hbp201.mono b199.size)
          have r204 := r198.below hbp201
          have f205 := (below_own f200 hbp201)
          have f206 := (below_own hoA hbp201)
          refine ⟨b203, ?_⟩
          refine fw_tk 9 rfl rfl (by kernel_rfl) (fun _ _ _ _ _ h => h) ?_
          refine fw_tk 10 rfl rfl (by kernel_rfl) (fun _ _ _ _ _ h => h) ?_
          refine fw_tk 11 rfl rfl (by kernel_rfl) (fun _ _ _ _ _ h => h) ?_
          refine fw_tk 12 rfl rfl (by kernel_rfl) (fun _ _ _ _ _ h => h) ?_
          refine fw_o1 14 (by kernel_rfl) ?_
          refine fw_os rfl r204 rfl rfl ?_
          intro W207 s208 r209
          have b210 := below_chg b203 s208 (by omega) b203.size
          have f211 := (ob_chg f205 s208 hhoB_q188)
          have f212 := (by first | exact OL3.chgN hOp201 s208 hhOp201_q188 | exact OL3.chg hOp201 s208 (by omega))
          refine ⟨b210, ?_⟩
          refine fw_tk 15 rfl rfl (by kernel_rfl) (fun _ _ _ _ _ h => h) ?_
          refine fw_tk 16 rfl rfl (by kernel_rfl) (fun _ _ _ _ _ h => h) ?_
          refine fw_ht (by kernel_rfl) ?_
          refine fw_sq ?_
          refine fw_sq ?_
          refine fw_hr (fun X => Below w.heap.size w X) (by kernel_rfl) 24 rfl ?_
          intro W213 s214
          have b215 := b210.trans (s214.mono b210.size)
          have r216 := r209.below s214
          have f217 := (below_own f211 s214)
          have f218 := (f212.below s214)
          refine ⟨b215, ?_⟩
          refine fw_tk 0 rfl rfl (by kernel_rfl) (fun _ _ _ _ _ h => h) ?_
          refine fw_o1 1 (by kernel_rfl) ?_
          refine fw_oc rfl Tryd.func18 rfl rfl rfl ((num18_any 0 W213)) ?_
          rintro _ _ ⟨rfl, rfl⟩
          refine ⟨(.int .i64 0), rfl, ?_⟩
          refine ⟨b215, ?_⟩
          refine fw_tk 2 rfl rfl (by kernel_rfl) (fun _ _ _ _ _ h => h) ?_
          refine fw_tk 3 rfl rfl (by kernel_rfl) (fun _ _ _ _ _ h => h) ?_
          refine fw_tk 4 rfl rfl (by kernel_rfl) (fun _ _ _ _ _ h => h) ?_
          refine fw_tk 5 rfl rfl (by kernel_rfl) (fun _ _ _ _ _ h => h) ?_
          refine fw_tk 6 rfl rfl (by kernel_rfl) (fun _ _ _ _ _ h => h) ?_
          refine fw_tx 7 65 (.bool false) rfl rfl rfl rfl (fun a h W hW => by have b215 := hW; exact (run_binOp (h.ev rfl) (h.ev rfl) (eqIntI _ _ _ _ _ _ _) (neqIb _ _ _ false (beq_self_eq_true _)))) (by kernel_rfl) (fun _ _ _ _ _ h => h) ?_
          refine fw_tk 8 rfl rfl (by kernel_rfl) (fun _ _ _ _ _ h => h) ?_
          refine fw_tk 9 rfl rfl (by kernel_rfl) (fun _ _ _ _ _ h => h) ?_
          refine fw_tk 11 rfl rfl (by kernel_rfl) (fun _ _ _ _ _ h => h) ?_
          refine fw_tk 12 rfl rfl (by kernel_rfl) (fun _ _ _ _ _ h => h) ?_
          refine fw_tx 13 71 (.pointer (some ⟨bP, (oP + i * 25), none⟩)) rfl rfl rfl rfl (fun a h W hW => by have b215 := hW; exact (run_indexOp (h.ev rfl) (h.ev rfl) (by rw [haP]; exact idxAsk _ _ _ _ _ (by have := ask_len hS; omega) _))) (by kernel_rfl) (fun _ _ _ _ _ h => h) ?_
          refine fw_tk 14 rfl rfl (by kernel_rfl) (fun _ _ _ _ _ h => h) ?_
          refine fw_tx 15 73 (.agg (Mq.row m (.slice ac m.cs.length cc) (.slice aw m.ws.length cw) (.slice af m.fs.length cf)).toArray) rfl rfl rfl rfl (fun a h W hW => by have b215 := hW; exact (run_loadOp (h.ev rfl) (run_loadAt_mid _ bP _ _ [.int .i64 m.k, .string m.cl, .bool m.clean, .int .i64 m.keep, .bool m.wI, .string m.wT, .string m.wP, .int .i64 m.wQ, .bool m.wR, .string m.us, .bool m.hu, .string m.pa, .bool m.hp, .bool m.pres, .int .i64 m.code, .slice ac m.cs.length cc, .bool m.dup, .int .i64 m.q, .bool m.re, .string m.top, .int .i64 m.id, .string m.pay, .slice aw m.ws.length cw, .slice af m.fs.length cf] _ (fun j u hj => (Below.cell b215 (p := ⟨bP, oP + i * 25 + j, none⟩) hbP).trans (hcP j u (by rw [List.getElem?_append_left (by have := (List.getElem?_eq_some_iff.1 hj).1; exact this)]; exact hj))) Tryd.underlying30 rfl (by kernel_rfl)))) (by kernel_rfl) (fun _ _ _ _ _ h => h) ?_
          refine fw_o1 10 (by kernel_rfl) ?_
          refine fw_ol rfl r216 rfl rfl ?_
          refine fw_o1 16 (by kernel_rfl) ?_
          refine fw_oc rfl Tryd.func19 rfl rfl rfl ((by have h := eqMq_any m m _ _ _ _ _ _ W213 (OL3.lists f218) (hL.below b215) (by omega) (by omega) (by omega) (by omega) (by omega) (by omega); rw [eqB_refl m] at h; exact h)) ?_
          rintro _ V220 ⟨rfl, hb219⟩
          refine ⟨(.bool true), rfl, ?_⟩
          have b221 := b215.trans (hb219.mono b215.size)
          have r222 := r216.below hb219
          have f223 := (below_own f217 hb219)
          have f224 := (f218.below hb219)
          refine ⟨b221, ?_⟩
          refine fw_tk 17 rfl rfl (by kernel_rfl) (fun _ _ _ _ _ h => h) ?_
          refine fw_tk 18 rfl rfl (by kernel_rfl) (fun _ _ _ _ _ h => h) ?_
          refine fw_tk 19 rfl rfl (by kernel_rfl) (fun _ _ _ _ _ h => h) ?_
          refine fw_tk 20 rfl rfl (by kernel_rfl) (fun _ _ _ _ _ h => h) ?_
          refine fw_tk 21 rfl rfl (by kernel_rfl) (fun _ _ _ _ _ h => h) ?_
          refine fw_tx 22 80 (.bool false) rfl rfl rfl rfl (fun a h W hW => by have b221 := hW; exact (run_binOp (h.ev rfl) (h.ev rfl) (by simp [go_sem]) (gtrIb _ _ _ false (decide_eq_false (by omega))))) (by kernel_rfl) (fun _ _ _ _ _ h => h) ?_
          refine fw_tk 23 rfl rfl (by kernel_rfl) (fun _ _ _ _ _ h => h) ?_
          refine fw_ht (by kernel_rfl) ?_
          refine fw_cF rfl rfl ?_
          refine fw_sk ?_
          refine fw_th ?_
          refine fw_sq ?_
          refine fw_rg rfl ?_
          refine fw_pu rfl ?_
          refine fw_dt ?_
          refine fw_bk ?_
          refine fw_lp (fun N K W => ∃ (k : Nat), N = (enG m).length - k ∧ k ≤ (enG m).length + 1000 ∧ K = [(0, .slice aS L.length cS), (3, .int .i64 ((i : Nat) : Int)), (4, .slice aB (enG m).length cB), (9, .int .i64 ((k : Nat) : Int))] ∧ Below w.heap.size w W ∧ OB W V7.heap.size aB cB (enG m)) _ _ ⟨0, rfl, Nat.zero_le _, rfl, b221, f223⟩ ⟨rfl, rfl, rfl, (by first | rfl | (simp only [Look, cond, Nat.beq]; first | rfl | (congr 2; first | rfl | omega | (push_cast; omega)) | (simp; try omega))), trivial⟩ ?_
          rintro N _ W225 ⟨k, rfl, hkl, rfl, bW225, fW225_0⟩
          intro K227 hK227
          refine fw_sq ?_
          refine fw_sq ?_
          refine fw_rg rfl ?_
          iterate 4 refine fw_pu rfl ?_
          refine fw_dt ?_
          rcases Bool.eq_false_or_eq_true ((decide (((k : Nat) : Int) < (((enG m).length : Nat) : Int)))) with hb_228 | hb_228
          · skip
            refine fw_cT rfl hb_228 ?_
            refine fw_sk ?_
            refine fw_th ?_
            refine fw_sq ?_
            refine fw_bk ?_
            refine fw_sq ?_
            have hkE : k < (enG m).length := by have h := of_decide_eq_true hb_228; omega
            refine fw_rg rfl ?_
            iterate 2 refine fw_pu rfl ?_
            refine fw_ex 95 (.slice aB k cB) rfl rfl rfl (fun a h => (run_sliceOp1 (h.ev rfl) (h.ev rfl) (slcA heS (by omega) heC.2.2 _))) ?_
            refine fw_ca Tryd.func16 rfl rfl rfl ((by have h := (parseN (n := k) (ad := aB) (cd := cB) (l := (enG m).take k) (p := (zM 0, 0, 7)) (by rw [List.length_take]; omega) (pa_cut hb_10 hkE) (sl_pre (Sl.of_own fW225_0).1 heS (by omega)) (by rw [List.length_take]; omega) (hT.below bW225)); dsimp only at h; exact h)) ?_
            rintro _ V230 ⟨acp229, ccp229, awp229, cwp229, afp229, cfp229, rfl, hOp229, hbp229⟩
            refine ⟨_, rfl, ?_⟩
            have b231 := bW225.trans (hbp229.mono bW225.size)
            have f232 := (below_own fW225_0 hbp229)
            iterate 4 refine fw_pu rfl ?_
            refine fw_al (t := 30) (u := fun q => .pointer (some ⟨q, 0, none⟩)) 10 [.int .i64 0, .string { data := #[] }, .bool false, .int .i64 0, .bool false, .string { data := #[] }, .string { data := #[] }, .int .i64 0, .bool false, .string { data := #[] }, .bool false, .string { data := #[] }, .bool false, .bool false, .int .i64 0, .slice none 0 0, .bool false, .int .i64 0, .bool false, .string { data := #[] }, .int .i64 0, .string { data := #[] }, .slice none 0 0, .slice none 0 0] rfl rfl rfl (fun a h => (run_allocOp (by simp [go_sem, Instr.alloc]))) ?_
            intro q233 W234 g237 s235 r236
            have := Nat.le_trans b231.size g237
            have hhoB_q233 := ob_new f232 g237
            have b238 := b231.trans (s235.mono b231.size)
            have f239 := (below_own f232 s235)
            refine fw_st r236 rfl rfl ?_
            intro W240 s241 r242
            have b243 := below_chg b238 s241 (by omega) b238.size
            have f244 := (ob_chg f239 s241 hhoB_q233)
            iterate 2 refine fw_pu rfl ?_
            refine fw_dt ?_
            refine fw_sq ?_
            refine fw_rg rfl ?_
            refine fw_pu rfl ?_
            refine fw_ca Tryd.func18 rfl rfl rfl ((num18_any 7 W240)) ?_
            rintro _ _ ⟨rfl, rfl⟩
            refine ⟨(.int .i64 7), rfl, ?_⟩
            iterate 5 refine fw_pu rfl ?_
            refine fw_dt ?_
            refine fw_cF rfl rfl ?_
            refine fw_sk ?_
            refine fw_bn ?_
            refine fw_th ?_
            refine fw_rg rfl ?_
            refine fw_pu rfl ?_
            refine fw_ex 87 (.int .i64 (((k + 1) : Nat) : Int)) rfl rfl rfl (fun a h => (run_binOp (h.ev rfl) (h.ev rfl) (by simp [go_sem]) (addIw _ _ _ _ (by omega) (by omega) (by omega)))) ?_
            iterate 2 refine fw_pu rfl ?_
            refine fw_ex 90 (.int .i64 ((((enG m).length / 40) : Nat) : Int)) rfl rfl rfl (fun a h => (run_binOp (h.ev rfl) (h.ev rfl) (by simp [go_sem]) (quo40 _ _ (by omega)))) ?_
            refine fw_ex 91 (.int .i64 (((k + 1 + (enG m).length / 40) : Nat) : Int)) rfl rfl rfl (fun a h => (run_binOp (h.ev rfl) (h.ev rfl) (by simp [go_sem]) (addIw _ _ _ _ (by omega) (by omega) (by omega)))) ?_
            refine fw_pu rfl ?_
            refine fw_dn ?_
            exact fw_th (fw_gf (hK227 _ _ _ (by have h := of_decide_eq_true hb_228; omega) ⟨(k + 1 + (enG m).length / 40), rfl, (by have h := of_decide_eq_true hb_228; omega), rfl, b243, f244⟩) ⟨rfl, rfl, rfl, (by first | rfl | (simp only [Look, cond, Nat.beq]; first | rfl | (congr 2; first | rfl | omega | (push_cast; omega)) | (simp; try omega))), trivial⟩)
          refine fw_cF rfl hb_228 ?_
          refine fw_xt ?_
          refine fw_te ?_
          refine fw_te ?_
          refine fw_be ?_
          refine fw_th ?_
          refine fw_sq ?_
          obtain ⟨pm, pn, pe, hP⟩ : ∃ x y z, paG xs = (x, y, z) := ⟨_, _, _, rfl⟩
          refine fw_rg rfl ?_
          iterate 2 refine fw_pu rfl ?_
          refine fw_ex 110 (.pointer (some ⟨bP, (oP + i * 25), none⟩)) rfl rfl rfl (fun a h => (run_indexOp (h.ev rfl) (h.ev rfl) (by rw [haP]; exact idxAsk _ _ _ _ _ (by have := ask_len hS; omega) _))) ?_
          refine fw_pu rfl ?_
          refine fw_ex 112 (.slice ax xs.length cx) rfl rfl rfl (fun a h => (run_loadOp (h.ev rfl) (ldSl ((Below.cell bW225 (p := ⟨bP, oP + i * 25 + 24, none⟩) hbP).trans (hcP 24 _ rfl))))) ?_
          refine fw_ca Tryd.func16 rfl rfl rfl ((by have h := (parseN (n := xs.length) (ad := ax) (cd := cx) (l := xs) (p := (pm, pn, pe)) rfl hP (hX.below bW225) (by omega) (hT.below bW225)); dsimp only at h; exact h)) ?_
          rintro _ V246 ⟨acp245, ccp245, awp245, cwp245, afp245, cfp245, rfl, hOp245, hbp245⟩
          refine ⟨_, rfl, ?_⟩
          have b247 := bW225.trans (hbp245.mono bW225.size)
          have f248 := (below_own fW225_0 hbp245)
          iterate 4 refine fw_pu rfl ?_
          refine fw_al (t := 30) (u := fun q => .pointer (some ⟨q, 0, none⟩)) 13 [.int .i64 0, .string { data := #[] }, .bool false, .int .i64 0, .bool false, .string { data := #[] }, .string { data := #[] }, .int .i64 0, .bool false, .string { data := #[] }, .bool false, .string { data := #[] }, .bool false, .bool false, .int .i64 0, .slice none 0 0, .bool false, .int .i64 0, .bool false, .string { data := #[] }, .int .i64 0, .string { data := #[] }, .slice none 0 0, .slice none 0 0] rfl rfl rfl (fun a h => (run_allocOp (by simp [go_sem, Instr.alloc]))) ?_
          intro q249 W250 g253 s251 r252
          have := Nat.le_trans b247.size g253
          have hhoB_q249 := ob_new f248 g253
          have hhOp245_q249 := OL3.ltq hOp245 g253
          have b254 := b247.trans (s251.mono b247.size)
          have f255 := (below_own f248 s251)
          have f256 := (hOp245.below s251)
          refine fw_st r252 rfl rfl ?_
          intro W257 s258 r259
          have b260 := below_chg b254 s258 (by omega) b254.size
          have f261 := (ob_chg f255 s258 hhoB_q249)
          have f262 := (by first | exact OL3.chgN f256 s258 hhOp245_q249 | exact OL3.chg f256 s258 (by omega))
          iterate 2 refine fw_pu rfl ?_
          refine fw_dt ?_
          refine fw_sq ?_
          refine fw_rg rfl ?_
          refine fw_pu rfl ?_
          refine fw_ca Tryd.func18 rfl rfl rfl ((num18_any pe W257)) ?_
          rintro _ _ ⟨rfl, rfl⟩
          refine ⟨(.int .i64 pe), rfl, ?_⟩
          refine fw_pu rfl ?_
          refine fw_dt ?_
          rcases Bool.eq_false_or_eq_true ((pe == 0)) with hb_263 | hb_263
          · skip
            refine fw_cT rfl hb_263 ?_
            refine fw_sq ?_
            have hpe : pe = 0 := beq_iff_eq.1 hb_263
            subst hpe
            obtain ⟨hm2, hen2, hle2, hge2⟩ := pa_ok hP
            have hxne : xs ≠ [] := by rintro rfl; simp at hle2; omega
            have hxs := sl_some hX hxne
            have heL2 := (en_len hm2).2
            refine fw_rg rfl ?_
            refine fw_ld r259 rfl rfl ?_
            refine fw_ca Tryd.func24 rfl rfl rfl ((bytesOk pm _ _ _ _ _ _ _ _ _ W257 (OL3.lists f262) (may_far hm2) (hT.below b260) hm2)) ?_
            rintro _ V264 ⟨_, aD, cD, rfl, rfl, hnD, hoD, hbD⟩
            refine ⟨_, rfl, ?_⟩
            have b265 := b260.trans (hbD.mono b260.size)
            have r266 := r259.below hbD
            have f267 := (below_own f261 hbD)
            have f268 := (f262.below hbD)
            iterate 5 refine fw_pu rfl ?_
            refine fw_dt ?_
            refine fw_sq ?_
            refine fw_rg rfl ?_
            refine fw_pu rfl ?_
            refine fw_ca Tryd.func18 rfl rfl rfl ((num18_any 0 V264)) ?_
            rintro _ _ ⟨rfl, rfl⟩
            refine ⟨(.int .i64 0), rfl, ?_⟩
            iterate 5 refine fw_pu rfl ?_
            refine fw_ex 132 (.pointer (some ⟨bP, (oP + i * 25), none⟩)) rfl rfl rfl (fun a h => (run_indexOp (h.ev rfl) (h.ev rfl) (by rw [haP]; exact idxAsk _ _ _ _ _ (by have := ask_len hS; omega) _))) ?_
            refine fw_pu rfl ?_
            refine fw_ex 134 (.slice ax xs.length cx) rfl rfl rfl (fun a h => (run_loadOp (h.ev rfl) (ldSl ((Below.cell b265 (p := ⟨bP, oP + i * 25 + 24, none⟩) hbP).trans (hcP 24 _ rfl))))) ?_
            refine fw_pu rfl ?_
            refine fw_ex 136 (.bool false) rfl rfl rfl (fun a h => (run_binOp (h.ev rfl) (h.ev rfl) (by simp [go_sem]) (gtrIb _ _ _ false (decide_eq_false (by omega))))) ?_
            iterate 5 refine fw_pu rfl ?_
            refine fw_ex 142 (.pointer (some ⟨bP, (oP + i * 25), none⟩)) rfl rfl rfl (fun a h => (run_indexOp (h.ev rfl) (h.ev rfl) (by rw [haP]; exact idxAsk _ _ _ _ _ (by have := ask_len hS; omega) _))) ?_
            refine fw_pu rfl ?_
            refine fw_ex 144 (.slice ax xs.length cx) rfl rfl rfl (fun a h => (run_loadOp (h.ev rfl) (ldSl ((Below.cell b265 (p := ⟨bP, oP + i * 25 + 24, none⟩) hbP).trans (hcP 24 _ rfl))))) ?_
            refine fw_pu rfl ?_
            refine fw_ex 146 (.slice ax pn cx) rfl rfl rfl (fun a h => (run_sliceOp1 (h.ev rfl) (h.ev rfl) (slcA hxs (by omega) hcx.2.2 _))) ?_
            refine fw_ca Tryd.func20 rfl rfl rfl ((eqBytes_any _ _ (enG pm) (xs.take pn) V264 (by omega) (by rw [List.length_take]; omega) (Sl.of_own hoD).1 (sl_pre (hX.below b265) hxs hle2)).mono fun e X h => (show e = .returned (.bool true) ∧ Below V264.heap.size V264 X from ⟨h.1.trans (by rw [hen2]; simp), by obtain ⟨m, rfl⟩ := h.2; exact bdrew (Below.refl _ _) m⟩)) ?_
            rintro _ V270 ⟨rfl, hb269⟩
            refine ⟨(.bool true), rfl, ?_⟩
            have b271 := b265.trans (hb269.mono b265.size)
            have r272 := r266.below hb269
            have f273 := (below_own f267 hb269)
            have f274 := (f268.below hb269)
            have f275 := (below_own hoD hb269)
            iterate 2 refine fw_pu rfl ?_
            refine fw_dt ?_
            refine fw_cF rfl rfl ?_
            refine fw_sk ?_
            refine fw_bn ?_
            refine fw_th ?_
            refine fw_rg rfl ?_
            refine fw_pu rfl ?_
            refine fw_ex 27 (.int .i64 (((i + 1) : Nat) : Int)) rfl rfl rfl (fun a h => (run_binOp (h.ev rfl) (h.ev rfl) (by simp [go_sem]) (addIw _ _ _ _ (by omega) (by omega) (by omega)))) ?_
            refine fw_pu rfl ?_
            refine fw_dn ?_
            exact fw_th (fw_gf (hK3 _ _ _ (by omega) ⟨(i + 1), rfl, (by omega), rfl, b271⟩) ⟨rfl, (by first | rfl | (simp only [Look, cond, Nat.beq]; first | rfl | (congr 2; first | rfl | omega | (push_cast; omega)) | (simp; try omega))), trivial⟩)
          refine fw_cF rfl hb_263 ?_
          refine fw_sk ?_
          refine fw_bn ?_
          refine fw_th ?_
          refine fw_rg rfl ?_
          refine fw_pu rfl ?_
          refine fw_ex 27 (.int .i64 (((i + 1) : Nat) : Int)) rfl rfl rfl (fun a h => (run_binOp (h.ev rfl) (h.ev rfl) (by simp [go_sem]) (addIw _ _ _ _ (by omega) (by omega) (by omega)))) ?_
          refine fw_pu rfl ?_
          refine fw_dn ?_
          exact fw_th (fw_gf (hK3 _ _ _ (by omega) ⟨(i + 1), rfl, (by omega), rfl, b260⟩) ⟨rfl, (by first | rfl | (simp only [Look, cond, Nat.beq]; first | rfl | (congr 2; first | rfl | omega | (push_cast; omega)) | (simp; try omega))), trivial⟩)
        refine fw_oa rfl (t := 30) (u := fun q => .pointer (some ⟨q, 0, none⟩)) 6 [.int .i64 0, .string { data := #[] }, .bool false, .int .i64 0, .bool false, .string { data := #[] }, .string { data := #[] }, .int .i64 0, .bool false, .string { data := #[] }, .bool false, .string { data := #[] }, .bool false, .bool false, .int .i64 0, .slice none 0 0, .bool false, .int .i64 0, .bool false, .string { data := #[] }, .int .i64 0, .string { data := #[] }, .slice none 0 0, .slice none 0 0] rfl rfl rfl (fun a h => (run_allocOp (by simp [go_sem, Instr.alloc]))) ?_
        intro q276 W277 g280 s278 r279
        have := Nat.le_trans b15.size g280
        have hhoB_q276 := ob_new f16 g280
        have b281 := b15.trans (s278.mono b15.size)
        have f282 := (below_own f16 s278)
        refine ⟨b281, ?_⟩
        refine fw_o1 1 (by kernel_rfl) ?_
        refine fw_oc rfl Tryd.func15 rfl rfl rfl ((copyBytes_any _ (enG m) W277 (by omega) (Sl.of_own f282).1)) ?_
        rintro _ VC ⟨vC, rfl, hbC, hoC⟩
        refine ⟨_, rfl, ?_⟩
        obtain ⟨aC, cC, rfl⟩ := own_slice hoC
        have hBl : ∀ k, (Value.slice aB (enG m).length cB).ownBlock = some k → k < W277.heap.size := fun k hk => (blk_lt f282 hk).2
        have hwC : w.heap.size ≤ W277.heap.size := b281.size
        have hBC : W277.heap.size ≤ VC.heap.size := hbC.size
        have hltC_q276 : q276 < W277.heap.size := r279.2.2
        have b283 := b281.trans (hbC.mono b281.size)
        have r284 := r279.below hbC
        have f285 := (below_own f282 hbC)
        refine ⟨b283, ?_⟩
        refine fw_o1 7 (by kernel_rfl) ?_
        refine fw_ot rfl 53 rfl rfl rfl (fun a h => opTo_byt (l := enG m) (ad := aC) (c := cC) _ _ rfl (h.ev rfl) hoC (h.ev rfl) (hX.below b283) (by omega) (by omega) hBC) ?_
        rintro _ V286 ⟨lA, aA, cA, rfl, hlA, hgA, hoA⟩
        have r287 := row_grew r284 hgA (by first | exact hhoC_q276 | exact ob_off hoC (by omega))
        have b288 := ob_low b283 hoC hgA hwC b283.size
        have f289 := ob_apart f285 hgA hoC hBl
        refine ⟨b288, ?_⟩
        refine fw_o1 8 (by kernel_rfl) ?_
        refine fw_oc rfl Tryd.func16 rfl rfl rfl ((by have h := (parseN (n := lA.length) (ad := aA) (cd := cA) (l := enG m ++ xs) (p := (m, (enG m).length, 0)) (by rw [hlA]) (pa_en hb_10 xs) (by have h := (Sl.of_own hoA).1; rw [hlA] at h ⊢; exact h) (by rw [List.length_append]; omega) (hT.below b288)); dsimp only at h; exact h)) ?_
        rintro _ V291 ⟨acp290, ccp290, awp290, cwp290, afp290, cfp290, rfl, hOp290, hbp290⟩
        refine ⟨_, rfl, ?_⟩
        have hltp290_q276 : q276 < V286.heap.size := r287.2.2
        have b292 := b288.trans (hbp290.mono b288.size)
        have r293 := r287.below hbp290
        have f294 := (below_own f289 hbp290)
        have f295 := (below_own hoA hbp290)
        refine ⟨b292, ?_⟩
        refine fw_tk 9 rfl rfl (by kernel_rfl) (fun _ _ _ _ _ h => h) ?_
        refine fw_tk 10 rfl rfl (by kernel_rfl) (fun _ _ _ _ _ h => h) ?_
        refine fw_tk 11 rfl rfl (by kernel_rfl) (fun _ _ _ _ _ h => h) ?_
        refine fw_tk 12 rfl rfl (by kernel_rfl) (fun _ _ _ _ _ h => h) ?_
        refine fw_o1 14 (by kernel_rfl) ?_
        refine fw_os rfl r293 rfl rfl ?_
        intro W296 s297 r298
        have b299 := below_chg b292 s297 (by omega) b292.size
        have f300 := (ob_chg f294 s297 hhoB_q276)
        have f301 := (by first | exact OL3.chgN hOp290 s297 hhOp290_q276 | exact OL3.chg hOp290 s297 (by omega))
        refine ⟨b299, ?_⟩
        refine fw_tk 15 rfl rfl (by kernel_rfl) (fun _ _ _ _ _ h => h) ?_
        refine fw_tk 16 rfl rfl (by kernel_rfl) (fun _ _ _ _ _ h => h) ?_
        refine fw_ht (by kernel_rfl) ?_
        refine fw_sq ?_
        refine fw_sq ?_
        refine fw_hr (fun X => Below w.heap.size w X) (by kernel_rfl) 24 rfl ?_
        intro W302 s303
        have b304 := b299.trans (s303.mono b299.size)
        have r305 := r298.below s303
        have f306 := (below_own f300 s303)
        have f307 := (f301.below s303)
        refine ⟨b304, ?_⟩
        refine fw_tk 0 rfl rfl (by kernel_rfl) (fun _ _ _ _ _ h => h) ?_
        refine fw_o1 1 (by kernel_rfl) ?_
        refine fw_oc rfl Tryd.func18 rfl rfl rfl ((num18_any 0 W302)) ?_
        rintro _ _ ⟨rfl, rfl⟩
        refine ⟨(.int .i64 0), rfl, ?_⟩
        refine ⟨b304, ?_⟩
        refine fw_tk 2 rfl rfl (by kernel_rfl) (fun _ _ _ _ _ h => h) ?_
        refine fw_tk 3 rfl rfl (by kernel_rfl) (fun _ _ _ _ _ h => h) ?_
        refine fw_tk 4 rfl rfl (by kernel_rfl) (fun _ _ _ _ _ h => h) ?_
        refine fw_tk 5 rfl rfl (by kernel_rfl) (fun _ _ _ _ _ h => h) ?_
        refine fw_tk 6 rfl rfl (by kernel_rfl) (fun _ _ _ _ _ h => h) ?_
        refine fw_tx 7 65 (.bool false) rfl rfl rfl rfl (fun a h W hW => by have b304 := hW; exact (run_binOp (h.ev rfl) (h.ev rfl) (eqIntI _ _ _ _ _ _ _) (neqIb _ _ _ false (beq_self_eq_true _)))) (by kernel_rfl) (fun _ _ _ _ _ h => h) ?_
        refine fw_tk 8 rfl rfl (by kernel_rfl) (fun _ _ _ _ _ h => h) ?_
        refine fw_tk 9 rfl rfl (by kernel_rfl) (fun _ _ _ _ _ h => h) ?_
        refine fw_tk 11 rfl rfl (by kernel_rfl) (fun _ _ _ _ _ h => h) ?_
        refine fw_tk 12 rfl rfl (by kernel_rfl) (fun _ _ _ _ _ h => h) ?_
        refine fw_tx 13 71 (.pointer (some ⟨bP, (oP + i * 25), none⟩)) rfl rfl rfl rfl (fun a h W hW => by have b304 := hW; exact (run_indexOp (h.ev rfl) (h.ev rfl) (by rw [haP]; exact idxAsk _ _ _ _ _ (by have := ask_len hS; omega) _))) (by kernel_rfl) (fun _ _ _ _ _ h => h) ?_
        refine fw_tk 14 rfl rfl (by kernel_rfl) (fun _ _ _ _ _ h => h) ?_
        refine fw_tx 15 73 (.agg (Mq.row m (.slice ac m.cs.length cc) (.slice aw m.ws.length cw) (.slice af m.fs.length cf)).toArray) rfl rfl rfl rfl (fun a h W hW => by have b304 := hW; exact (run_loadOp (h.ev rfl) (run_loadAt_mid _ bP _ _ [.int .i64 m.k, .string m.cl, .bool m.clean, .int .i64 m.keep, .bool m.wI, .string m.wT, .string m.wP, .int .i64 m.wQ, .bool m.wR, .string m.us, .bool m.hu, .string m.pa, .bool m.hp, .bool m.pres, .int .i64 m.code, .slice ac m.cs.length cc, .bool m.dup, .int .i64 m.q, .bool m.re, .string m.top, .int .i64 m.id, .string m.pay, .slice aw m.ws.length cw, .slice af m.fs.length cf] _ (fun j u hj => (Below.cell b304 (p := ⟨bP, oP + i * 25 + j, none⟩) hbP).trans (hcP j u (by rw [List.getElem?_append_left (by have := (List.getElem?_eq_some_iff.1 hj).1; exact this)]; exact hj))) Tryd.underlying30 rfl (by kernel_rfl)))) (by kernel_rfl) (fun _ _ _ _ _ h => h) ?_
        refine fw_o1 10 (by kernel_rfl) ?_
        refine fw_ol rfl r305 rfl rfl ?_
        refine fw_o1 16 (by kernel_rfl) ?_
        refine fw_oc rfl Tryd.func19 rfl rfl rfl ((by have h := eqMq_any m m _ _ _ _ _ _ W302 (OL3.lists f307) (hL.below b304) (by omega) (by omega) (by omega) (by omega) (by omega) (by omega); rw [eqB_refl m] at h; exact h)) ?_
        rintro _ V309 ⟨rfl, hb308⟩
        refine ⟨(.bool true), rfl, ?_⟩
        have b310 := b304.trans (hb308.mono b304.size)
        have r311 := r305.below hb308
        have f312 := (below_own f306 hb308)
        have f313 := (f307.below hb308)
        refine ⟨b310, ?_⟩
        refine fw_tk 17 rfl rfl (by kernel_rfl) (fun _ _ _ _ _ h => h) ?_
        refine fw_tk 18 rfl rfl (by kernel_rfl) (fun _ _ _ _ _ h => h) ?_
        refine fw_tk 19 rfl rfl (by kernel_rfl) (fun _ _ _ _ _ h => h) ?_
        refine fw_tk 20 rfl rfl (by kernel_rfl) (fun _ _ _ _ _ h => h) ?_
        refine fw_tk 21 rfl rfl (by kernel_rfl) (fun _ _ _ _ _ h => h) ?_
        refine fw_tx 22 80 (.bool false) rfl rfl rfl rfl (fun a h W hW => by have b310 := hW; exact (run_binOp (h.ev rfl) (h.ev rfl) (by simp [go_sem]) (gtrIb _ _ _ false (decide_eq_false (by omega))))) (by kernel_rfl) (fun _ _ _ _ _ h => h) ?_
        refine fw_tk 23 rfl rfl (by kernel_rfl) (fun _ _ _ _ _ h => h) ?_
        refine fw_ht (by kernel_rfl) ?_
        refine fw_cF rfl rfl ?_
        refine fw_sk ?_
        refine fw_th ?_
        refine fw_sq ?_
        refine fw_rg rfl ?_
        refine fw_pu rfl ?_
        refine fw_dt ?_
        refine fw_bk ?_
        refine fw_lp (fun N K W => ∃ (k : Nat), N = (enG m).length - k ∧ k ≤ (enG m).length + 1000 ∧ K = [(0, .slice aS L.length cS), (3, .int .i64 ((i : Nat) : Int)), (4, .slice aB (enG m).length cB), (9, .int .i64 ((k : Nat) : Int))] ∧ Below w.heap.size w W ∧ OB W V7.heap.size aB cB (enG m)) _ _ ⟨0, rfl, Nat.zero_le _, rfl, b310, f312⟩ ⟨rfl, rfl, rfl, (by first | rfl | (simp only [Look, cond, Nat.beq]; first | rfl | (congr 2; first | rfl | omega | (push_cast; omega)) | (simp; try omega))), trivial⟩ ?_
        rintro N _ W314 ⟨k, rfl, hkl, rfl, bW314, fW314_0⟩
        intro K316 hK316
        refine fw_sq ?_
        refine fw_sq ?_
        refine fw_rg rfl ?_
        iterate 4 refine fw_pu rfl ?_
        refine fw_dt ?_
        rcases Bool.eq_false_or_eq_true ((decide (((k : Nat) : Int) < (((enG m).length : Nat) : Int)))) with hb_317 | hb_317
        · skip
          refine fw_cT rfl hb_317 ?_
          refine fw_sk ?_
          refine fw_th ?_
          refine fw_sq ?_
          refine fw_bk ?_
          refine fw_sq ?_
          have hkE : k < (enG m).length := by have h := of_decide_eq_true hb_317; omega
          refine fw_rg rfl ?_
          iterate 2 refine fw_pu rfl ?_
          refine fw_ex 95 (.slice aB k cB) rfl rfl rfl (fun a h => (run_sliceOp1 (h.ev rfl) (h.ev rfl) (slcA heS (by omega) heC.2.2 _))) ?_
          refine fw_ca Tryd.func16 rfl rfl rfl ((by have h := (parseN (n := k) (ad := aB) (cd := cB) (l := (enG m).take k) (p := (zM 0, 0, 7)) (by rw [List.length_take]; omega) (pa_cut hb_10 hkE) (sl_pre (Sl.of_own fW314_0).1 heS (by omega)) (by rw [List.length_take]; omega) (hT.below bW314)); dsimp only at h; exact h)) ?_
          rintro _ V319 ⟨acp318, ccp318, awp318, cwp318, afp318, cfp318, rfl, hOp318, hbp318⟩
          refine ⟨_, rfl, ?_⟩
          have b320 := bW314.trans (hbp318.mono bW314.size)
          have f321 := (below_own fW314_0 hbp318)
          iterate 4 refine fw_pu rfl ?_
          refine fw_al (t := 30) (u := fun q => .pointer (some ⟨q, 0, none⟩)) 10 [.int .i64 0, .string { data := #[] }, .bool false, .int .i64 0, .bool false, .string { data := #[] }, .string { data := #[] }, .int .i64 0, .bool false, .string { data := #[] }, .bool false, .string { data := #[] }, .bool false, .bool false, .int .i64 0, .slice none 0 0, .bool false, .int .i64 0, .bool false, .string { data := #[] }, .int .i64 0, .string { data := #[] }, .slice none 0 0, .slice none 0 0] rfl rfl rfl (fun a h => (run_allocOp (by simp [go_sem, Instr.alloc]))) ?_
          intro q322 W323 g326 s324 r325
          have := Nat.le_trans b320.size g326
          have hhoB_q322 := ob_new f321 g326
          have b327 := b320.trans (s324.mono b320.size)
          have f328 := (below_own f321 s324)
          refine fw_st r325 rfl rfl ?_
          intro W329 s330 r331
          have b332 := below_chg b327 s330 (by omega) b327.size
          have f333 := (ob_chg f328 s330 hhoB_q322)
          iterate 2 refine fw_pu rfl ?_
          refine fw_dt ?_
          refine fw_sq ?_
          refine fw_rg rfl ?_
          refine fw_pu rfl ?_
          refine fw_ca Tryd.func18 rfl rfl rfl ((num18_any 7 W329)) ?_
          rintro _ _ ⟨rfl, rfl⟩
          refine ⟨(.int .i64 7), rfl, ?_⟩
          iterate 5 refine fw_pu rfl ?_
          refine fw_dt ?_
          refine fw_cF rfl rfl ?_
          refine fw_sk ?_
          refine fw_bn ?_
          refine fw_th ?_
          refine fw_rg rfl ?_
          refine fw_pu rfl ?_
          refine fw_ex 87 (.int .i64 (((k + 1) : Nat) : Int)) rfl rfl rfl (fun a h => (run_binOp (h.ev rfl) (h.ev rfl) (by simp [go_sem]) (addIw _ _ _ _ (by omega) (by omega) (by omega)))) ?_
          iterate 2 refine fw_pu rfl ?_
          refine fw_ex 90 (.int .i64 ((((enG m).length / 40) : Nat) : Int)) rfl rfl rfl (fun a h => (run_binOp (h.ev rfl) (h.ev rfl) (by simp [go_sem]) (quo40 _ _ (by omega)))) ?_
          refine fw_ex 91 (.int .i64 (((k + 1 + (enG m).length / 40) : Nat) : Int)) rfl rfl rfl (fun a h => (run_binOp (h.ev rfl) (h.ev rfl) (by simp [go_sem]) (addIw _ _ _ _ (by omega) (by omega) (by omega)))) ?_
          refine fw_pu rfl ?_
          refine fw_dn ?_
          exact fw_th (fw_gf (hK316 _ _ _ (by have h := of_decide_eq_true hb_317; omega) ⟨(k + 1 + (enG m).length / 40), rfl, (by have h := of_decide_eq_true hb_317; omega), rfl, b332, f333⟩) ⟨rfl, rfl, rfl, (by first | rfl | (simp only [Look, cond, Nat.beq]; first | rfl | (congr 2; first | rfl | omega | (push_cast; omega)) | (simp; try omega))), trivial⟩)
        refine fw_cF rfl hb_317 ?_
        refine fw_xt ?_
        refine fw_te ?_
        refine fw_te ?_
        refine fw_be ?_
        refine fw_th ?_
        refine fw_sq ?_
        obtain ⟨pm, pn, pe, hP⟩ : ∃ x y z, paG xs = (x, y, z) := ⟨_, _, _, rfl⟩
        refine fw_rg rfl ?_
        iterate 2 refine fw_pu rfl ?_
        refine fw_ex 110 (.pointer (some ⟨bP, (oP + i * 25), none⟩)) rfl rfl rfl (fun a h => (run_indexOp (h.ev rfl) (h.ev rfl) (by rw [haP]; exact idxAsk _ _ _ _ _ (by have := ask_len hS; omega) _))) ?_
        refine fw_pu rfl ?_
        refine fw_ex 112 (.slice ax xs.length cx) rfl rfl rfl (fun a h => (run_loadOp (h.ev rfl) (ldSl ((Below.cell bW314 (p := ⟨bP, oP + i * 25 + 24, none⟩) hbP).trans (hcP 24 _ rfl))))) ?_
        refine fw_ca Tryd.func16 rfl rfl rfl ((by have h := (parseN (n := xs.length) (ad := ax) (cd := cx) (l := xs) (p := (pm, pn, pe)) rfl hP (hX.below bW314) (by omega) (hT.below bW314)); dsimp only at h; exact h)) ?_
        rintro _ V335 ⟨acp334, ccp334, awp334, cwp334, afp334, cfp334, rfl, hOp334, hbp334⟩
        refine ⟨_, rfl, ?_⟩
        have b336 := bW314.trans (hbp334.mono bW314.size)
        have f337 := (below_own fW314_0 hbp334)
        iterate 4 refine fw_pu rfl ?_
        refine fw_al (t := 30) (u := fun q => .pointer (some ⟨q, 0, none⟩)) 13 [.int .i64 0, .string { data := #[] }, .bool false, .int .i64 0, .bool false, .string { data := #[] }, .string { data := #[] }, .int .i64 0, .bool false, .string { data := #[] }, .bool false, .string { data := #[] }, .bool false, .bool false, .int .i64 0, .slice none 0 0, .bool false, .int .i64 0, .bool false, .string { data := #[] }, .int .i64 0, .string { data := #[] }, .slice none 0 0, .slice none 0 0] rfl rfl rfl (fun a h => (run_allocOp (by simp [go_sem, Instr.alloc]))) ?_
        intro q338 W339 g342 s340 r341
        have := Nat.le_trans b336.size g342
        have hhoB_q338 := ob_new f337 g342
        have hhOp334_q338 := OL3.ltq hOp334 g342
        have b343 := b336.trans (s340.mono b336.size)
        have f344 := (below_own f337 s340)
        have f345 := (hOp334.below s340)
        refine fw_st r341 rfl rfl ?_
        intro W346 s347 r348
        have b349 := below_chg b343 s347 (by omega) b343.size
        have f350 := (ob_chg f344 s347 hhoB_q338)
        have f351 := (by first | exact OL3.chgN f345 s347 hhOp334_q338 | exact OL3.chg f345 s347 (by omega))
        iterate 2 refine fw_pu rfl ?_
        refine fw_dt ?_
        refine fw_sq ?_
        refine fw_rg rfl ?_
        refine fw_pu rfl ?_
        refine fw_ca Tryd.func18 rfl rfl rfl ((num18_any pe W346)) ?_
        rintro _ _ ⟨rfl, rfl⟩
        refine ⟨(.int .i64 pe), rfl, ?_⟩
        refine fw_pu rfl ?_
        refine fw_dt ?_
        rcases Bool.eq_false_or_eq_true ((pe == 0)) with hb_352 | hb_352
        · skip
          refine fw_cT rfl hb_352 ?_
          refine fw_sq ?_
          have hpe : pe = 0 := beq_iff_eq.1 hb_352
          subst hpe
          obtain ⟨hm2, hen2, hle2, hge2⟩ := pa_ok hP
          have hxne : xs ≠ [] := by rintro rfl; simp at hle2; omega
          have hxs := sl_some hX hxne
          have heL2 := (en_len hm2).2
          refine fw_rg rfl ?_
          refine fw_ld r348 rfl rfl ?_
          refine fw_ca Tryd.func24 rfl rfl rfl ((bytesOk pm _ _ _ _ _ _ _ _ _ W346 (OL3.lists f351) (may_far hm2) (hT.below b349) hm2)) ?_
          rintro _ V353 ⟨_, aD, cD, rfl, rfl, hnD, hoD, hbD⟩
          refine ⟨_, rfl, ?_⟩
          have b354 := b349.trans (hbD.mono b349.size)
          have r355 := r348.below hbD
          have f356 := (below_own f350 hbD)
          have f357 := (f351.below hbD)
          iterate 5 refine fw_pu rfl ?_
          refine fw_dt ?_
          refine fw_sq ?_
          refine fw_rg rfl ?_
          refine fw_pu rfl ?_
          refine fw_ca Tryd.func18 rfl rfl rfl ((num18_any 0 V353)) ?_
          rintro _ _ ⟨rfl, rfl⟩
          refine ⟨(.int .i64 0), rfl, ?_⟩
          iterate 5 refine fw_pu rfl ?_
          refine fw_ex 132 (.pointer (some ⟨bP, (oP + i * 25), none⟩)) rfl rfl rfl (fun a h => (run_indexOp (h.ev rfl) (h.ev rfl) (by rw [haP]; exact idxAsk _ _ _ _ _ (by have := ask_len hS; omega) _))) ?_
          refine fw_pu rfl ?_
          refine fw_ex 134 (.slice ax xs.length cx) rfl rfl rfl (fun a h => (run_loadOp (h.ev rfl) (ldSl ((Below.cell b354 (p := ⟨bP, oP + i * 25 + 24, none⟩) hbP).trans (hcP 24 _ rfl))))) ?_
          refine fw_pu rfl ?_
          refine fw_ex 136 (.bool false) rfl rfl rfl (fun a h => (run_binOp (h.ev rfl) (h.ev rfl) (by simp [go_sem]) (gtrIb _ _ _ false (decide_eq_false (by omega))))) ?_
          iterate 5 refine fw_pu rfl ?_
          refine fw_ex 142 (.pointer (some ⟨bP, (oP + i * 25), none⟩)) rfl rfl rfl (fun a h => (run_indexOp (h.ev rfl) (h.ev rfl) (by rw [haP]; exact idxAsk _ _ _ _ _ (by have := ask_len hS; omega) _))) ?_
          refine fw_pu rfl ?_
          refine fw_ex 144 (.slice ax xs.length cx) rfl rfl rfl (fun a h => (run_loadOp (h.ev rfl) (ldSl ((Below.cell b354 (p := ⟨bP, oP + i * 25 + 24, none⟩) hbP).trans (hcP 24 _ rfl))))) ?_
          refine fw_pu rfl ?_
          refine fw_ex 146 (.slice ax pn cx) rfl rfl rfl (fun a h => (run_sliceOp1 (h.ev rfl) (h.ev rfl) (slcA hxs (by omega) hcx.2.2 _))) ?_
          refine fw_ca Tryd.func20 rfl rfl rfl ((eqBytes_any _ _ (enG pm) (xs.take pn) V353 (by omega) (by rw [List.length_take]; omega) (Sl.of_own hoD).1 (sl_pre (hX.below b354) hxs hle2)).mono fun e X h => (show e = .returned (.bool true) ∧ Below V353.heap.size V353 X from ⟨h.1.trans (by rw [hen2]; simp), by obtain ⟨m, rfl⟩ := h.2; exact bdrew (Below.refl _ _) m⟩)) ?_
          rintro _ V359 ⟨rfl, hb358⟩
          refine ⟨(.bool true), rfl, ?_⟩
          have b360 := b354.trans (hb358.mono b354.size)
          have r361 := r355.below hb358
          have f362 := (below_own f356 hb358)
          have f363 := (f357.below hb358)
          have f364 := (below_own hoD hb358)
          iterate 2 refine fw_pu rfl ?_
          refine fw_dt ?_
          refine fw_cF rfl rfl ?_
          refine fw_sk ?_
          refine fw_bn ?_
          refine fw_th ?_
          refine fw_rg rfl ?_
          refine fw_pu rfl ?_
          refine fw_ex 27 (.int .i64 (((i + 1) : Nat) : Int)) rfl rfl rfl (fun a h => (run_binOp (h.ev rfl) (h.ev rfl) (by simp [go_sem]) (addIw _ _ _ _ (by omega) (by omega) (by omega)))) ?_
          refine fw_pu rfl ?_
          refine fw_dn ?_
          exact fw_th (fw_gf (hK3 _ _ _ (by omega) ⟨(i + 1), rfl, (by omega), rfl, b360⟩) ⟨rfl, (by first | rfl | (simp only [Look, cond, Nat.beq]; first | rfl | (congr 2; first | rfl | omega | (push_cast; omega)) | (simp; try omega))), trivial⟩)
        refine fw_cF rfl hb_352 ?_
        refine fw_sk ?_
        refine fw_bn ?_
        refine fw_th ?_
        refine fw_rg rfl ?_
        refine fw_pu rfl ?_
        refine fw_ex 27 (.int .i64 (((i + 1) : Nat) : Int)) rfl rfl rfl (fun a h => (run_binOp (h.ev rfl) (h.ev rfl) (by simp [go_sem]) (addIw _ _ _ _ (by omega) (by omega) (by omega)))) ?_
        refine fw_pu rfl ?_
        refine fw_dn ?_
        exact fw_th (fw_gf (hK3 _ _ _ (by omega) ⟨(i + 1), rfl, (by omega), rfl, b349⟩) ⟨rfl, (by first | rfl | (simp only [Look, cond, Nat.beq]; first | rfl | (congr 2; first | rfl | omega | (push_cast; omega)) | (simp; try omega))), trivial⟩)
      obtain ⟨hN3, hx3⟩ := hnear hb_9
      have hNc := hN3.cs
      have hNw := hN3.ws
      have hNf := hN3.fs
      refine fw_rg rfl ?_
      iterate 2 refine fw_pu rfl ?_
      refine fw_ex 36 (.pointer (some ⟨bP, (oP + i * 25), none⟩)) rfl rfl rfl (fun a h => (run_indexOp (h.ev rfl) (h.ev rfl) (by rw [haP]; exact idxAsk _ _ _ _ _ (by have := ask_len hS; omega) _))) ?_
      refine fw_pu rfl ?_
      refine fw_ex 38 (.agg (Mq.row m (.slice ac m.cs.length cc) (.slice aw m.ws.length cw) (.slice af m.fs.length cf)).toArray) rfl rfl rfl (fun a h => (run_loadOp (h.ev rfl) (run_loadAt_mid _ bP _ _ [.int .i64 m.k, .string m.cl, .bool m.clean, .int .i64 m.keep, .bool m.wI, .string m.wT, .string m.wP, .int .i64 m.wQ, .bool m.wR, .string m.us, .bool m.hu, .string m.pa, .bool m.hp, .bool m.pres, .int .i64 m.code, .slice ac m.cs.length cc, .bool m.dup, .int .i64 m.q, .bool m.re, .string m.top, .int .i64 m.id, .string m.pay, .slice aw m.ws.length cw, .slice af m.fs.length cf] _ (fun j u hj => (Below.cell b8 (p := ⟨bP, oP + i * 25 + j, none⟩) hbP).trans (hcP j u (by rw [List.getElem?_append_left (by have := (List.getElem?_eq_some_iff.1 hj).1; exact this)]; exact hj))) Tryd.underlying30 rfl (by kernel_rfl)))) ?_
      refine fw_ca Tryd.func24 rfl rfl rfl ((bytesNo m _ _ _ _ _ _ _ _ _ V7 (hL.below b8) hF (hT.below b8) hb_10)) ?_
      rintro _ V365 ⟨rfl, hbB⟩
      refine ⟨_, rfl, ?_⟩
      have b366 := b8.trans (hbB.mono b8.size)
      iterate 5 refine fw_pu rfl ?_
      refine fw_dt ?_
      refine fw_sq ?_
      refine fw_sq ?_
      refine fw_rg rfl ?_
      refine fw_pu rfl ?_
      refine fw_ca Tryd.func18 rfl rfl rfl ((num18_any 1 V365)) ?_
      rintro _ _ ⟨rfl, rfl⟩
      refine ⟨(.int .i64 1), rfl, ?_⟩
      refine fw_pu rfl ?_
      refine fw_dt ?_
      refine fw_cF rfl rfl ?_
      refine fw_sk ?_
      refine fw_th ?_
      refine fw_sq ?_
      obtain ⟨pm, pn, pe, hP⟩ : ∃ x y z, paG xs = (x, y, z) := ⟨_, _, _, rfl⟩
      refine fw_rg rfl ?_
      iterate 2 refine fw_pu rfl ?_
      refine fw_ex 110 (.pointer (some ⟨bP, (oP + i * 25), none⟩)) rfl rfl rfl (fun a h => (run_indexOp (h.ev rfl) (h.ev rfl) (by rw [haP]; exact idxAsk _ _ _ _ _ (by have := ask_len hS; omega) _))) ?_
      refine fw_pu rfl ?_
      refine fw_ex 112 (.slice ax xs.length cx) rfl rfl rfl (fun a h => (run_loadOp (h.ev rfl) (ldSl ((Below.cell b366 (p := ⟨bP, oP + i * 25 + 24, none⟩) hbP).trans (hcP 24 _ rfl))))) ?_
      refine fw_ca Tryd.func16 rfl rfl rfl ((by have h := (parseN (n := xs.length) (ad := ax) (cd := cx) (l := xs) (p := (pm, pn, pe)) rfl hP (hX.below b366) (by omega) (hT.below b366)); dsimp only at h; exact h)) ?_
      rintro _ V368 ⟨acp367, ccp367, awp367, cwp367, afp367, cfp367, rfl, hOp367, hbp367⟩
      refine ⟨_, rfl, ?_⟩
      have b369 := b366.trans (hbp367.mono b366.size)
      iterate 4 refine fw_pu rfl ?_
      refine fw_al (t := 30) (u := fun q => .pointer (some ⟨q, 0, none⟩)) 13 [.int .i64 0, .string { data := #[] }, .bool false, .int .i64 0, .bool false, .string { data := #[] }, .string { data := #[] }, .int .i64 0, .bool false, .string { data := #[] }, .bool false, .string { data := #[] }, .bool false, .bool false, .int .i64 0, .slice none 0 0, .bool false, .int .i64 0, .bool false, .string { data := #[] }, .int .i64 0, .string { data := #[] }, .slice none 0 0, .slice none 0 0] rfl rfl rfl (fun a h => (run_allocOp (by simp [go_sem, Instr.alloc]))) ?_
      intro q370 W371 g374 s372 r373
      have := Nat.le_trans b369.size g374
      have hhOp367_q370 := OL3.ltq hOp367 g374
      have b375 := b369.trans (s372.mono b369.size)
      have f376 := (hOp367.below s372)
      refine fw_st r373 rfl rfl ?_
      intro W377 s378 r379
      have b380 := below_chg b375 s378 (by omega) b375.size
      have f381 := (by first | exact OL3.chgN f376 s378 hhOp367_q370 | exact OL3.chg f376 s378 (by omega))
      iterate 2 refine fw_pu rfl ?_
      refine fw_dt ?_
      refine fw_sq ?_
      refine fw_rg rfl ?_
      refine fw_pu rfl ?_
      refine fw_ca Tryd.func18 rfl rfl rfl ((num18_any pe W377)) ?_
      rintro _ _ ⟨rfl, rfl⟩
      refine ⟨(.int .i64 pe), rfl, ?_⟩
      refine fw_pu rfl ?_
      refine fw_dt ?_
      rcases Bool.eq_false_or_eq_true ((pe == 0)) with hb_382 | hb_382
      · skip
        refine fw_cT rfl hb_382 ?_
        refine fw_sq ?_
        have hpe : pe = 0 := beq_iff_eq.1 hb_382
        subst hpe
        obtain ⟨hm2, hen2, hle2, hge2⟩ := pa_ok hP
        have hxne : xs ≠ [] := by rintro rfl; simp at hle2; omega
        have hxs := sl_some hX hxne
        have heL2 := (en_len hm2).2
        refine fw_rg rfl ?_
        refine fw_ld r379 rfl rfl ?_
        refine fw_ca Tryd.func24 rfl rfl rfl ((bytesOk pm _ _ _ _ _ _ _ _ _ W377 (OL3.lists f381) (may_far hm2) (hT.below b380) hm2)) ?_
        rintro _ V383 ⟨_, aD, cD, rfl, rfl, hnD, hoD, hbD⟩
        refine ⟨_, rfl, ?_⟩
        have b384 := b380.trans (hbD.mono b380.size)
        have r385 := r379.below hbD
        have f386 := (f381.below hbD)
        iterate 5 refine fw_pu rfl ?_
        refine fw_dt ?_
        refine fw_sq ?_
        refine fw_rg rfl ?_
        refine fw_pu rfl ?_
        refine fw_ca Tryd.func18 rfl rfl rfl ((num18_any 0 V383)) ?_
        rintro _ _ ⟨rfl, rfl⟩
        refine ⟨(.int .i64 0), rfl, ?_⟩
        iterate 5 refine fw_pu rfl ?_
        refine fw_ex 132 (.pointer (some ⟨bP, (oP + i * 25), none⟩)) rfl rfl rfl (fun a h => (run_indexOp (h.ev rfl) (h.ev rfl) (by rw [haP]; exact idxAsk _ _ _ _ _ (by have := ask_len hS; omega) _))) ?_
        refine fw_pu rfl ?_
        refine fw_ex 134 (.slice ax xs.length cx) rfl rfl rfl (fun a h => (run_loadOp (h.ev rfl) (ldSl ((Below.cell b384 (p := ⟨bP, oP + i * 25 + 24, none⟩) hbP).trans (hcP 24 _ rfl))))) ?_
        refine fw_pu rfl ?_
        refine fw_ex 136 (.bool false) rfl rfl rfl (fun a h => (run_binOp (h.ev rfl) (h.ev rfl) (by simp [go_sem]) (gtrIb _ _ _ false (decide_eq_false (by omega))))) ?_
        iterate 5 refine fw_pu rfl ?_
        refine fw_ex 142 (.pointer (some ⟨bP, (oP + i * 25), none⟩)) rfl rfl rfl (fun a h => (run_indexOp (h.ev rfl) (h.ev rfl) (by rw [haP]; exact idxAsk _ _ _ _ _ (by have := ask_len hS; omega) _))) ?_
        refine fw_pu rfl ?_
        refine fw_ex 144 (.slice ax xs.length cx) rfl rfl rfl (fun a h => (run_loadOp (h.ev rfl) (ldSl ((Below.cell b384 (p := ⟨bP, oP + i * 25 + 24, none⟩) hbP).trans (hcP 24 _ rfl))))) ?_
        refine fw_pu rfl ?_
        refine fw_ex 146 (.slice ax pn cx) rfl rfl rfl (fun a h => (run_sliceOp1 (h.ev rfl) (h.ev rfl) (slcA hxs (by omega) hcx.2.2 _))) ?_
        refine fw_ca Tryd.func20 rfl rfl rfl ((eqBytes_any _ _ (enG pm) (xs.take pn) V383 (by omega) (by rw [List.length_take]; omega) (Sl.of_own hoD).1 (sl_pre (hX.below b384) hxs hle2)).mono fun e X h => (show e = .returned (.bool true) ∧ Below V383.heap.size V383 X from ⟨h.1.trans (by rw [hen2]; simp), by obtain ⟨m, rfl⟩ := h.2; exact bdrew (Below.refl _ _) m⟩)) ?_
        rintro _ V388 ⟨rfl, hb387⟩
        refine ⟨(.bool true), rfl, ?_⟩
        have b389 := b384.trans (hb387.mono b384.size)
        have r390 := r385.below hb387
        have f391 := (f386.below hb387)
        have f392 := (below_own hoD hb387)
        iterate 2 refine fw_pu rfl ?_
        refine fw_dt ?_
        refine fw_cF rfl rfl ?_
        refine fw_sk ?_
        refine fw_bn ?_
        refine fw_th ?_
        refine fw_rg rfl ?_
        refine fw_pu rfl ?_
        refine fw_ex 27 (.int .i64 (((i + 1) : Nat) : Int)) rfl rfl rfl (fun a h => (run_binOp (h.ev rfl) (h.ev rfl) (by simp [go_sem]) (addIw _ _ _ _ (by omega) (by omega) (by omega)))) ?_
        refine fw_pu rfl ?_
        refine fw_dn ?_
        exact fw_th (fw_gf (hK3 _ _ _ (by omega) ⟨(i + 1), rfl, (by omega), rfl, b389⟩) ⟨rfl, (by first | rfl | (simp only [Look, cond, Nat.beq]; first | rfl | (congr 2; first | rfl | omega | (push_cast; omega)) | (simp; try omega))), trivial⟩)
      refine fw_cF rfl hb_382 ?_
      refine fw_sk ?_
      refine fw_bn ?_
      refine fw_th ?_
      refine fw_rg rfl ?_
      refine fw_pu rfl ?_
      refine fw_ex 27 (.int .i64 (((i + 1) : Nat) : Int)) rfl rfl rfl (fun a h => (run_binOp (h.ev rfl) (h.ev rfl) (by simp [go_sem]) (addIw _ _ _ _ (by omega) (by omega) (by omega)))) ?_
      refine fw_pu rfl ?_
      refine fw_dn ?_
      exact fw_th (fw_gf (hK3 _ _ _ (by omega) ⟨(i + 1), rfl, (by omega), rfl, b380⟩) ⟨rfl, (by first | rfl | (simp only [Look, cond, Nat.beq]; first | rfl | (congr 2; first | rfl | omega | (push_cast; omega)) | (simp; try omega))), trivial⟩)
    refine fw_cF rfl hb_5 ?_
    refine fw_xt ?_
    refine fw_te ?_
    refine fw_te ?_
    refine fw_be ?_
    refine fw_th ?_
    refine fw_sq ?_
    refine fw_rg rfl ?_
    refine fw_ca Tryd.func22 rfl rfl rfl ((wakesG (hT.below bW1))) ?_
    rintro _ V394 ⟨rfl, hb393⟩
    refine ⟨(.bool true), rfl, ?_⟩
    have b395 := bW1.trans (hb393.mono bW1.size)
    refine fw_pu rfl ?_
    refine fw_dt ?_
    refine fw_rt ?_
    refine ⟨fun a h => ?_⟩
    exact ow_ret1 rfl h.df (h.g 2 rfl) ⟨rfl, b395⟩
  refine fw_kn 22 rfl hb_4 ?_
  iterate 3 refine fw_pu rfl ?_
  refine fw_dt ?_
  refine fw_cF rfl rfl ?_
  refine fw_xt ?_
  refine fw_te ?_
  refine fw_te ?_
  refine fw_be ?_
  refine fw_th ?_
  refine fw_sq ?_
  refine fw_rg rfl ?_
  refine fw_ca Tryd.func22 rfl rfl rfl ((wakesG (hT.below bW1))) ?_
  rintro _ V397 ⟨rfl, hb396⟩
  refine ⟨(.bool true), rfl, ?_⟩
  have b398 := bW1.trans (hb396.mono bW1.size)
  refine fw_pu rfl ?_
  refine fw_dt ?_
  refine fw_rt ?_
  refine ⟨fun a h => ?_⟩
  exact ow_ret1 rfl h.df (h.g 2 rfl) ⟨rfl, b398⟩
end Go.Proofs.YtpgnlhfokffioaaDoor