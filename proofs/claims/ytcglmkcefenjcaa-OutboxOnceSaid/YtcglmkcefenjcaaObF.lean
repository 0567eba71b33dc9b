/-
  An outbox: what came through.
-/
import Derived.Test.YtcglmkcefenjcaaObE
namespace Go.Proofs.Ytcglmkcefenjcaa
open Go.RowKit Go.Lib
def dAck (x : EFl) : Bool := x.m.q == 1
def dComp (x : EFl) : Bool := x.rc
theorem arg3 {a : Act} {x y z : Operand} {u v t : Value} (hx : a.eval x = u) (hy : a.eval y = v) (hz : a.eval z = t) : (#[x, y, z]).map a.eval = #[u, v, t] := by simp [hx, hy, hz]
set_option maxRecDepth 100000 in
set_option maxHeartbeats 4000000 in
theorem cloAck_any (x : EFl) (w : World) :
    Calls Try.prog 94 #[.agg #[.int .i64 x.id, .string x.m.t, .string x.m.p, .int .i64 x.m.q, .bool x.m.r, .bool x.rc]] w fun e w' => e = .returned (.bool (dAck x)) ∧ Below w.heap.size w w' := by
  have hb0 := Below.refl w.heap.size w
  refine fw_en 7 [(0, .agg #[.int .i64 x.id, .string x.m.t, .string x.m.p, .int .i64 x.m.q, .bool x.m.r, .bool x.rc])] Try.func94 rfl Try.ntmps94 rfl ⟨rfl, trivial⟩ ?_
  refine fw_sq ?_
  refine fw_rg rfl ?_
  refine fw_bx rfl (cs := [.int .i64 x.id, .string x.m.t, .string x.m.p, .int .i64 x.m.q, .bool x.m.r, .bool x.rc]) rfl ?_
  intro q1 W2 g5 s3 r4
  have := Nat.le_trans hb0.size g5
  have b6 := hb0.trans (s3.mono hb0.size)
  refine fw_pu rfl ?_
  refine fw_dt ?_
  refine fw_sq ?_
  refine fw_rg rfl ?_
  iterate 2 refine fw_pu rfl ?_
  refine fw_ld r4 rfl rfl ?_
  iterate 2 refine fw_pu rfl ?_
  refine fw_dt ?_
  refine fw_rt ?_
  refine ⟨fun a h => ?_⟩
  exact ow_ret1 rfl h.df (h.g 2 rfl) ⟨rfl, b6⟩
set_option maxRecDepth 100000 in
set_option maxHeartbeats 4000000 in
theorem remAck_any (o : EO) (af aq : Option Addr) (nf nq cf cq : Nat) (id : Int) (z : EO) (ps : List EPk) (w : World) (hF : SlR w 6 (.slice af nf cf) (o.fl.map rowFl)) (hQ : SlR w 4 (.slice aq nq cq) (o.qu.map rowMsg)) (hlf : o.fl.length ≤ 100000) (hlq : o.qu.length ≤ 100000) (hz : remO dAck o id = some (z, ps)) :
    Calls Try.prog 92 #[.agg #[.int .i64 o.last, .slice af nf cf, .slice aq nq cq], .int .i64 id, (.func (.func 94) #[] #[])] w fun e w' => ResO w z ps (remE dAck o id) e w' := by
  obtain rfl : nf = o.fl.length := by have := slR_len hF; simpa using this
  obtain rfl : nq = o.qu.length := by have := slR_len hQ; simpa using this
  have ho : Owns w.heap.size [] [] w := Owns.nil (fun k hk => nomatch hk)
  have hb0 := Below.refl w.heap.size w
  refine fw_en 44 [(0, .agg #[.int .i64 o.last, .slice af o.fl.length cf, .slice aq o.qu.length cq]), (1, .int .i64 id), (2, (.func (.func 94) #[] #[]))] Try.func92 rfl Try.ntmps92 rfl ⟨rfl, rfl, rfl, trivial⟩ ?_
  refine fw_sq ?_
  refine fw_rg rfl ?_
  refine fw_bx rfl (cs := [.int .i64 o.last, .slice af o.fl.length cf, .slice aq o.qu.length cq]) rfl ?_
  intro q1 W2 g5 s3 r4
  have := Nat.le_trans hb0.size g5
  have b6 := hb0.trans (s3.mono hb0.size)
  have f7 := (Owns.hold ho s3 g5 r4.2.2)
  refine fw_al (t := 79) (u := fun q => .pointer (some ⟨q, 0, none⟩)) 6 [.int .i64 0, .slice none 0 0, .slice none 0 0] rfl rfl rfl (fun a h => (run_allocOp (by simp [go_sem, Instr.alloc]))) ?_
  intro q8 W9 g12 s10 r11
  have := Nat.le_trans b6.size g12
  have := r4.lt g12
  have b13 := b6.trans (s10.mono b6.size)
  have r14 := r4.below s10
  have f15 := (Owns.hold f7 s10 g12 r11.2.2)
  iterate 2 refine fw_pu rfl ?_
  refine fw_dt ?_
  refine fw_sq ?_
  refine fw_sq ?_
  refine fw_rg rfl ?_
  refine fw_ld r14 rfl rfl ?_
  refine fw_ca Try.func86 rfl rfl rfl ((check_any o af aq _ _ cf cq W9 (hF.below b13) (hQ.below b13) hlf hlq)) ?_
  rintro _ V17 ⟨rfl, hb16⟩
  refine ⟨(.int .i64 (ckI o)), rfl, ?_⟩
  have b18 := b13.trans (hb16.mono b13.size)
  have r19 := r14.below hb16
  have r20 := r11.below hb16
  have f21 := (Owns.below f15 hb16)
  refine fw_pu rfl ?_
  refine fw_dt ?_
  rcases Bool.eq_false_or_eq_true (((ckI o) == 0)) with hb_22 | hb_22
  · skip
    refine fw_cF rfl (not_of hb_22) ?_
    refine fw_sk ?_
    refine fw_th ?_
    refine fw_sq ?_
    refine fw_rg rfl ?_
    refine fw_pu rfl ?_
    refine fw_ld r19 rfl rfl ?_
    refine fw_pu rfl ?_
    refine fw_ca Try.func95 rfl rfl rfl ((find_any o.fl af _ cf id V17 (hF.below b18) (by omega))) ?_
    rintro _ V24 ⟨rfl, hb23⟩
    refine ⟨(.int .i64 (findO o.fl id)), rfl, ?_⟩
    have b25 := b18.trans (hb23.mono b18.size)
    have r26 := r19.below hb23
    have r27 := r20.below hb23
    have f28 := (Owns.below f21 hb23)
    refine fw_pu rfl ?_
    refine fw_dt ?_
    refine fw_sq ?_
    refine fw_sq ?_
    refine fw_rg rfl ?_
    iterate 3 refine fw_pu rfl ?_
    rcases Bool.eq_false_or_eq_true ((decide ((findO o.fl id) < 0))) with hb_29 | hb_29
    · skip
      refine fw_kn 21 rfl hb_29 ?_
      iterate 9 refine fw_pu rfl ?_
      refine fw_dt ?_
      refine fw_cT rfl rfl ?_
      refine fw_sq ?_
      refine fw_rg rfl ?_
      refine fw_ex 31 (.agg #[.int .i64 0, .slice none 0 0, .slice none 0 0]) rfl rfl rfl (fun a h => (run_buildOp (vs := #[]) (by simp) (by kernel_rfl))) ?_
      refine fw_st r27 rfl rfl ?_
      intro W30 s31 r32
      have b33 := below_chg b25 s31 (by omega) b25.size
      have r34 := r26.chg s31 (by omega)
      have f35 := (Owns.chg f28 s31 (by simp))
      iterate 2 refine fw_pu rfl ?_
      refine fw_dt ?_
      refine fw_rt ?_
      refine fw_tr ?_
      refine ⟨fun a h => ?_⟩
      have hE : remE dAck o id = 3 := by unfold remE; rw [ck_t hb_22]; exact if_pos (of_decide_eq_true hb_29)
      have hz0 : some (o0, ([] : List EPk)) = some (z, ps) := by rw [← hz]; unfold remO; rw [hE, if_neg (by decide)]
      exact ow_retCell2 rfl h.df (h.g 6 rfl) (run_loadVar_mid _ _ 0 _ [.int .i64 0, .slice none 0 0, .slice none 0 0] _ (r32.range 0 _ (fun j v hj => by rw [Nat.zero_add j]; exact hj)) Try.underlying79 rfl (by kernel_rfl)) (h.g 7 rfl) (h.g 8 rfl) (hE.symm ▸ ResO.bad (hz0) b33)
    refine fw_kn 21 rfl hb_29 ?_
    iterate 2 refine fw_pu rfl ?_
    refine fw_ld r26 rfl rfl ?_
    refine fw_pu rfl ?_
    obtain ⟨i, x0, hfi, hx0⟩ := fnd_some (show 0 ≤ (findO o.fl id) by have h := of_decide_eq_false hb_29; omega)
    obtain ⟨bF, oF, rfl, hbF, hcF⟩ := slR_at hF (i := i) (q := rowFl x0) (by rw [List.getElem?_map, hx0]; rfl)
    have hiL := (List.getElem?_eq_some_iff.1 hx0).1
    rw [hfi]
    have hdi := hb_29
    rw [hfi] at hdi
    refine fw_ex 26 (.pointer (some ⟨bF, (oF + i * 6), none⟩)) rfl rfl rfl (fun a h => (run_indexOp (h.ev rfl) (h.ev rfl) (idxFl _ _ _ _ _ hiL _))) ?_
    refine fw_ex 27 (.agg #[.int .i64 x0.id, .string x0.m.t, .string x0.m.p, .int .i64 x0.m.q, .bool x0.m.r, .bool x0.rc]) rfl rfl rfl (fun a h => (run_loadOp (h.ev rfl) (ldFl (fun y u hj => (Below.cell b25 (p := ⟨bF, oF + i * 6 + y, none⟩) hbF).trans (hcF y u hj))))) ?_
    refine fw_cl 28 rfl rfl rfl (fun a h => run_callV Try.func94 rfl rfl (h.ev rfl) (h.ev rfl)) (cloAck_any x0 V24) ?_
    rintro _ V36 ⟨rfl, hb37⟩
    refine ⟨_, rfl, ?_⟩
    have b38 := b25.trans (hb37.mono b25.size)
    have r39 := r26.below hb37
    have r40 := r27.below hb37
    have f41 := (Owns.below f28 hb37)
    iterate 2 refine fw_pu rfl ?_
    refine fw_dt ?_
    rcases Bool.eq_false_or_eq_true ((dAck x0)) with hb_42 | hb_42
    · skip
      refine fw_cF rfl (not_of hb_42) ?_
      refine fw_sk ?_
      refine fw_th ?_
      refine fw_sq ?_
      have hle := check_le (ck_t hb_22)
      refine fw_rg rfl ?_
      refine fw_ld r39 rfl rfl ?_
      refine fw_ca Try.func88 rfl rfl rfl ((obTwin o (some ⟨bF, oF, none⟩) aq _ _ cf cq V36 (hF.below b38) (hQ.below b38) hlf hlq)) ?_
      rintro _ V43 ⟨af44, cf44, aq44, cq44, rfl, ho44, hb44⟩
      refine ⟨_, rfl, ?_⟩
      have hlt44_q1 := r39.2.2
      have hlt44_q8 := r40.2.2
      have hoH44 : Owns V36.heap.size (q1 :: q8 :: []) ((orF (.slice af44 o.fl.length cf44) o.fl) :: (orM (.slice aq44 o.qu.length cq44) o.qu) :: []) V43 := Owns.outH ho44 (fun j hj => by simp only [List.mem_cons, List.not_mem_nil, or_false] at hj; rcases hj with rfl | rfl <;> assumption) hb44.size
      have hoM44 : Owns w.heap.size (q1 :: q8 :: []) ((orF (.slice af44 o.fl.length cf44) o.fl) :: (orM (.slice aq44 o.qu.length cq44) o.qu) :: []) V43 := Owns.mono hoH44 b38.size
      have b45 := b38.trans (hb44.mono b38.size)
      have r46 := r39.below hb44
      have r47 := r40.below hb44
      refine fw_st r46 rfl rfl ?_
      intro W48 s49 r50
      have b51 := below_chg b45 s49 (by omega) b45.size
      have r52 := r47.chg s49 (by omega)
      have f53 := (Owns.chg hoM44 s49 (by simp))
      refine fw_dt ?_
      refine fw_sq ?_
      refine fw_rg rfl ?_
      refine fw_pu rfl ?_
      refine fw_ld r50 rfl rfl ?_
      iterate 2 refine fw_pu rfl ?_
      refine fw_ex 38 (.int .i64 (((i + 1) : Nat) : Int)) rfl rfl rfl (fun a h => (run_binOp (h.ev rfl) (h.ev rfl) (by simp [go_sem]) (addIw _ _ _ _ (by omega) (by omega) (by omega)))) ?_
      refine fw_ca Try.func116 rfl rfl rfl ((dFl_any w.heap.size i _ o.fl W48 (Owns.get f53 (i := 0) rfl) hiL)) ?_
      rintro _ V54 ⟨vx55, rfl, hog55, hgr55⟩
      refine ⟨_, rfl, ?_⟩
      obtain ⟨ax55, cx55, rfl⟩ := own_slice hog55
      have hnq56 := Owns.notHeld f53 (i := 0) rfl
      have how56 := Owns.get f53 (i := 0) rfl
      have rN57 := rowAt_keep r50 hgr55.1 (fun e => hnq56 _ e.symm (by simp))
      have rN58 := rowAt_keep r52 hgr55.1 (fun e => hnq56 _ e.symm (by simp))
      have hoN56 : Owns w.heap.size (q1 :: q8 :: []) ((orF (.slice ax55 (o.fl.eraseIdx i).length cx55) (o.fl.eraseIdx i)) :: (orM (.slice aq44 o.qu.length cq44) o.qu) :: []) V54 := Owns.upd (r' := (orF (.slice ax55 (o.fl.eraseIdx i).length cx55) (o.fl.eraseIdx i))) f53 0 rfl hgr55 hog55
      have b59 := (b51.trans (grew_low hgr55 (Nat.le_trans (Nat.le_refl _) b51.size) (fun k hk => (blk_lt how56 hk).1)))
      refine fw_pu rfl ?_
      refine fw_st rN57 rfl rfl ?_
      intro W60 s61 r62
      have b63 := below_chg b59 s61 (by omega) b59.size
      have r64 := rN58.chg s61 (by omega)
      have f65 := (Owns.chg hoN56 s61 (by simp))
      refine fw_dt ?_
      refine fw_sq ?_
      have hEo : remE dAck o id = 0 := by unfold remE; rw [ck_t hb_22]; show (if findO o.fl id < 0 then (3 : Int) else _) = _; rw [hfi, if_neg (by omega), Int.toNat_natCast, hx0]; show (if dAck x0 = true then (0 : Int) else 3) = _; rw [hb_42]; rfl
      have hzf : fillO 4 ⟨o.last, o.fl.eraseIdx i, o.qu⟩ = some (z, ps) := by rw [← hz]; unfold remO; rw [hEo, if_pos rfl, hfi, Int.toNat_natCast]
      refine fw_rg rfl ?_
      have hoS67 := Owns.subH (H := q1 :: [q8]) f65 (fun k hk => by simp only [List.mem_cons, List.not_mem_nil, or_false] at hk ⊢; rcases hk with rfl | rfl <;> simp)
      have hqk67 : q1 ∉ [q8] := by simp only [List.mem_cons, List.not_mem_nil, or_false]; omega
      have hBq67 : w.heap.size ≤ q1 := by omega
      refine fw_ca Try.func89 rfl rfl rfl ((obFill (o := ⟨o.last, o.fl.eraseIdx i, o.qu⟩) hzf (by show (o.fl.eraseIdx i).length ≤ 4; have h9 := List.length_eraseIdx_le o.fl i; omega) (by exact hlq) r62 hoS67 hqk67 hBq67)) ?_
      rintro _ V66 ⟨af67, cf67, aq67, cq67, ap67, cp67, rfl, hr67, ho67, hK67, hB67⟩
      refine ⟨_, rfl, ?_⟩
      have rK68 := hr67
      have rK69 := Kz.row hK67 (by simp) r64
      have b70 := b63.trans hB67
      have hoF67 : Owns w.heap.size (q1 :: q8 :: []) ((orF (.slice af67 z.fl.length cf67) z.fl) :: (orM (.slice aq67 z.qu.length cq67) z.qu) :: (orP (.slice ap67 ps.length cp67) ps) :: []) V66 := ho67
      refine fw_pu rfl ?_
      refine fw_dt ?_
      refine fw_sq ?_
      refine fw_rg rfl ?_
      refine fw_ld rK68 rfl rfl ?_
      refine fw_pu rfl ?_
      refine fw_st rK69 rfl rfl ?_
      intro W71 s72 r73
      have b74 := below_chg b70 s72 (by omega) b70.size
      have r75 := rK68.chg s72 (by omega)
      have f76 := (Owns.chg hoF67 s72 (by simp))
      iterate 2 refine fw_pu rfl ?_
      refine fw_dt ?_
      refine fw_rt ?_
      refine ⟨fun a h => ?_⟩
      have hE : remE dAck o id = 0 := by unfold remE; rw [ck_t hb_22]; show (if findO o.fl id < 0 then (3 : Int) else _) = _; rw [hfi, if_neg (by omega), Int.toNat_natCast, hx0]; show (if dAck x0 = true then (0 : Int) else 3) = _; rw [hb_42]; rfl
      exact ow_retCell2 rfl h.df (h.g 6 rfl) (run_loadVar_mid _ _ 0 _ [.int .i64 z.last, .slice af67 z.fl.length cf67, .slice aq67 z.qu.length cq67] _ (r73.range 0 _ (fun j v hj => by rw [Nat.zero_add j]; exact hj)) Try.underlying79 rfl (by kernel_rfl)) (h.g 7 rfl) (h.g 8 rfl) (hE.symm ▸ ⟨af67, cf67, aq67, cq67, ap67, cp67, rfl, (Owns.subH (H := []) f76 (fun k hk => nomatch hk)), b74⟩)
    refine fw_cT rfl (not_of hb_42) ?_
    refine fw_sq ?_
    refine fw_rg rfl ?_
    refine fw_ex 31 (.agg #[.int .i64 0, .slice none 0 0, .slice none 0 0]) rfl rfl rfl (fun a h => (run_buildOp (vs := #[]) (by simp) (by kernel_rfl))) ?_
    refine fw_st r40 rfl rfl ?_
    intro W77 s78 r79
    have b80 := below_chg b38 s78 (by omega) b38.size
    have r81 := r39.chg s78 (by omega)
    have f82 := (Owns.chg f41 s78 (by simp))
    iterate 2 refine fw_pu rfl ?_
    refine fw_dt ?_
    refine fw_rt ?_
    refine fw_tr ?_
    refine ⟨fun a h => ?_⟩
    have hE : remE dAck o id = 3 := by unfold remE; rw [ck_t hb_22]; show (if findO o.fl id < 0 then (3 : Int) else _) = _; rw [hfi, if_neg (by omega), Int.toNat_natCast, hx0]; show (if dAck x0 = true then (0 : Int) else 3) = _; rw [hb_42]; rfl
    have hz0 : some (o0, ([] : List EPk)) = some (z, ps) := by rw [← hz]; unfold remO; rw [hE, if_neg (by decide)]
    exact ow_retCell2 rfl h.df (h.g 6 rfl) (run_loadVar_mid _ _ 0 _ [.int .i64 0, .slice none 0 0, .slice none 0 0] _ (r79.range 0 _ (fun j v hj => by rw [Nat.zero_add j]; exact hj)) Try.underlying79 rfl (by kernel_rfl)) (h.g 7 rfl) (h.g 8 rfl) (hE.symm ▸ ResO.bad (hz0) b80)
  refine fw_cT rfl (not_of hb_22) ?_
  refine fw_sq ?_
  refine fw_rg rfl ?_
  refine fw_ex 14 (.agg #[.int .i64 0, .slice none 0 0, .slice none 0 0]) rfl rfl rfl (fun a h => (run_buildOp (vs := #[]) (by simp) (by kernel_rfl))) ?_
  refine fw_st r20 rfl rfl ?_
  intro W83 s84 r85
  have b86 := below_chg b18 s84 (by omega) b18.size
  have r87 := r19.chg s84 (by omega)
  have f88 := (Owns.chg f21 s84 (by simp))
  iterate 2 refine fw_pu rfl ?_
  refine fw_dt ?_
  refine fw_rt ?_
  refine fw_tr ?_
  refine ⟨fun a h => ?_⟩
  have hE : remE dAck o id = 1 := by unfold remE; rw [ck_f hb_22]; rfl
  have hz0 : some (o0, ([] : List EPk)) = some (z, ps) := by rw [← hz]; unfold remO; rw [hE, if_neg (by decide)]
  exact ow_retCell2 rfl h.df (h.g 6 rfl) (run_loadVar_mid _ _ 0 _ [.int .i64 0, .slice none 0 0, .slice none 0 0] _ (r85.range 0 _ (fun j v hj => by rw [Nat.zero_add j]; exact hj)) Try.underlying79 rfl (by kernel_rfl)) (h.g 7 rfl) (h.g 8 rfl) (hE.symm ▸ ResO.bad (hz0) b86)
set_option maxRecDepth 100000 in
set_option maxHeartbeats 4000000 in
theorem obAck (o : EO) (af aq : Option Addr) (nf nq cf cq : Nat) (id : Int) (z : EO) (ps : List EPk) (w : World) (hF : SlR w 6 (.slice af nf cf) (o.fl.map rowFl)) (hQ : SlR w 4 (.slice aq nq cq) (o.qu.map rowMsg)) (hlf : o.fl.length ≤ 100000) (hlq : o.qu.length ≤ 100000) (hz : remO dAck o id = some (z, ps)) :
    Calls Try.prog 58 #[.agg #[.int .i64 o.last, .slice af nf cf, .slice aq nq cq], .int .i64 id] w fun e w' => ResO w z ps (remE dAck o id) e w' := by
  obtain rfl : nf = o.fl.length := by have := slR_len hF; simpa using this
  obtain rfl : nq = o.qu.length := by have := slR_len hQ; simpa using this
  have ho : Owns w.heap.size [] [] w := Owns.nil (fun k hk => nomatch hk)
  have hb0 := Below.refl w.heap.size w
  refine fw_en 13 [(0, .agg #[.int .i64 o.last, .slice af o.fl.length cf, .slice aq o.qu.length cq]), (1, .int .i64 id)] Try.func58 rfl Try.ntmps58 rfl ⟨rfl, rfl, trivial⟩ ?_
  refine fw_sq ?_
  refine fw_rg rfl ?_
  refine fw_bx rfl (cs := [.int .i64 o.last, .slice af o.fl.length cf, .slice aq o.qu.length cq]) rfl ?_
  intro q1 W2 g5 s3 r4
  have := Nat.le_trans hb0.size g5
  have b6 := hb0.trans (s3.mono hb0.size)
  have f7 := (Owns.hold ho s3 g5 r4.2.2)
  refine fw_al (t := 79) (u := fun q => .pointer (some ⟨q, 0, none⟩)) 4 [.int .i64 0, .slice none 0 0, .slice none 0 0] rfl rfl rfl (fun a h => (run_allocOp (by simp [go_sem, Instr.alloc]))) ?_
  intro q8 W9 g12 s10 r11
  have := Nat.le_trans b6.size g12
  have := r4.lt g12
  have b13 := b6.trans (s10.mono b6.size)
  have r14 := r4.below s10
  have f15 := (Owns.hold f7 s10 g12 r11.2.2)
  iterate 2 refine fw_pu rfl ?_
  refine fw_dt ?_
  refine fw_sq ?_
  refine fw_rg rfl ?_
  refine fw_ld r14 rfl rfl ?_
  refine fw_pu rfl ?_
  refine fw_cl 9 rfl rfl rfl (fun a h => run_callOp Try.func92 rfl rfl (vs := #[.agg #[.int .i64 o.last, .slice af o.fl.length cf, .slice aq o.qu.length cq], .int .i64 id, (.func (.func 94) #[] #[])]) (arg3 (h.ev rfl) (h.ev rfl) rfl)) ((remAck_any o af aq _ _ cf cq id z ps W9 (hF.below b13) (hQ.below b13) hlf hlq hz)) ?_
  rintro _ V16 ⟨af17, cf17, aq17, cq17, ap17, cp17, rfl, ho17, hb17⟩
  refine ⟨_, rfl, ?_⟩
  have hlt17_q1 := r14.2.2
  have hlt17_q8 := r11.2.2
  have hoH17 : Owns W9.heap.size (q1 :: q8 :: []) ((orF (.slice af17 z.fl.length cf17) z.fl) :: (orM (.slice aq17 z.qu.length cq17) z.qu) :: (orP (.slice ap17 ps.length cp17) ps) :: []) V16 := Owns.outH ho17 (fun j hj => by simp only [List.mem_cons, List.not_mem_nil, or_false] at hj; rcases hj with rfl | rfl <;> assumption) hb17.size
  have hoM17 : Owns w.heap.size (q1 :: q8 :: []) ((orF (.slice af17 z.fl.length cf17) z.fl) :: (orM (.slice aq17 z.qu.length cq17) z.qu) :: (orP (.slice ap17 ps.length cp17) ps) :: []) V16 := Owns.mono hoH17 b13.size
  have b18 := b13.trans (hb17.mono b13.size)
  have r19 := r14.below hb17
  have r20 := r11.below hb17
  iterate 3 refine fw_pu rfl ?_
  refine fw_st r20 rfl rfl ?_
  intro W21 s22 r23
  have b24 := below_chg b18 s22 (by omega) b18.size
  have r25 := r19.chg s22 (by omega)
  have f26 := (Owns.chg hoM17 s22 (by simp))
  iterate 2 refine fw_pu rfl ?_
  refine fw_dt ?_
  refine fw_rt ?_
  refine ⟨fun a h => ?_⟩
  exact ow_retCell2 rfl h.df (h.g 4 rfl) (run_loadVar_mid _ _ 0 _ [.int .i64 z.last, .slice af17 z.fl.length cf17, .slice aq17 z.qu.length cq17] _ (r23.range 0 _ (fun j v hj => by rw [Nat.zero_add j]; exact hj)) Try.underlying79 rfl (by kernel_rfl)) (h.g 5 rfl) (h.g 6 rfl) ⟨af17, cf17, aq17, cq17, ap17, cp17, rfl, Owns.subH f26 (fun k hk => nomatch hk), b24⟩
set_option maxRecDepth 100000 in
set_option maxHeartbeats 4000000 in
theorem cloComp_any (x : EFl) (w : World) :
    Calls Try.prog 93 #[.agg #[.int .i64 x.id, .string x.m.t, .string x.m.p, .int .i64 x.m.q, .bool x.m.r, .bool x.rc]] w fun e w' => e = .returned (.bool (dComp x)) ∧ Below w.heap.size w w' := by
  have hb0 := Below.refl w.heap.size w
  refine fw_en 5 [(0, .agg #[.int .i64 x.id, .string x.m.t, .string x.m.p, .int .i64 x.m.q, .bool x.m.r, .bool x.rc])] Try.func93 rfl Try.ntmps93 rfl ⟨rfl, trivial⟩ ?_
  refine fw_sq ?_
  refine fw_rg rfl ?_
  refine fw_bx rfl (cs := [.int .i64 x.id, .string x.m.t, .string x.m.p, .int .i64 x.m.q, .bool x.m.r, .bool x.rc]) rfl ?_
  intro q1 W2 g5 s3 r4
  have := Nat.le_trans hb0.size g5
  have b6 := hb0.trans (s3.mono hb0.size)
  refine fw_pu rfl ?_
  refine fw_dt ?_
  refine fw_sq ?_
  refine fw_rg rfl ?_
  refine fw_pu rfl ?_
  refine fw_ld r4 rfl rfl ?_
  refine fw_pu rfl ?_
  refine fw_dt ?_
  refine fw_rt ?_
  refine ⟨fun a h => ?_⟩
  exact ow_ret1 rfl h.df (h.g 2 rfl) ⟨rfl, b6⟩
set_option maxRecDepth 100000 in
set_option maxHeartbeats 4000000 in
theorem remComp_any (o : EO) (af aq : Option Addr) (nf nq cf cq : Nat) (id : Int) (z : EO) (ps : List EPk) (w : World) (hF : SlR w 6 (.slice af nf cf) (o.fl.map rowFl)) (hQ : SlR w 4 (.slice aq nq cq) (o.qu.map rowMsg)) (hlf : o.fl.length ≤ 100000) (hlq : o.qu.length ≤ 100000) (hz : remO dComp o id = some (z, ps)) :
    Calls Try.prog 92 #[.agg #[.int .i64 o.last, .slice af nf cf, .slice aq nq cq], .int .i64 id, (.func (.func 93) #[] #[])] w fun e w' => ResO w z ps (remE dComp o id) e w' := by
  obtain rfl : nf = o.fl.length := by have := slR_len hF; simpa using this
  obtain rfl : nq = o.qu.length := by have := slR_len hQ; simpa using this
  have ho : Owns w.heap.size [] [] w := Owns.nil (fun k hk => nomatch hk)
  have hb0 := Below.refl w.heap.size w
  refine fw_en 44 [(0, .agg #[.int .i64 o.last, .slice af o.fl.length cf, .slice aq o.qu.length cq]), (1, .int .i64 id), (2, (.func (.func 93) #[] #[]))] Try.func92 rfl Try.ntmps92 rfl ⟨rfl, rfl, rfl, trivial⟩ ?_
  refine fw_sq ?_
  refine fw_rg rfl ?_
  refine fw_bx rfl (cs := [.int .i64 o.last, .slice af o.fl.length cf, .slice aq o.qu.length cq]) rfl ?_
  intro q1 W2 g5 s3 r4
  have := Nat.le_trans hb0.size g5
  have b6 := hb0.trans (s3.mono hb0.size)
  have f7 := (Owns.hold ho s3 g5 r4.2.2)
  refine fw_al (t := 79) (u := fun q => .pointer (some ⟨q, 0, none⟩)) 6 [.int .i64 0, .slice none 0 0, .slice none 0 0] rfl rfl rfl (fun a h => (run_allocOp (by simp [go_sem, Instr.alloc]))) ?_
  intro q8 W9 g12 s10 r11
  have := Nat.le_trans b6.size g12
  have := r4.lt g12
  have b13 := b6.trans (s10.mono b6.size)
  have r14 := r4.below s10
  have f15 := (Owns.hold f7 s10 g12 r11.2.2)
  iterate 2 refine fw_pu rfl ?_
  refine fw_dt ?_
  refine fw_sq ?_
  refine fw_sq ?_
  refine fw_rg rfl ?_
  refine fw_ld r14 rfl rfl ?_
  refine fw_ca Try.func86 rfl rfl rfl ((check_any o af aq _ _ cf cq W9 (hF.below b13) (hQ.below b13) hlf hlq)) ?_
  rintro _ V17 ⟨rfl, hb16⟩
  refine ⟨(.int .i64 (ckI o)), rfl, ?_⟩
  have b18 := b13.trans (hb16.mono b13.size)
  have r19 := r14.below hb16
  have r20 := r11.below hb16
  have f21 := (Owns.below f15 hb16)
  refine fw_pu rfl ?_
  refine fw_dt ?_
  rcases Bool.eq_false_or_eq_true (((ckI o) == 0)) with hb_22 | hb_22
  · skip
    refine fw_cF rfl (not_of hb_22) ?_
    refine fw_sk ?_
    refine fw_th ?_
    refine fw_sq ?_
    refine fw_rg rfl ?_
    refine fw_pu rfl ?_
    refine fw_ld r19 rfl rfl ?_
    refine fw_pu rfl ?_
    refine fw_ca Try.func95 rfl rfl rfl ((find_any o.fl af _ cf id V17 (hF.below b18) (by omega))) ?_
    rintro _ V24 ⟨rfl, hb23⟩
    refine ⟨(.int .i64 (findO o.fl id)), rfl, ?_⟩
    have b25 := b18.trans (hb23.mono b18.size)
    have r26 := r19.below hb23
    have r27 := r20.below hb23
    have f28 := (Owns.below f21 hb23)
    refine fw_pu rfl ?_
    refine fw_dt ?_
    refine fw_sq ?_
    refine fw_sq ?_
    refine fw_rg rfl ?_
    iterate 3 refine fw_pu rfl ?_
    rcases Bool.eq_false_or_eq_true ((decide ((findO o.fl id) < 0))) with hb_29 | hb_29
    · skip
      refine fw_kn 21 rfl hb_29 ?_
      iterate 9 refine fw_pu rfl ?_
      refine fw_dt ?_
      refine fw_cT rfl rfl ?_
      refine fw_sq ?_
      refine fw_rg rfl ?_
      refine fw_ex 31 (.agg #[.int .i64 0, .slice none 0 0, .slice none 0 0]) rfl rfl rfl (fun a h => (run_buildOp (vs := #[]) (by simp) (by kernel_rfl))) ?_
      refine fw_st r27 rfl rfl ?_
      intro W30 s31 r32
      have b33 := below_chg b25 s31 (by omega) b25.size
      have r34 := r26.chg s31 (by omega)
      have f35 := (Owns.chg f28 s31 (by simp))
      iterate 2 refine fw_pu rfl ?_
      refine fw_dt ?_
      refine fw_rt ?_
      refine fw_tr ?_
      refine ⟨fun a h => ?_⟩
      have hE : remE dComp o id = 3 := by unfold remE; rw [ck_t hb_22]; exact if_pos (of_decide_eq_true hb_29)
      have hz0 : some (o0, ([] : List EPk)) = some (z, ps) := by rw [← hz]; unfold remO; rw [hE, if_neg (by decide)]
      exact ow_retCell2 rfl h.df (h.g 6 rfl) (run_loadVar_mid _ _ 0 _ [.int .i64 0, .slice none 0 0, .slice none 0 0] _ (r32.range 0 _ (fun j v hj => by rw [Nat.zero_add j]; exact hj)) Try.underlying79 rfl (by kernel_rfl)) (h.g 7 rfl) (h.g 8 rfl) (hE.symm ▸ ResO.bad (hz0) b33)
    refine fw_kn 21 rfl hb_29 ?_
    iterate 2 refine fw_pu rfl ?_
    refine fw_ld r26 rfl rfl ?_
    refine fw_pu rfl ?_
    obtain ⟨i, x0, hfi, hx0⟩ := fnd_some (show 0 ≤ (findO o.fl id) by have h := of_decide_eq_false hb_29; omega)
    obtain ⟨bF, oF, rfl, hbF, hcF⟩ := slR_at hF (i := i) (q := rowFl x0) (by rw [List.getElem?_map, hx0]; rfl)
    have hiL := (List.getElem?_eq_some_iff.1 hx0).1
    rw [hfi]
    have hdi := hb_29
    rw [hfi] at hdi
    refine fw_ex 26 (.pointer (some ⟨bF, (oF + i * 6), none⟩)) rfl rfl rfl (fun a h => (run_indexOp (h.ev rfl) (h.ev rfl) (idxFl _ _ _ _ _ hiL _))) ?_
    refine fw_ex 27 (.agg #[.int .i64 x0.id, .string x0.m.t, .string x0.m.p, .int .i64 x0.m.q, .bool x0.m.r, .bool x0.rc]) rfl rfl rfl (fun a h => (run_loadOp (h.ev rfl) (ldFl (fun y u hj => (Below.cell b25 (p := ⟨bF, oF + i * 6 + y, none⟩) hbF).trans (hcF y u hj))))) ?_
    refine fw_cl 28 rfl rfl rfl (fun a h => run_callV Try.func93 rfl rfl (h.ev rfl) (h.ev rfl)) (cloComp_any x0 V24) ?_
    rintro _ V36 ⟨rfl, hb37⟩
    refine ⟨_, rfl, ?_⟩
    have b38 := b25.trans (hb37.mono b25.size)
    have r39 := r26.below hb37
    have r40 := r27.below hb37
    have f41 := (Owns.below f28 hb37)
    iterate 2 refine fw_pu rfl ?_
    refine fw_dt ?_
    rcases Bool.eq_false_or_eq_true ((dComp x0)) with hb_42 | hb_42
    · skip
      refine fw_cF rfl (not_of hb_42) ?_
      refine fw_sk ?_
      refine fw_th ?_
      refine fw_sq ?_
      have hle := check_le (ck_t hb_22)
      refine fw_rg rfl ?_
      refine fw_ld r39 rfl rfl ?_
      refine fw_ca Try.func88 rfl rfl rfl ((obTwin o (some ⟨bF, oF, none⟩) aq _ _ cf cq V36 (hF.below b38) (hQ.below b38) hlf hlq)) ?_
      rintro _ V43 ⟨af44, cf44, aq44, cq44, rfl, ho44, hb44⟩
      refine ⟨_, rfl, ?_⟩
      have hlt44_q1 := r39.2.2
      have hlt44_q8 := r40.2.2
      have hoH44 : Owns V36.heap.size (q1 :: q8 :: []) ((orF (.slice af44 o.fl.length cf44) o.fl) :: (orM (.slice aq44 o.qu.length cq44) o.qu) :: []) V43 := Owns.outH ho44 (fun j hj => by simp only [List.mem_cons, List.not_mem_nil, or_false] at hj; rcases hj with rfl | rfl <;> assumption) hb44.size
      have hoM44 : Owns w.heap.size (q1 :: q8 :: []) ((orF (.slice af44 o.fl.length cf44) o.fl) :: (orM (.slice aq44 o.qu.length cq44) o.qu) :: []) V43 := Owns.mono hoH44 b38.size
      have b45 := b38.trans (hb44.mono b38.size)
      have r46 := r39.below hb44
      have r47 := r40.below hb44
      refine fw_st r46 rfl rfl ?_
      intro W48 s49 r50
      have b51 := below_chg b45 s49 (by omega) b45.size
      have r52 := r47.chg s49 (by omega)
      have f53 := (Owns.chg hoM44 s49 (by simp))
      refine fw_dt ?_
      refine fw_sq ?_
      refine fw_rg rfl ?_
      refine fw_pu rfl ?_
      refine fw_ld r50 rfl rfl ?_
      iterate 2 refine fw_pu rfl ?_
      refine fw_ex 38 (.int .i64 (((i + 1) : Nat) : Int)) rfl rfl rfl (fun a h => (run_binOp (h.ev rfl) (h.ev rfl) (by simp [go_sem]) (addIw _ _ _ _ (by omega) (by omega) (by omega)))) ?_
      refine fw_ca Try.func116 rfl rfl rfl ((dFl_any w.heap.size i _ o.fl W48 (Owns.get f53 (i := 0) rfl) hiL)) ?_
      rintro _ V54 ⟨vx55, rfl, hog55, hgr55⟩
      refine ⟨_, rfl, ?_⟩
      obtain ⟨ax55, cx55, rfl⟩ := own_slice hog55
      have hnq56 := Owns.notHeld f53 (i := 0) rfl
      have how56 := Owns.get f53 (i := 0) rfl
      have rN57 := rowAt_keep r50 hgr55.1 (fun e => hnq56 _ e.symm (by simp))
      have rN58 := rowAt_keep r52 hgr55.1 (fun e => hnq56 _ e.symm (by simp))
      have hoN56 : Owns w.heap.size (q1 :: q8 :: []) ((orF (.slice ax55 (o.fl.eraseIdx i).length cx55) (o.fl.eraseIdx i)) :: (orM (.slice aq44 o.qu.length cq44) o.qu) :: []) V54 := Owns.upd (r' := (orF (.slice ax55 (o.fl.eraseIdx i).length cx55) (o.fl.eraseIdx i))) f53 0 rfl hgr55 hog55
      have b59 := (b51.trans (grew_low hgr55 (Nat.le_trans (Nat.le_refl _) b51.size) (fun k hk => (blk_lt how56 hk).1)))
      refine fw_pu rfl ?_
      refine fw_st rN57 rfl rfl ?_
      intro W60 s61 r62
      have b63 := below_chg b59 s61 (by omega) b59.size
      have r64 := rN58.chg s61 (by omega)
      have f65 := (Owns.chg hoN56 s61 (by simp))
      refine fw_dt ?_
      refine fw_sq ?_
      have hEo : remE dComp o id = 0 := by unfold remE; rw [ck_t hb_22]; show (if findO o.fl id < 0 then (3 : Int) else _) = _; rw [hfi, if_neg (by omega), Int.toNat_natCast, hx0]; show (if dComp x0 = true then (0 : Int) else 3) = _; rw [hb_42]; rfl
      have hzf : fillO 4 ⟨o.last, o.fl.eraseIdx i, o.qu⟩ = some (z, ps) := by rw [← hz]; unfold remO; rw [hEo, if_pos rfl, hfi, Int.toNat_natCast]
      refine fw_rg rfl ?_
      have hoS67 := Owns.subH (H := q1 :: [q8]) f65 (fun k hk => by simp only [List.mem_cons, List.not_mem_nil, or_false] at hk ⊢; rcases hk with rfl | rfl <;> simp)
      have hqk67 : q1 ∉ [q8] := by simp only [List.mem_cons, List.not_mem_nil, or_false]; omega
      have hBq67 : w.heap.size ≤ q1 := by omega
      refine fw_ca Try.func89 rfl rfl rfl ((obFill (o := ⟨o.last, o.fl.eraseIdx i, o.qu⟩) hzf (by show (o.fl.eraseIdx i).length ≤ 4; have h9 := List.length_eraseIdx_le o.fl i; omega) (by exact hlq) r62 hoS67 hqk67 hBq67)) ?_
      rintro _ V66 ⟨af67, cf67, aq67, cq67, ap67, cp67, rfl, hr67, ho67, hK67, hB67⟩
      refine ⟨_, rfl, ?_⟩
      have rK68 := hr67
      have rK69 := Kz.row hK67 (by simp) r64
      have b70 := b63.trans hB67
      have hoF67 : Owns w.heap.size (q1 :: q8 :: []) ((orF (.slice af67 z.fl.length cf67) z.fl) :: (orM (.slice aq67 z.qu.length cq67) z.qu) :: (orP (.slice ap67 ps.length cp67) ps) :: []) V66 := ho67
      refine fw_pu rfl ?_
      refine fw_dt ?_
      refine fw_sq ?_
      refine fw_rg rfl ?_
      refine fw_ld rK68 rfl rfl ?_
      refine fw_pu rfl ?_
      refine fw_st rK69 rfl rfl ?_
      intro W71 s72 r73
      have b74 := below_chg b70 s72 (by omega) b70.size
      have r75 := rK68.chg s72 (by omega)
      have f76 := (Owns.chg hoF67 s72 (by simp))
      iterate 2 refine fw_pu rfl ?_
      refine fw_dt ?_
      refine fw_rt ?_
      refine ⟨fun a h => ?_⟩
      have hE : remE dComp o id = 0 := by unfold remE; rw [ck_t hb_22]; show (if findO o.fl id < 0 then (3 : Int) else _) = _; rw [hfi, if_neg (by omega), Int.toNat_natCast, hx0]; show (if dComp x0 = true then (0 : Int) else 3) = _; rw [hb_42]; rfl
      exact ow_retCell2 rfl h.df (h.g 6 rfl) (run_loadVar_mid _ _ 0 _ [.int .i64 z.last, .slice af67 z.fl.length cf67, .slice aq67 z.qu.length cq67] _ (r73.range 0 _ (fun j v hj => by rw [Nat.zero_add j]; exact hj)) Try.underlying79 rfl (by kernel_rfl)) (h.g 7 rfl) (h.g 8 rfl) (hE.symm ▸ ⟨af67, cf67, aq67, cq67, ap67, cp67, rfl, (Owns.subH (H := []) f76 (fun k hk => nomatch hk)), b74⟩)
    refine fw_cT rfl (not_of hb_42) ?_
    refine fw_sq ?_
    refine fw_rg rfl ?_
    refine fw_ex 31 (.agg #[.int .i64 0, .slice none 0 0, .slice none 0 0]) rfl rfl rfl (fun a h => (run_buildOp (vs := #[]) (by simp) (by kernel_rfl))) ?_
    refine fw_st r40 rfl rfl ?_
    intro W77 s78 r79
    have b80 := below_chg b38 s78 (by omega) b38.size
    have r81 := r39.chg s78 (by omega)
    have f82 := (Owns.chg f41 s78 (by simp))
    iterate 2 refine fw_pu rfl ?_
    refine fw_dt ?_
    refine fw_rt ?_
    refine fw_tr ?_
    refine ⟨fun a h => ?_⟩
    have hE : remE dComp o id = 3 := by unfold remE; rw [ck_t hb_22]; show (if findO o.fl id < 0 then (3 : Int) else _) = _; rw [hfi, if_neg (by omega), Int.toNat_natCast, hx0]; show (if dComp x0 = true then (0 : Int) else 3) = _; rw [hb_42]; rfl
    have hz0 : some (o0, ([] : List EPk)) = some (z, ps) := by rw [← hz]; unfold remO; rw [hE, if_neg (by decide)]
    exact ow_retCell2 rfl h.df (h.g 6 rfl) (run_loadVar_mid _ _ 0 _ [.int .i64 0, .slice none 0 0, .slice none 0 0] _ (r79.range 0 _ (fun j v hj => by rw [Nat.zero_add j]; exact hj)) Try.underlying79 rfl (by kernel_rfl)) (h.g 7 rfl) (h.g 8 rfl) (hE.symm ▸ ResO.bad (hz0) b80)
  refine fw_cT rfl (not_of hb_22) ?_
  refine fw_sq ?_
  refine fw_rg rfl ?_
  refine fw_ex 14 (.agg #[.int .i64 0, .slice none 0 0, .slice none 0 0]) rfl rfl rfl (fun a h => (run_buildOp (vs := #[]) (by simp) (by kernel_rfl))) ?_
  refine fw_st r20 rfl rfl ?_
  intro W83 s84 r85
  have b86 := below_chg b18 s84 (by omega) b18.size
  have r87 := r19.chg s84 (by omega)
  have f88 := (Owns.chg f21 s84 (by simp))
  iterate 2 refine fw_pu rfl ?_
  refine fw_dt ?_
  refine fw_rt ?_
  refine fw_tr ?_
  refine ⟨fun a h => ?_⟩
  have hE : remE dComp o id = 1 := by unfold remE; rw [ck_f hb_22]; rfl
  have hz0 : some (o0, ([] : List EPk)) = some (z, ps) := by rw [← hz]; unfold remO; rw [hE, if_neg (by decide)]
  exact ow_retCell2 rfl h.df (h.g 6 rfl) (run_loadVar_mid _ _ 0 _ [.int .i64 0, .slice none 0 0, .slice none 0 0] _ (r85.range 0 _ (fun j v hj => by rw [Nat.zero_add j]; exact hj)) Try.underlying79 rfl (by kernel_rfl)) (h.g 7 rfl) (h.g 8 rfl) (hE.symm ▸ ResO.bad (hz0) b86)
set_option maxRecDepth 100000 in
set_option maxHeartbeats 4000000 in
theorem obComp (o : EO) (af aq : Option Addr) (nf nq cf cq : Nat) (id : Int) (z : EO) (ps : List EPk) (w : World) (hF : SlR w 6 (.slice af nf cf) (o.fl.map rowFl)) (hQ : SlR w 4 (.slice aq nq cq) (o.qu.map rowMsg)) (hlf : o.fl.length ≤ 100000) (hlq : o.qu.length ≤ 100000) (hz : remO dComp o id = some (z, ps)) :
    Calls Try.prog 57 #[.agg #[.int .i64 o.last, .slice af nf cf, .slice aq nq cq], .int .i64 id] w fun e w' => ResO w z ps (remE dComp o id) e w' := by
  obtain rfl : nf = o.fl.length := by have := slR_len hF; simpa using this
  obtain rfl : nq = o.qu.length := by have := slR_len hQ; simpa using this
  have ho : Owns w.heap.size [] [] w := Owns.nil (fun k hk => nomatch hk)
  have hb0 := Below.refl w.heap.size w
  refine fw_en 13 [(0, .agg #[.int .i64 o.last, .slice af o.fl.length cf, .slice aq o.qu.length cq]), (1, .int .i64 id)] Try.func57 rfl Try.ntmps57 rfl ⟨rfl, rfl, trivial⟩ ?_
  refine fw_sq ?_
  refine fw_rg rfl ?_
  refine fw_bx rfl (cs := [.int .i64 o.last, .slice af o.fl.length cf, .slice aq o.qu.length cq]) rfl ?_
  intro q1 W2 g5 s3 r4
  have := Nat.le_trans hb0.size g5
  have b6 := hb0.trans (s3.mono hb0.size)
  have f7 := (Owns.hold ho s3 g5 r4.2.2)
  refine fw_al (t := 79) (u := fun q => .pointer (some ⟨q, 0, none⟩)) 4 [.int .i64 0, .slice none 0 0, .slice none 0 0] rfl rfl rfl (fun a h => (run_allocOp (by simp [go_sem, Instr.alloc]))) ?_
  intro q8 W9 g12 s10 r11
  have := Nat.le_trans b6.size g12
  have := r4.lt g12
  have b13 := b6.trans (s10.mono b6.size)
  have r14 := r4.below s10
  have f15 := (Owns.hold f7 s10 g12 r11.2.2)
  iterate 2 refine fw_pu rfl ?_
  refine fw_dt ?_
  refine fw_sq ?_
  refine fw_rg rfl ?_
  refine fw_ld r14 rfl rfl ?_
  refine fw_pu rfl ?_
  refine fw_cl 9 rfl rfl rfl (fun a h => run_callOp Try.func92 rfl rfl (vs := #[.agg #[.int .i64 o.last, .slice af o.fl.length cf, .slice aq o.qu.length cq], .int .i64 id, (.func (.func 93) #[] #[])]) (arg3 (h.ev rfl) (h.ev rfl) rfl)) ((remComp_any o af aq _ _ cf cq id z ps W9 (hF.below b13) (hQ.below b13) hlf hlq hz)) ?_
  rintro _ V16 ⟨af17, cf17, aq17, cq17, ap17, cp17, rfl, ho17, hb17⟩
  refine ⟨_, rfl, ?_⟩
  have hlt17_q1 := r14.2.2
  have hlt17_q8 := r11.2.2
  have hoH17 : Owns W9.heap.size (q1 :: q8 :: []) ((orF (.slice af17 z.fl.length cf17) z.fl) :: (orM (.slice aq17 z.qu.length cq17) z.qu) :: (orP (.slice ap17 ps.length cp17) ps) :: []) V16 := Owns.outH ho17 (fun j hj => by simp only [List.mem_cons, List.not_mem_nil, or_false] at hj; rcases hj with rfl | rfl <;> assumption) hb17.size
  have hoM17 : Owns w.heap.size (q1 :: q8 :: []) ((orF (.slice af17 z.fl.length cf17) z.fl) :: (orM (.slice aq17 z.qu.length cq17) z.qu) :: (orP (.slice ap17 ps.length cp17) ps) :: []) V16 := Owns.mono hoH17 b13.size
  have b18 := b13.trans (hb17.mono b13.size)
  have r19 := r14.below hb17
  have r20 := r11.below hb17
  iterate 3 refine fw_pu rfl ?_
  refine fw_st r20 rfl rfl ?_
  intro W21 s22 r23
  have b24 := below_chg b18 s22 (by omega) b18.size
  have r25 := r19.chg s22 (by omega)
  have f26 := (Owns.chg hoM17 s22 (by simp))
  iterate 2 refine fw_pu rfl ?_
  refine fw_dt ?_
  refine fw_rt ?_
  refine ⟨fun a h => ?_⟩
  exact ow_retCell2 rfl h.df (h.g 4 rfl) (run_loadVar_mid _ _ 0 _ [.int .i64 z.last, .slice af17 z.fl.length cf17, .slice aq17 z.qu.length cq17] _ (r23.range 0 _ (fun j v hj => by rw [Nat.zero_add j]; exact hj)) Try.underlying79 rfl (by kernel_rfl)) (h.g 5 rfl) (h.g 6 rfl) ⟨af17, cf17, aq17, cq17, ap17, cp17, rfl, Owns.subH f26 (fun k hk => nomatch hk), b24⟩
end Go.Proofs.Ytcglmkcefenjcaa
