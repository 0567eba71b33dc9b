/-
  An outbox: to one who is back.
-/
import Derived.Test.YtcglmkcefenjcaaObG
namespace Go.Proofs.Ytcglmkcefenjcaa
open Go.RowKit Go.Lib
/-- Packets of another row, behind the others. -/
theorem Pk_apps {o : Oper} {a : Act} {w : World} (s x : Operand) (ho : o.op = .call { callee := .builtin .append, args := #[s, x], argTypes := #[86, 86] }) {base : Nat} {v vx : Value} {L K : List EPk} (hs : a.eval s = v) (hown : PkOwn w base v L) (hx : a.eval x = vx) (hk : SlR w 24 vx (K.map rowPk)) (hn : L.length ≤ 100000) (hm : K.length ≤ 100000) (hbase : base ≤ w.heap.size) :
    opTo Try.prog o a w fun v' w' => Grew w w' v v' ∧ PkOwn w' base v' (L ++ K) := by
  obtain ⟨i0, hi, hz0, hz1, hz2⟩ := info_parts infoPk
  obtain ⟨ao, cap, rfl, h1, h2, h3, h4⟩ := id hk
  unfold PkOwn
  rw [List.length_append, List.map_append, List.flatten_append]
  rw [List.length_map] at hx hk
  cases ao with
  | none =>
    have hc := h3 rfl
    obtain rfl : K = [] := List.eq_nil_of_length_eq_zero (by rw [List.length_map] at h1; omega)
    subst hc
    have hr := run_append_owned_none (P := Try.prog) (w := w) base 86 o.type 99 i0 24 Try.underlying86 hi v L.length _ hown
    refine .inl ⟨v, w, ?_, Grew.refl _ _, by simpa [PkOwn] using hown⟩
    unfold execOp
    simp only [ho, resolve, invoke, builtin, Sem.run_bind, Sem.run_pure, Result.andThen_ok, List.map_toArray, List.map_cons, List.map_nil, hs, hx, List.length_nil, hr]
  | some ad =>
    exact opTo_app s x 86 99 ho base i0 _ 24 288 Try.underlying86 hi hz0 hz1 hz2 rfl (by decide) v L.length _ hs hown ad K.length cap _ hx (by rw [flatten_len _ (Pk_n K), List.length_map]) (SlR.news (by decide) (Pk_n K) (by rw [List.length_map]; exact hk)) (Pk_one K) (by unfold maxLen; omega) (by omega) hbase
def resP (f : EFl) : EPk := if f.rc = true then relP f.id else ⟨3, true, f.id, f.m⟩
def resO (o : EO) : Option (EO × List EPk) := if checkO o = true then (match fillO 4 o with | some p => some (p.1, o.fl.map resP ++ p.2) | none => none) else some (o0, [])
theorem res_ok {o z : EO} {pz : List EPk} (hc : checkO o = true) (hz : resO o = some (z, pz)) : ∃ ps, fillO 4 o = some (z, ps) ∧ pz = o.fl.map resP ++ ps := by
  unfold resO at hz
  rw [if_pos hc] at hz
  split at hz
  · rename_i p hp
    simp only [Option.some.injEq, Prod.mk.injEq] at hz
    exact ⟨p.2, by rw [hp, ← hz.1], hz.2.symm⟩
  · cases hz
theorem res_no {o z : EO} {pz : List EPk} (hc : checkO o = false) (hz : resO o = some (z, pz)) : some (o0, ([] : List EPk)) = some (z, pz) := by
  unfold resO at hz
  rwa [if_neg (by rw [hc]; decide)] at hz
theorem take_next {L : List EFl} {i : Nat} {x : EFl} (h : L[i]? = some x) : (L.take i).map resP ++ [resP x] = (L.take (i + 1)).map resP := by
  rw [List.take_add_one, h, List.map_append]; rfl
theorem fill_len : ∀ {k : Nat} {o z : EO} {ps : List EPk}, fillO k o = some (z, ps) → ps.length ≤ k
  | 0, o, z, ps, h => by simp only [fillO, Option.some.injEq, Prod.mk.injEq] at h; rw [← h.2]; exact Nat.le_refl _
  | k + 1, ⟨la, fl, []⟩, z, ps, h => by simp only [fillO, Option.some.injEq, Prod.mk.injEq] at h; rw [← h.2]; exact Nat.zero_le _
  | k + 1, ⟨la, fl, m :: r⟩, z, ps, h => by
    by_cases h4 : fl.length < 4
    · obtain ⟨x, py, -, h2, rfl⟩ := fill_on h h4
      have := fill_len h2
      rw [List.length_cons]; omega
    · obtain ⟨-, rfl⟩ := fill_end h (.inl (by omega))
      exact Nat.zero_le _
set_option maxRecDepth 100000 in
set_option maxHeartbeats 4000000 in
theorem obResume (o : EO) (af aq : Option Addr) (nf nq cf cq : Nat) (z : EO) (pz : List EPk) (w : World) (hF : SlR w 6 (.slice af nf cf) (o.fl.map rowFl)) (hQ : SlR w 4 (.slice aq nq cq) (o.qu.map rowMsg)) (hlf : o.fl.length ≤ 100000) (hlq : o.qu.length ≤ 100000) (hz : resO o = some (z, pz)) :
    Calls Try.prog 56 #[.agg #[.int .i64 o.last, .slice af nf cf, .slice aq nq cq]] w fun e w' => ResO w z pz (ckI o) e w' := by
  obtain rfl : nf = o.fl.length := by have := slR_len hF; simpa using this
  obtain rfl : nq = o.qu.length := by have := slR_len hQ; simpa using this
  have ho : Owns w.heap.size [] [] w := Owns.nil (fun k hk => nomatch hk)
  have hb0 := Below.refl w.heap.size w
  refine fw_en 43 [(0, .agg #[.int .i64 o.last, .slice af o.fl.length cf, .slice aq o.qu.length cq])] Try.func56 rfl Try.ntmps56 rfl ⟨rfl, trivial⟩ ?_
  refine fw_sq ?_
  refine fw_rg rfl ?_
  refine fw_bx rfl (cs := [.int .i64 o.last, .slice af o.fl.length cf, .slice aq o.qu.length cq]) rfl ?_
  intro q1 W2 g5 s3 r4
  have := Nat.le_trans hb0.size g5
  have b6 := hb0.trans (s3.mono hb0.size)
  have f7 := (Owns.hold ho s3 g5 r4.2.2)
  refine fw_al (t := 79) (u := fun q => .pointer (some ⟨q, 0, none⟩)) 2 [.int .i64 0, .slice none 0 0, .slice none 0 0] rfl rfl rfl (fun a h => (run_allocOp (by simp [go_sem, Instr.alloc]))) ?_
  intro q8 W9 g12 s10 r11
  have := Nat.le_trans b6.size g12
  have := r4.lt g12
  have b13 := b6.trans (s10.mono b6.size)
  have r14 := r4.below s10
  have f15 := (Owns.hold f7 s10 g12 r11.2.2)
  iterate 2 refine fw_pu rfl ?_
  refine fw_dt ?_
  refine fw_sq ?_
  refine fw_sq ?_
  refine fw_rg rfl ?_
  refine fw_ld r14 rfl rfl ?_
  refine fw_ca Try.func86 rfl rfl rfl ((check_any o af aq _ _ cf cq W9 (hF.below b13) (hQ.below b13) hlf hlq)) ?_
  rintro _ V17 ⟨rfl, hb16⟩
  refine ⟨(.int .i64 (ckI o)), rfl, ?_⟩
  have b18 := b13.trans (hb16.mono b13.size)
  have r19 := r14.below hb16
  have r20 := r11.below hb16
  have f21 := (Owns.below f15 hb16)
  refine fw_pu rfl ?_
  refine fw_dt ?_
  rcases Bool.eq_false_or_eq_true (((ckI o) == 0)) with hb_22 | hb_22
  · skip
    refine fw_cF rfl (not_of hb_22) ?_
    refine fw_sk ?_
    refine fw_th ?_
    refine fw_sq ?_
    have hle := check_le (ck_t hb_22)
    refine fw_rg rfl ?_
    refine fw_ld r19 rfl rfl ?_
    refine fw_ca Try.func88 rfl rfl rfl ((obTwin o af aq _ _ cf cq V17 (hF.below b18) (hQ.below b18) hlf hlq)) ?_
    rintro _ V23 ⟨af24, cf24, aq24, cq24, rfl, ho24, hb24⟩
    refine ⟨_, rfl, ?_⟩
    have hlt24_q1 := r19.2.2
    have hlt24_q8 := r20.2.2
    have hoH24 : Owns V17.heap.size (q1 :: q8 :: []) ((orF (.slice af24 o.fl.length cf24) o.fl) :: (orM (.slice aq24 o.qu.length cq24) o.qu) :: []) V23 := Owns.outH ho24 (fun j hj => by simp only [List.mem_cons, List.not_mem_nil, or_false] at hj; rcases hj with rfl | rfl <;> assumption) hb24.size
    have hoM24 : Owns w.heap.size (q1 :: q8 :: []) ((orF (.slice af24 o.fl.length cf24) o.fl) :: (orM (.slice aq24 o.qu.length cq24) o.qu) :: []) V23 := Owns.mono hoH24 b18.size
    have b25 := b18.trans (hb24.mono b18.size)
    have r26 := r19.below hb24
    have r27 := r20.below hb24
    refine fw_st r26 rfl rfl ?_
    intro W28 s29 r30
    have b31 := below_chg b25 s29 (by omega) b25.size
    have r32 := r27.chg s29 (by omega)
    have f33 := (Owns.chg hoM24 s29 (by simp))
    refine fw_dt ?_
    refine fw_sq ?_
    refine fw_rg rfl ?_
    refine fw_pu rfl ?_
    refine fw_dt ?_
    refine fw_sq ?_
    refine fw_sq ?_
    refine fw_rg rfl ?_
    refine fw_pu rfl ?_
    refine fw_ld r30 rfl rfl ?_
    iterate 2 refine fw_pu rfl ?_
    refine fw_dt ?_
    refine fw_bk ?_
    have hoP : Owns w.heap.size (q1 :: q8 :: []) ((orF (.slice af24 o.fl.length cf24) o.fl) :: (orM (.slice aq24 o.qu.length cq24) o.qu) :: orP (.slice none 0 0) [] :: []) W28 := Owns.cons (orP (.slice none 0 0) []) f33 rfl (PkOwn.nil _ _) 2
    refine fw_lp (fun N K W => ∃ (i : Nat) (ap : Option Addr) (cp : Nat), N = o.fl.length - i ∧ i ≤ o.fl.length ∧ Owns w.heap.size (q1 :: q8 :: []) ((orF (.slice af24 o.fl.length cf24) o.fl) :: (orM (.slice aq24 o.qu.length cq24) o.qu) :: orP (.slice ap ((o.fl.take i).map resP).length cp) ((o.fl.take i).map resP) :: []) W ∧ K = [(1, .pointer (some ⟨q1, 0, none⟩)), (2, .pointer (some ⟨q8, 0, none⟩)), (5, .slice ap ((o.fl.take i).map resP).length cp), (16, .slice af24 o.fl.length cf24), (17, .int .i64 ((o.fl.length : Nat) : Int)), (18, .int .i64 ((i : Nat) : Int))] ∧ Below w.heap.size w W ∧ RowAt W q1 [.int .i64 o.last, .slice af24 o.fl.length cf24, .slice aq24 o.qu.length cq24] ∧ RowAt W q8 [.int .i64 0, .slice none 0 0, .slice none 0 0]) _ _ ⟨0, none, 0, rfl, Nat.zero_le _, hoP, rfl, b31, r30, r32⟩ ⟨rfl, rfl, (by first | rfl | (simp only [Look, cond, Nat.beq]; first | rfl | (congr 2; first | rfl | omega | (push_cast; omega)) | (simp; try omega))), rfl, rfl, (by first | rfl | (simp only [Look, cond, Nat.beq]; first | rfl | (congr 2; first | rfl | omega | (push_cast; omega)) | (simp; try omega))), trivial⟩ ?_
    rintro N _ W34 ⟨i, ap, cp, rfl, hil, ho0, rfl, bW34, rW34_0, rW34_1⟩
    intro K36 hK36
    refine fw_sq ?_
    refine fw_rg rfl ?_
    refine fw_pu rfl ?_
    refine fw_dt ?_
    refine fw_sq ?_
    rcases Bool.eq_false_or_eq_true ((decide (((i : Nat) : Int) < ((o.fl.length : Nat) : Int)))) with hb_37 | hb_37
    · skip
      refine fw_cT rfl hb_37 ?_
      refine fw_sk ?_
      refine fw_th ?_
      refine fw_sq ?_
      refine fw_bk ?_
      refine fw_sq ?_
      have hiL : i < o.fl.length := by have h := of_decide_eq_true hb_37; omega
      obtain ⟨x0, hx0⟩ : ∃ p, o.fl[i]? = some p := ⟨_, List.getElem?_eq_getElem hiL⟩
      obtain ⟨bF, oF, rfl, hbF, hcF⟩ := slR_at (Owns.slF ho0 0 rfl) (i := i) (q := rowFl x0) (by rw [List.getElem?_map, hx0]; rfl)
      refine fw_rg rfl ?_
      refine fw_ex 20 (.pointer (some ⟨bF, (oF + i * 6), none⟩)) rfl rfl rfl (fun a h => (run_indexOp (h.ev rfl) (h.ev rfl) (idxFl _ _ _ _ _ hiL _))) ?_
      refine fw_ex 21 (.agg #[.int .i64 x0.id, .string x0.m.t, .string x0.m.p, .int .i64 x0.m.q, .bool x0.m.r, .bool x0.rc]) rfl rfl rfl (fun a h => (run_loadOp (h.ev rfl) (ldFl hcF))) ?_
      refine fw_al (t := 103) (u := fun q => .pointer (some ⟨q, 0, none⟩)) 7 [.int .i64 0, .string { data := #[] }, .string { data := #[] }, .int .i64 0, .bool false, .bool false] rfl rfl rfl (fun a h => (run_allocOp (by simp [go_sem, Instr.alloc]))) ?_
      intro q38 W39 g42 s40 r41
      have := Nat.le_trans bW34.size g42
      have := rW34_0.lt g42
      have := rW34_1.lt g42
      have b43 := bW34.trans (s40.mono bW34.size)
      have r44 := rW34_0.below s40
      have r45 := rW34_1.below s40
      have f46 := (Owns.hold ho0 s40 g42 r41.2.2)
      refine fw_st r41 rfl rfl ?_
      intro W47 s48 r49
      have b50 := below_chg b43 s48 (by omega) b43.size
      have r51 := r44.chg s48 (by omega)
      have r52 := r45.chg s48 (by omega)
      have f53 := (Owns.chg f46 s48 (by simp))
      refine fw_dt ?_
      refine fw_sq ?_
      refine fw_sq ?_
      refine fw_rg rfl ?_
      refine fw_pu rfl ?_
      refine fw_ld r49 rfl rfl ?_
      refine fw_dt ?_
      rcases Bool.eq_false_or_eq_true (x0.rc) with hb_54 | hb_54
      · skip
        refine fw_cT rfl hb_54 ?_
        refine fw_sq ?_
        refine fw_rg rfl ?_
        iterate 2 refine fw_pu rfl ?_
        refine fw_ld r49 rfl rfl ?_
        refine fw_ca Try.func90 rfl rfl rfl ((release_any x0.id W47)) ?_
        rintro _ V56 ⟨rfl, hb55⟩
        refine ⟨_, rfl, ?_⟩
        have b57 := b50.trans (hb55.mono b50.size)
        have r58 := r51.below hb55
        have r59 := r52.below hb55
        have r60 := r49.below hb55
        have f61 := (Owns.below f53 hb55)
        refine fw_al (t := 99) (u := fun q => .slice (some ⟨q, 0, none⟩) 1 1) 28 (rowPk (relP x0.id)) rfl rfl rfl (fun a h => (bsPk (relP x0.id) _ (h.ev rfl))) ?_
        intro q62 W63 g66 s64 r65
        have := Nat.le_trans b57.size g66
        have := r58.lt g66
        have := r59.lt g66
        have := r60.lt g66
        have b67 := b57.trans (s64.mono b57.size)
        have r68 := r58.below s64
        have r69 := r59.below s64
        have r70 := r60.below s64
        have f71 := (Owns.hold f61 s64 g66 r65.2.2)
        refine fw_to 29 rfl rfl rfl (fun a h => (Pk_app _ _ rfl (h.ev rfl) (Owns.get f71 (i := 2) rfl) (h.ev rfl) r65 (by simp; omega) b67.size)) ?_
        rintro vx73 V72 ⟨hgr73, hog73⟩
        rw [show (relP x0.id) = resP x0 from by unfold resP; rw [hb_54]; rfl, take_next hx0] at hog73
        obtain ⟨ax73, cx73, rfl⟩ := own_slice hog73
        have hnq74 := Owns.notHeld f71 (i := 2) rfl
        have how74 := Owns.get f71 (i := 2) rfl
        have rN75 := rowAt_keep r68 hgr73.1 (fun e => hnq74 _ e.symm (by simp))
        have rN76 := rowAt_keep r69 hgr73.1 (fun e => hnq74 _ e.symm (by simp))
        have rN77 := rowAt_keep r70 hgr73.1 (fun e => hnq74 _ e.symm (by simp))
        have hoN74 : Owns w.heap.size (q62 :: q38 :: q1 :: q8 :: []) ((orF (.slice (some ⟨bF, oF, none⟩) o.fl.length cf24) o.fl) :: (orM (.slice aq24 o.qu.length cq24) o.qu) :: (orP (.slice ax73 ((o.fl.take (i + 1)).map resP).length cx73) ((o.fl.take (i + 1)).map resP)) :: []) V72 := Owns.upd (r' := (orP (.slice ax73 ((o.fl.take (i + 1)).map resP).length cx73) ((o.fl.take (i + 1)).map resP))) f71 2 rfl hgr73 hog73
        have b78 := (b67.trans (grew_low hgr73 (Nat.le_trans (Nat.le_refl _) b67.size) (fun k hk => (blk_lt how74 hk).1)))
        refine fw_pu rfl ?_
        refine fw_dt ?_
        refine fw_xt ?_
        refine fw_te ?_
        refine fw_be ?_
        refine fw_th ?_
        refine fw_rg rfl ?_
        refine fw_ex 37 (.int .i64 (((i + 1) : Nat) : Int)) rfl rfl rfl (fun a h => (run_binOp (h.ev rfl) (h.ev rfl) (by simp [go_sem]) (addIw _ _ _ _ (by omega) (by omega) (by omega)))) ?_
        refine fw_pu rfl ?_
        refine fw_dn ?_
        have hoE := Owns.subH (H := (q1 :: q8 :: [])) hoN74 (fun k hk => by simp only [List.mem_cons, List.not_mem_nil, or_false] at hk ⊢; rcases hk with rfl | rfl <;> simp)
        exact fw_th (fw_gf (hK36 _ _ _ (by omega) ⟨(i + 1), ax73, cx73, rfl, (by omega), hoE, rfl, b78, rN75, rN76⟩) ⟨rfl, rfl, (by first | rfl | (simp only [Look, cond, Nat.beq]; first | rfl | (congr 2; first | rfl | omega | (push_cast; omega)) | (simp; try omega))), (by first | rfl | (simp only [Look, cond, Nat.beq]; first | rfl | (congr 2; first | rfl | omega | (push_cast; omega)) | (simp; try omega))), rfl, (by first | rfl | (simp only [Look, cond, Nat.beq]; first | rfl | (congr 2; first | rfl | omega | (push_cast; omega)) | (simp; try omega))), trivial⟩)
      refine fw_cF rfl hb_54 ?_
      refine fw_sk ?_
      refine fw_th ?_
      refine fw_sq ?_
      refine fw_rg rfl ?_
      refine fw_ld r49 rfl rfl ?_
      refine fw_ca Try.func91 rfl rfl rfl ((publish_any x0 W47)) ?_
      rintro _ V80 ⟨rfl, hb79⟩
      refine ⟨_, rfl, ?_⟩
      have b81 := b50.trans (hb79.mono b50.size)
      have r82 := r51.below hb79
      have r83 := r52.below hb79
      have r84 := r49.below hb79
      have f85 := (Owns.below f53 hb79)
      refine fw_al (t := 99) (u := fun q => .pointer (some ⟨q, 0, none⟩)) 8 [.int .i64 0, .string { data := #[] }, .bool false, .int .i64 0, .bool false, .string { data := #[] }, .string { data := #[] }, .int .i64 0, .bool false, .string { data := #[] }, .bool false, .string { data := #[] }, .bool false, .bool false, .int .i64 0, .slice none 0 0, .bool false, .int .i64 0, .bool false, .string { data := #[] }, .int .i64 0, .string { data := #[] }, .slice none 0 0, .slice none 0 0] rfl rfl rfl (fun a h => (run_allocOp (by simp [go_sem, Instr.alloc]))) ?_
      intro q86 W87 g90 s88 r89
      have := Nat.le_trans b81.size g90
      have := r82.lt g90
      have := r83.lt g90
      have := r84.lt g90
      have b91 := b81.trans (s88.mono b81.size)
      have r92 := r82.below s88
      have r93 := r83.below s88
      have r94 := r84.below s88
      have f95 := (Owns.hold f85 s88 g90 r89.2.2)
      refine fw_st r89 rfl rfl ?_
      intro W96 s97 r98
      have b99 := below_chg b91 s97 (by omega) b91.size
      have r100 := r92.chg s97 (by omega)
      have r101 := r93.chg s97 (by omega)
      have r102 := r94.chg s97 (by omega)
      have f103 := (Owns.chg f95 s97 (by simp))
      refine fw_dt ?_
      refine fw_sq ?_
      refine fw_rg rfl ?_
      refine fw_pu rfl ?_
      refine fw_st r98 rfl rfl ?_
      intro W104 s105 r106
      have b107 := below_chg b99 s105 (by omega) b99.size
      have r108 := r100.chg s105 (by omega)
      have r109 := r101.chg s105 (by omega)
      have r110 := r102.chg s105 (by omega)
      have f111 := (Owns.chg f103 s105 (by simp))
      refine fw_dt ?_
      refine fw_rg rfl ?_
      refine fw_pu rfl ?_
      refine fw_ld r106 rfl rfl ?_
      refine fw_al (t := 99) (u := fun q => .slice (some ⟨q, 0, none⟩) 1 1) 35 (rowPk (⟨3, true, x0.id, x0.m⟩ : EPk)) rfl rfl rfl (fun a h => (bsPk (⟨3, true, x0.id, x0.m⟩ : EPk) _ (h.ev rfl))) ?_
      intro q112 W113 g116 s114 r115
      have := Nat.le_trans b107.size g116
      have := r108.lt g116
      have := r109.lt g116
      have := r110.lt g116
      have := r106.lt g116
      have b117 := b107.trans (s114.mono b107.size)
      have r118 := r108.below s114
      have r119 := r109.below s114
      have r120 := r110.below s114
      have r121 := r106.below s114
      have f122 := (Owns.hold f111 s114 g116 r115.2.2)
      refine fw_to 36 rfl rfl rfl (fun a h => (Pk_app _ _ rfl (h.ev rfl) (Owns.get f122 (i := 2) rfl) (h.ev rfl) r115 (by simp; omega) b117.size)) ?_
      rintro vx124 V123 ⟨hgr124, hog124⟩
      rw [show (⟨3, true, x0.id, x0.m⟩ : EPk) = resP x0 from by unfold resP; rw [hb_54]; rfl, take_next hx0] at hog124
      obtain ⟨ax124, cx124, rfl⟩ := own_slice hog124
      have hnq125 := Owns.notHeld f122 (i := 2) rfl
      have how125 := Owns.get f122 (i := 2) rfl
      have rN126 := rowAt_keep r118 hgr124.1 (fun e => hnq125 _ e.symm (by simp))
      have rN127 := rowAt_keep r119 hgr124.1 (fun e => hnq125 _ e.symm (by simp))
      have rN128 := rowAt_keep r120 hgr124.1 (fun e => hnq125 _ e.symm (by simp))
      have rN129 := rowAt_keep r121 hgr124.1 (fun e => hnq125 _ e.symm (by simp))
      have hoN125 : Owns w.heap.size (q112 :: q86 :: q38 :: q1 :: q8 :: []) ((orF (.slice (some ⟨bF, oF, none⟩) o.fl.length cf24) o.fl) :: (orM (.slice aq24 o.qu.length cq24) o.qu) :: (orP (.slice ax124 ((o.fl.take (i + 1)).map resP).length cx124) ((o.fl.take (i + 1)).map resP)) :: []) V123 := Owns.upd (r' := (orP (.slice ax124 ((o.fl.take (i + 1)).map resP).length cx124) ((o.fl.take (i + 1)).map resP))) f122 2 rfl hgr124 hog124
      have b130 := (b117.trans (grew_low hgr124 (Nat.le_trans (Nat.le_refl _) b117.size) (fun k hk => (blk_lt how125 hk).1)))
      refine fw_pu rfl ?_
      refine fw_dn ?_
      refine fw_bn ?_
      refine fw_th ?_
      refine fw_rg rfl ?_
      refine fw_ex 37 (.int .i64 (((i + 1) : Nat) : Int)) rfl rfl rfl (fun a h => (run_binOp (h.ev rfl) (h.ev rfl) (by simp [go_sem]) (addIw _ _ _ _ (by omega) (by omega) (by omega)))) ?_
      refine fw_pu rfl ?_
      refine fw_dn ?_
      have hoE := Owns.subH (H := (q1 :: q8 :: [])) hoN125 (fun k hk => by simp only [List.mem_cons, List.not_mem_nil, or_false] at hk ⊢; rcases hk with rfl | rfl <;> simp)
      exact fw_th (fw_gf (hK36 _ _ _ (by omega) ⟨(i + 1), ax124, cx124, rfl, (by omega), hoE, rfl, b130, rN126, rN127⟩) ⟨rfl, rfl, (by first | rfl | (simp only [Look, cond, Nat.beq]; first | rfl | (congr 2; first | rfl | omega | (push_cast; omega)) | (simp; try omega))), (by first | rfl | (simp only [Look, cond, Nat.beq]; first | rfl | (congr 2; first | rfl | omega | (push_cast; omega)) | (simp; try omega))), rfl, (by first | rfl | (simp only [Look, cond, Nat.beq]; first | rfl | (congr 2; first | rfl | omega | (push_cast; omega)) | (simp; try omega))), trivial⟩)
    refine fw_cF rfl hb_37 ?_
    refine fw_xt ?_
    refine fw_te ?_
    refine fw_te ?_
    refine fw_be ?_
    refine fw_th ?_
    refine fw_sq ?_
    obtain rfl : i = o.fl.length := by have h := of_decide_eq_false hb_37; omega
    have htk : o.fl.take o.fl.length = o.fl := List.take_length
    rw [htk] at ho0
    rw [htk]
    obtain ⟨ps, hzf, rfl⟩ := res_ok (ck_t hb_22) hz
    have hpl : ps.length ≤ 100000 := by have := fill_len hzf; omega
    refine fw_rg rfl ?_
    refine fw_pu rfl ?_
    have hoS132 := Owns.subH (H := q1 :: [q8]) ho0 (fun k hk => by simp only [List.mem_cons, List.not_mem_nil, or_false] at hk ⊢; rcases hk with rfl | rfl <;> simp)
    have hqk132 : q1 ∉ [q8] := by simp only [List.mem_cons, List.not_mem_nil, or_false]; omega
    have hBq132 : w.heap.size ≤ q1 := by omega
    refine fw_ca Try.func89 rfl rfl rfl ((obFill (o := o) hzf (by exact hle.1) (by exact hlq) rW34_0 hoS132 hqk132 hBq132)) ?_
    rintro _ V131 ⟨af132, cf132, aq132, cq132, ap132, cp132, rfl, hr132, ho132, hK132, hB132⟩
    refine ⟨_, rfl, ?_⟩
    have rK133 := hr132
    have rK134 := Kz.row hK132 (by simp) rW34_1
    have b135 := bW34.trans hB132
    have hoF132 : Owns w.heap.size (q1 :: q8 :: []) ((orF (.slice af132 z.fl.length cf132) z.fl) :: (orM (.slice aq132 z.qu.length cq132) z.qu) :: (orP (.slice ap132 ps.length cp132) ps) :: (orP (.slice ap (o.fl.map resP).length cp) (o.fl.map resP)) :: []) V131 := ho132
    refine fw_to 40 rfl rfl rfl (fun a h => (Pk_apps _ _ rfl (h.ev rfl) (Owns.get hoF132 (i := 3) rfl) (h.ev rfl) (Owns.slP hoF132 2 rfl) (by simp; omega) hpl b135.size)) ?_
    rintro vx137 V136 ⟨hgr137, hog137⟩
    obtain ⟨ax137, cx137, rfl⟩ := own_slice hog137
    have hnq138 := Owns.notHeld hoF132 (i := 3) rfl
    have how138 := Owns.get hoF132 (i := 3) rfl
    have rN139 := rowAt_keep rK133 hgr137.1 (fun e => hnq138 _ e.symm (by simp))
    have rN140 := rowAt_keep rK134 hgr137.1 (fun e => hnq138 _ e.symm (by simp))
    have hoN138 : Owns w.heap.size (q1 :: q8 :: []) ((orF (.slice af132 z.fl.length cf132) z.fl) :: (orM (.slice aq132 z.qu.length cq132) z.qu) :: (orP (.slice ap132 ps.length cp132) ps) :: (orP (.slice ax137 (o.fl.map resP ++ ps).length cx137) (o.fl.map resP ++ ps)) :: []) V136 := Owns.upd (r' := (orP (.slice ax137 (o.fl.map resP ++ ps).length cx137) (o.fl.map resP ++ ps))) hoF132 3 rfl hgr137 hog137
    have b141 := (b135.trans (grew_low hgr137 (Nat.le_trans (Nat.le_refl _) b135.size) (fun k hk => (blk_lt how138 hk).1)))
    refine fw_pu rfl ?_
    refine fw_dt ?_
    refine fw_sq ?_
    refine fw_rg rfl ?_
    refine fw_ld rN139 rfl rfl ?_
    refine fw_pu rfl ?_
    refine fw_st rN140 rfl rfl ?_
    intro W142 s143 r144
    have b145 := below_chg b141 s143 (by omega) b141.size
    have r146 := rN139.chg s143 (by omega)
    have f147 := (Owns.chg hoN138 s143 (by simp))
    iterate 2 refine fw_pu rfl ?_
    refine fw_dt ?_
    refine fw_rt ?_
    refine ⟨fun a h => ?_⟩
    have hE : ckI o = 0 := by unfold ckI; rw [ck_t hb_22]; rfl
    exact ow_retCell2 rfl h.df (h.g 2 rfl) (run_loadVar_mid _ _ 0 _ [.int .i64 z.last, .slice af132 z.fl.length cf132, .slice aq132 z.qu.length cq132] _ (r144.range 0 _ (fun j v hj => by rw [Nat.zero_add j]; exact hj)) Try.underlying79 rfl (by kernel_rfl)) (h.g 3 rfl) (h.g 4 rfl) (hE.symm ▸ ⟨af132, cf132, aq132, cq132, ax137, cx137, rfl, (Owns.sub (Owns.subH (H := []) f147 (fun k hk => nomatch hk)) (.cons_cons _ (.cons_cons _ (.cons _ (.cons_cons _ .slnil))))), b145⟩)
  refine fw_cT rfl (not_of hb_22) ?_
  refine fw_sq ?_
  refine fw_rg rfl ?_
  refine fw_ex 12 (.agg #[.int .i64 0, .slice none 0 0, .slice none 0 0]) rfl rfl rfl (fun a h => (run_buildOp (vs := #[]) (by simp) (by kernel_rfl))) ?_
  refine fw_st r20 rfl rfl ?_
  intro W148 s149 r150
  have b151 := below_chg b18 s149 (by omega) b18.size
  have r152 := r19.chg s149 (by omega)
  have f153 := (Owns.chg f21 s149 (by simp))
  iterate 2 refine fw_pu rfl ?_
  refine fw_dt ?_
  refine fw_rt ?_
  refine fw_tr ?_
  refine ⟨fun a h => ?_⟩
  have hE : ckI o = 1 := by unfold ckI; rw [ck_f hb_22]; rfl
  exact ow_retCell2 rfl h.df (h.g 2 rfl) (run_loadVar_mid _ _ 0 _ [.int .i64 0, .slice none 0 0, .slice none 0 0] _ (r150.range 0 _ (fun j v hj => by rw [Nat.zero_add j]; exact hj)) Try.underlying79 rfl (by kernel_rfl)) (h.g 3 rfl) (h.g 4 rfl) (hE.symm ▸ ResO.bad ((res_no (ck_f hb_22) hz)) b151)
end Go.Proofs.Ytcglmkcefenjcaa
