/-
  The law OutboxFull.
-/
import Derived.Test.YtcglmkcefenjcaaObH
import Derived.Test.YtcglmkcefenjcaaReadM
import Derived.Test.YtcglmkcefenjcaaReadZ
namespace Go.Proofs.Ytcglmkcefenjcaa
open Go.RowKit Go.Lib
deriving instance DecidableEq for EMsg, EFl, EPk, EO
def m2 : EMsg := ⟨{ data := #[97] }, { data := #[] }, 2, false⟩
def fls (n : Nat) : List EFl := (List.range n).map fun (j : Nat) => (⟨((j : Nat) : Int) + 1, m2, false⟩ : EFl)
def fS (k i : Nat) : EO := if k = 0 then ⟨0, [], List.replicate (min i 8) m2⟩ else ⟨((min i 4 : Nat) : Int), fls (min i 4), List.replicate (min i 12 - 4) m2⟩
def fX (k i : Nat) : EO := if i < 8 + 4 * k then fS k (i + 1) else o0
def fQ (k i : Nat) : List EPk := if k = 1 ∧ i < 4 then [pubP ⟨(i : Int) + 1, m2, false⟩] else []
def fE (k i : Nat) : Int := if i < 8 + 4 * k then 0 else 5
theorem f_all : ∀ k, k < 2 → ∀ i, i < 8 + 4 * k + 2 → offO (fS k i) m2 ((k : Int) == 1) = some (fX k i, fQ k i) ∧ offE (fS k i) m2 ((k : Int) == 1) = fE k i ∧ (fS k i).fl.length ≤ 100000 ∧ (fS k i).qu.length ≤ 100000 := by decide +kernel
theorem f_stay : ∀ k, k < 2 → ∀ i, i < 8 + 4 * k + 2 → 8 + 4 * k ≤ i → fS k (i + 1) = fS k i := by decide +kernel
theorem fX_on {k i : Nat} (h : i < 8 + 4 * k) : fX k i = fS k (i + 1) := if_pos h
theorem fE_full {k i : Nat} (h : 8 + 4 * k ≤ i) : (fE k i == 5) = true := by unfold fE; rw [if_neg (by omega)]; rfl
theorem fE_room {k i : Nat} (h : i < 8 + 4 * k) : (fE k i == 0) = true := by unfold fE; rw [if_pos h]; rfl
abbrev vM2 : Value := .agg #[.string { data := #[97] }, .string { data := #[] }, .int .i64 2, .bool false]
section
variable {af aq : Option Addr} {cf cq : Nat} {w : World}
theorem fOff {k i : Nat} {b : Bool} (hk : k < 2) (hb : b = ((k : Int) == 1)) (hi : i < 8 + 4 * k + 2) (hF : SlR w 6 (.slice af (fS k i).fl.length cf) ((fS k i).fl.map rowFl)) (hQ : SlR w 4 (.slice aq (fS k i).qu.length cq) ((fS k i).qu.map rowMsg)) :
    Calls Try.prog 54 #[.agg #[.int .i64 (fS k i).last, .slice af (fS k i).fl.length cf, .slice aq (fS k i).qu.length cq], vM2, .bool b] w (At w (fX k i).last (fX k i).fl (fX k i).fl.length (fX k i).qu (fX k i).qu.length (fQ k i) (fQ k i).length (fE k i)) := by
  subst hb
  obtain ⟨h1, h2, h3, h4⟩ := f_all k hk i hi
  exact (obOffer (fS k i) af aq _ _ cf cq m2 ((k : Int) == 1) (fX k i) (fQ k i) w hF hQ h3 h4 h1).mono fun e w' h => At.of h h2 rfl rfl rfl
theorem fRes0 (hF : SlR w 6 (.slice af 0 cf) (([] : List EFl).map rowFl)) (hQ : SlR w 4 (.slice aq 8 cq) ((List.replicate 8 m2).map rowMsg)) :
    Calls Try.prog 56 #[.agg #[.int .i64 0, .slice af 0 cf, .slice aq 8 cq]] w (At w 4 (fls 4) 4 (List.replicate 4 m2) 4 ((fls 4).map pubP) 4 0) :=
  (obResume ⟨0, [], List.replicate 8 m2⟩ af aq 0 8 cf cq ⟨4, fls 4, List.replicate 4 m2⟩ ((fls 4).map pubP) w hF hQ (by decide) (by decide) (by decide +kernel)).mono fun e w' h => At.of h (by decide +kernel) rfl rfl rfl
theorem fRes1 (hF : SlR w 6 (.slice af 4 cf) ((fls 4).map rowFl)) (hQ : SlR w 4 (.slice aq 8 cq) ((List.replicate 8 m2).map rowMsg)) :
    Calls Try.prog 56 #[.agg #[.int .i64 4, .slice af 4 cf, .slice aq 8 cq]] w (At w 4 (fls 4) 4 (List.replicate 8 m2) 8 ((fls 4).map resP) 4 0) :=
  (obResume ⟨4, fls 4, List.replicate 8 m2⟩ af aq 4 8 cf cq ⟨4, fls 4, List.replicate 8 m2⟩ ((fls 4).map resP) w hF hQ (by decide) (by decide) (by decide +kernel)).mono fun e w' h => At.of h (by decide +kernel) rfl rfl rfl
end
set_option maxRecDepth 100000 in
theorem scr23_form {w : World} {cs : List Value} (h : RdZ Try.prog w 82 cs) : ∃ x aF nF cF aQ nQ cQ aL nL cL, cs = [.int .i64 x, .slice aF nF cF, .slice aQ nQ cQ, .slice aL nL cL] := by
  obtain ⟨hlen, hf⟩ := h.struct Try.underlying82
  have h2 : cs.length = 4 := hlen.trans (by kernel_rfl)
  match cs, h2 with
  | [c0, c1, c2, c3], _ =>
    have hO : RdZ Try.prog w 79 [c0, c1, c2] := by have := hf 0 _ rfl; simpa [show Try.prog.cellsOf 79 = 3 by kernel_rfl] using this
    obtain ⟨-, hg⟩ := hO.struct Try.underlying79
    obtain ⟨x, k0, -⟩ := (hg 0 _ rfl).rd.int Try.underlying3
    obtain ⟨v1, L1, k1, a1, cap1, rfl, -⟩ := (hg 1 _ rfl).rd.slOf (p := fun _ _ _ (_ : Unit) => True) (size := 6) Try.underlying76 (by kernel_rfl) (by decide) (fun b off cs hb hc hr => ⟨(), trivial⟩)
    obtain ⟨v2, L2, k2, a2, cap2, rfl, -⟩ := (hg 2 _ rfl).rd.slOf (p := fun _ _ _ (_ : Unit) => True) (size := 4) Try.underlying77 (by kernel_rfl) (by decide) (fun b off cs hb hc hr => ⟨(), trivial⟩)
    obtain ⟨v3, L3, k3, a3, cap3, rfl, -⟩ := (hf 1 _ rfl).rd.slOf (p := fun _ _ _ (_ : Unit) => True) (size := 8) Try.underlying80 (by kernel_rfl) (by decide) (fun b off cs hb hc hr => ⟨(), trivial⟩)
    have f0 : c0 = .int .i64 x := by simpa [show Try.prog.cellsOf 3 = 1 by kernel_rfl] using k0
    have f1 : c1 = .slice a1 L1.length cap1 := by simpa [show Try.prog.cellsOf 76 = 1 by kernel_rfl] using k1
    have f2 : c2 = .slice a2 L2.length cap2 := by simpa [show Try.prog.cellsOf 77 = 1 by kernel_rfl] using k2
    have f3 : c3 = .slice a3 L3.length cap3 := by simpa [show Try.prog.cellsOf 80 = 1 by kernel_rfl] using k3
    subst f0 f1 f2 f3
    exact ⟨_, _, _, _, _, _, _, _, _, _, rfl⟩
set_option maxRecDepth 100000 in
set_option maxHeartbeats 4000000 in
theorem outboxFull_walk (w : World) (cs : List Value) (h : RdZ Try.prog w 82 cs) :
    Calls Try.prog 12 #[.agg cs.toArray] w fun e w' => e = .returned (.bool true) ∧ Below w.heap.size w w' := by
  obtain ⟨x, aF, nF, cF, aQ, nQ, cQ, aL, nL, cL, rfl⟩ := scr23_form h
  have hnL : (decide (0 ≤ ((nL : Nat) : Int))) = true := decide_eq_true (by omega)
  have hb0 := Below.refl w.heap.size w
  have ho : Owns w.heap.size [] [] w := Owns.nil (fun k hk => nomatch hk)
  refine fw_en 98 [(0, .agg #[.int .i64 x, .slice aF nF cF, .slice aQ nQ cQ, .slice aL nL cL])] Try.func12 rfl Try.ntmps12 rfl ⟨rfl, trivial⟩ ?_
  refine fw_sq ?_
  refine fw_rg rfl ?_
  refine fw_bx rfl (cs := [.int .i64 x, .slice aF nF cF, .slice aQ nQ cQ, .slice aL nL cL]) rfl ?_
  intro q1 W2 g5 s3 r4
  have := Nat.le_trans hb0.size g5
  have b6 := hb0.trans (s3.mono hb0.size)
  have f7 := (Owns.hold ho s3 g5 r4.2.2)
  refine fw_pu rfl ?_
  refine fw_dt ?_
  refine fw_sq ?_
  refine fw_rg rfl ?_
  refine fw_ex 14 (.agg #[.string { data := #[97] }, .string { data := #[] }, .int .i64 2, .bool false]) rfl rfl rfl (fun a h => (run_buildOp (bp2 (h.ev rfl) (h.ev rfl)) (by first | kernel_rfl | rfl))) ?_
  refine fw_al (t := 88) (u := fun q => .pointer (some ⟨q, 0, none⟩)) 3 [.string { data := #[] }, .string { data := #[] }, .int .i64 0, .bool false] rfl rfl rfl (fun a h => (run_allocOp (by simp [go_sem, Instr.alloc]))) ?_
  intro q8 W9 g12 s10 r11
  have := Nat.le_trans b6.size g12
  have := r4.lt g12
  have b13 := b6.trans (s10.mono b6.size)
  have r14 := r4.below s10
  have f15 := (Owns.hold f7 s10 g12 r11.2.2)
  refine fw_st r11 rfl rfl ?_
  intro W16 s17 r18
  have b19 := below_chg b13 s17 (by omega) b13.size
  have r20 := r14.chg s17 (by omega)
  have f21 := (Owns.chg f15 s17 (by simp))
  refine fw_dt ?_
  refine fw_sq ?_
  refine fw_sq ?_
  refine fw_rg rfl ?_
  refine fw_pu rfl ?_
  refine fw_dt ?_
  refine fw_bk ?_
  refine fw_lp (fun N K W => ∃ (k : Nat), N = 2 - k ∧ k ≤ 2 ∧ Owns w.heap.size (q8 :: q1 :: []) [] W ∧ K = [(1, .pointer (some ⟨q1, 0, none⟩)), (3, .pointer (some ⟨q8, 0, none⟩)), (4, .int .i64 ((k : Nat) : Int))] ∧ Below w.heap.size w W ∧ RowAt W q1 [.int .i64 x, .slice aF nF cF, .slice aQ nQ cQ, .slice aL nL cL] ∧ RowAt W q8 [.string { data := #[97] }, .string { data := #[] }, .int .i64 2, .bool false]) _ _ ⟨0, rfl, Nat.zero_le _, f21, rfl, b19, r20, r18⟩ ⟨rfl, rfl, (by first | rfl | (simp only [Look, cond, Nat.beq]; first | rfl | (congr 2; first | rfl | omega | (push_cast; omega)) | (simp; try omega))), trivial⟩ ?_
  rintro N _ W22 ⟨k, rfl, hkl, ho0, rfl, bW22, rW22_0, rW22_1⟩
  intro K24 hK24
  refine fw_sq ?_
  refine fw_sq ?_
  refine fw_rg rfl ?_
  iterate 2 refine fw_pu rfl ?_
  refine fw_dt ?_
  rcases Bool.eq_false_or_eq_true ((decide (((k : Nat) : Int) < 2))) with hb_25 | hb_25
  · skip
    refine fw_cT rfl hb_25 ?_
    refine fw_sk ?_
    refine fw_th ?_
    refine fw_sq ?_
    refine fw_bk ?_
    refine fw_sq ?_
    refine fw_rg rfl ?_
    refine fw_al (t := 79) (u := fun q => .pointer (some ⟨q, 0, none⟩)) 5 [.int .i64 0, .slice none 0 0, .slice none 0 0] rfl rfl rfl (fun a h => (run_allocOp (by simp [go_sem, Instr.alloc]))) ?_
    intro q26 W27 g30 s28 r29
    have := Nat.le_trans bW22.size g30
    have := rW22_0.lt g30
    have := rW22_1.lt g30
    have b31 := bW22.trans (s28.mono bW22.size)
    have r32 := rW22_0.below s28
    have r33 := rW22_1.below s28
    have f34 := (Owns.hold ho0 s28 g30 r29.2.2)
    refine fw_dt ?_
    refine fw_sq ?_
    refine fw_rg rfl ?_
    refine fw_pu rfl ?_
    refine fw_dt ?_
    refine fw_sq ?_
    refine fw_sq ?_
    refine fw_rg rfl ?_
    iterate 2 refine fw_pu rfl ?_
    refine fw_dt ?_
    rcases Bool.eq_false_or_eq_true ((((k : Nat) : Int) == 1)) with hb_35 | hb_35
    · skip
      refine fw_cT rfl hb_35 ?_
      refine fw_rg rfl ?_
      refine fw_pu rfl ?_
      refine fw_ex 22 (.int .i64 12) rfl rfl rfl (fun a h => (run_binOp (h.ev rfl) (h.ev rfl) (by simp [go_sem]) (addIw _ _ _ _ (by omega) (by omega) (by omega)))) ?_
      refine fw_pu rfl ?_
      refine fw_dt ?_
      refine fw_sq ?_
      refine fw_sq ?_
      have hk2 : k < 2 := by have h := of_decide_eq_true hb_25; omega
      obtain rfl : k = 1 := by have h := hb_35; rw [beq_iff_eq] at h; omega
      refine fw_rg rfl ?_
      refine fw_pu rfl ?_
      refine fw_dt ?_
      refine fw_bk ?_
      have hoF : Owns w.heap.size (q26 :: q8 :: q1 :: []) (orF (.slice none 0 0) [] :: orM (.slice none 0 0) [] :: []) W27 := Owns.cons (orF (.slice none 0 0) []) (Owns.cons (R := []) (orM (.slice none 0 0) []) f34 rfl (MsOwn.nil _ _) 0) rfl (FlOwn.nil _ _) 0
      refine fw_lp (fun N K W => ∃ (i : Nat) (af : Option Addr) (cf : Nat) (aq : Option Addr) (cq : Nat), N = 14 - i ∧ i ≤ 14 ∧ RowAt W q26 [.int .i64 (fS 1 i).last, .slice af (fS 1 i).fl.length cf, .slice aq (fS 1 i).qu.length cq] ∧ Owns w.heap.size (q26 :: q8 :: q1 :: []) (orF (.slice af (fS 1 i).fl.length cf) (fS 1 i).fl :: orM (.slice aq (fS 1 i).qu.length cq) (fS 1 i).qu :: []) W ∧ K = [(1, .pointer (some ⟨q1, 0, none⟩)), (3, .pointer (some ⟨q8, 0, none⟩)), (4, .int .i64 1), (5, .pointer (some ⟨q26, 0, none⟩)), (6, .int .i64 12), (7, .int .i64 ((i : Nat) : Int))] ∧ Below w.heap.size w W ∧ RowAt W q1 [.int .i64 x, .slice aF nF cF, .slice aQ nQ cQ, .slice aL nL cL] ∧ RowAt W q8 [.string { data := #[97] }, .string { data := #[] }, .int .i64 2, .bool false]) _ _ ⟨0, none, 0, none, 0, rfl, Nat.zero_le _, r29, hoF, rfl, b31, r32, r33⟩ ⟨rfl, rfl, rfl, rfl, rfl, (by first | rfl | (simp only [Look, cond, Nat.beq]; first | rfl | (congr 2; first | rfl | omega | (push_cast; omega)) | (simp; try omega))), trivial⟩ ?_
      rintro N _ W36 ⟨i, af, cf, aq, cq, rfl, hil, hr0, ho0, rfl, bW36, rW36_0, rW36_1⟩
      intro K38 hK38
      refine fw_sq ?_
      refine fw_sq ?_
      refine fw_rg rfl ?_
      iterate 2 refine fw_pu rfl ?_
      refine fw_ex 25 (.int .i64 14) rfl rfl rfl (fun a h => (run_binOp (h.ev rfl) (h.ev rfl) (by simp [go_sem]) (addIw _ _ _ _ (by omega) (by omega) (by omega)))) ?_
      refine fw_pu rfl ?_
      refine fw_dt ?_
      rcases Bool.eq_false_or_eq_true ((decide (((i : Nat) : Int) < 14))) with hb_39 | hb_39
      · skip
        refine fw_cT rfl hb_39 ?_
        refine fw_sk ?_
        refine fw_th ?_
        refine fw_sq ?_
        refine fw_bk ?_
        refine fw_sq ?_
        have hiR : i < 14 := by have h := of_decide_eq_true hb_39; omega
        refine fw_rg rfl ?_
        refine fw_ld hr0 rfl rfl ?_
        refine fw_ld rW36_1 rfl rfl ?_
        iterate 2 refine fw_pu rfl ?_
        refine fw_ca Try.func54 rfl rfl rfl ((fOff (k := 1) (i := i) (w := W36) (by decide) (by rfl) (by omega) (Owns.slF ho0 0 rfl) (Owns.slM ho0 1 rfl))) ?_
        rintro _ V40 ⟨af41, cf41, aq41, cq41, ap41, cp41, rfl, ho41, hb41⟩
        refine ⟨_, rfl, ?_⟩
        have hoA41 := Owns.app ho0 hb41 ho41 bW36.size
        have hoB41 : Owns w.heap.size (q26 :: q8 :: q1 :: []) ((orF (.slice af (fS 1 i).fl.length cf) (fS 1 i).fl) :: (orM (.slice aq (fS 1 i).qu.length cq) (fS 1 i).qu) :: (orF (.slice af41 (fX 1 i).fl.length cf41) (fX 1 i).fl) :: (orM (.slice aq41 (fX 1 i).qu.length cq41) (fX 1 i).qu) :: (orP (.slice ap41 (fQ 1 i).length cp41) (fQ 1 i)) :: []) V40 := Owns.sub hoA41 (.cons_cons _ (.cons_cons _ (.cons_cons _ (.cons_cons _ (.cons_cons _ .slnil)))))
        have b42 := bW36.trans (hb41.mono bW36.size)
        have r43 := rW36_0.below hb41
        have r44 := rW36_1.below hb41
        have r45 := hr0.below hb41
        iterate 4 refine fw_pu rfl ?_
        refine fw_al (t := 79) (u := fun q => .pointer (some ⟨q, 0, none⟩)) 8 [.int .i64 0, .slice none 0 0, .slice none 0 0] rfl rfl rfl (fun a h => (run_allocOp (by simp [go_sem, Instr.alloc]))) ?_
        intro q46 W47 g50 s48 r49
        have := Nat.le_trans b42.size g50
        have := r43.lt g50
        have := r44.lt g50
        have := r45.lt g50
        have b51 := b42.trans (s48.mono b42.size)
        have r52 := r43.below s48
        have r53 := r44.below s48
        have r54 := r45.below s48
        have f55 := (Owns.hold hoB41 s48 g50 r49.2.2)
        refine fw_st r49 rfl rfl ?_
        intro W56 s57 r58
        have b59 := below_chg b51 s57 (by omega) b51.size
        have r60 := r52.chg s57 (by omega)
        have r61 := r53.chg s57 (by omega)
        have r62 := r54.chg s57 (by omega)
        have f63 := (Owns.chg f55 s57 (by simp))
        iterate 2 refine fw_pu rfl ?_
        refine fw_dt ?_
        refine fw_sq ?_
        refine fw_sq ?_
        refine fw_rg rfl ?_
        iterate 3 refine fw_pu rfl ?_
        refine fw_dt ?_
        rcases Bool.eq_false_or_eq_true ((decide (12 ≤ ((i : Nat) : Int)))) with hb_64 | hb_64
        · skip
          refine fw_cT rfl hb_64 ?_
          refine fw_sq ?_
          refine fw_sq ?_
          have hiF : 12 ≤ i := by have h := of_decide_eq_true hb_64; omega
          have hE5 := fE_full (k := 1) (i := i) (by omega)
          refine fw_rg rfl ?_
          refine fw_pu rfl ?_
          refine fw_ca Try.func55 rfl rfl rfl ((num23_any (fE 1 i) W56)) ?_
          rintro _ _ ⟨rfl, rfl⟩
          refine ⟨(.int .i64 (fE 1 i)), rfl, ?_⟩
          refine fw_pu rfl ?_
          refine fw_dt ?_
          refine fw_cF rfl (not_of hE5) ?_
          refine fw_sk ?_
          refine fw_th ?_
          refine fw_xt ?_
          refine fw_te ?_
          refine fw_be ?_
          refine fw_th ?_
          refine fw_rg rfl ?_
          refine fw_pu rfl ?_
          refine fw_ex 28 (.int .i64 (((i + 1) : Nat) : Int)) rfl rfl rfl (fun a h => (run_binOp (h.ev rfl) (h.ev rfl) (by simp [go_sem]) (addIw _ _ _ _ (by omega) (by omega) (by omega)))) ?_
          refine fw_pu rfl ?_
          refine fw_dn ?_
          have hst := f_stay 1 (by decide) i (by omega) (by omega)
          have hoE := Owns.sub (Owns.subH (H := (q26 :: q8 :: q1 :: [])) f63 (fun k hk => by simp only [List.mem_cons, List.not_mem_nil, or_false] at hk ⊢; rcases hk with rfl | rfl | rfl <;> simp)) (.cons_cons _ (.cons_cons _ (.cons _ (.cons _ (.cons _ .slnil)))))
          exact fw_th (fw_gf (hK38 _ _ _ (by omega) ⟨(i + 1), af, cf, aq, cq, rfl, (by omega), (by rw [hst]; exact r62), (by rw [hst]; exact hoE), rfl, b59, r60, r61⟩) ⟨rfl, rfl, rfl, rfl, rfl, (by first | rfl | (simp only [Look, cond, Nat.beq]; first | rfl | (congr 2; first | rfl | omega | (push_cast; omega)) | (simp; try omega))), trivial⟩)
        refine fw_cF rfl hb_64 ?_
        refine fw_sk ?_
        refine fw_th ?_
        refine fw_sq ?_
        refine fw_sq ?_
        have hiF : i < 12 := by have h := of_decide_eq_false hb_64; omega
        have hE0 := fE_room (k := 1) (i := i) (by omega)
        refine fw_rg rfl ?_
        refine fw_pu rfl ?_
        refine fw_ca Try.func55 rfl rfl rfl ((num23_any (fE 1 i) W56)) ?_
        rintro _ _ ⟨rfl, rfl⟩
        refine ⟨(.int .i64 (fE 1 i)), rfl, ?_⟩
        refine fw_pu rfl ?_
        refine fw_dt ?_
        refine fw_cF rfl (not_of hE0) ?_
        refine fw_sk ?_
        refine fw_th ?_
        refine fw_rg rfl ?_
        refine fw_ld r58 rfl rfl ?_
        refine fw_st r62 rfl rfl ?_
        intro W65 s66 r67
        have b68 := below_chg b59 s66 (by omega) b59.size
        have r69 := r60.chg s66 (by omega)
        have r70 := r61.chg s66 (by omega)
        have r71 := r58.chg s66 (by omega)
        have f72 := (Owns.chg f63 s66 (by simp))
        refine fw_dn ?_
        refine fw_bn ?_
        refine fw_th ?_
        refine fw_rg rfl ?_
        refine fw_pu rfl ?_
        refine fw_ex 28 (.int .i64 (((i + 1) : Nat) : Int)) rfl rfl rfl (fun a h => (run_binOp (h.ev rfl) (h.ev rfl) (by simp [go_sem]) (addIw _ _ _ _ (by omega) (by omega) (by omega)))) ?_
        refine fw_pu rfl ?_
        refine fw_dn ?_
        have hon := fX_on (k := 1) (i := i) (by omega)
        have hoE := Owns.sub (Owns.subH (H := (q26 :: q8 :: q1 :: [])) f72 (fun k hk => by simp only [List.mem_cons, List.not_mem_nil, or_false] at hk ⊢; rcases hk with rfl | rfl | rfl <;> simp)) (.cons _ (.cons _ (.cons_cons _ (.cons_cons _ (.cons _ .slnil)))))
        exact fw_th (fw_gf (hK38 _ _ _ (by omega) ⟨(i + 1), af41, cf41, aq41, cq41, rfl, (by omega), (by rw [← hon]; exact r67), (by rw [← hon]; exact hoE), rfl, b68, r69, r70⟩) ⟨rfl, rfl, rfl, rfl, rfl, (by first | rfl | (simp only [Look, cond, Nat.beq]; first | rfl | (congr 2; first | rfl | omega | (push_cast; omega)) | (simp; try omega))), trivial⟩)
      refine fw_cF rfl hb_39 ?_
      refine fw_xt ?_
      refine fw_te ?_
      refine fw_te ?_
      refine fw_be ?_
      refine fw_th ?_
      refine fw_sq ?_
      refine fw_sq ?_
      obtain rfl : i = 14 := by have h := of_decide_eq_false hb_39; omega
      have hr9 : RowAt W36 q26 [.int .i64 4, .slice af 4 cf, .slice aq 8 cq] := hr0
      have ho9 : Owns w.heap.size (q26 :: q8 :: q1 :: []) ((orF (.slice af 4 cf) (fls 4)) :: (orM (.slice aq 8 cq) (List.replicate 8 m2)) :: []) W36 := ho0
      refine fw_rg rfl ?_
      refine fw_pu rfl ?_
      refine fw_ld hr9 rfl rfl ?_
      iterate 4 refine fw_pu rfl ?_
      refine fw_ld hr9 rfl rfl ?_
      iterate 2 refine fw_pu rfl ?_
      refine fw_ex 57 (.int .i64 4) rfl rfl rfl (fun a h => (run_binOp (h.ev rfl) (h.ev rfl) (by simp [go_sem]) (by simp [go_sem]; exact wrap_i64 _ (by decide) (by decide)))) ?_
      iterate 2 refine fw_pu rfl ?_
      refine fw_dt ?_
      refine fw_cF rfl rfl ?_
      refine fw_sk ?_
      refine fw_th ?_
      refine fw_sq ?_
      refine fw_rg rfl ?_
      refine fw_ld hr9 rfl rfl ?_
      refine fw_ca Try.func56 rfl rfl rfl ((fRes1 (w := W36) (Owns.slF ho9 0 rfl) (Owns.slM ho9 1 rfl))) ?_
      rintro _ V73 ⟨af74, cf74, aq74, cq74, ap74, cp74, rfl, ho74, hb74⟩
      refine ⟨_, rfl, ?_⟩
      have hoA74 := Owns.app ho9 hb74 ho74 bW36.size
      have hoB74 : Owns w.heap.size (q26 :: q8 :: q1 :: []) ((orF (.slice af74 4 cf74) (fls 4)) :: (orM (.slice aq74 8 cq74) (List.replicate 8 m2)) :: (orP (.slice ap74 4 cp74) ((fls 4).map resP)) :: []) V73 := Owns.sub hoA74 (.cons _ (.cons _ (.cons_cons _ (.cons_cons _ (.cons_cons _ .slnil)))))
      have b75 := bW36.trans (hb74.mono bW36.size)
      have r76 := rW36_0.below hb74
      have r77 := rW36_1.below hb74
      have r78 := hr9.below hb74
      iterate 4 refine fw_pu rfl ?_
      refine fw_al (t := 79) (u := fun q => .pointer (some ⟨q, 0, none⟩)) 11 [.int .i64 0, .slice none 0 0, .slice none 0 0] rfl rfl rfl (fun a h => (run_allocOp (by simp [go_sem, Instr.alloc]))) ?_
      intro q79 W80 g83 s81 r82
      have := Nat.le_trans b75.size g83
      have := r76.lt g83
      have := r77.lt g83
      have := r78.lt g83
      have b84 := b75.trans (s81.mono b75.size)
      have r85 := r76.below s81
      have r86 := r77.below s81
      have r87 := r78.below s81
      have f88 := (Owns.hold hoB74 s81 g83 r82.2.2)
      refine fw_st r82 rfl rfl ?_
      intro W89 s90 r91
      have b92 := below_chg b84 s90 (by omega) b84.size
      have r93 := r85.chg s90 (by omega)
      have r94 := r86.chg s90 (by omega)
      have r95 := r87.chg s90 (by omega)
      have f96 := (Owns.chg f88 s90 (by simp))
      iterate 2 refine fw_pu rfl ?_
      refine fw_dt ?_
      refine fw_sq ?_
      refine fw_rg rfl ?_
      refine fw_pu rfl ?_
      refine fw_ca Try.func55 rfl rfl rfl ((num23_any 0 W89)) ?_
      rintro _ _ ⟨rfl, rfl⟩
      refine ⟨(.int .i64 0), rfl, ?_⟩
      iterate 8 refine fw_pu rfl ?_
      refine fw_ld r91 rfl rfl ?_
      iterate 5 refine fw_pu rfl ?_
      refine fw_ld r91 rfl rfl ?_
      iterate 2 refine fw_pu rfl ?_
      refine fw_ld r91 rfl rfl ?_
      refine fw_pu rfl ?_
      refine fw_ex 87 (.int .i64 12) rfl rfl rfl (fun a h => (run_binOp (h.ev rfl) (h.ev rfl) (by simp [go_sem]) (addIw _ _ _ _ (by omega) (by omega) (by omega)))) ?_
      iterate 3 refine fw_pu rfl ?_
      refine fw_dt ?_
      refine fw_cF rfl rfl ?_
      refine fw_sk ?_
      refine fw_bn ?_
      refine fw_th ?_
      refine fw_rg rfl ?_
      refine fw_pu rfl ?_
      refine fw_ex 18 (.int .i64 2) rfl rfl rfl (fun a h => (run_binOp (h.ev rfl) (h.ev rfl) (by simp [go_sem]) (addIw _ _ _ _ (by omega) (by omega) (by omega)))) ?_
      refine fw_pu rfl ?_
      refine fw_dn ?_
      have hoE := Owns.sub (Owns.subH (H := (q8 :: q1 :: [])) f96 (fun k hk => by simp only [List.mem_cons, List.not_mem_nil, or_false] at hk ⊢; rcases hk with rfl | rfl <;> simp)) (List.nil_sublist _)
      exact fw_th (fw_gf (hK24 _ _ _ (by omega) ⟨(1 + 1), rfl, (by omega), hoE, rfl, b92, r93, r94⟩) ⟨rfl, rfl, (by first | rfl | (simp only [Look, cond, Nat.beq]; first | rfl | (congr 2; first | rfl | omega | (push_cast; omega)) | (simp; try omega))), trivial⟩)
    refine fw_cF rfl hb_35 ?_
    refine fw_sk ?_
    refine fw_th ?_
    refine fw_sq ?_
    refine fw_sq ?_
    have hk2 : k < 2 := by have h := of_decide_eq_true hb_25; omega
    obtain rfl : k = 0 := by have h := hb_35; rw [beq_eq_false_iff_ne] at h; omega
    refine fw_rg rfl ?_
    refine fw_pu rfl ?_
    refine fw_dt ?_
    refine fw_bk ?_
    have hoF : Owns w.heap.size (q26 :: q8 :: q1 :: []) (orF (.slice none 0 0) [] :: orM (.slice none 0 0) [] :: []) W27 := Owns.cons (orF (.slice none 0 0) []) (Owns.cons (R := []) (orM (.slice none 0 0) []) f34 rfl (MsOwn.nil _ _) 0) rfl (FlOwn.nil _ _) 0
    refine fw_lp (fun N K W => ∃ (i : Nat) (af : Option Addr) (cf : Nat) (aq : Option Addr) (cq : Nat), N = 10 - i ∧ i ≤ 10 ∧ RowAt W q26 [.int .i64 (fS 0 i).last, .slice af (fS 0 i).fl.length cf, .slice aq (fS 0 i).qu.length cq] ∧ Owns w.heap.size (q26 :: q8 :: q1 :: []) (orF (.slice af (fS 0 i).fl.length cf) (fS 0 i).fl :: orM (.slice aq (fS 0 i).qu.length cq) (fS 0 i).qu :: []) W ∧ K = [(1, .pointer (some ⟨q1, 0, none⟩)), (3, .pointer (some ⟨q8, 0, none⟩)), (4, .int .i64 0), (5, .pointer (some ⟨q26, 0, none⟩)), (6, .int .i64 8), (7, .int .i64 ((i : Nat) : Int))] ∧ Below w.heap.size w W ∧ RowAt W q1 [.int .i64 x, .slice aF nF cF, .slice aQ nQ cQ, .slice aL nL cL] ∧ RowAt W q8 [.string { data := #[97] }, .string { data := #[] }, .int .i64 2, .bool false]) _ _ ⟨0, none, 0, none, 0, rfl, Nat.zero_le _, r29, hoF, rfl, b31, r32, r33⟩ ⟨rfl, rfl, rfl, rfl, rfl, (by first | rfl | (simp only [Look, cond, Nat.beq]; first | rfl | (congr 2; first | rfl | omega | (push_cast; omega)) | (simp; try omega))), trivial⟩ ?_
    rintro N _ W97 ⟨i, af, cf, aq, cq, rfl, hil, hr0, ho0, rfl, bW97, rW97_0, rW97_1⟩
    intro K99 hK99
    refine fw_sq ?_
    refine fw_sq ?_
    refine fw_rg rfl ?_
    iterate 2 refine fw_pu rfl ?_
    refine fw_ex 25 (.int .i64 10) rfl rfl rfl (fun a h => (run_binOp (h.ev rfl) (h.ev rfl) (by simp [go_sem]) (addIw _ _ _ _ (by omega) (by omega) (by omega)))) ?_
    refine fw_pu rfl ?_
    refine fw_dt ?_
    rcases Bool.eq_false_or_eq_true ((decide (((i : Nat) : Int) < 10))) with hb_100 | hb_100
    · skip
      refine fw_cT rfl hb_100 ?_
      refine fw_sk ?_
      refine fw_th ?_
      refine fw_sq ?_
      refine fw_bk ?_
      refine fw_sq ?_
      have hiR : i < 10 := by have h := of_decide_eq_true hb_100; omega
      refine fw_rg rfl ?_
      refine fw_ld hr0 rfl rfl ?_
      refine fw_ld rW97_1 rfl rfl ?_
      iterate 2 refine fw_pu rfl ?_
      refine fw_ca Try.func54 rfl rfl rfl ((fOff (k := 0) (i := i) (w := W97) (by decide) (by rfl) (by omega) (Owns.slF ho0 0 rfl) (Owns.slM ho0 1 rfl))) ?_
      rintro _ V101 ⟨af102, cf102, aq102, cq102, ap102, cp102, rfl, ho102, hb102⟩
      refine ⟨_, rfl, ?_⟩
      have hoA102 := Owns.app ho0 hb102 ho102 bW97.size
      have hoB102 : Owns w.heap.size (q26 :: q8 :: q1 :: []) ((orF (.slice af (fS 0 i).fl.length cf) (fS 0 i).fl) :: (orM (.slice aq (fS 0 i).qu.length cq) (fS 0 i).qu) :: (orF (.slice af102 (fX 0 i).fl.length cf102) (fX 0 i).fl) :: (orM (.slice aq102 (fX 0 i).qu.length cq102) (fX 0 i).qu) :: (orP (.slice ap102 (fQ 0 i).length cp102) (fQ 0 i)) :: []) V101 := Owns.sub hoA102 (.cons_cons _ (.cons_cons _ (.cons_cons _ (.cons_cons _ (.cons_cons _ .slnil)))))
      have b103 := bW97.trans (hb102.mono bW97.size)
      have r104 := rW97_0.below hb102
      have r105 := rW97_1.below hb102
      have r106 := hr0.below hb102
      iterate 4 refine fw_pu rfl ?_
      refine fw_al (t := 79) (u := fun q => .pointer (some ⟨q, 0, none⟩)) 8 [.int .i64 0, .slice none 0 0, .slice none 0 0] rfl rfl rfl (fun a h => (run_allocOp (by simp [go_sem, Instr.alloc]))) ?_
      intro q107 W108 g111 s109 r110
      have := Nat.le_trans b103.size g111
      have := r104.lt g111
      have := r105.lt g111
      have := r106.lt g111
      have b112 := b103.trans (s109.mono b103.size)
      have r113 := r104.below s109
      have r114 := r105.below s109
      have r115 := r106.below s109
      have f116 := (Owns.hold hoB102 s109 g111 r110.2.2)
      refine fw_st r110 rfl rfl ?_
      intro W117 s118 r119
      have b120 := below_chg b112 s118 (by omega) b112.size
      have r121 := r113.chg s118 (by omega)
      have r122 := r114.chg s118 (by omega)
      have r123 := r115.chg s118 (by omega)
      have f124 := (Owns.chg f116 s118 (by simp))
      iterate 2 refine fw_pu rfl ?_
      refine fw_dt ?_
      refine fw_sq ?_
      refine fw_sq ?_
      refine fw_rg rfl ?_
      iterate 3 refine fw_pu rfl ?_
      refine fw_dt ?_
      rcases Bool.eq_false_or_eq_true ((decide (8 ≤ ((i : Nat) : Int)))) with hb_125 | hb_125
      · skip
        refine fw_cT rfl hb_125 ?_
        refine fw_sq ?_
        refine fw_sq ?_
        have hiF : 8 ≤ i := by have h := of_decide_eq_true hb_125; omega
        have hE5 := fE_full (k := 0) (i := i) (by omega)
        refine fw_rg rfl ?_
        refine fw_pu rfl ?_
        refine fw_ca Try.func55 rfl rfl rfl ((num23_any (fE 0 i) W117)) ?_
        rintro _ _ ⟨rfl, rfl⟩
        refine ⟨(.int .i64 (fE 0 i)), rfl, ?_⟩
        refine fw_pu rfl ?_
        refine fw_dt ?_
        refine fw_cF rfl (not_of hE5) ?_
        refine fw_sk ?_
        refine fw_th ?_
        refine fw_xt ?_
        refine fw_te ?_
        refine fw_be ?_
        refine fw_th ?_
        refine fw_rg rfl ?_
        refine fw_pu rfl ?_
        refine fw_ex 28 (.int .i64 (((i + 1) : Nat) : Int)) rfl rfl rfl (fun a h => (run_binOp (h.ev rfl) (h.ev rfl) (by simp [go_sem]) (addIw _ _ _ _ (by omega) (by omega) (by omega)))) ?_
        refine fw_pu rfl ?_
        refine fw_dn ?_
        have hst := f_stay 0 (by decide) i (by omega) (by omega)
        have hoE := Owns.sub (Owns.subH (H := (q26 :: q8 :: q1 :: [])) f124 (fun k hk => by simp only [List.mem_cons, List.not_mem_nil, or_false] at hk ⊢; rcases hk with rfl | rfl | rfl <;> simp)) (.cons_cons _ (.cons_cons _ (.cons _ (.cons _ (.cons _ .slnil)))))
        exact fw_th (fw_gf (hK99 _ _ _ (by omega) ⟨(i + 1), af, cf, aq, cq, rfl, (by omega), (by rw [hst]; exact r123), (by rw [hst]; exact hoE), rfl, b120, r121, r122⟩) ⟨rfl, rfl, rfl, rfl, rfl, (by first | rfl | (simp only [Look, cond, Nat.beq]; first | rfl | (congr 2; first | rfl | omega | (push_cast; omega)) | (simp; try omega))), trivial⟩)
      refine fw_cF rfl hb_125 ?_
      refine fw_sk ?_
      refine fw_th ?_
      refine fw_sq ?_
      refine fw_sq ?_
      have hiF : i < 8 := by have h := of_decide_eq_false hb_125; omega
      have hE0 := fE_room (k := 0) (i := i) (by omega)
      refine fw_rg rfl ?_
      refine fw_pu rfl ?_
      refine fw_ca Try.func55 rfl rfl rfl ((num23_any (fE 0 i) W117)) ?_
      rintro _ _ ⟨rfl, rfl⟩
      refine ⟨(.int .i64 (fE 0 i)), rfl, ?_⟩
      refine fw_pu rfl ?_
      refine fw_dt ?_
      refine fw_cF rfl (not_of hE0) ?_
      refine fw_sk ?_
      refine fw_th ?_
      refine fw_rg rfl ?_
      refine fw_ld r119 rfl rfl ?_
      refine fw_st r123 rfl rfl ?_
      intro W126 s127 r128
      have b129 := below_chg b120 s127 (by omega) b120.size
      have r130 := r121.chg s127 (by omega)
      have r131 := r122.chg s127 (by omega)
      have r132 := r119.chg s127 (by omega)
      have f133 := (Owns.chg f124 s127 (by simp))
      refine fw_dn ?_
      refine fw_bn ?_
      refine fw_th ?_
      refine fw_rg rfl ?_
      refine fw_pu rfl ?_
      refine fw_ex 28 (.int .i64 (((i + 1) : Nat) : Int)) rfl rfl rfl (fun a h => (run_binOp (h.ev rfl) (h.ev rfl) (by simp [go_sem]) (addIw _ _ _ _ (by omega) (by omega) (by omega)))) ?_
      refine fw_pu rfl ?_
      refine fw_dn ?_
      have hon := fX_on (k := 0) (i := i) (by omega)
      have hoE := Owns.sub (Owns.subH (H := (q26 :: q8 :: q1 :: [])) f133 (fun k hk => by simp only [List.mem_cons, List.not_mem_nil, or_false] at hk ⊢; rcases hk with rfl | rfl | rfl <;> simp)) (.cons _ (.cons _ (.cons_cons _ (.cons_cons _ (.cons _ .slnil)))))
      exact fw_th (fw_gf (hK99 _ _ _ (by omega) ⟨(i + 1), af102, cf102, aq102, cq102, rfl, (by omega), (by rw [← hon]; exact r128), (by rw [← hon]; exact hoE), rfl, b129, r130, r131⟩) ⟨rfl, rfl, rfl, rfl, rfl, (by first | rfl | (simp only [Look, cond, Nat.beq]; first | rfl | (congr 2; first | rfl | omega | (push_cast; omega)) | (simp; try omega))), trivial⟩)
    refine fw_cF rfl hb_100 ?_
    refine fw_xt ?_
    refine fw_te ?_
    refine fw_te ?_
    refine fw_be ?_
    refine fw_th ?_
    refine fw_sq ?_
    refine fw_sq ?_
    obtain rfl : i = 10 := by have h := of_decide_eq_false hb_100; omega
    have hr9 : RowAt W97 q26 [.int .i64 0, .slice af 0 cf, .slice aq 8 cq] := hr0
    have ho9 : Owns w.heap.size (q26 :: q8 :: q1 :: []) ((orF (.slice af 0 cf) []) :: (orM (.slice aq 8 cq) (List.replicate 8 m2)) :: []) W97 := ho0
    refine fw_rg rfl ?_
    refine fw_pu rfl ?_
    refine fw_ld hr9 rfl rfl ?_
    iterate 4 refine fw_pu rfl ?_
    refine fw_ld hr9 rfl rfl ?_
    iterate 2 refine fw_pu rfl ?_
    refine fw_ex 57 (.int .i64 0) rfl rfl rfl (fun a h => (run_binOp (h.ev rfl) (h.ev rfl) (by simp [go_sem]) (by simp [go_sem]; exact wrap_i64 _ (by decide) (by decide)))) ?_
    iterate 2 refine fw_pu rfl ?_
    refine fw_dt ?_
    refine fw_cF rfl rfl ?_
    refine fw_sk ?_
    refine fw_th ?_
    refine fw_sq ?_
    refine fw_rg rfl ?_
    refine fw_ld hr9 rfl rfl ?_
    refine fw_ca Try.func56 rfl rfl rfl ((fRes0 (w := W97) (Owns.slF ho9 0 rfl) (Owns.slM ho9 1 rfl))) ?_
    rintro _ V134 ⟨af135, cf135, aq135, cq135, ap135, cp135, rfl, ho135, hb135⟩
    refine ⟨_, rfl, ?_⟩
    have hoA135 := Owns.app ho9 hb135 ho135 bW97.size
    have hoB135 : Owns w.heap.size (q26 :: q8 :: q1 :: []) ((orF (.slice af135 4 cf135) (fls 4)) :: (orM (.slice aq135 4 cq135) (List.replicate 4 m2)) :: (orP (.slice ap135 4 cp135) ((fls 4).map pubP)) :: []) V134 := Owns.sub hoA135 (.cons _ (.cons _ (.cons_cons _ (.cons_cons _ (.cons_cons _ .slnil)))))
    have b136 := bW97.trans (hb135.mono bW97.size)
    have r137 := rW97_0.below hb135
    have r138 := rW97_1.below hb135
    have r139 := hr9.below hb135
    iterate 4 refine fw_pu rfl ?_
    refine fw_al (t := 79) (u := fun q => .pointer (some ⟨q, 0, none⟩)) 11 [.int .i64 0, .slice none 0 0, .slice none 0 0] rfl rfl rfl (fun a h => (run_allocOp (by simp [go_sem, Instr.alloc]))) ?_
    intro q140 W141 g144 s142 r143
    have := Nat.le_trans b136.size g144
    have := r137.lt g144
    have := r138.lt g144
    have := r139.lt g144
    have b145 := b136.trans (s142.mono b136.size)
    have r146 := r137.below s142
    have r147 := r138.below s142
    have r148 := r139.below s142
    have f149 := (Owns.hold hoB135 s142 g144 r143.2.2)
    refine fw_st r143 rfl rfl ?_
    intro W150 s151 r152
    have b153 := below_chg b145 s151 (by omega) b145.size
    have r154 := r146.chg s151 (by omega)
    have r155 := r147.chg s151 (by omega)
    have r156 := r148.chg s151 (by omega)
    have f157 := (Owns.chg f149 s151 (by simp))
    iterate 2 refine fw_pu rfl ?_
    refine fw_dt ?_
    refine fw_sq ?_
    refine fw_rg rfl ?_
    refine fw_pu rfl ?_
    refine fw_ca Try.func55 rfl rfl rfl ((num23_any 0 W150)) ?_
    rintro _ _ ⟨rfl, rfl⟩
    refine ⟨(.int .i64 0), rfl, ?_⟩
    iterate 8 refine fw_pu rfl ?_
    refine fw_ld r152 rfl rfl ?_
    iterate 5 refine fw_pu rfl ?_
    refine fw_ld r152 rfl rfl ?_
    iterate 2 refine fw_pu rfl ?_
    refine fw_ld r152 rfl rfl ?_
    refine fw_pu rfl ?_
    refine fw_ex 87 (.int .i64 8) rfl rfl rfl (fun a h => (run_binOp (h.ev rfl) (h.ev rfl) (by simp [go_sem]) (addIw _ _ _ _ (by omega) (by omega) (by omega)))) ?_
    iterate 3 refine fw_pu rfl ?_
    refine fw_dt ?_
    refine fw_cF rfl rfl ?_
    refine fw_sk ?_
    refine fw_bn ?_
    refine fw_th ?_
    refine fw_rg rfl ?_
    refine fw_pu rfl ?_
    refine fw_ex 18 (.int .i64 1) rfl rfl rfl (fun a h => (run_binOp (h.ev rfl) (h.ev rfl) (by simp [go_sem]) (addIw _ _ _ _ (by omega) (by omega) (by omega)))) ?_
    refine fw_pu rfl ?_
    refine fw_dn ?_
    have hoE := Owns.sub (Owns.subH (H := (q8 :: q1 :: [])) f157 (fun k hk => by simp only [List.mem_cons, List.not_mem_nil, or_false] at hk ⊢; rcases hk with rfl | rfl <;> simp)) (List.nil_sublist _)
    exact fw_th (fw_gf (hK24 _ _ _ (by omega) ⟨(0 + 1), rfl, (by omega), hoE, rfl, b153, r154, r155⟩) ⟨rfl, rfl, (by first | rfl | (simp only [Look, cond, Nat.beq]; first | rfl | (congr 2; first | rfl | omega | (push_cast; omega)) | (simp; try omega))), trivial⟩)
  refine fw_cF rfl hb_25 ?_
  refine fw_xt ?_
  refine fw_te ?_
  refine fw_te ?_
  refine fw_be ?_
  refine fw_th ?_
  refine fw_sq ?_
  refine fw_rg rfl ?_
  refine fw_pu rfl ?_
  refine fw_ld rW22_0 rfl rfl ?_
  iterate 3 refine fw_pu rfl ?_
  refine fw_kn 95 rfl hnL ?_
  refine fw_ca Try.func61 rfl rfl rfl ((wakes23_any W22)) ?_
  rintro _ V159 ⟨rfl, hb158⟩
  refine ⟨(.bool true), rfl, ?_⟩
  have b160 := bW22.trans (hb158.mono bW22.size)
  have r161 := rW22_0.below hb158
  have r162 := rW22_1.below hb158
  have f163 := (Owns.below ho0 hb158)
  iterate 2 refine fw_pu rfl ?_
  refine fw_dt ?_
  refine fw_rt ?_
  refine ⟨fun a h => ?_⟩
  exact ow_ret1 rfl h.df (h.g 2 rfl) ⟨rfl, b160⟩
namespace outboxFull
open Go.ChangeShapes Go.WideShapes Go.ChangeAt
theorem own : ownKnob Try.prog.godebug = none := by kernel_rfl
theorem laidOut : laidOutB Try.prog = true := by kernel_rfl
set_option maxRecDepth 100000 in
theorem lifted (os : Os) (started : os.Started) (H : Type) (enc : TypeId × Value → H) :
    ReturnsInHanded {} Try.checked os 12 .any (Rows.outboxFullSpec.pre6 enc Try.prog Try.f12 Rows.outboxFullRow.domain false) (Rows.outboxFullSpec.post enc Try.prog Try.f12 false true false false) := by
  refine returnsInHanded_of_change_sized (C := Try.checked) own started (by kernel_rfl) Try.func12
    (ChangeSpec.witness6 (enc := enc) (C := Try.checked) false ⟨#[], #[.agg #[.int .i64 0, .slice none 0 0, .slice none 0 0, .slice none 0 0]], []⟩ 12 (by kernel_rfl) (by kernel_rfl) (by kernel_rfl) (by kernel_rfl)) ?_
  intro W base args ds gs before hval0 hW _ hsz0 _
  have hsz : (DataW.weightsEach Try.prog (Try.f12.params.toList ++ Rows.outboxFullSpec.plain.varTypes Try.prog) (ds ++ gs)).all (· ≤ reachBytes) = true := hsz0
  clear hsz0
  have hval : ∀ (j : Nat) t v, Try.f12.params[j]? = some t → args[j]? = some v → Value.okWide Try.prog W .any base t v := hval0
  have hW' := hW
  obtain ⟨p, q, hA0, hV, rfl, hfz, hnd⟩ := hW
  have hA : DataW.TrodAll enc Try.prog W 0 (fun _ => true) true Try.f12.params.toList args.toList ds p := hA0
  rw [Try.params12] at hA hval
  obtain ⟨v0, vs0, d0, ds0, p0, q0, hargs, rfl, rfl, h0, r0⟩ := trodAll_cons hA
  obtain ⟨rfl, rfl, rfl⟩ := trodAll_nil r0
  obtain rfl : args = #[v0] := by cases args; simp_all
  obtain ⟨rfl, rfl⟩ := trodVars_none hV
  obtain ⟨cs0, rfl⟩ : ∃ cs0 : Array Value, v0 = .agg cs0 := by
    have h := hval 0 82 v0 rfl rfl
    unfold Value.okWide at h
    rw [Try.underlying82] at h
    exact ⟨h.choose, h.choose_spec.1⟩
  have k0 := h0
  have lt0 : ∀ x ∈ p0, x.block < W.heap.size := by obtain ⟨m, hm⟩ := k0; exact DataW.trod_lt m _ _ _ hm
  have hrd : RdZ Try.prog W 82 cs0.toList := by obtain ⟨fuel, hf⟩ := h0; exact ⟨H, enc, 0, _, true, fuel, _, hf, by simp only [List.all_eq_true]; intro n hn; exact List.all_eq_true.1 hsz n (DataW.weights_mem_each (j := 0) rfl rfl n hn)⟩
  clear hA0 hval0
  refine (show Calls Try.prog 12 _ W (fun e W' => e = .returned (.bool true) ∧ Below W.heap.size W W') from by have := outboxFull_walk W _ hrd; rwa [Array.toArray_toList] at this).mono fun e W' ⟨he, bel⟩ => ?_
  subst he
  exact ⟨_, rfl, _, _, _, [], _, [], hW', trodAll_mk1 (shut_bool Try.underlying4 _), (trodAll_cons_mk (Below.trod laidOut (by kernel_rfl) (of_decide_eq_true (by kernel_rfl)) k0 bel lt0) trodAll_mk0), rfl, bel.frame _, fun h => by cases h⟩
theorem over : Rows.outboxFullRow.holds Try.pinned (OpenSpec.ofChange Rows.outboxFullSpec) :=
  OpenClaim.holds_of_wide 12 Try.f12 rfl rfl rfl rfl rfl rfl rfl ⟨rfl, rfl, rfl, rfl, rfl⟩ rfl rfl rfl rfl rfl (by kernel_rfl) Try.func12 (by kernel_rfl)
    (of_decide_eq_true (by kernel_rfl)) (by unfold Func.isWrapper; first | (rw [if_pos (by decide +kernel)]; kernel_rfl) | (rw [if_neg (by decide +kernel)]; exact ⟨rfl, rfl⟩))
    (fun os started H enc _ => lifted os started H enc)
/-- THE STATEMENT. -/
theorem proved : Rows.OutboxFullSaid := over
end outboxFull
-- CLAIM: OutboxFull outboxFull.proved
end Go.Proofs.Ytcglmkcefenjcaa
