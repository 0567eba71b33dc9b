/-
  The law OutboxOnce.
-/
import Derived.Test.YtcglmkcefenjcaaObW
namespace Go.Proofs.Ytcglmkcefenjcaa
open Go.RowKit Go.Lib
abbrev mT (n : Nat) (x : Int) : EMsg := ⟨{ data := #[116] }, pay n, 1 + within x 2, false⟩
theorem isMsg_mT (n : Nat) (x : Int) : isMsg (mT n x) n := by
  have h := within_bd x 2 (by decide)
  exact ⟨rfl, rfl, by show 1 + within x 2 = 1 ∨ 1 + within x 2 = 2; omega⟩
theorem ldA8 {W : World} {b o : Nat} {x : A23} (h : ∀ j u, (rowA x)[j]? = some u → W.cell? ⟨b, o + j, none⟩ = some u) : (Instr.loadAt 90 (.pointer (some ⟨b, o, none⟩))).run Try.prog W = .ok (.agg (rowA x).toArray) W :=
  run_loadAt_mid W b o _ (rowA x) _ h Try.underlying90 rfl (by kernel_rfl)
theorem cv83p (n : Nat) (h : n < 64) (w : World) : (convert 5 3 (.int .u8 ((UInt8.ofNat (33 + n)).toNat : Int))).run Try.prog w = .ok (.int .i64 (33 + (n : Int))) w := by
  have h1 := cv83 ((UInt8.ofNat (33 + n)).toNat : Int) w
  rw [pay_num n h] at h1
  rw [pay_num n h, h1, wrap_i64 _ (by omega) (by omega)]
theorem run_slOpL {P : Program} {ρ : Operand → Value} {d : Option Tmp} {ty : TypeId} {pos : String} {af : Array Edge} {g : Option (Nat × Bool)} {v : Value} {w : World} {t : TypeId} {x z : Operand} {u1 u3 : Value} (hx : ρ x = u1) (hz : ρ z = u3) (h : (Instr.sliceAt t u1 (some u3) none none).run P w = .ok v w) : (execOp ρ ⟨d, .slice t x (some z) none none, ty, pos, af, g⟩).run P w = .ok (.value v) w := by
  simp [execOp, hx, hz, h]
theorem run_ixOp {P : Program} {ρ : Operand → Value} {d : Option Tmp} {ty : TypeId} {pos : String} {af : Array Edge} {g : Option (Nat × Bool)} {v : Value} {w : World} {t : TypeId} {x z : Operand} {u1 u3 : Value} (hx : ρ x = u1) (hz : ρ z = u3) (h : (Instr.index t u1 u3).run P w = .ok v w) : (execOp ρ ⟨d, .index t x z, ty, pos, af, g⟩).run P w = .ok (.value v) w := by
  simp [execOp, hx, hz, h]
theorem bs1U {ρ : Operand → Value} {d : Option Tmp} {ty : TypeId} {pos : String} {af : Array Edge} {g : Option (Nat × Bool)} {x : Operand} (v : Int) (w : World) (hx : ρ x = .int .u8 v) : (execOp ρ ⟨d, .buildSlice 29 1 #[(0, x)], ty, pos, af, g⟩).run Try.prog w = .ok (.value (.slice (some ⟨w.heap.size, 0, none⟩) 1 1)) (w.alloc (.cells #[.int .u8 v] 5)) := by
  simp [execOp, hx, go_sem, Instr.buildSlice]
section
variable {o oz : EO} {ps : List EPk} {af aq : Option Addr} {cf cq : Nat} {w : World} {id : Int}
theorem cOff {m : EMsg} {up : Bool} {c : Int} (hF : SlR w 6 (.slice af o.fl.length cf) (o.fl.map rowFl)) (hQ : SlR w 4 (.slice aq o.qu.length cq) (o.qu.map rowMsg)) (hs : o.fl.length ≤ 100000 ∧ o.qu.length ≤ 100000) (hz : offO o m up = some (oz, ps)) (hE : offE o m up = c) :
    Calls Try.prog 54 #[.agg #[.int .i64 o.last, .slice af o.fl.length cf, .slice aq o.qu.length cq], .agg #[.string m.t, .string m.p, .int .i64 m.q, .bool m.r], .bool up] w (At w oz.last oz.fl oz.fl.length oz.qu oz.qu.length ps ps.length c) :=
  (obOffer o af aq _ _ cf cq m up oz ps w hF hQ hs.1 hs.2 hz).mono fun _ _ h => At.of h hE rfl rfl rfl
theorem cRes (hF : SlR w 6 (.slice af o.fl.length cf) (o.fl.map rowFl)) (hQ : SlR w 4 (.slice aq o.qu.length cq) (o.qu.map rowMsg)) (hs : o.fl.length ≤ 100000 ∧ o.qu.length ≤ 100000) (hz : resO o = some (oz, ps)) (hE : ckI o = 0) :
    Calls Try.prog 56 #[.agg #[.int .i64 o.last, .slice af o.fl.length cf, .slice aq o.qu.length cq]] w (At w oz.last oz.fl oz.fl.length oz.qu oz.qu.length ps ps.length 0) :=
  (obResume o af aq _ _ cf cq oz ps w hF hQ hs.1 hs.2 hz).mono fun _ _ h => At.of h hE rfl rfl rfl
theorem cAck (hF : SlR w 6 (.slice af o.fl.length cf) (o.fl.map rowFl)) (hQ : SlR w 4 (.slice aq o.qu.length cq) (o.qu.map rowMsg)) (hs : o.fl.length ≤ 100000 ∧ o.qu.length ≤ 100000) (hz : remO dAck o id = some (oz, ps)) (hE : remE dAck o id = 0) :
    Calls Try.prog 58 #[.agg #[.int .i64 o.last, .slice af o.fl.length cf, .slice aq o.qu.length cq], .int .i64 id] w (At w oz.last oz.fl oz.fl.length oz.qu oz.qu.length ps ps.length 0) :=
  (obAck o af aq _ _ cf cq id oz ps w hF hQ hs.1 hs.2 hz).mono fun _ _ h => At.of h hE rfl rfl rfl
theorem cComp (hF : SlR w 6 (.slice af o.fl.length cf) (o.fl.map rowFl)) (hQ : SlR w 4 (.slice aq o.qu.length cq) (o.qu.map rowMsg)) (hs : o.fl.length ≤ 100000 ∧ o.qu.length ≤ 100000) (hz : remO dComp o id = some (oz, ps)) (hE : remE dComp o id = 0) :
    Calls Try.prog 57 #[.agg #[.int .i64 o.last, .slice af o.fl.length cf, .slice aq o.qu.length cq], .int .i64 id] w (At w oz.last oz.fl oz.fl.length oz.qu oz.qu.length ps ps.length 0) :=
  (obComp o af aq _ _ cf cq id oz ps w hF hQ hs.1 hs.2 hz).mono fun _ _ h => At.of h hE rfl rfl rfl
theorem cRec (hF : SlR w 6 (.slice af o.fl.length cf) (o.fl.map rowFl)) (hQ : SlR w 4 (.slice aq o.qu.length cq) (o.qu.map rowMsg)) (hs : o.fl.length ≤ 100000 ∧ o.qu.length ≤ 100000) (hz : rcO o id = some (oz, ps)) (hE : rcE o id = 0) :
    Calls Try.prog 59 #[.agg #[.int .i64 o.last, .slice af o.fl.length cf, .slice aq o.qu.length cq], .int .i64 id] w (At w oz.last oz.fl oz.fl.length oz.qu oz.qu.length ps ps.length 0) :=
  (obRec o af aq _ _ cf cq id oz ps w hF hQ hs.1 hs.2 hz).mono fun _ _ h => At.of h hE rfl rfl rfl
theorem cRef (hF : SlR w 6 (.slice af o.fl.length cf) (o.fl.map rowFl)) (hQ : SlR w 4 (.slice aq o.qu.length cq) (o.qu.map rowMsg)) (hs : o.fl.length ≤ 100000 ∧ o.qu.length ≤ 100000) (hc : checkO o = true) :
    Calls Try.prog 60 #[.agg #[.int .i64 o.last, .slice af o.fl.length cf, .slice aq o.qu.length cq]] w fun e w' => e = .returned (.bool true) ∧ Below w.heap.size w w' :=
  (refOutbox_any o af aq _ _ cf cq w hF hQ hs.1 hs.2).mono fun _ _ h => ⟨h.1.trans (by rw [hc]), h.2⟩
end
set_option maxRecDepth 100000 in
set_option maxHeartbeats 40000000 in
theorem outboxOnce_walk (w : World) (cs : List Value) (h : RdZ Try.prog w 82 cs) :
    Calls Try.prog 10 #[.agg cs.toArray] w fun e w' => e = .returned (.bool true) ∧ Below w.heap.size w w' := by
  obtain ⟨o1, af1, cf1, aq1, cq1, SL, aL, cL, rfl, hF1, hQ1, hLs, ⟨hl1, hl2, hl3⟩, hB1, hB2, hB3⟩ := scr23_of h
  have hnL : (decide (0 ≤ ((SL.length : Nat) : Int))) = true := decide_eq_true (by omega)
  have hb0 := Below.refl w.heap.size w
  have ho : Owns w.heap.size [] [] w := Owns.nil (fun k hk => nomatch hk)
  refine fw_en 366 [(0, .agg #[.int .i64 o1.last, .slice af1 o1.fl.length cf1, .slice aq1 o1.qu.length cq1, .slice aL SL.length cL])] Try.func10 rfl Try.ntmps10 rfl ⟨rfl, trivial⟩ ?_
  refine fw_sq ?_
  refine fw_rg rfl ?_
  refine fw_bx rfl (cs := [.int .i64 o1.last, .slice af1 o1.fl.length cf1, .slice aq1 o1.qu.length cq1, .slice aL SL.length cL]) rfl ?_
  intro q1 W2 g5 s3 r4
  have := Nat.le_trans hb0.size g5
  have b6 := hb0.trans (s3.mono hb0.size)
  have f7 := (Owns.hold ho s3 g5 r4.2.2)
  refine fw_pu rfl ?_
  refine fw_dt ?_
  refine fw_sq ?_
  refine fw_sq ?_
  refine fw_rg rfl ?_
  refine fw_ld r4 rfl rfl ?_
  refine fw_ca Try.func53 rfl rfl rfl ((heavy23_any o1 SL af1 aq1 aL cf1 cq1 cL W2 (hF1.below b6) (hQ1.below b6) (hLs.below b6) hl1 hl2 hl3 hB1 hB2 hB3)) ?_
  rintro _ V9 ⟨bh, rfl, hb8⟩
  refine ⟨(.bool bh), rfl, ?_⟩
  have b10 := b6.trans (hb8.mono b6.size)
  have r11 := r4.below hb8
  have f12 := (Owns.below f7 hb8)
  refine fw_dt ?_
  rcases Bool.eq_false_or_eq_true (bh) with hb_13 | hb_13
  · skip
    refine fw_cT rfl hb_13 ?_
    refine fw_sq ?_
    refine fw_rg rfl ?_
    refine fw_pu rfl ?_
    refine fw_dt ?_
    refine fw_rt ?_
    refine fw_tr ?_
    refine ⟨fun a h => ?_⟩
    exact ow_ret1 rfl h.df (h.g 2 rfl) ⟨rfl, b10⟩
  refine fw_cF rfl hb_13 ?_
  refine fw_sk ?_
  refine fw_th ?_
  refine fw_sq ?_
  refine fw_rg rfl ?_
  refine fw_al (t := 79) (u := fun q => .pointer (some ⟨q, 0, none⟩)) 3 [.int .i64 0, .slice none 0 0, .slice none 0 0] rfl rfl rfl (fun a h => (run_allocOp (by simp [go_sem, Instr.alloc]))) ?_
  intro q14 W15 g18 s16 r17
  have := Nat.le_trans b10.size g18
  have := r11.lt g18
  have b19 := b10.trans (s16.mono b10.size)
  have r20 := r11.below s16
  have f21 := (Owns.hold f12 s16 g18 r17.2.2)
  refine fw_dt ?_
  refine fw_sq ?_
  refine fw_rg rfl ?_
  iterate 2 refine fw_pu rfl ?_
  refine fw_dt ?_
  refine fw_sq ?_
  refine fw_rg rfl ?_
  refine fw_pu rfl ?_
  refine fw_dt ?_
  refine fw_sq ?_
  refine fw_rg rfl ?_
  refine fw_al (t := 84) (u := fun q => .pointer (some ⟨q, 0, none⟩)) 7 (iR fun _ => 0) rfl rfl rfl (fun a h => (al84)) ?_
  intro q22 W23 g26 s24 r25
  have := Nat.le_trans b19.size g26
  have := r20.lt g26
  have := r17.lt g26
  have b27 := b19.trans (s24.mono b19.size)
  have r28 := r20.below s24
  have r29 := r17.below s24
  have f30 := (Owns.hold f21 s24 g26 r25.2.2)
  refine fw_dt ?_
  refine fw_sq ?_
  refine fw_rg rfl ?_
  refine fw_al (t := 85) (u := fun q => .pointer (some ⟨q, 0, none⟩)) 8 (bR fun _ => false) rfl rfl rfl (fun a h => (al85)) ?_
  intro q31 W32 g35 s33 r34
  have := Nat.le_trans b27.size g35
  have := r28.lt g35
  have := r29.lt g35
  have := r25.lt g35
  have b36 := b27.trans (s33.mono b27.size)
  have r37 := r28.below s33
  have r38 := r29.below s33
  have r39 := r25.below s33
  have f40 := (Owns.hold f30 s33 g35 r34.2.2)
  refine fw_dt ?_
  refine fw_sq ?_
  refine fw_rg rfl ?_
  refine fw_pu rfl ?_
  refine fw_dt ?_
  refine fw_md (fun K W => ∃ (o : EO) (taken : Nat) (came : Nat) (up : Bool) (Lw : List EPk) (D : List EPk) (v0 : Value) (seen : Nat → Int) (recd : Nat → Bool) (Nn : List Nat) (af : Option Addr) (cf : Nat) (aq : Option Addr) (cq : Nat) (aw : Option Addr) (cw : Nat), SI up Lw o taken came seen recd Nn ∧ taken ≤ 60 ∧ TailAt (.slice aw Lw.length cw) D Lw v0 ∧ (D ++ Lw).length ≤ 480 ∧ RowAt W q14 [.int .i64 o.last, .slice af o.fl.length cf, .slice aq o.qu.length cq] ∧ Owns w.heap.size (q31 :: q22 :: q14 :: q1 :: []) (orP v0 (D ++ Lw) :: orF (.slice af o.fl.length cf) o.fl :: orM (.slice aq o.qu.length cq) o.qu :: []) W ∧ K = [(3, .pointer (some ⟨q14, 0, none⟩)), (4, .int .i64 ((taken : Nat) : Int)), (5, .int .i64 ((came : Nat) : Int)), (6, .bool up), (9, .slice aw Lw.length cw)] ∧ Below w.heap.size w W ∧ RowAt W q1 [.int .i64 o1.last, .slice af1 o1.fl.length cf1, .slice aq1 o1.qu.length cq1, .slice aL SL.length cL]) (fun K41 hK41 => ?_) ?_
  · skip
    refine fw_sq ?_
    refine fw_rg rfl ?_
    refine fw_pu rfl ?_
    refine fw_dt ?_
    refine fw_bk ?_
    have hoI : Owns w.heap.size (q31 :: q22 :: q14 :: q1 :: []) (orP (.slice none 0 0) ([] ++ []) :: orF (.slice none 0 0) o0.fl :: orM (.slice none 0 0) o0.qu :: []) W32 := Owns.cons (orP (.slice none 0 0) []) (Owns.cons (orF (.slice none 0 0) []) (Owns.cons (R := []) (orM (.slice none 0 0) []) f40 rfl (MsOwn.nil _ _) 0) rfl (FlOwn.nil _ _) 0) rfl (PkOwn.nil _ _) 0
    refine fw_lp (fun N K W => ∃ (i : Nat) (o : EO) (taken : Nat) (came : Nat) (up : Bool) (Lw : List EPk) (D : List EPk) (v0 : Value) (seen : Nat → Int) (recd : Nat → Bool) (Nn : List Nat) (af : Option Addr) (cf : Nat) (aq : Option Addr) (cq : Nat) (aw : Option Addr) (cw : Nat), N = 60 - i ∧ i ≤ 60 ∧ taken ≤ i ∧ SI up Lw o taken came seen recd Nn ∧ TailAt (.slice aw Lw.length cw) D Lw v0 ∧ (D ++ Lw).length ≤ 8 * i ∧ RowAt W q14 [.int .i64 o.last, .slice af o.fl.length cf, .slice aq o.qu.length cq] ∧ RowAt W q22 (iR seen) ∧ RowAt W q31 (bR recd) ∧ Owns w.heap.size (q31 :: q22 :: q14 :: q1 :: []) (orP v0 (D ++ Lw) :: orF (.slice af o.fl.length cf) o.fl :: orM (.slice aq o.qu.length cq) o.qu :: []) W ∧ K = [(1, .pointer (some ⟨q1, 0, none⟩)), (3, .pointer (some ⟨q14, 0, none⟩)), (4, .int .i64 ((taken : Nat) : Int)), (5, .int .i64 ((came : Nat) : Int)), (6, .bool up), (7, .pointer (some ⟨q22, 0, none⟩)), (8, .pointer (some ⟨q31, 0, none⟩)), (9, .slice aw Lw.length cw), (10, .int .i64 ((i : Nat) : Int))] ∧ Below w.heap.size w W ∧ RowAt W q1 [.int .i64 o1.last, .slice af1 o1.fl.length cf1, .slice aq1 o1.qu.length cq1, .slice aL SL.length cL]) _ _ ⟨0, o0, 0, 0, true, [], [], (.slice none 0 0), (fun _ => 0), (fun _ => false), [], none, 0, none, 0, none, 0, rfl, Nat.zero_le _, Nat.zero_le _, SI.start, TailAt.nil, (by simp), r38, r39, r34, hoI, rfl, b36, r37⟩ ⟨rfl, rfl, (by first | rfl | (simp only [Look, cond, Nat.beq]; first | rfl | (congr 2; first | rfl | omega | (push_cast; omega)) | (simp; try omega))), (by first | rfl | (simp only [Look, cond, Nat.beq]; first | rfl | (congr 2; first | rfl | omega | (push_cast; omega)) | (simp; try omega))), (by first | rfl | (simp only [Look, cond, Nat.beq]; first | rfl | (congr 2; first | rfl | omega | (push_cast; omega)) | (simp; try omega))), rfl, rfl, (by first | rfl | (simp only [Look, cond, Nat.beq]; first | rfl | (congr 2; first | rfl | omega | (push_cast; omega)) | (simp; try omega))), (by first | rfl | (simp only [Look, cond, Nat.beq]; first | rfl | (congr 2; first | rfl | omega | (push_cast; omega)) | (simp; try omega))), trivial⟩ ?_
    rintro N _ W42 ⟨i, o, taken, came, up, Lw, D, v0, seen, recd, Nn, af, cf, aq, cq, aw, cw, rfl, hi60, hti, hSI, hta, hbd, hr3, hr7, hr8, ho0, rfl, bW42, rW42_0⟩
    intro K44 hK44
    refine fw_sq ?_
    refine fw_sq ?_
    refine fw_rg rfl ?_
    iterate 2 refine fw_pu rfl ?_
    refine fw_ld rW42_0 rfl rfl ?_
    iterate 3 refine fw_pu rfl ?_
    rcases Bool.eq_false_or_eq_true ((decide (((i : Nat) : Int) < ((SL.length : Nat) : Int)))) with hb_45 | hb_45
    · skip
      refine fw_kn 34 rfl hb_45 ?_
      iterate 3 refine fw_pu rfl ?_
      refine fw_dt ?_
      rcases Bool.eq_false_or_eq_true ((decide (((i : Nat) : Int) < 60))) with hb_46 | hb_46
      · skip
        refine fw_cT rfl hb_46 ?_
        refine fw_sk ?_
        refine fw_th ?_
        refine fw_sq ?_
        refine fw_bk ?_
        refine fw_sq ?_
        have hiL : i < SL.length := by have h := of_decide_eq_true hb_45; omega
        have hi6 : i < 60 := by have h := of_decide_eq_true hb_46; omega
        obtain ⟨a0, ha0⟩ : ∃ p, SL[i]? = some p := ⟨_, List.getElem?_eq_getElem hiL⟩
        obtain ⟨bA, oA, rfl, hbA, hcA⟩ := slR_at (hLs.below bW42) (i := i) (q := rowA a0) (by rw [List.getElem?_map, ha0]; rfl)
        refine fw_rg rfl ?_
        refine fw_pu rfl ?_
        refine fw_ld rW42_0 rfl rfl ?_
        refine fw_pu rfl ?_
        refine fw_ex 43 (.pointer (some ⟨bA, (oA + i * 8), none⟩)) rfl rfl rfl (fun a h => (run_indexOp (h.ev rfl) (h.ev rfl) (idxA _ _ _ _ _ hiL _))) ?_
        refine fw_ex 44 (.agg #[.int .i64 a0.d, .int .i64 a0.id, .string a0.m.t, .string a0.m.p, .int .i64 a0.m.q, .bool a0.m.r, .bool a0.up, .bool a0.ft]) rfl rfl rfl (fun a h => (run_loadOp (h.ev rfl) (ldA8 hcA))) ?_
        refine fw_al (t := 90) (u := fun q => .pointer (some ⟨q, 0, none⟩)) 11 [.int .i64 0, .int .i64 0, .string { data := #[] }, .string { data := #[] }, .int .i64 0, .bool false, .bool false, .bool false] rfl rfl rfl (fun a h => (run_allocOp (by simp [go_sem, Instr.alloc]))) ?_
        intro q47 W48 g51 s49 r50
        have := Nat.le_trans bW42.size g51
        have := rW42_0.lt g51
        have := hr3.lt g51
        have := hr7.lt g51
        have := hr8.lt g51
        have b52 := bW42.trans (s49.mono bW42.size)
        have r53 := rW42_0.below s49
        have r54 := hr3.below s49
        have r55 := hr7.below s49
        have r56 := hr8.below s49
        have f57 := (Owns.hold ho0 s49 g51 r50.2.2)
        refine fw_st r50 rfl rfl ?_
        intro W58 s59 r60
        have b61 := below_chg b52 s59 (by omega) b52.size
        have r62 := r53.chg s59 (by omega)
        have r63 := r54.chg s59 (by omega)
        have r64 := r55.chg s59 (by omega)
        have r65 := r56.chg s59 (by omega)
        have f66 := (Owns.chg f57 s59 (by simp))
        refine fw_dt ?_
        refine fw_sq ?_
        refine fw_rg rfl ?_
        refine fw_pu rfl ?_
        refine fw_dt ?_
        refine fw_sq ?_
        refine fw_rg rfl ?_
        refine fw_al (t := 79) (u := fun q => .pointer (some ⟨q, 0, none⟩)) 13 [.int .i64 0, .slice none 0 0, .slice none 0 0] rfl rfl rfl (fun a h => (run_allocOp (by simp [go_sem, Instr.alloc]))) ?_
        intro q67 W68 g71 s69 r70
        have := Nat.le_trans b61.size g71
        have := r62.lt g71
        have := r63.lt g71
        have := r64.lt g71
        have := r65.lt g71
        have := r60.lt g71
        have b72 := b61.trans (s69.mono b61.size)
        have r73 := r62.below s69
        have r74 := r63.below s69
        have r75 := r64.below s69
        have r76 := r65.below s69
        have r77 := r60.below s69
        have f78 := (Owns.hold f66 s69 g71 r70.2.2)
        refine fw_dt ?_
        refine fw_sq ?_
        refine fw_rg rfl ?_
        refine fw_pu rfl ?_
        refine fw_dt ?_
        refine fw_md (fun K W => ∃ (oz : EO) (ps : List EPk) (tk : Nat) (u2 : Bool) (L2 : List EPk) (D2 : List EPk) (v2 : Value) (rc2 : Nat → Bool) (N2 : List Nat) (C : Nat → Nat) (S : Nat → Nat → Int) (ag : Option Addr) (cg : Nat) (ar : Option Addr) (cr : Nat) (aw2 : Option Addr) (cw2 : Nat) (ap : Option Addr) (cp : Nat), ActS u2 L2 oz ps tk rc2 N2 C S ∧ tk ≤ i + 1 ∧ C 0 = came ∧ S 0 = seen ∧ TailAt (.slice aw2 L2.length cw2) D2 L2 v2 ∧ (D2 ++ L2).length ≤ 8 * i ∧ RowAt W q67 [.int .i64 oz.last, .slice ag oz.fl.length cg, .slice ar oz.qu.length cr] ∧ RowAt W q31 (bR rc2) ∧ Owns w.heap.size (q67 :: q47 :: q31 :: q22 :: q14 :: q1 :: []) (orP v2 (D2 ++ L2) :: orF (.slice ag oz.fl.length cg) oz.fl :: orM (.slice ar oz.qu.length cr) oz.qu :: orP (.slice ap ps.length cp) ps :: []) W ∧ K = [(1, .pointer (some ⟨q1, 0, none⟩)), (3, .pointer (some ⟨q14, 0, none⟩)), (4, .int .i64 ((tk : Nat) : Int)), (5, .int .i64 ((came : Nat) : Int)), (6, .bool u2), (7, .pointer (some ⟨q22, 0, none⟩)), (8, .pointer (some ⟨q31, 0, none⟩)), (9, .slice aw2 L2.length cw2), (10, .int .i64 ((i : Nat) : Int)), (12, .slice ap ps.length cp), (13, .pointer (some ⟨q67, 0, none⟩)), (14, .int .i64 0)] ∧ Below w.heap.size w W ∧ RowAt W q1 [.int .i64 o1.last, .slice af1 o1.fl.length cf1, .slice aq1 o1.qu.length cq1, .slice (some ⟨bA, oA, none⟩) SL.length cL] ∧ RowAt W q14 [.int .i64 o.last, .slice af o.fl.length cf, .slice aq o.qu.length cq] ∧ RowAt W q22 (iR seen) ∧ RowAt W q47 [.int .i64 a0.d, .int .i64 a0.id, .string a0.m.t, .string a0.m.p, .int .i64 a0.m.q, .bool a0.m.r, .bool a0.up, .bool a0.ft]) (fun K79 hK79 => ?_) ?_
        · skip
          refine fw_sq ?_
          refine fw_rg rfl ?_
          refine fw_pu rfl ?_
          refine fw_ld r77 rfl rfl ?_
          refine fw_ca Try.func15 rfl rfl rfl ((within_any a0.d 4 W68 (by decide) (by decide))) ?_
          rintro _ _ ⟨rfl, rfl⟩
          refine ⟨(.int .i64 (within a0.d 4)), rfl, ?_⟩
          refine fw_dt ?_
          refine fw_bk ?_
          refine fw_sq ?_
          refine fw_rg rfl ?_
          iterate 2 refine fw_pu rfl ?_
          refine fw_dt ?_
          rcases Bool.eq_false_or_eq_true (((within a0.d 4) == 0)) with hb_80 | hb_80
          · skip
            refine fw_cT rfl hb_80 ?_
            refine fw_sq ?_
            rcases Bool.eq_false_or_eq_true ((offE o (mT taken a0.id) up == 5)) with hb_81 | hb_81
            · skip
              have hz5 : offO o (mT taken a0.id) up = some (o0, []) := by unfold offO; rw [if_neg (by rw [eq_of_beq hb_81]; decide)]
              have hwb := within_bd a0.id 2 (by decide)
              refine fw_hr (fun X => Below w.heap.size w X ∧ RowAt X q1 [.int .i64 o1.last, .slice af1 o1.fl.length cf1, .slice aq1 o1.qu.length cq1, .slice (some ⟨bA, oA, none⟩) SL.length cL] ∧ RowAt X q14 [.int .i64 o.last, .slice af o.fl.length cf, .slice aq o.qu.length cq] ∧ RowAt X q22 (iR seen) ∧ RowAt X q31 (bR recd) ∧ RowAt X q47 [.int .i64 a0.d, .int .i64 a0.id, .string a0.m.t, .string a0.m.p, .int .i64 a0.m.q, .bool a0.m.r, .bool a0.up, .bool a0.ft]) (by kernel_rfl) 20 rfl ?_
              intro W82 s83
              have b84 := b72.trans (s83.mono b72.size)
              have r85 := r73.below s83
              have r86 := r74.below s83
              have r87 := r75.below s83
              have r88 := r76.below s83
              have r89 := r77.below s83
              have r90 := r70.below s83
              have f91 := (Owns.below f78 s83)
              refine ⟨⟨b84, r85, r86, r87, r88, r89⟩, ?_⟩
              refine fw_tl 0 (fun _ h => h.2.2.1) rfl rfl rfl (by kernel_rfl) (fun _ _ _ _ _ h => h) ?_
              refine fw_tk 1 rfl rfl (by kernel_rfl) (fun _ _ _ _ _ h => h) ?_
              refine fw_tx 2 103 (.int .i64 (33 + ((taken : Nat) : Int))) rfl rfl rfl rfl (fun a h W hW => by obtain ⟨b84, r85, r86, r87, r88, r89⟩ := hW; exact (run_binOp (h.ev rfl) (h.ev rfl) (by simp [go_sem]) (addIw _ _ _ _ (by omega) (by omega) (by omega)))) (by kernel_rfl) (fun _ _ _ _ _ h => h) ?_
              refine fw_tx 3 104 ((.int .u8 (33 + ((taken : Nat) : Int)))) rfl rfl rfl rfl (fun a h W hW => by obtain ⟨b84, r85, r86, r87, r88, r89⟩ := hW; exact (run_convOp (h.ev rfl) (cv38 _ (by omega) _))) (by kernel_rfl) (fun _ _ _ _ _ h => h) ?_
              refine fw_tk 6 rfl rfl (by kernel_rfl) (fun _ _ _ _ _ h => h) ?_
              refine fw_tl 7 (fun _ h => h.2.2.2.2.2) rfl rfl rfl (by kernel_rfl) (fun _ _ _ _ _ h => h) ?_
              refine fw_tk 11 rfl rfl (by kernel_rfl) (fun _ _ _ _ _ h => h) ?_
              refine fw_o2 4 8 (by kernel_rfl) ?_ ?_
              · skip
                refine fw_oa rfl (t := 5) (u := fun q => .slice (some ⟨q, 0, none⟩) 1 1) 105 [.int .u8 (33 + ((taken : Nat) : Int))] rfl rfl rfl (fun a h => (bs1U _ _ (h.ev rfl))) ?_
                intro q92 W93 g96 s94 r95
                have := Nat.le_trans b84.size g96
                have := r85.lt g96
                have := r86.lt g96
                have := r87.lt g96
                have := r88.lt g96
                have := r89.lt g96
                have := r90.lt g96
                have b97 := b84.trans (s94.mono b84.size)
                have r98 := r85.below s94
                have r99 := r86.below s94
                have r100 := r87.below s94
                have r101 := r88.below s94
                have r102 := r89.below s94
                have r103 := r90.below s94
                have f104 := (Owns.hold f91 s94 g96 r95.2.2)
                refine ⟨⟨b97, r98, r99, r100, r101, r102⟩, ?_⟩
                refine fw_o2 5 8 (by kernel_rfl) ?_ ?_
                · skip
                  refine fw_ox rfl 106 (.string (pay taken)) rfl rfl rfl (fun a h => (run_convOp (h.ev rfl) (conv_pay (by omega) r95))) ?_
                  refine fw_o1 8 (by kernel_rfl) ?_
                  refine fw_oc rfl Try.func15 rfl rfl rfl ((within_any a0.id 2 W93 (by decide) (by decide))) ?_
                  rintro _ _ ⟨rfl, rfl⟩
                  refine ⟨(.int .i64 (within a0.id 2)), rfl, ?_⟩
                  refine ⟨⟨b97, r98, r99, r100, r101, r102⟩, ?_⟩
                  refine fw_tx 9 110 (.int .i64 (1 + (within a0.id 2))) rfl rfl rfl rfl (fun a h W hW => by obtain ⟨b97, r98, r99, r100, r101, r102⟩ := hW; exact (run_binOp (h.ev rfl) (h.ev rfl) (by simp [go_sem]) (addIw _ _ _ _ (by omega) (by omega) (by omega)))) (by kernel_rfl) (fun _ _ _ _ _ h => h) ?_
                  refine fw_tx 10 111 (.agg #[.string { data := #[116] }, .string (pay taken), .int .i64 (1 + (within a0.id 2)), .bool false]) rfl rfl rfl rfl (fun a h W hW => by obtain ⟨b97, r98, r99, r100, r101, r102⟩ := hW; exact (run_buildOp (bp3 (h.ev rfl) (h.ev rfl) (h.ev rfl)) (by first | kernel_rfl | rfl))) (by kernel_rfl) (fun _ _ _ _ _ h => h) ?_
                  refine fw_o1 12 (by kernel_rfl) ?_
                  refine fw_oc rfl Try.func54 rfl rfl rfl ((cOff (w := W93) (o := o) (oz := o0) (ps := []) (m := mT taken a0.id) (up := up) (Owns.slF f104 1 rfl) (Owns.slM f104 2 rfl) hSI.oi.small hz5 (eq_of_beq hb_81))) ?_
                  rintro _ V105 ⟨af106, cf106, aq106, cq106, ap106, cp106, rfl, ho106, hb106⟩
                  refine ⟨_, rfl, ?_⟩
                  have hoA106 := Owns.app f104 hb106 ho106 b97.size
                  have hoB106 : Owns w.heap.size (q92 :: q67 :: q47 :: q31 :: q22 :: q14 :: q1 :: []) ((orP (v0) (D ++ Lw)) :: (orF (.slice af o.fl.length cf) o.fl) :: (orM (.slice aq o.qu.length cq) o.qu) :: (orF (.slice af106 o0.fl.length cf106) o0.fl) :: (orM (.slice aq106 o0.qu.length cq106) o0.qu) :: (orP (.slice ap106 [].length cp106) []) :: []) V105 := Owns.sub hoA106 (.cons_cons _ (.cons_cons _ (.cons_cons _ (.cons_cons _ (.cons_cons _ (.cons_cons _ .slnil))))))
                  have b107 := b97.trans (hb106.mono b97.size)
                  have r108 := r98.below hb106
                  have r109 := r99.below hb106
                  have r110 := r100.below hb106
                  have r111 := r101.below hb106
                  have r112 := r102.below hb106
                  have r113 := r103.below hb106
                  have r114 := r95.below hb106
                  refine ⟨⟨b107, r108, r109, r110, r111, r112⟩, ?_⟩
                  refine fw_tk 13 rfl rfl (by kernel_rfl) (fun _ _ _ _ _ h => h) ?_
                  refine fw_tk 14 rfl rfl (by kernel_rfl) (fun _ _ _ _ _ h => h) ?_
                  refine fw_tk 15 rfl rfl (by kernel_rfl) (fun _ _ _ _ _ h => h) ?_
                  refine fw_tk 16 rfl rfl (by kernel_rfl) (fun _ _ _ _ _ h => h) ?_
                  refine fw_o1 17 (by kernel_rfl) ?_
                  refine fw_os rfl r113 rfl rfl ?_
                  intro W115 s116 r117
                  have b118 := below_chg b107 s116 (by omega) b107.size
                  have r119 := r108.chg s116 (by omega)
                  have r120 := r109.chg s116 (by omega)
                  have r121 := r110.chg s116 (by omega)
                  have r122 := r111.chg s116 (by omega)
                  have r123 := r112.chg s116 (by omega)
                  have r124 := r114.chg s116 (by omega)
                  have f125 := (Owns.chg hoB106 s116 (by simp))
                  refine ⟨⟨b118, r119, r120, r121, r122, r123⟩, ?_⟩
                  refine fw_tk 18 rfl rfl (by kernel_rfl) (fun _ _ _ _ _ h => h) ?_
                  refine fw_tk 19 rfl rfl (by kernel_rfl) (fun _ _ _ _ _ h => h) ?_
                  refine fw_ht (by kernel_rfl) ?_
                  refine fw_sq ?_
                  refine fw_sq ?_
                  refine fw_rg rfl ?_
                  refine fw_pu rfl ?_
                  refine fw_ca Try.func55 rfl rfl rfl ((num23_any 5 W115)) ?_
                  rintro _ _ ⟨rfl, rfl⟩
                  refine ⟨(.int .i64 5), rfl, ?_⟩
                  refine fw_pu rfl ?_
                  refine fw_dt ?_
                  refine fw_cT rfl rfl ?_
                  refine fw_xt ?_
                  refine fw_te ?_
                  refine fw_bf (by decide) ?_
                  refine fw_te ?_
                  refine fw_be ?_
                  refine fw_th ?_
                  refine fw_rg rfl ?_
                  refine fw_pu rfl ?_
                  refine fw_ex 39 (.int .i64 (((i + 1) : Nat) : Int)) rfl rfl rfl (fun a h => (run_binOp (h.ev rfl) (h.ev rfl) (by simp [go_sem]) (addIw _ _ _ _ (by omega) (by omega) (by omega)))) ?_
                  refine fw_pu rfl ?_
                  refine fw_dn ?_
                  have hoA := Owns.sub f125 (.cons_cons _ (.cons_cons _ (.cons_cons _ (.cons _ (.cons _ (.cons _ .slnil))))))
                  have hoE : Owns w.heap.size (q31 :: q22 :: q14 :: q1 :: []) (orP v0 (D ++ Lw) :: orF (.slice af o.fl.length cf) o.fl :: orM (.slice aq o.qu.length cq) o.qu :: []) W115 := (Owns.subH (H := (q31 :: q22 :: q14 :: q1 :: [])) hoA (fun k hk => by simp only [List.mem_cons, List.not_mem_nil, or_false] at hk ⊢; rcases hk with rfl | rfl | rfl | rfl <;> simp))
                  exact fw_th (fw_gf (hK44 _ _ _ (by omega) ⟨(i + 1), o, taken, came, up, Lw, D, v0, seen, recd, Nn, af, cf, aq, cq, aw, cw, rfl, (by omega), (by omega), hSI, hta, (by omega), r120, r121, r122, hoE, rfl, b118, r119⟩) ⟨rfl, rfl, rfl, rfl, rfl, rfl, rfl, rfl, (by first | rfl | (simp only [Look, cond, Nat.beq]; first | rfl | (congr 2; first | rfl | omega | (push_cast; omega)) | (simp; try omega))), trivial⟩)
                refine fw_oc rfl Try.func15 rfl rfl rfl ((within_any a0.id 2 W93 (by decide) (by decide))) ?_
                rintro _ _ ⟨rfl, rfl⟩
                refine ⟨(.int .i64 (within a0.id 2)), rfl, ?_⟩
                refine ⟨⟨b97, r98, r99, r100, r101, r102⟩, ?_⟩
                refine fw_tx 9 110 (.int .i64 (1 + (within a0.id 2))) rfl rfl rfl rfl (fun a h W hW => by obtain ⟨b97, r98, r99, r100, r101, r102⟩ := hW; exact (run_binOp (h.ev rfl) (h.ev rfl) (by simp [go_sem]) (addIw _ _ _ _ (by omega) (by omega) (by omega)))) (by kernel_rfl) (fun _ _ _ _ _ h => h) ?_
                refine fw_o1 5 (by kernel_rfl) ?_
                refine fw_ox rfl 106 (.string (pay taken)) rfl rfl rfl (fun a h => (run_convOp (h.ev rfl) (conv_pay (by omega) r95))) ?_
                refine fw_tx 10 111 (.agg #[.string { data := #[116] }, .string (pay taken), .int .i64 (1 + (within a0.id 2)), .bool false]) rfl rfl rfl rfl (fun a h W hW => by obtain ⟨b97, r98, r99, r100, r101, r102⟩ := hW; exact (run_buildOp (bp3 (h.ev rfl) (h.ev rfl) (h.ev rfl)) (by first | kernel_rfl | rfl))) (by kernel_rfl) (fun _ _ _ _ _ h => h) ?_
                refine fw_o1 12 (by kernel_rfl) ?_
                refine fw_oc rfl Try.func54 rfl rfl rfl ((cOff (w := W93) (o := o) (oz := o0) (ps := []) (m := mT taken a0.id) (up := up) (Owns.slF f104 1 rfl) (Owns.slM f104 2 rfl) hSI.oi.small hz5 (eq_of_beq hb_81))) ?_
                rintro _ V126 ⟨af127, cf127, aq127, cq127, ap127, cp127, rfl, ho127, hb127⟩
                refine ⟨_, rfl, ?_⟩
                have hoA127 := Owns.app f104 hb127 ho127 b97.size
                have hoB127 : Owns w.heap.size (q92 :: q67 :: q47 :: q31 :: q22 :: q14 :: q1 :: []) ((orP (v0) (D ++ Lw)) :: (orF (.slice af o.fl.length cf) o.fl) :: (orM (.slice aq o.qu.length cq) o.qu) :: (orF (.slice af127 o0.fl.length cf127) o0.fl) :: (orM (.slice aq127 o0.qu.length cq127) o0.qu) :: (orP (.slice ap127 [].length cp127) []) :: []) V126 := Owns.sub hoA127 (.cons_cons _ (.cons_cons _ (.cons_cons _ (.cons_cons _ (.cons_cons _ (.cons_cons _ .slnil))))))
                have b128 := b97.trans (hb127.mono b97.size)
                have r129 := r98.below hb127
                have r130 := r99.below hb127
                have r131 := r100.below hb127
                have r132 := r101.below hb127
                have r133 := r102.below hb127
                have r134 := r103.below hb127
                have r135 := r95.below hb127
                refine ⟨⟨b128, r129, r130, r131, r132, r133⟩, ?_⟩
                refine fw_tk 13 rfl rfl (by kernel_rfl) (fun _ _ _ _ _ h => h) ?_
                refine fw_tk 14 rfl rfl (by kernel_rfl) (fun _ _ _ _ _ h => h) ?_
                refine fw_tk 15 rfl rfl (by kernel_rfl) (fun _ _ _ _ _ h => h) ?_
                refine fw_tk 16 rfl rfl (by kernel_rfl) (fun _ _ _ _ _ h => h) ?_
                refine fw_o1 17 (by kernel_rfl) ?_
                refine fw_os rfl r134 rfl rfl ?_
                intro W136 s137 r138
                have b139 := below_chg b128 s137 (by omega) b128.size
                have r140 := r129.chg s137 (by omega)
                have r141 := r130.chg s137 (by omega)
                have r142 := r131.chg s137 (by omega)
                have r143 := r132.chg s137 (by omega)
                have r144 := r133.chg s137 (by omega)
                have r145 := r135.chg s137 (by omega)
                have f146 := (Owns.chg hoB127 s137 (by simp))
                refine ⟨⟨b139, r140, r141, r142, r143, r144⟩, ?_⟩
                refine fw_tk 18 rfl rfl (by kernel_rfl) (fun _ _ _ _ _ h => h) ?_
                refine fw_tk 19 rfl rfl (by kernel_rfl) (fun _ _ _ _ _ h => h) ?_
                refine fw_ht (by kernel_rfl) ?_
                refine fw_sq ?_
                refine fw_sq ?_
                refine fw_rg rfl ?_
                refine fw_pu rfl ?_
                refine fw_ca Try.func55 rfl rfl rfl ((num23_any 5 W136)) ?_
                rintro _ _ ⟨rfl, rfl⟩
                refine ⟨(.int .i64 5), rfl, ?_⟩
                refine fw_pu rfl ?_
                refine fw_dt ?_
                refine fw_cT rfl rfl ?_
                refine fw_xt ?_
                refine fw_te ?_
                refine fw_bf (by decide) ?_
                refine fw_te ?_
                refine fw_be ?_
                refine fw_th ?_
                refine fw_rg rfl ?_
                refine fw_pu rfl ?_
                refine fw_ex 39 (.int .i64 (((i + 1) : Nat) : Int)) rfl rfl rfl (fun a h => (run_binOp (h.ev rfl) (h.ev rfl) (by simp [go_sem]) (addIw _ _ _ _ (by omega) (by omega) (by omega)))) ?_
                refine fw_pu rfl ?_
                refine fw_dn ?_
                have hoA := Owns.sub f146 (.cons_cons _ (.cons_cons _ (.cons_cons _ (.cons _ (.cons _ (.cons _ .slnil))))))
                have hoE : Owns w.heap.size (q31 :: q22 :: q14 :: q1 :: []) (orP v0 (D ++ Lw) :: orF (.slice af o.fl.length cf) o.fl :: orM (.slice aq o.qu.length cq) o.qu :: []) W136 := (Owns.subH (H := (q31 :: q22 :: q14 :: q1 :: [])) hoA (fun k hk => by simp only [List.mem_cons, List.not_mem_nil, or_false] at hk ⊢; rcases hk with rfl | rfl | rfl | rfl <;> simp))
                exact fw_th (fw_gf (hK44 _ _ _ (by omega) ⟨(i + 1), o, taken, came, up, Lw, D, v0, seen, recd, Nn, af, cf, aq, cq, aw, cw, rfl, (by omega), (by omega), hSI, hta, (by omega), r141, r142, r143, hoE, rfl, b139, r140⟩) ⟨rfl, rfl, rfl, rfl, rfl, rfl, rfl, rfl, (by first | rfl | (simp only [Look, cond, Nat.beq]; first | rfl | (congr 2; first | rfl | omega | (push_cast; omega)) | (simp; try omega))), trivial⟩)
              refine fw_oc rfl Try.func15 rfl rfl rfl ((within_any a0.id 2 W82 (by decide) (by decide))) ?_
              rintro _ _ ⟨rfl, rfl⟩
              refine ⟨(.int .i64 (within a0.id 2)), rfl, ?_⟩
              refine ⟨⟨b84, r85, r86, r87, r88, r89⟩, ?_⟩
              refine fw_tx 9 110 (.int .i64 (1 + (within a0.id 2))) rfl rfl rfl rfl (fun a h W hW => by obtain ⟨b84, r85, r86, r87, r88, r89⟩ := hW; exact (run_binOp (h.ev rfl) (h.ev rfl) (by simp [go_sem]) (addIw _ _ _ _ (by omega) (by omega) (by omega)))) (by kernel_rfl) (fun _ _ _ _ _ h => h) ?_
              refine fw_o1 4 (by kernel_rfl) ?_
              refine fw_oa rfl (t := 5) (u := fun q => .slice (some ⟨q, 0, none⟩) 1 1) 105 [.int .u8 (33 + ((taken : Nat) : Int))] rfl rfl rfl (fun a h => (bs1U _ _ (h.ev rfl))) ?_
              intro q147 W148 g151 s149 r150
              have := Nat.le_trans b84.size g151
              have := r85.lt g151
              have := r86.lt g151
              have := r87.lt g151
              have := r88.lt g151
              have := r89.lt g151
              have := r90.lt g151
              have b152 := b84.trans (s149.mono b84.size)
              have r153 := r85.below s149
              have r154 := r86.below s149
              have r155 := r87.below s149
              have r156 := r88.below s149
              have r157 := r89.below s149
              have r158 := r90.below s149
              have f159 := (Owns.hold f91 s149 g151 r150.2.2)
              refine ⟨⟨b152, r153, r154, r155, r156, r157⟩, ?_⟩
              refine fw_o1 5 (by kernel_rfl) ?_
              refine fw_ox rfl 106 (.string (pay taken)) rfl rfl rfl (fun a h => (run_convOp (h.ev rfl) (conv_pay (by omega) r150))) ?_
              refine fw_tx 10 111 (.agg #[.string { data := #[116] }, .string (pay taken), .int .i64 (1 + (within a0.id 2)), .bool false]) rfl rfl rfl rfl (fun a h W hW => by obtain ⟨b152, r153, r154, r155, r156, r157⟩ := hW; exact (run_buildOp (bp3 (h.ev rfl) (h.ev rfl) (h.ev rfl)) (by first | kernel_rfl | rfl))) (by kernel_rfl) (fun _ _ _ _ _ h => h) ?_
              refine fw_o1 12 (by kernel_rfl) ?_
              refine fw_oc rfl Try.func54 rfl rfl rfl ((cOff (w := W148) (o := o) (oz := o0) (ps := []) (m := mT taken a0.id) (up := up) (Owns.slF f159 1 rfl) (Owns.slM f159 2 rfl) hSI.oi.small hz5 (eq_of_beq hb_81))) ?_
              rintro _ V160 ⟨af161, cf161, aq161, cq161, ap161, cp161, rfl, ho161, hb161⟩
              refine ⟨_, rfl, ?_⟩
              have hoA161 := Owns.app f159 hb161 ho161 b152.size
              have hoB161 : Owns w.heap.size (q147 :: q67 :: q47 :: q31 :: q22 :: q14 :: q1 :: []) ((orP (v0) (D ++ Lw)) :: (orF (.slice af o.fl.length cf) o.fl) :: (orM (.slice aq o.qu.length cq) o.qu) :: (orF (.slice af161 o0.fl.length cf161) o0.fl) :: (orM (.slice aq161 o0.qu.length cq161) o0.qu) :: (orP (.slice ap161 [].length cp161) []) :: []) V160 := Owns.sub hoA161 (.cons_cons _ (.cons_cons _ (.cons_cons _ (.cons_cons _ (.cons_cons _ (.cons_cons _ .slnil))))))
              have b162 := b152.trans (hb161.mono b152.size)
              have r163 := r153.below hb161
              have r164 := r154.below hb161
              have r165 := r155.below hb161
              have r166 := r156.below hb161
              have r167 := r157.below hb161
              have r168 := r158.below hb161
              have r169 := r150.below hb161
              refine ⟨⟨b162, r163, r164, r165, r166, r167⟩, ?_⟩
              refine fw_tk 13 rfl rfl (by kernel_rfl) (fun _ _ _ _ _ h => h) ?_
              refine fw_tk 14 rfl rfl (by kernel_rfl) (fun _ _ _ _ _ h => h) ?_
              refine fw_tk 15 rfl rfl (by kernel_rfl) (fun _ _ _ _ _ h => h) ?_
              refine fw_tk 16 rfl rfl (by kernel_rfl) (fun _ _ _ _ _ h => h) ?_
              refine fw_o1 17 (by kernel_rfl) ?_
              refine fw_os rfl r168 rfl rfl ?_
              intro W170 s171 r172
              have b173 := below_chg b162 s171 (by omega) b162.size
              have r174 := r163.chg s171 (by omega)
              have r175 := r164.chg s171 (by omega)
              have r176 := r165.chg s171 (by omega)
              have r177 := r166.chg s171 (by omega)
              have r178 := r167.chg s171 (by omega)
              have r179 := r169.chg s171 (by omega)
              have f180 := (Owns.chg hoB161 s171 (by simp))
              refine ⟨⟨b173, r174, r175, r176, r177, r178⟩, ?_⟩
              refine fw_tk 18 rfl rfl (by kernel_rfl) (fun _ _ _ _ _ h => h) ?_
              refine fw_tk 19 rfl rfl (by kernel_rfl) (fun _ _ _ _ _ h => h) ?_
              refine fw_ht (by kernel_rfl) ?_
              refine fw_sq ?_
              refine fw_sq ?_
              refine fw_rg rfl ?_
              refine fw_pu rfl ?_
              refine fw_ca Try.func55 rfl rfl rfl ((num23_any 5 W170)) ?_
              rintro _ _ ⟨rfl, rfl⟩
              refine ⟨(.int .i64 5), rfl, ?_⟩
              refine fw_pu rfl ?_
              refine fw_dt ?_
              refine fw_cT rfl rfl ?_
              refine fw_xt ?_
              refine fw_te ?_
              refine fw_bf (by decide) ?_
              refine fw_te ?_
              refine fw_be ?_
              refine fw_th ?_
              refine fw_rg rfl ?_
              refine fw_pu rfl ?_
              refine fw_ex 39 (.int .i64 (((i + 1) : Nat) : Int)) rfl rfl rfl (fun a h => (run_binOp (h.ev rfl) (h.ev rfl) (by simp [go_sem]) (addIw _ _ _ _ (by omega) (by omega) (by omega)))) ?_
              refine fw_pu rfl ?_
              refine fw_dn ?_
              have hoA := Owns.sub f180 (.cons_cons _ (.cons_cons _ (.cons_cons _ (.cons _ (.cons _ (.cons _ .slnil))))))
              have hoE : Owns w.heap.size (q31 :: q22 :: q14 :: q1 :: []) (orP v0 (D ++ Lw) :: orF (.slice af o.fl.length cf) o.fl :: orM (.slice aq o.qu.length cq) o.qu :: []) W170 := (Owns.subH (H := (q31 :: q22 :: q14 :: q1 :: [])) hoA (fun k hk => by simp only [List.mem_cons, List.not_mem_nil, or_false] at hk ⊢; rcases hk with rfl | rfl | rfl | rfl <;> simp))
              exact fw_th (fw_gf (hK44 _ _ _ (by omega) ⟨(i + 1), o, taken, came, up, Lw, D, v0, seen, recd, Nn, af, cf, aq, cq, aw, cw, rfl, (by omega), (by omega), hSI, hta, (by omega), r175, r176, r177, hoE, rfl, b173, r174⟩) ⟨rfl, rfl, rfl, rfl, rfl, rfl, rfl, rfl, (by first | rfl | (simp only [Look, cond, Nat.beq]; first | rfl | (congr 2; first | rfl | omega | (push_cast; omega)) | (simp; try omega))), trivial⟩)
            obtain ⟨hE0, oz, ps, N2, C, S, hz0, hC0, hS0, hAct⟩ := hSI.offer (isMsg_mT taken a0.id) (beq_eq_false_iff_ne.1 hb_81)
            have hwb := within_bd a0.id 2 (by decide)
            refine fw_hr (fun X => Below w.heap.size w X ∧ RowAt X q1 [.int .i64 o1.last, .slice af1 o1.fl.length cf1, .slice aq1 o1.qu.length cq1, .slice (some ⟨bA, oA, none⟩) SL.length cL] ∧ RowAt X q14 [.int .i64 o.last, .slice af o.fl.length cf, .slice aq o.qu.length cq] ∧ RowAt X q22 (iR seen) ∧ RowAt X q31 (bR recd) ∧ RowAt X q47 [.int .i64 a0.d, .int .i64 a0.id, .string a0.m.t, .string a0.m.p, .int .i64 a0.m.q, .bool a0.m.r, .bool a0.up, .bool a0.ft]) (by kernel_rfl) 20 rfl ?_
            intro W181 s182
            have b183 := b72.trans (s182.mono b72.size)
            have r184 := r73.below s182
            have r185 := r74.below s182
            have r186 := r75.below s182
            have r187 := r76.below s182
            have r188 := r77.below s182
            have r189 := r70.below s182
            have f190 := (Owns.below f78 s182)
            refine ⟨⟨b183, r184, r185, r186, r187, r188⟩, ?_⟩
            refine fw_tl 0 (fun _ h => h.2.2.1) rfl rfl rfl (by kernel_rfl) (fun _ _ _ _ _ h => h) ?_
            refine fw_tk 1 rfl rfl (by kernel_rfl) (fun _ _ _ _ _ h => h) ?_
            refine fw_tx 2 103 (.int .i64 (33 + ((taken : Nat) : Int))) rfl rfl rfl rfl (fun a h W hW => by obtain ⟨b183, r184, r185, r186, r187, r188⟩ := hW; exact (run_binOp (h.ev rfl) (h.ev rfl) (by simp [go_sem]) (addIw _ _ _ _ (by omega) (by omega) (by omega)))) (by kernel_rfl) (fun _ _ _ _ _ h => h) ?_
            refine fw_tx 3 104 ((.int .u8 (33 + ((taken : Nat) : Int)))) rfl rfl rfl rfl (fun a h W hW => by obtain ⟨b183, r184, r185, r186, r187, r188⟩ := hW; exact (run_convOp (h.ev rfl) (cv38 _ (by omega) _))) (by kernel_rfl) (fun _ _ _ _ _ h => h) ?_
            refine fw_tk 6 rfl rfl (by kernel_rfl) (fun _ _ _ _ _ h => h) ?_
            refine fw_tl 7 (fun _ h => h.2.2.2.2.2) rfl rfl rfl (by kernel_rfl) (fun _ _ _ _ _ h => h) ?_
            refine fw_tk 11 rfl rfl (by kernel_rfl) (fun _ _ _ _ _ h => h) ?_
            refine fw_o2 4 8 (by kernel_rfl) ?_ ?_
            · skip
              refine fw_oa rfl (t := 5) (u := fun q => .slice (some ⟨q, 0, none⟩) 1 1) 105 [.int .u8 (33 + ((taken : Nat) : Int))] rfl rfl rfl (fun a h => (bs1U _ _ (h.ev rfl))) ?_
              intro q191 W192 g195 s193 r194
              have := Nat.le_trans b183.size g195
              have := r184.lt g195
              have := r185.lt g195
              have := r186.lt g195
              have := r187.lt g195
              have := r188.lt g195
              have := r189.lt g195
              have b196 := b183.trans (s193.mono b183.size)
              have r197 := r184.below s193
              have r198 := r185.below s193
              have r199 := r186.below s193
              have r200 := r187.below s193
              have r201 := r188.below s193
              have r202 := r189.below s193
              have f203 := (Owns.hold f190 s193 g195 r194.2.2)
              refine ⟨⟨b196, r197, r198, r199, r200, r201⟩, ?_⟩
              refine fw_o2 5 8 (by kernel_rfl) ?_ ?_
              · skip
                refine fw_ox rfl 106 (.string (pay taken)) rfl rfl rfl (fun a h => (run_convOp (h.ev rfl) (conv_pay (by omega) r194))) ?_
                refine fw_o1 8 (by kernel_rfl) ?_
                refine fw_oc rfl Try.func15 rfl rfl rfl ((within_any a0.id 2 W192 (by decide) (by decide))) ?_
                rintro _ _ ⟨rfl, rfl⟩
                refine ⟨(.int .i64 (within a0.id 2)), rfl, ?_⟩
                refine ⟨⟨b196, r197, r198, r199, r200, r201⟩, ?_⟩
                refine fw_tx 9 110 (.int .i64 (1 + (within a0.id 2))) rfl rfl rfl rfl (fun a h W hW => by obtain ⟨b196, r197, r198, r199, r200, r201⟩ := hW; exact (run_binOp (h.ev rfl) (h.ev rfl) (by simp [go_sem]) (addIw _ _ _ _ (by omega) (by omega) (by omega)))) (by kernel_rfl) (fun _ _ _ _ _ h => h) ?_
                refine fw_tx 10 111 (.agg #[.string { data := #[116] }, .string (pay taken), .int .i64 (1 + (within a0.id 2)), .bool false]) rfl rfl rfl rfl (fun a h W hW => by obtain ⟨b196, r197, r198, r199, r200, r201⟩ := hW; exact (run_buildOp (bp3 (h.ev rfl) (h.ev rfl) (h.ev rfl)) (by first | kernel_rfl | rfl))) (by kernel_rfl) (fun _ _ _ _ _ h => h) ?_
                refine fw_o1 12 (by kernel_rfl) ?_
                refine fw_oc rfl Try.func54 rfl rfl rfl ((cOff (w := W192) (o := o) (oz := oz) (ps := ps) (m := mT taken a0.id) (up := up) (Owns.slF f203 1 rfl) (Owns.slM f203 2 rfl) hSI.oi.small hz0 hE0)) ?_
                rintro _ V204 ⟨af205, cf205, aq205, cq205, ap205, cp205, rfl, ho205, hb205⟩
                refine ⟨_, rfl, ?_⟩
                have hoA205 := Owns.app f203 hb205 ho205 b196.size
                have hoB205 : Owns w.heap.size (q191 :: q67 :: q47 :: q31 :: q22 :: q14 :: q1 :: []) ((orP (v0) (D ++ Lw)) :: (orF (.slice af o.fl.length cf) o.fl) :: (orM (.slice aq o.qu.length cq) o.qu) :: (orF (.slice af205 oz.fl.length cf205) oz.fl) :: (orM (.slice aq205 oz.qu.length cq205) oz.qu) :: (orP (.slice ap205 ps.length cp205) ps) :: []) V204 := Owns.sub hoA205 (.cons_cons _ (.cons_cons _ (.cons_cons _ (.cons_cons _ (.cons_cons _ (.cons_cons _ .slnil))))))
                have b206 := b196.trans (hb205.mono b196.size)
                have r207 := r197.below hb205
                have r208 := r198.below hb205
                have r209 := r199.below hb205
                have r210 := r200.below hb205
                have r211 := r201.below hb205
                have r212 := r202.below hb205
                have r213 := r194.below hb205
                refine ⟨⟨b206, r207, r208, r209, r210, r211⟩, ?_⟩
                refine fw_tk 13 rfl rfl (by kernel_rfl) (fun _ _ _ _ _ h => h) ?_
                refine fw_tk 14 rfl rfl (by kernel_rfl) (fun _ _ _ _ _ h => h) ?_
                refine fw_tk 15 rfl rfl (by kernel_rfl) (fun _ _ _ _ _ h => h) ?_
                refine fw_tk 16 rfl rfl (by kernel_rfl) (fun _ _ _ _ _ h => h) ?_
                refine fw_o1 17 (by kernel_rfl) ?_
                refine fw_os rfl r212 rfl rfl ?_
                intro W214 s215 r216
                have b217 := below_chg b206 s215 (by omega) b206.size
                have r218 := r207.chg s215 (by omega)
                have r219 := r208.chg s215 (by omega)
                have r220 := r209.chg s215 (by omega)
                have r221 := r210.chg s215 (by omega)
                have r222 := r211.chg s215 (by omega)
                have r223 := r213.chg s215 (by omega)
                have f224 := (Owns.chg hoB205 s215 (by simp))
                refine ⟨⟨b217, r218, r219, r220, r221, r222⟩, ?_⟩
                refine fw_tk 18 rfl rfl (by kernel_rfl) (fun _ _ _ _ _ h => h) ?_
                refine fw_tk 19 rfl rfl (by kernel_rfl) (fun _ _ _ _ _ h => h) ?_
                refine fw_ht (by kernel_rfl) ?_
                refine fw_sq ?_
                refine fw_sq ?_
                refine fw_rg rfl ?_
                refine fw_pu rfl ?_
                refine fw_ca Try.func55 rfl rfl rfl ((num23_any 0 W214)) ?_
                rintro _ _ ⟨rfl, rfl⟩
                refine ⟨(.int .i64 0), rfl, ?_⟩
                refine fw_pu rfl ?_
                refine fw_dt ?_
                refine fw_cF rfl rfl ?_
                refine fw_sk ?_
                refine fw_th ?_
                refine fw_rg rfl ?_
                refine fw_pu rfl ?_
                refine fw_ex 121 (.int .i64 (((taken + 1) : Nat) : Int)) rfl rfl rfl (fun a h => (run_binOp (h.ev rfl) (h.ev rfl) (by simp [go_sem]) (addIw _ _ _ _ (by omega) (by omega) (by omega)))) ?_
                refine fw_pu rfl ?_
                refine fw_dn ?_
                refine fw_bn ?_
                have hoA := Owns.sub f224 (.cons_cons _ (.cons _ (.cons _ (.cons_cons _ (.cons_cons _ (.cons_cons _ .slnil))))))
                have hoE : Owns w.heap.size (q67 :: q47 :: q31 :: q22 :: q14 :: q1 :: []) (orP v0 (D ++ Lw) :: orF (.slice af205 oz.fl.length cf205) oz.fl :: orM (.slice aq205 oz.qu.length cq205) oz.qu :: orP (.slice ap205 ps.length cp205) ps :: []) W214 := (Owns.subH (H := (q67 :: q47 :: q31 :: q22 :: q14 :: q1 :: [])) hoA (fun k hk => by simp only [List.mem_cons, List.not_mem_nil, or_false] at hk ⊢; rcases hk with rfl | rfl | rfl | rfl | rfl | rfl <;> simp))
                exact fw_th (fw_gf (hK79 _ _ ⟨oz, ps, (taken + 1), up, Lw, D, v0, recd, N2, C, S, af205, cf205, aq205, cq205, aw, cw, ap205, cp205, hAct, (by omega), hC0, hS0, hta, hbd, r216, r221, hoE, rfl, b217, r218, r219, r220, r222⟩) ⟨rfl, rfl, (by first | rfl | (simp only [Look, cond, Nat.beq]; first | rfl | (congr 2; first | rfl | omega | (push_cast; omega)) | (simp; try omega))), rfl, (by first | rfl | (simp only [Look, cond, Nat.beq]; first | rfl | (congr 2; first | rfl | omega | (push_cast; omega)) | (simp; try omega))), rfl, rfl, (by first | rfl | (simp only [Look, cond, Nat.beq]; first | rfl | (congr 2; first | rfl | omega | (push_cast; omega)) | (simp; try omega))), rfl, (by first | rfl | (simp only [Look, cond, Nat.beq]; first | rfl | (congr 2; first | rfl | omega | (push_cast; omega)) | (simp; try omega))), rfl, rfl, trivial⟩)
              refine fw_oc rfl Try.func15 rfl rfl rfl ((within_any a0.id 2 W192 (by decide) (by decide))) ?_
              rintro _ _ ⟨rfl, rfl⟩
              refine ⟨(.int .i64 (within a0.id 2)), rfl, ?_⟩
              refine ⟨⟨b196, r197, r198, r199, r200, r201⟩, ?_⟩
              refine fw_tx 9 110 (.int .i64 (1 + (within a0.id 2))) rfl rfl rfl rfl (fun a h W hW => by obtain ⟨b196, r197, r198, r199, r200, r201⟩ := hW; exact (run_binOp (h.ev rfl) (h.ev rfl) (by simp [go_sem]) (addIw _ _ _ _ (by omega) (by omega) (by omega)))) (by kernel_rfl) (fun _ _ _ _ _ h => h) ?_
              refine fw_o1 5 (by kernel_rfl) ?_
              refine fw_ox rfl 106 (.string (pay taken)) rfl rfl rfl (fun a h => (run_convOp (h.ev rfl) (conv_pay (by omega) r194))) ?_
              refine fw_tx 10 111 (.agg #[.string { data := #[116] }, .string (pay taken), .int .i64 (1 + (within a0.id 2)), .bool false]) rfl rfl rfl rfl (fun a h W hW => by obtain ⟨b196, r197, r198, r199, r200, r201⟩ := hW; exact (run_buildOp (bp3 (h.ev rfl) (h.ev rfl) (h.ev rfl)) (by first | kernel_rfl | rfl))) (by kernel_rfl) (fun _ _ _ _ _ h => h) ?_
              refine fw_o1 12 (by kernel_rfl) ?_
              refine fw_oc rfl Try.func54 rfl rfl rfl ((cOff (w := W192) (o := o) (oz := oz) (ps := ps) (m := mT taken a0.id) (up := up) (Owns.slF f203 1 rfl) (Owns.slM f203 2 rfl) hSI.oi.small hz0 hE0)) ?_
              rintro _ V225 ⟨af226, cf226, aq226, cq226, ap226, cp226, rfl, ho226, hb226⟩
              refine ⟨_, rfl, ?_⟩
              have hoA226 := Owns.app f203 hb226 ho226 b196.size
              have hoB226 : Owns w.heap.size (q191 :: q67 :: q47 :: q31 :: q22 :: q14 :: q1 :: []) ((orP (v0) (D ++ Lw)) :: (orF (.slice af o.fl.length cf) o.fl) :: (orM (.slice aq o.qu.length cq) o.qu) :: (orF (.slice af226 oz.fl.length cf226) oz.fl) :: (orM (.slice aq226 oz.qu.length cq226) oz.qu) :: (orP (.slice ap226 ps.length cp226) ps) :: []) V225 := Owns.sub hoA226 (.cons_cons _ (.cons_cons _ (.cons_cons _ (.cons_cons _ (.cons_cons _ (.cons_cons _ .slnil))))))
              have b227 := b196.trans (hb226.mono b196.size)
              have r228 := r197.below hb226
              have r229 := r198.below hb226
              have r230 := r199.below hb226
              have r231 := r200.below hb226
              have r232 := r201.below hb226
              have r233 := r202.below hb226
              have r234 := r194.below hb226
              refine ⟨⟨b227, r228, r229, r230, r231, r232⟩, ?_⟩
              refine fw_tk 13 rfl rfl (by kernel_rfl) (fun _ _ _ _ _ h => h) ?_
              refine fw_tk 14 rfl rfl (by kernel_rfl) (fun _ _ _ _ _ h => h) ?_
              refine fw_tk 15 rfl rfl (by kernel_rfl) (fun _ _ _ _ _ h => h) ?_
              refine fw_tk 16 rfl rfl (by kernel_rfl) (fun _ _ _ _ _ h => h) ?_
              refine fw_o1 17 (by kernel_rfl) ?_
              refine fw_os rfl r233 rfl rfl ?_
              intro W235 s236 r237
              have b238 := below_chg b227 s236 (by omega) b227.size
              have r239 := r228.chg s236 (by omega)
              have r240 := r229.chg s236 (by omega)
              have r241 := r230.chg s236 (by omega)
              have r242 := r231.chg s236 (by omega)
              have r243 := r232.chg s236 (by omega)
              have r244 := r234.chg s236 (by omega)
              have f245 := (Owns.chg hoB226 s236 (by simp))
              refine ⟨⟨b238, r239, r240, r241, r242, r243⟩, ?_⟩
              refine fw_tk 18 rfl rfl (by kernel_rfl) (fun _ _ _ _ _ h => h) ?_
              refine fw_tk 19 rfl rfl (by kernel_rfl) (fun _ _ _ _ _ h => h) ?_
              refine fw_ht (by kernel_rfl) ?_
              refine fw_sq ?_
              refine fw_sq ?_
              refine fw_rg rfl ?_
              refine fw_pu rfl ?_
              refine fw_ca Try.func55 rfl rfl rfl ((num23_any 0 W235)) ?_
              rintro _ _ ⟨rfl, rfl⟩
              refine ⟨(.int .i64 0), rfl, ?_⟩
              refine fw_pu rfl ?_
              refine fw_dt ?_
              refine fw_cF rfl rfl ?_
              refine fw_sk ?_
              refine fw_th ?_
              refine fw_rg rfl ?_
              refine fw_pu rfl ?_
              refine fw_ex 121 (.int .i64 (((taken + 1) : Nat) : Int)) rfl rfl rfl (fun a h => (run_binOp (h.ev rfl) (h.ev rfl) (by simp [go_sem]) (addIw _ _ _ _ (by omega) (by omega) (by omega)))) ?_
              refine fw_pu rfl ?_
              refine fw_dn ?_
              refine fw_bn ?_
              have hoA := Owns.sub f245 (.cons_cons _ (.cons _ (.cons _ (.cons_cons _ (.cons_cons _ (.cons_cons _ .slnil))))))
              have hoE : Owns w.heap.size (q67 :: q47 :: q31 :: q22 :: q14 :: q1 :: []) (orP v0 (D ++ Lw) :: orF (.slice af226 oz.fl.length cf226) oz.fl :: orM (.slice aq226 oz.qu.length cq226) oz.qu :: orP (.slice ap226 ps.length cp226) ps :: []) W235 := (Owns.subH (H := (q67 :: q47 :: q31 :: q22 :: q14 :: q1 :: [])) hoA (fun k hk => by simp only [List.mem_cons, List.not_mem_nil, or_false] at hk ⊢; rcases hk with rfl | rfl | rfl | rfl | rfl | rfl <;> simp))
              exact fw_th (fw_gf (hK79 _ _ ⟨oz, ps, (taken + 1), up, Lw, D, v0, recd, N2, C, S, af226, cf226, aq226, cq226, aw, cw, ap226, cp226, hAct, (by omega), hC0, hS0, hta, hbd, r237, r242, hoE, rfl, b238, r239, r240, r241, r243⟩) ⟨rfl, rfl, (by first | rfl | (simp only [Look, cond, Nat.beq]; first | rfl | (congr 2; first | rfl | omega | (push_cast; omega)) | (simp; try omega))), rfl, (by first | rfl | (simp only [Look, cond, Nat.beq]; first | rfl | (congr 2; first | rfl | omega | (push_cast; omega)) | (simp; try omega))), rfl, rfl, (by first | rfl | (simp only [Look, cond, Nat.beq]; first | rfl | (congr 2; first | rfl | omega | (push_cast; omega)) | (simp; try omega))), rfl, (by first | rfl | (simp only [Look, cond, Nat.beq]; first | rfl | (congr 2; first | rfl | omega | (push_cast; omega)) | (simp; try omega))), rfl, rfl, trivial⟩)
            refine fw_oc rfl Try.func15 rfl rfl rfl ((within_any a0.id 2 W181 (by decide) (by decide))) ?_
            rintro _ _ ⟨rfl, rfl⟩
            refine ⟨(.int .i64 (within a0.id 2)), rfl, ?_⟩
            refine ⟨⟨b183, r184, r185, r186, r187, r188⟩, ?_⟩
            refine fw_tx 9 110 (.int .i64 (1 + (within a0.id 2))) rfl rfl rfl rfl (fun a h W hW => by obtain ⟨b183, r184, r185, r186, r187, r188⟩ := hW; exact (run_binOp (h.ev rfl) (h.ev rfl) (by simp [go_sem]) (addIw _ _ _ _ (by omega) (by omega) (by omega)))) (by kernel_rfl) (fun _ _ _ _ _ h => h) ?_
            refine fw_o1 4 (by kernel_rfl) ?_
            refine fw_oa rfl (t := 5) (u := fun q => .slice (some ⟨q, 0, none⟩) 1 1) 105 [.int .u8 (33 + ((taken : Nat) : Int))] rfl rfl rfl (fun a h => (bs1U _ _ (h.ev rfl))) ?_
            intro q246 W247 g250 s248 r249
            have := Nat.le_trans b183.size g250
            have := r184.lt g250
            have := r185.lt g250
            have := r186.lt g250
            have := r187.lt g250
            have := r188.lt g250
            have := r189.lt g250
            have b251 := b183.trans (s248.mono b183.size)
            have r252 := r184.below s248
            have r253 := r185.below s248
            have r254 := r186.below s248
            have r255 := r187.below s248
            have r256 := r188.below s248
            have r257 := r189.below s248
            have f258 := (Owns.hold f190 s248 g250 r249.2.2)
            refine ⟨⟨b251, r252, r253, r254, r255, r256⟩, ?_⟩
            refine fw_o1 5 (by kernel_rfl) ?_
            refine fw_ox rfl 106 (.string (pay taken)) rfl rfl rfl (fun a h => (run_convOp (h.ev rfl) (conv_pay (by omega) r249))) ?_
            refine fw_tx 10 111 (.agg #[.string { data := #[116] }, .string (pay taken), .int .i64 (1 + (within a0.id 2)), .bool false]) rfl rfl rfl rfl (fun a h W hW => by obtain ⟨b251, r252, r253, r254, r255, r256⟩ := hW; exact (run_buildOp (bp3 (h.ev rfl) (h.ev rfl) (h.ev rfl)) (by first | kernel_rfl | rfl))) (by kernel_rfl) (fun _ _ _ _ _ h => h) ?_
            refine fw_o1 12 (by kernel_rfl) ?_
            refine fw_oc rfl Try.func54 rfl rfl rfl ((cOff (w := W247) (o := o) (oz := oz) (ps := ps) (m := mT taken a0.id) (up := up) (Owns.slF f258 1 rfl) (Owns.slM f258 2 rfl) hSI.oi.small hz0 hE0)) ?_
            rintro _ V259 ⟨af260, cf260, aq260, cq260, ap260, cp260, rfl, ho260, hb260⟩
            refine ⟨_, rfl, ?_⟩
            have hoA260 := Owns.app f258 hb260 ho260 b251.size
            have hoB260 : Owns w.heap.size (q246 :: q67 :: q47 :: q31 :: q22 :: q14 :: q1 :: []) ((orP (v0) (D ++ Lw)) :: (orF (.slice af o.fl.length cf) o.fl) :: (orM (.slice aq o.qu.length cq) o.qu) :: (orF (.slice af260 oz.fl.length cf260) oz.fl) :: (orM (.slice aq260 oz.qu.length cq260) oz.qu) :: (orP (.slice ap260 ps.length cp260) ps) :: []) V259 := Owns.sub hoA260 (.cons_cons _ (.cons_cons _ (.cons_cons _ (.cons_cons _ (.cons_cons _ (.cons_cons _ .slnil))))))
            have b261 := b251.trans (hb260.mono b251.size)
            have r262 := r252.below hb260
            have r263 := r253.below hb260
            have r264 := r254.below hb260
            have r265 := r255.below hb260
            have r266 := r256.below hb260
            have r267 := r257.below hb260
            have r268 := r249.below hb260
            refine ⟨⟨b261, r262, r263, r264, r265, r266⟩, ?_⟩
            refine fw_tk 13 rfl rfl (by kernel_rfl) (fun _ _ _ _ _ h => h) ?_
            refine fw_tk 14 rfl rfl (by kernel_rfl) (fun _ _ _ _ _ h => h) ?_
            refine fw_tk 15 rfl rfl (by kernel_rfl) (fun _ _ _ _ _ h => h) ?_
            refine fw_tk 16 rfl rfl (by kernel_rfl) (fun _ _ _ _ _ h => h) ?_
            refine fw_o1 17 (by kernel_rfl) ?_
            refine fw_os rfl r267 rfl rfl ?_
            intro W269 s270 r271
            have b272 := below_chg b261 s270 (by omega) b261.size
            have r273 := r262.chg s270 (by omega)
            have r274 := r263.chg s270 (by omega)
            have r275 := r264.chg s270 (by omega)
            have r276 := r265.chg s270 (by omega)
            have r277 := r266.chg s270 (by omega)
            have r278 := r268.chg s270 (by omega)
            have f279 := (Owns.chg hoB260 s270 (by simp))
            refine ⟨⟨b272, r273, r274, r275, r276, r277⟩, ?_⟩
            refine fw_tk 18 rfl rfl (by kernel_rfl) (fun _ _ _ _ _ h => h) ?_
            refine fw_tk 19 rfl rfl (by kernel_rfl) (fun _ _ _ _ _ h => h) ?_
            refine fw_ht (by kernel_rfl) ?_
            refine fw_sq ?_
            refine fw_sq ?_
            refine fw_rg rfl ?_
            refine fw_pu rfl ?_
            refine fw_ca Try.func55 rfl rfl rfl ((num23_any 0 W269)) ?_
            rintro _ _ ⟨rfl, rfl⟩
            refine ⟨(.int .i64 0), rfl, ?_⟩
            refine fw_pu rfl ?_
            refine fw_dt ?_
            refine fw_cF rfl rfl ?_
            refine fw_sk ?_
            refine fw_th ?_
            refine fw_rg rfl ?_
            refine fw_pu rfl ?_
            refine fw_ex 121 (.int .i64 (((taken + 1) : Nat) : Int)) rfl rfl rfl (fun a h => (run_binOp (h.ev rfl) (h.ev rfl) (by simp [go_sem]) (addIw _ _ _ _ (by omega) (by omega) (by omega)))) ?_
            refine fw_pu rfl ?_
            refine fw_dn ?_
            refine fw_bn ?_
            have hoA := Owns.sub f279 (.cons_cons _ (.cons _ (.cons _ (.cons_cons _ (.cons_cons _ (.cons_cons _ .slnil))))))
            have hoE : Owns w.heap.size (q67 :: q47 :: q31 :: q22 :: q14 :: q1 :: []) (orP v0 (D ++ Lw) :: orF (.slice af260 oz.fl.length cf260) oz.fl :: orM (.slice aq260 oz.qu.length cq260) oz.qu :: orP (.slice ap260 ps.length cp260) ps :: []) W269 := (Owns.subH (H := (q67 :: q47 :: q31 :: q22 :: q14 :: q1 :: [])) hoA (fun k hk => by simp only [List.mem_cons, List.not_mem_nil, or_false] at hk ⊢; rcases hk with rfl | rfl | rfl | rfl | rfl | rfl <;> simp))
            exact fw_th (fw_gf (hK79 _ _ ⟨oz, ps, (taken + 1), up, Lw, D, v0, recd, N2, C, S, af260, cf260, aq260, cq260, aw, cw, ap260, cp260, hAct, (by omega), hC0, hS0, hta, hbd, r271, r276, hoE, rfl, b272, r273, r274, r275, r277⟩) ⟨rfl, rfl, (by first | rfl | (simp only [Look, cond, Nat.beq]; first | rfl | (congr 2; first | rfl | omega | (push_cast; omega)) | (simp; try omega))), rfl, (by first | rfl | (simp only [Look, cond, Nat.beq]; first | rfl | (congr 2; first | rfl | omega | (push_cast; omega)) | (simp; try omega))), rfl, rfl, (by first | rfl | (simp only [Look, cond, Nat.beq]; first | rfl | (congr 2; first | rfl | omega | (push_cast; omega)) | (simp; try omega))), rfl, (by first | rfl | (simp only [Look, cond, Nat.beq]; first | rfl | (congr 2; first | rfl | omega | (push_cast; omega)) | (simp; try omega))), rfl, rfl, trivial⟩)
          refine fw_cF rfl hb_80 ?_
          refine fw_sq ?_
          refine fw_rg rfl ?_
          iterate 2 refine fw_pu rfl ?_
          refine fw_dt ?_
          rcases Bool.eq_false_or_eq_true (((within a0.d 4) == 1)) with hb_280 | hb_280
          · skip
            refine fw_cT rfl hb_280 ?_
            refine fw_sq ?_
            refine fw_rg rfl ?_
            refine fw_pu rfl ?_
            refine fw_dt ?_
            refine fw_sq ?_
            refine fw_rg rfl ?_
            refine fw_pu rfl ?_
            refine fw_dt ?_
            refine fw_xt ?_
            refine fw_bf (by decide) ?_
            refine fw_te ?_
            refine fw_be ?_
            refine fw_th ?_
            refine fw_rg rfl ?_
            refine fw_pu rfl ?_
            refine fw_ex 39 (.int .i64 (((i + 1) : Nat) : Int)) rfl rfl rfl (fun a h => (run_binOp (h.ev rfl) (h.ev rfl) (by simp [go_sem]) (addIw _ _ _ _ (by omega) (by omega) (by omega)))) ?_
            refine fw_pu rfl ?_
            refine fw_dn ?_
            have hoA := Owns.cons (orP (.slice none 0 0) []) (Owns.sub f78 (.cons _ (.cons_cons _ (.cons_cons _ .slnil)))) rfl (PkOwn.nil _ _) 0
            have hoE : Owns w.heap.size (q31 :: q22 :: q14 :: q1 :: []) (orP (.slice none 0 0) ([] ++ []) :: orF (.slice af o.fl.length cf) o.fl :: orM (.slice aq o.qu.length cq) o.qu :: []) W68 := (Owns.subH (H := (q31 :: q22 :: q14 :: q1 :: [])) hoA (fun k hk => by simp only [List.mem_cons, List.not_mem_nil, or_false] at hk ⊢; rcases hk with rfl | rfl | rfl | rfl <;> simp))
            exact fw_th (fw_gf (hK44 _ _ _ (by omega) ⟨(i + 1), o, taken, came, false, [], [], (.slice none 0 0), seen, recd, Nn, af, cf, aq, cq, none, 0, rfl, (by omega), (by omega), (SI.mk hSI.oi (fun h => nomatch h) (fun h => nomatch h) (fun _ => rfl)), TailAt.nil, (by simp), r74, r75, r76, hoE, rfl, b72, r73⟩) ⟨rfl, rfl, rfl, rfl, (by first | rfl | (simp only [Look, cond, Nat.beq]; first | rfl | (congr 2; first | rfl | omega | (push_cast; omega)) | (simp; try omega))), rfl, rfl, (by first | rfl | (simp only [Look, cond, Nat.beq]; first | rfl | (congr 2; first | rfl | omega | (push_cast; omega)) | (simp; try omega))), (by first | rfl | (simp only [Look, cond, Nat.beq]; first | rfl | (congr 2; first | rfl | omega | (push_cast; omega)) | (simp; try omega))), trivial⟩)
          refine fw_cF rfl hb_280 ?_
          refine fw_sq ?_
          refine fw_rg rfl ?_
          iterate 2 refine fw_pu rfl ?_
          refine fw_dt ?_
          rcases Bool.eq_false_or_eq_true (((within a0.d 4) == 2)) with hb_281 | hb_281
          · skip
            refine fw_cT rfl hb_281 ?_
            refine fw_sq ?_
            refine fw_sq ?_
            refine fw_rg rfl ?_
            refine fw_pu rfl ?_
            refine fw_dt ?_
            rcases Bool.eq_false_or_eq_true (up) with hb_282 | hb_282
            · skip
              refine fw_cT rfl hb_282 ?_
              refine fw_xt ?_
              refine fw_te ?_
              refine fw_bf (by decide) ?_
              refine fw_te ?_
              refine fw_be ?_
              refine fw_th ?_
              refine fw_rg rfl ?_
              refine fw_pu rfl ?_
              refine fw_ex 39 (.int .i64 (((i + 1) : Nat) : Int)) rfl rfl rfl (fun a h => (run_binOp (h.ev rfl) (h.ev rfl) (by simp [go_sem]) (addIw _ _ _ _ (by omega) (by omega) (by omega)))) ?_
              refine fw_pu rfl ?_
              refine fw_dn ?_
              have hoA := Owns.sub f78 (.cons_cons _ (.cons_cons _ (.cons_cons _ .slnil)))
              have hoE : Owns w.heap.size (q31 :: q22 :: q14 :: q1 :: []) (orP v0 (D ++ Lw) :: orF (.slice af o.fl.length cf) o.fl :: orM (.slice aq o.qu.length cq) o.qu :: []) W68 := (Owns.subH (H := (q31 :: q22 :: q14 :: q1 :: [])) hoA (fun k hk => by simp only [List.mem_cons, List.not_mem_nil, or_false] at hk ⊢; rcases hk with rfl | rfl | rfl | rfl <;> simp))
              exact fw_th (fw_gf (hK44 _ _ _ (by omega) ⟨(i + 1), o, taken, came, up, Lw, D, v0, seen, recd, Nn, af, cf, aq, cq, aw, cw, rfl, (by omega), (by omega), hSI, hta, (by omega), r74, r75, r76, hoE, rfl, b72, r73⟩) ⟨rfl, rfl, rfl, rfl, rfl, rfl, rfl, rfl, (by first | rfl | (simp only [Look, cond, Nat.beq]; first | rfl | (congr 2; first | rfl | omega | (push_cast; omega)) | (simp; try omega))), trivial⟩)
            refine fw_cF rfl hb_282 ?_
            refine fw_sk ?_
            refine fw_th ?_
            refine fw_sq ?_
            refine fw_rg rfl ?_
            refine fw_pu rfl ?_
            refine fw_dt ?_
            have hSf : SI false Lw o taken came seen recd Nn := hb_282 ▸ hSI
            have hnl := hSf.nl rfl
            obtain ⟨hE0, oz, ps, N2, C, S, hz0, hC0, hS0, hAct0⟩ := hSf.resume
            have hAct : ActS true Lw oz ps taken recd N2 C S := by rw [hnl]; exact hAct0
            refine fw_rg rfl ?_
            refine fw_ld r74 rfl rfl ?_
            refine fw_ca Try.func56 rfl rfl rfl ((cRes (w := W68) (Owns.slF f78 1 rfl) (Owns.slM f78 2 rfl) hSI.oi.small hz0 hE0)) ?_
            rintro _ V283 ⟨af284, cf284, aq284, cq284, ap284, cp284, rfl, ho284, hb284⟩
            refine ⟨_, rfl, ?_⟩
            have hoA284 := Owns.app f78 hb284 ho284 b72.size
            have hoB284 : Owns w.heap.size (q67 :: q47 :: q31 :: q22 :: q14 :: q1 :: []) ((orP (v0) (D ++ Lw)) :: (orF (.slice af o.fl.length cf) o.fl) :: (orM (.slice aq o.qu.length cq) o.qu) :: (orF (.slice af284 oz.fl.length cf284) oz.fl) :: (orM (.slice aq284 oz.qu.length cq284) oz.qu) :: (orP (.slice ap284 ps.length cp284) ps) :: []) V283 := Owns.sub hoA284 (.cons_cons _ (.cons_cons _ (.cons_cons _ (.cons_cons _ (.cons_cons _ (.cons_cons _ .slnil))))))
            have b285 := b72.trans (hb284.mono b72.size)
            have r286 := r73.below hb284
            have r287 := r74.below hb284
            have r288 := r75.below hb284
            have r289 := r76.below hb284
            have r290 := r77.below hb284
            have r291 := r70.below hb284
            iterate 4 refine fw_pu rfl ?_
            refine fw_st r291 rfl rfl ?_
            intro W292 s293 r294
            have b295 := below_chg b285 s293 (by omega) b285.size
            have r296 := r286.chg s293 (by omega)
            have r297 := r287.chg s293 (by omega)
            have r298 := r288.chg s293 (by omega)
            have r299 := r289.chg s293 (by omega)
            have r300 := r290.chg s293 (by omega)
            have f301 := (Owns.chg hoB284 s293 (by simp))
            iterate 2 refine fw_pu rfl ?_
            refine fw_dn ?_
            refine fw_bn ?_
            have hoA := Owns.sub f301 (.cons_cons _ (.cons _ (.cons _ (.cons_cons _ (.cons_cons _ (.cons_cons _ .slnil))))))
            have hoE : Owns w.heap.size (q67 :: q47 :: q31 :: q22 :: q14 :: q1 :: []) (orP v0 (D ++ Lw) :: orF (.slice af284 oz.fl.length cf284) oz.fl :: orM (.slice aq284 oz.qu.length cq284) oz.qu :: orP (.slice ap284 ps.length cp284) ps :: []) W292 := (Owns.subH (H := (q67 :: q47 :: q31 :: q22 :: q14 :: q1 :: [])) hoA (fun k hk => by simp only [List.mem_cons, List.not_mem_nil, or_false] at hk ⊢; rcases hk with rfl | rfl | rfl | rfl | rfl | rfl <;> simp))
            exact fw_th (fw_gf (hK79 _ _ ⟨oz, ps, taken, true, Lw, D, v0, recd, N2, C, S, af284, cf284, aq284, cq284, aw, cw, ap284, cp284, hAct, (by omega), hC0, hS0, hta, hbd, r294, r299, hoE, rfl, b295, r296, r297, r298, r300⟩) ⟨rfl, rfl, (by first | rfl | (simp only [Look, cond, Nat.beq]; first | rfl | (congr 2; first | rfl | omega | (push_cast; omega)) | (simp; try omega))), rfl, (by first | rfl | (simp only [Look, cond, Nat.beq]; first | rfl | (congr 2; first | rfl | omega | (push_cast; omega)) | (simp; try omega))), rfl, rfl, (by first | rfl | (simp only [Look, cond, Nat.beq]; first | rfl | (congr 2; first | rfl | omega | (push_cast; omega)) | (simp; try omega))), rfl, (by first | rfl | (simp only [Look, cond, Nat.beq]; first | rfl | (congr 2; first | rfl | omega | (push_cast; omega)) | (simp; try omega))), rfl, rfl, trivial⟩)
          refine fw_cF rfl hb_281 ?_
          refine fw_sq ?_
          refine fw_sq ?_
          refine fw_rg rfl ?_
          iterate 3 refine fw_pu rfl ?_
          rcases Bool.eq_false_or_eq_true (up) with hb_302 | hb_302
          · skip
            refine fw_kn 50 rfl (not_of hb_302) ?_
            iterate 4 refine fw_pu rfl ?_
            refine fw_dt ?_
            rcases Bool.eq_false_or_eq_true ((((Lw.length : Nat) : Int) == 0)) with hb_303 | hb_303
            · skip
              refine fw_cT rfl hb_303 ?_
              refine fw_xt ?_
              refine fw_te ?_
              refine fw_bf (by decide) ?_
              refine fw_te ?_
              refine fw_be ?_
              refine fw_th ?_
              refine fw_rg rfl ?_
              refine fw_pu rfl ?_
              refine fw_ex 39 (.int .i64 (((i + 1) : Nat) : Int)) rfl rfl rfl (fun a h => (run_binOp (h.ev rfl) (h.ev rfl) (by simp [go_sem]) (addIw _ _ _ _ (by omega) (by omega) (by omega)))) ?_
              refine fw_pu rfl ?_
              refine fw_dn ?_
              have hoA := Owns.sub f78 (.cons_cons _ (.cons_cons _ (.cons_cons _ .slnil)))
              have hoE : Owns w.heap.size (q31 :: q22 :: q14 :: q1 :: []) (orP v0 (D ++ Lw) :: orF (.slice af o.fl.length cf) o.fl :: orM (.slice aq o.qu.length cq) o.qu :: []) W68 := (Owns.subH (H := (q31 :: q22 :: q14 :: q1 :: [])) hoA (fun k hk => by simp only [List.mem_cons, List.not_mem_nil, or_false] at hk ⊢; rcases hk with rfl | rfl | rfl | rfl <;> simp))
              exact fw_th (fw_gf (hK44 _ _ _ (by omega) ⟨(i + 1), o, taken, came, up, Lw, D, v0, seen, recd, Nn, af, cf, aq, cq, aw, cw, rfl, (by omega), (by omega), hSI, hta, (by omega), r74, r75, r76, hoE, rfl, b72, r73⟩) ⟨rfl, rfl, rfl, rfl, rfl, rfl, rfl, rfl, (by first | rfl | (simp only [Look, cond, Nat.beq]; first | rfl | (congr 2; first | rfl | omega | (push_cast; omega)) | (simp; try omega))), trivial⟩)
            refine fw_cF rfl hb_303 ?_
            refine fw_sk ?_
            refine fw_th ?_
            refine fw_sq ?_
            obtain ⟨qh, Lt, rfl⟩ : ∃ p l, Lw = p :: l := by cases Lw with | nil => exact absurd hb_303 (by decide) | cons p l => exact ⟨p, l, rfl⟩
            have hSt : SI true (qh :: Lt) o taken came seen recd Nn := hb_302 ▸ hSI
            obtain ⟨gW, haw, hcW⟩ := tail_first (Owns.get f78 (i := 0) rfl) hta
            subst haw
            refine fw_rg rfl ?_
            refine fw_pu rfl ?_
            refine fw_ex 56 (.pointer (some ⟨gW, (D.length * 24), none⟩)) rfl rfl rfl (fun a h => (run_indexOp (h.ev rfl) (h.ev rfl) (idx0Pk _ _ _ _ (by simp) _))) ?_
            refine fw_ex 57 (.agg #[.int .i64 qh.k, .string { data := #[] }, .bool false, .int .i64 0, .bool false, .string { data := #[] }, .string { data := #[] }, .int .i64 0, .bool false, .string { data := #[] }, .bool false, .string { data := #[] }, .bool false, .bool false, .int .i64 0, .slice none 0 0, .bool qh.dup, .int .i64 qh.m.q, .bool qh.m.r, .string qh.m.t, .int .i64 qh.id, .string qh.m.p, .slice none 0 0, .slice none 0 0]) rfl rfl rfl (fun a h => (run_loadOp (h.ev rfl) (ldPk hcW))) ?_
            refine fw_al (t := 99) (u := fun q => .pointer (some ⟨q, 0, none⟩)) 15 [.int .i64 0, .string { data := #[] }, .bool false, .int .i64 0, .bool false, .string { data := #[] }, .string { data := #[] }, .int .i64 0, .bool false, .string { data := #[] }, .bool false, .string { data := #[] }, .bool false, .bool false, .int .i64 0, .slice none 0 0, .bool false, .int .i64 0, .bool false, .string { data := #[] }, .int .i64 0, .string { data := #[] }, .slice none 0 0, .slice none 0 0] rfl rfl rfl (fun a h => (run_allocOp (by simp [go_sem, Instr.alloc]))) ?_
            intro q304 W305 g308 s306 r307
            have := Nat.le_trans b72.size g308
            have := r73.lt g308
            have := r74.lt g308
            have := r75.lt g308
            have := r76.lt g308
            have := r77.lt g308
            have := r70.lt g308
            have b309 := b72.trans (s306.mono b72.size)
            have r310 := r73.below s306
            have r311 := r74.below s306
            have r312 := r75.below s306
            have r313 := r76.below s306
            have r314 := r77.below s306
            have r315 := r70.below s306
            have f316 := (Owns.hold f78 s306 g308 r307.2.2)
            refine fw_st r307 rfl rfl ?_
            intro W317 s318 r319
            have b320 := below_chg b309 s318 (by omega) b309.size
            have r321 := r310.chg s318 (by omega)
            have r322 := r311.chg s318 (by omega)
            have r323 := r312.chg s318 (by omega)
            have r324 := r313.chg s318 (by omega)
            have r325 := r314.chg s318 (by omega)
            have r326 := r315.chg s318 (by omega)
            have f327 := (Owns.chg f316 s318 (by simp))
            refine fw_dt ?_
            refine fw_sq ?_
            refine fw_rg rfl ?_
            refine fw_pu rfl ?_
            obtain ⟨aw328, cw328, hrn328, hta328⟩ := tail_away (w := W317) (Owns.get f327 (i := 0) rfl) hta
            refine fw_ex 59 (.slice aw328 Lt.length cw328) rfl rfl rfl (fun a h => (run_slOpL (h.ev rfl) rfl hrn328)) ?_
            have hoC328 : Owns w.heap.size (q304 :: q67 :: q47 :: q31 :: q22 :: q14 :: q1 :: []) ((orP (v0) ((D ++ [qh]) ++ Lt)) :: (orF (.slice af o.fl.length cf) o.fl) :: (orM (.slice aq o.qu.length cq) o.qu) :: []) W317 := by rw [show (D ++ [qh]) ++ Lt = D ++ (qh :: Lt) by simp]; exact f327
            have hbd328 : ((D ++ [qh]) ++ Lt).length ≤ 8 * i := by rw [show (D ++ [qh]) ++ Lt = D ++ (qh :: Lt) by simp]; exact hbd
            refine fw_pu rfl ?_
            refine fw_dt ?_
            refine fw_bk ?_
            refine fw_sq ?_
            refine fw_rg rfl ?_
            refine fw_pu rfl ?_
            refine fw_ld r319 rfl rfl ?_
            iterate 2 refine fw_pu rfl ?_
            refine fw_dt ?_
            rcases Bool.eq_false_or_eq_true ((qh.k == 6)) with hb_329 | hb_329
            · skip
              refine fw_cT rfl hb_329 ?_
              obtain ⟨hE0, oz, ps, N2, C, S, hz0, hC0, hS0, hAct, -, -⟩ := hSt.comp (eq_of_beq hb_329)
              have hAct := (hb_302.symm ▸ hAct : ActS up Lt oz ps taken recd N2 C S)
              refine fw_rg rfl ?_
              refine fw_ld r322 rfl rfl ?_
              refine fw_pu rfl ?_
              refine fw_ld r319 rfl rfl ?_
              refine fw_ca Try.func57 rfl rfl rfl ((cComp (w := W317) (Owns.slF hoC328 1 rfl) (Owns.slM hoC328 2 rfl) hSt.oi.small hz0 hE0)) ?_
              rintro _ V330 ⟨af331, cf331, aq331, cq331, ap331, cp331, rfl, ho331, hb331⟩
              refine ⟨_, rfl, ?_⟩
              have hoA331 := Owns.app hoC328 hb331 ho331 b320.size
              have hoB331 : Owns w.heap.size (q304 :: q67 :: q47 :: q31 :: q22 :: q14 :: q1 :: []) ((orP (v0) ((D ++ [qh]) ++ Lt)) :: (orF (.slice af o.fl.length cf) o.fl) :: (orM (.slice aq o.qu.length cq) o.qu) :: (orF (.slice af331 oz.fl.length cf331) oz.fl) :: (orM (.slice aq331 oz.qu.length cq331) oz.qu) :: (orP (.slice ap331 ps.length cp331) ps) :: []) V330 := Owns.sub hoA331 (.cons_cons _ (.cons_cons _ (.cons_cons _ (.cons_cons _ (.cons_cons _ (.cons_cons _ .slnil))))))
              have b332 := b320.trans (hb331.mono b320.size)
              have r333 := r321.below hb331
              have r334 := r322.below hb331
              have r335 := r323.below hb331
              have r336 := r324.below hb331
              have r337 := r325.below hb331
              have r338 := r326.below hb331
              have r339 := r319.below hb331
              iterate 4 refine fw_pu rfl ?_
              refine fw_st r338 rfl rfl ?_
              intro W340 s341 r342
              have b343 := below_chg b332 s341 (by omega) b332.size
              have r344 := r333.chg s341 (by omega)
              have r345 := r334.chg s341 (by omega)
              have r346 := r335.chg s341 (by omega)
              have r347 := r336.chg s341 (by omega)
              have r348 := r337.chg s341 (by omega)
              have r349 := r339.chg s341 (by omega)
              have f350 := (Owns.chg hoB331 s341 (by simp))
              iterate 2 refine fw_pu rfl ?_
              refine fw_dn ?_
              refine fw_bn ?_
              refine fw_bn ?_
              have hoA := Owns.sub f350 (.cons_cons _ (.cons _ (.cons _ (.cons_cons _ (.cons_cons _ (.cons_cons _ .slnil))))))
              have hoE : Owns w.heap.size (q67 :: q47 :: q31 :: q22 :: q14 :: q1 :: []) (orP v0 ((D ++ [qh]) ++ Lt) :: orF (.slice af331 oz.fl.length cf331) oz.fl :: orM (.slice aq331 oz.qu.length cq331) oz.qu :: orP (.slice ap331 ps.length cp331) ps :: []) W340 := (Owns.subH (H := (q67 :: q47 :: q31 :: q22 :: q14 :: q1 :: [])) hoA (fun k hk => by simp only [List.mem_cons, List.not_mem_nil, or_false] at hk ⊢; rcases hk with rfl | rfl | rfl | rfl | rfl | rfl <;> simp))
              exact fw_th (fw_gf (hK79 _ _ ⟨oz, ps, taken, up, Lt, (D ++ [qh]), v0, recd, N2, C, S, af331, cf331, aq331, cq331, aw328, cw328, ap331, cp331, hAct, (by omega), hC0, hS0, hta328, hbd328, r342, r347, hoE, rfl, b343, r344, r345, r346, r348⟩) ⟨rfl, rfl, (by first | rfl | (simp only [Look, cond, Nat.beq]; first | rfl | (congr 2; first | rfl | omega | (push_cast; omega)) | (simp; try omega))), rfl, (by first | rfl | (simp only [Look, cond, Nat.beq]; first | rfl | (congr 2; first | rfl | omega | (push_cast; omega)) | (simp; try omega))), rfl, rfl, (by first | rfl | (simp only [Look, cond, Nat.beq]; first | rfl | (congr 2; first | rfl | omega | (push_cast; omega)) | (simp; try omega))), rfl, (by first | rfl | (simp only [Look, cond, Nat.beq]; first | rfl | (congr 2; first | rfl | omega | (push_cast; omega)) | (simp; try omega))), rfl, rfl, trivial⟩)
            refine fw_cF rfl hb_329 ?_
            refine fw_sq ?_
            refine fw_rg rfl ?_
            refine fw_pu rfl ?_
            refine fw_ld r319 rfl rfl ?_
            iterate 2 refine fw_pu rfl ?_
            refine fw_dt ?_
            rcases Bool.eq_false_or_eq_true ((qh.m.q == 1)) with hb_351 | hb_351
            · skip
              refine fw_cT rfl hb_351 ?_
              obtain ⟨hE0, oz, ps, N2, C, S, hz0, hC0, hS0, hAct, -, -⟩ := hSt.ack (beq_eq_false_iff_ne.1 hb_329) (eq_of_beq hb_351)
              have hAct := (hb_302.symm ▸ hAct : ActS up Lt oz ps taken recd N2 C S)
              refine fw_rg rfl ?_
              refine fw_ld r322 rfl rfl ?_
              refine fw_pu rfl ?_
              refine fw_ld r319 rfl rfl ?_
              refine fw_ca Try.func58 rfl rfl rfl ((cAck (w := W317) (Owns.slF hoC328 1 rfl) (Owns.slM hoC328 2 rfl) hSt.oi.small hz0 hE0)) ?_
              rintro _ V352 ⟨af353, cf353, aq353, cq353, ap353, cp353, rfl, ho353, hb353⟩
              refine ⟨_, rfl, ?_⟩
              have hoA353 := Owns.app hoC328 hb353 ho353 b320.size
              have hoB353 : Owns w.heap.size (q304 :: q67 :: q47 :: q31 :: q22 :: q14 :: q1 :: []) ((orP (v0) ((D ++ [qh]) ++ Lt)) :: (orF (.slice af o.fl.length cf) o.fl) :: (orM (.slice aq o.qu.length cq) o.qu) :: (orF (.slice af353 oz.fl.length cf353) oz.fl) :: (orM (.slice aq353 oz.qu.length cq353) oz.qu) :: (orP (.slice ap353 ps.length cp353) ps) :: []) V352 := Owns.sub hoA353 (.cons_cons _ (.cons_cons _ (.cons_cons _ (.cons_cons _ (.cons_cons _ (.cons_cons _ .slnil))))))
              have b354 := b320.trans (hb353.mono b320.size)
              have r355 := r321.below hb353
              have r356 := r322.below hb353
              have r357 := r323.below hb353
              have r358 := r324.below hb353
              have r359 := r325.below hb353
              have r360 := r326.below hb353
              have r361 := r319.below hb353
              iterate 4 refine fw_pu rfl ?_
              refine fw_st r360 rfl rfl ?_
              intro W362 s363 r364
              have b365 := below_chg b354 s363 (by omega) b354.size
              have r366 := r355.chg s363 (by omega)
              have r367 := r356.chg s363 (by omega)
              have r368 := r357.chg s363 (by omega)
              have r369 := r358.chg s363 (by omega)
              have r370 := r359.chg s363 (by omega)
              have r371 := r361.chg s363 (by omega)
              have f372 := (Owns.chg hoB353 s363 (by simp))
              iterate 2 refine fw_pu rfl ?_
              refine fw_dn ?_
              refine fw_bn ?_
              refine fw_bn ?_
              have hoA := Owns.sub f372 (.cons_cons _ (.cons _ (.cons _ (.cons_cons _ (.cons_cons _ (.cons_cons _ .slnil))))))
              have hoE : Owns w.heap.size (q67 :: q47 :: q31 :: q22 :: q14 :: q1 :: []) (orP v0 ((D ++ [qh]) ++ Lt) :: orF (.slice af353 oz.fl.length cf353) oz.fl :: orM (.slice aq353 oz.qu.length cq353) oz.qu :: orP (.slice ap353 ps.length cp353) ps :: []) W362 := (Owns.subH (H := (q67 :: q47 :: q31 :: q22 :: q14 :: q1 :: [])) hoA (fun k hk => by simp only [List.mem_cons, List.not_mem_nil, or_false] at hk ⊢; rcases hk with rfl | rfl | rfl | rfl | rfl | rfl <;> simp))
              exact fw_th (fw_gf (hK79 _ _ ⟨oz, ps, taken, up, Lt, (D ++ [qh]), v0, recd, N2, C, S, af353, cf353, aq353, cq353, aw328, cw328, ap353, cp353, hAct, (by omega), hC0, hS0, hta328, hbd328, r364, r369, hoE, rfl, b365, r366, r367, r368, r370⟩) ⟨rfl, rfl, (by first | rfl | (simp only [Look, cond, Nat.beq]; first | rfl | (congr 2; first | rfl | omega | (push_cast; omega)) | (simp; try omega))), rfl, (by first | rfl | (simp only [Look, cond, Nat.beq]; first | rfl | (congr 2; first | rfl | omega | (push_cast; omega)) | (simp; try omega))), rfl, rfl, (by first | rfl | (simp only [Look, cond, Nat.beq]; first | rfl | (congr 2; first | rfl | omega | (push_cast; omega)) | (simp; try omega))), rfl, (by first | rfl | (simp only [Look, cond, Nat.beq]; first | rfl | (congr 2; first | rfl | omega | (push_cast; omega)) | (simp; try omega))), rfl, rfl, trivial⟩)
            refine fw_cF rfl hb_351 ?_
            refine fw_sq ?_
            obtain ⟨xq, hpx, hxc⟩ := (hSt.head.resolve_left (beq_eq_false_iff_ne.1 hb_329)).2.2
            have hct := hSt.oi.ct
            obtain ⟨hE0, oz, ps, N2, C, S, hz0, hC0, hS0, hAct, -, -⟩ := hSt.recv (beq_eq_false_iff_ne.1 hb_329) (beq_eq_false_iff_ne.1 hb_351) hpx (by omega) (by omega)
            have hAct := (hb_302.symm ▸ hAct : ActS up Lt oz ps taken (recF recd xq) N2 C S)
            refine fw_rg rfl ?_
            refine fw_ld r322 rfl rfl ?_
            refine fw_pu rfl ?_
            refine fw_ld r319 rfl rfl ?_
            refine fw_ca Try.func59 rfl rfl rfl ((cRec (w := W317) (Owns.slF hoC328 1 rfl) (Owns.slM hoC328 2 rfl) hSt.oi.small hz0 hE0)) ?_
            rintro _ V373 ⟨af374, cf374, aq374, cq374, ap374, cp374, rfl, ho374, hb374⟩
            refine ⟨_, rfl, ?_⟩
            have hoA374 := Owns.app hoC328 hb374 ho374 b320.size
            have hoB374 : Owns w.heap.size (q304 :: q67 :: q47 :: q31 :: q22 :: q14 :: q1 :: []) ((orP (v0) ((D ++ [qh]) ++ Lt)) :: (orF (.slice af o.fl.length cf) o.fl) :: (orM (.slice aq o.qu.length cq) o.qu) :: (orF (.slice af374 oz.fl.length cf374) oz.fl) :: (orM (.slice aq374 oz.qu.length cq374) oz.qu) :: (orP (.slice ap374 ps.length cp374) ps) :: []) V373 := Owns.sub hoA374 (.cons_cons _ (.cons_cons _ (.cons_cons _ (.cons_cons _ (.cons_cons _ (.cons_cons _ .slnil))))))
            have b375 := b320.trans (hb374.mono b320.size)
            have r376 := r321.below hb374
            have r377 := r322.below hb374
            have r378 := r323.below hb374
            have r379 := r324.below hb374
            have r380 := r325.below hb374
            have r381 := r326.below hb374
            have r382 := r319.below hb374
            iterate 4 refine fw_pu rfl ?_
            refine fw_st r381 rfl rfl ?_
            intro W383 s384 r385
            have b386 := below_chg b375 s384 (by omega) b375.size
            have r387 := r376.chg s384 (by omega)
            have r388 := r377.chg s384 (by omega)
            have r389 := r378.chg s384 (by omega)
            have r390 := r379.chg s384 (by omega)
            have r391 := r380.chg s384 (by omega)
            have r392 := r382.chg s384 (by omega)
            have f393 := (Owns.chg hoB374 s384 (by simp))
            iterate 2 refine fw_pu rfl ?_
            refine fw_dt ?_
            have r394 : RowAt W383 q304 [.int .i64 qh.k, .string { data := #[] }, .bool false, .int .i64 0, .bool false, .string { data := #[] }, .string { data := #[] }, .int .i64 0, .bool false, .string { data := #[] }, .bool false, .string { data := #[] }, .bool false, .bool false, .int .i64 0, .slice none 0 0, .bool qh.dup, .int .i64 qh.m.q, .bool qh.m.r, .string qh.m.t, .int .i64 qh.id, .string (pay xq), .slice none 0 0, .slice none 0 0] := by rw [← hpx]; exact r392
            refine fw_rg rfl ?_
            refine fw_pu rfl ?_
            refine fw_ld r394 rfl rfl ?_
            refine fw_ex 70 ((.int .u8 ((UInt8.ofNat (33 + xq)).toNat : Int))) rfl rfl rfl (fun a h => (run_ixOp (h.ev rfl) (h.ev rfl) (pay_at _ _))) ?_
            refine fw_ex 71 (.int .i64 (33 + ((xq : Nat) : Int))) rfl rfl rfl (fun a h => (run_convOp (h.ev rfl) (cv83p _ (by omega) _))) ?_
            refine fw_ex 72 (.int .i64 ((xq : Nat) : Int)) rfl rfl rfl (fun a h => (run_binOp (h.ev rfl) (h.ev rfl) (by simp [go_sem]) (subIw _ _ _ _ (by omega) (by omega) (by omega)))) ?_
            refine fw_ex 73 (.pointer (some ⟨q31, xq, none⟩)) rfl rfl rfl (fun a h => (run_indexOp (h.ev rfl) (h.ev rfl) (idxR5 _ _ (show xq < 65 by omega) _))) ?_
            refine fw_sr (vs' := (bR (recF recd xq))) r390 rfl (by rw [bR_len]; exact (show xq < 65 by omega)) rfl (bR_set _ _) ?_
            intro W395 s396 r397
            have b398 := below_chg b386 s396 (by omega) b386.size
            have r399 := r387.chg s396 (by omega)
            have r400 := r388.chg s396 (by omega)
            have r401 := r389.chg s396 (by omega)
            have r402 := r391.chg s396 (by omega)
            have r403 := r385.chg s396 (by omega)
            have r404 := r394.chg s396 (by omega)
            have f405 := (Owns.chg f393 s396 (by simp))
            refine fw_dn ?_
            refine fw_bn ?_
            refine fw_bn ?_
            have hoA := Owns.sub f405 (.cons_cons _ (.cons _ (.cons _ (.cons_cons _ (.cons_cons _ (.cons_cons _ .slnil))))))
            have hoE : Owns w.heap.size (q67 :: q47 :: q31 :: q22 :: q14 :: q1 :: []) (orP v0 ((D ++ [qh]) ++ Lt) :: orF (.slice af374 oz.fl.length cf374) oz.fl :: orM (.slice aq374 oz.qu.length cq374) oz.qu :: orP (.slice ap374 ps.length cp374) ps :: []) W395 := (Owns.subH (H := (q67 :: q47 :: q31 :: q22 :: q14 :: q1 :: [])) hoA (fun k hk => by simp only [List.mem_cons, List.not_mem_nil, or_false] at hk ⊢; rcases hk with rfl | rfl | rfl | rfl | rfl | rfl <;> simp))
            exact fw_th (fw_gf (hK79 _ _ ⟨oz, ps, taken, up, Lt, (D ++ [qh]), v0, (recF recd xq), N2, C, S, af374, cf374, aq374, cq374, aw328, cw328, ap374, cp374, hAct, (by omega), hC0, hS0, hta328, hbd328, r403, r397, hoE, rfl, b398, r399, r400, r401, r402⟩) ⟨rfl, rfl, (by first | rfl | (simp only [Look, cond, Nat.beq]; first | rfl | (congr 2; first | rfl | omega | (push_cast; omega)) | (simp; try omega))), rfl, (by first | rfl | (simp only [Look, cond, Nat.beq]; first | rfl | (congr 2; first | rfl | omega | (push_cast; omega)) | (simp; try omega))), rfl, rfl, (by first | rfl | (simp only [Look, cond, Nat.beq]; first | rfl | (congr 2; first | rfl | omega | (push_cast; omega)) | (simp; try omega))), rfl, (by first | rfl | (simp only [Look, cond, Nat.beq]; first | rfl | (congr 2; first | rfl | omega | (push_cast; omega)) | (simp; try omega))), rfl, rfl, trivial⟩)
          refine fw_kn 50 rfl (not_of hb_302) ?_
          iterate 4 refine fw_pu rfl ?_
          refine fw_dt ?_
          refine fw_cT rfl rfl ?_
          refine fw_xt ?_
          refine fw_te ?_
          refine fw_bf (by decide) ?_
          refine fw_te ?_
          refine fw_be ?_
          refine fw_th ?_
          refine fw_rg rfl ?_
          refine fw_pu rfl ?_
          refine fw_ex 39 (.int .i64 (((i + 1) : Nat) : Int)) rfl rfl rfl (fun a h => (run_binOp (h.ev rfl) (h.ev rfl) (by simp [go_sem]) (addIw _ _ _ _ (by omega) (by omega) (by omega)))) ?_
          refine fw_pu rfl ?_
          refine fw_dn ?_
          have hoA := Owns.sub f78 (.cons_cons _ (.cons_cons _ (.cons_cons _ .slnil)))
          have hoE : Owns w.heap.size (q31 :: q22 :: q14 :: q1 :: []) (orP v0 (D ++ Lw) :: orF (.slice af o.fl.length cf) o.fl :: orM (.slice aq o.qu.length cq) o.qu :: []) W68 := (Owns.subH (H := (q31 :: q22 :: q14 :: q1 :: [])) hoA (fun k hk => by simp only [List.mem_cons, List.not_mem_nil, or_false] at hk ⊢; rcases hk with rfl | rfl | rfl | rfl <;> simp))
          exact fw_th (fw_gf (hK44 _ _ _ (by omega) ⟨(i + 1), o, taken, came, up, Lw, D, v0, seen, recd, Nn, af, cf, aq, cq, aw, cw, rfl, (by omega), (by omega), hSI, hta, (by omega), r74, r75, r76, hoE, rfl, b72, r73⟩) ⟨rfl, rfl, rfl, rfl, rfl, rfl, rfl, rfl, (by first | rfl | (simp only [Look, cond, Nat.beq]; first | rfl | (congr 2; first | rfl | omega | (push_cast; omega)) | (simp; try omega))), trivial⟩)
        rintro _ W406 ⟨oz, ps, tk, u2, L2, D2, v2, rc2, N2, C, S, ag, cg, ar, cr, aw2, cw2, ap, cp, hAct, htk, hC0, hS0, hta2, hbd2, hr13, hr8, ho2, rfl, bW406, rW406_0, rW406_1, rW406_2, rW406_3⟩
        refine fw_sq ?_
        refine fw_sq ?_
        refine fw_rg rfl ?_
        refine fw_pu rfl ?_
        refine fw_ca Try.func55 rfl rfl rfl ((num23_any 0 W406)) ?_
        rintro _ _ ⟨rfl, rfl⟩
        refine ⟨(.int .i64 0), rfl, ?_⟩
        iterate 2 refine fw_pu rfl ?_
        refine fw_ld hr13 rfl rfl ?_
        refine fw_ca Try.func60 rfl rfl rfl ((cRef (w := W406) (Owns.slF ho2 1 rfl) (Owns.slM ho2 2 rfl) hAct.si.oi.small hAct.check)) ?_
        rintro _ V409 ⟨rfl, hb408⟩
        refine ⟨(.bool true), rfl, ?_⟩
        have b410 := bW406.trans (hb408.mono bW406.size)
        have r411 := rW406_0.below hb408
        have r412 := rW406_1.below hb408
        have r413 := rW406_2.below hb408
        have r414 := rW406_3.below hb408
        have r415 := hr13.below hb408
        have r416 := hr8.below hb408
        have f417 := (Owns.below ho2 hb408)
        iterate 2 refine fw_pu rfl ?_
        refine fw_dt ?_
        refine fw_cF rfl rfl ?_
        refine fw_sk ?_
        refine fw_th ?_
        refine fw_sq ?_
        refine fw_rg rfl ?_
        refine fw_ld r415 rfl rfl ?_
        refine fw_st r412 rfl rfl ?_
        intro W418 s419 r420
        have b421 := below_chg b410 s419 (by omega) b410.size
        have r422 := r411.chg s419 (by omega)
        have r423 := r413.chg s419 (by omega)
        have r424 := r414.chg s419 (by omega)
        have r425 := r415.chg s419 (by omega)
        have r426 := r416.chg s419 (by omega)
        have f427 := (Owns.chg f417 s419 (by simp))
        refine fw_dt ?_
        refine fw_sq ?_
        refine fw_rg rfl ?_
        refine fw_pu rfl ?_
        refine fw_dt ?_
        refine fw_bk ?_
        refine fw_lp (fun N K W => ∃ (k : Nat) (Dk : List EPk) (vk : Value) (ak : Option Addr) (ck : Nat), N = ps.length - k ∧ k ≤ ps.length ∧ TailAt (.slice ak (L2 ++ ps.take k).length ck) Dk (L2 ++ ps.take k) vk ∧ (Dk ++ (L2 ++ ps.take k)).length ≤ 8 * i + k ∧ RowAt W q22 (iR (S k)) ∧ Owns w.heap.size (q67 :: q47 :: q31 :: q22 :: q14 :: q1 :: []) (orP vk (Dk ++ (L2 ++ ps.take k)) :: orF (.slice ag oz.fl.length cg) oz.fl :: orM (.slice ar oz.qu.length cr) oz.qu :: orP (.slice ap ps.length cp) ps :: []) W ∧ K = [(1, .pointer (some ⟨q1, 0, none⟩)), (3, .pointer (some ⟨q14, 0, none⟩)), (4, .int .i64 ((tk : Nat) : Int)), (5, .int .i64 (((C k) : Nat) : Int)), (6, .bool u2), (7, .pointer (some ⟨q22, 0, none⟩)), (8, .pointer (some ⟨q31, 0, none⟩)), (9, .slice ak (L2 ++ ps.take k).length ck), (10, .int .i64 ((i : Nat) : Int)), (12, .slice ap ps.length cp), (16, .int .i64 ((k : Nat) : Int))] ∧ Below w.heap.size w W ∧ RowAt W q1 [.int .i64 o1.last, .slice af1 o1.fl.length cf1, .slice aq1 o1.qu.length cq1, .slice (some ⟨bA, oA, none⟩) SL.length cL] ∧ RowAt W q14 [.int .i64 oz.last, .slice ag oz.fl.length cg, .slice ar oz.qu.length cr] ∧ RowAt W q47 [.int .i64 a0.d, .int .i64 a0.id, .string a0.m.t, .string a0.m.p, .int .i64 a0.m.q, .bool a0.m.r, .bool a0.up, .bool a0.ft] ∧ RowAt W q67 [.int .i64 oz.last, .slice ag oz.fl.length cg, .slice ar oz.qu.length cr] ∧ RowAt W q31 (bR rc2)) _ _ ⟨0, D2, v2, aw2, cw2, rfl, Nat.zero_le _, (by rw [List.take_zero, List.append_nil]; exact hta2), (by rw [List.take_zero, List.append_nil]; exact hbd2), (by rw [hS0]; exact r423), (by rw [List.take_zero, List.append_nil]; exact f427), rfl, b421, r422, r420, r424, r425, r426⟩ ⟨rfl, rfl, rfl, (by simp only [Look, cond, Nat.beq]; first | rfl | (congr 2; first | rfl | omega | (push_cast; omega))), rfl, rfl, rfl, (by simp only [Look, cond, Nat.beq]; first | rfl | rw [hslE] | simp), rfl, rfl, (by first | rfl | (simp only [Look, cond, Nat.beq]; first | rfl | (congr 2; first | rfl | omega | (push_cast; omega)) | (simp; try omega))), trivial⟩ ?_
        rintro N _ W428 ⟨k, Dk, vk, ak, ck, rfl, hkl, htak, hbdk, hr7, ho3, rfl, bW428, rW428_0, rW428_1, rW428_2, rW428_3, rW428_4⟩
        intro K430 hK430
        refine fw_sq ?_
        refine fw_sq ?_
        refine fw_rg rfl ?_
        iterate 4 refine fw_pu rfl ?_
        refine fw_dt ?_
        rcases Bool.eq_false_or_eq_true ((decide (((k : Nat) : Int) < ((ps.length : Nat) : Int)))) with hb_431 | hb_431
        · skip
          refine fw_cT rfl hb_431 ?_
          refine fw_sk ?_
          refine fw_th ?_
          refine fw_sq ?_
          refine fw_bk ?_
          refine fw_sq ?_
          have hkp : k < ps.length := by have h := of_decide_eq_true hb_431; omega
          obtain ⟨pk, hpk⟩ : ∃ p, ps[k]? = some p := ⟨_, List.getElem?_eq_getElem hkp⟩
          have h8 := hAct.sent.le
          have hst := hAct.sent.st k pk hpk
          obtain ⟨bP, oP, rfl⟩ := pk_addr (Owns.slP ho3 3 rfl) hpk
          refine fw_rg rfl ?_
          iterate 3 refine fw_pu rfl ?_
          refine fw_ex 151 (.pointer (some ⟨bP, (oP + k * 24), none⟩)) rfl rfl rfl (fun a h => (run_indexOp (h.ev rfl) (h.ev rfl) (idxPk _ _ _ _ _ hkp _))) ?_
          refine fw_ex 152 (.agg #[.int .i64 pk.k, .string { data := #[] }, .bool false, .int .i64 0, .bool false, .string { data := #[] }, .string { data := #[] }, .int .i64 0, .bool false, .string { data := #[] }, .bool false, .string { data := #[] }, .bool false, .bool false, .int .i64 0, .slice none 0 0, .bool pk.dup, .int .i64 pk.m.q, .bool pk.m.r, .string pk.m.t, .int .i64 pk.id, .string pk.m.p, .slice none 0 0, .slice none 0 0]) rfl rfl rfl (fun a h => (run_loadOp (h.ev rfl) (ldPk (pk_cell (Owns.slP ho3 3 rfl) hpk)))) ?_
          refine fw_al (t := 99) (u := fun q => .slice (some ⟨q, 0, none⟩) 1 1) 153 (rowPk pk) rfl rfl rfl (fun a h => (bsPk pk _ (h.ev rfl))) ?_
          intro q432 W433 g436 s434 r435
          have := Nat.le_trans bW428.size g436
          have := rW428_0.lt g436
          have := rW428_1.lt g436
          have := rW428_2.lt g436
          have := rW428_3.lt g436
          have := rW428_4.lt g436
          have := hr7.lt g436
          have b437 := bW428.trans (s434.mono bW428.size)
          have r438 := rW428_0.below s434
          have r439 := rW428_1.below s434
          have r440 := rW428_2.below s434
          have r441 := rW428_3.below s434
          have r442 := rW428_4.below s434
          have r443 := hr7.below s434
          have f444 := (Owns.hold ho3 s434 g436 r435.2.2)
          refine fw_to 154 rfl rfl rfl (fun a h => tail_one (B := w.heap.size) _ _ rfl (h.ev rfl) (Owns.get f444 (i := 0) rfl) htak (h.ev rfl) r435 (by omega) b437.size) ?_
          rintro _ V446 ⟨Dn445, vn445, an445, cn445, rfl, hog445, hta445, hgr445, hbd445⟩
          have hnq447 := Owns.notHeld f444 (i := 0) rfl
          have how447 := Owns.get f444 (i := 0) rfl
          have rN448 := rowAt_keep r438 hgr445.1 (fun e => hnq447 _ e.symm (by simp))
          have rN449 := rowAt_keep r439 hgr445.1 (fun e => hnq447 _ e.symm (by simp))
          have rN450 := rowAt_keep r440 hgr445.1 (fun e => hnq447 _ e.symm (by simp))
          have rN451 := rowAt_keep r441 hgr445.1 (fun e => hnq447 _ e.symm (by simp))
          have rN452 := rowAt_keep r442 hgr445.1 (fun e => hnq447 _ e.symm (by simp))
          have rN453 := rowAt_keep r443 hgr445.1 (fun e => hnq447 _ e.symm (by simp))
          have hoN447 : Owns w.heap.size (q432 :: q67 :: q47 :: q31 :: q22 :: q14 :: q1 :: []) ((orP (vn445) (Dn445 ++ ((L2 ++ ps.take k) ++ [pk]))) :: (orF (.slice ag oz.fl.length cg) oz.fl) :: (orM (.slice ar oz.qu.length cr) oz.qu) :: (orP (.slice (some ⟨bP, oP, none⟩) ps.length cp) ps) :: []) V446 := Owns.upd (r' := (orP (vn445) (Dn445 ++ ((L2 ++ ps.take k) ++ [pk])))) f444 0 rfl hgr445 hog445
          have b454 := (b437.trans (grew_low hgr445 (Nat.le_trans (Nat.le_refl _) b437.size) (fun k hk => (blk_lt how447 hk).1)))
          refine fw_pu rfl ?_
          refine fw_dt ?_
          refine fw_sq ?_
          refine fw_sq ?_
          rcases hst with ⟨hk3, hc1, hs1⟩ | ⟨hk3, nq, hpq, hnt, hrc, hid, hcs⟩
          · skip
            have hkk : (pk.k == 3) = false := by rw [hk3]; rfl
            refine fw_rg rfl ?_
            iterate 2 refine fw_pu rfl ?_
            refine fw_ex 157 (.pointer (some ⟨bP, (oP + k * 24), none⟩)) rfl rfl rfl (fun a h => (run_indexOp (h.ev rfl) (h.ev rfl) (idxPk _ _ _ _ _ hkp _))) ?_
            refine fw_pu rfl ?_
            refine fw_ex 159 (.int .i64 pk.k) rfl rfl rfl (fun a h => (run_loadOp (h.ev rfl) (ldI1 ((pk_cell (Owns.slP hoN447 3 rfl) hpk) 0 _ rfl)))) ?_
            refine fw_pu rfl ?_
            refine fw_dt ?_
            refine fw_cT rfl (not_of hkk) ?_
            refine fw_xt ?_
            refine fw_te ?_
            refine fw_be ?_
            refine fw_th ?_
            refine fw_rg rfl ?_
            refine fw_pu rfl ?_
            refine fw_ex 147 (.int .i64 (((k + 1) : Nat) : Int)) rfl rfl rfl (fun a h => (run_binOp (h.ev rfl) (h.ev rfl) (by simp [go_sem]) (addIw _ _ _ _ (by omega) (by omega) (by omega)))) ?_
            refine fw_pu rfl ?_
            refine fw_dn ?_
            have htn : ((L2 ++ ps.take k) ++ [pk]) = L2 ++ ps.take (k + 1) := by rw [List.take_add_one, hpk]; simp
            have hll : (Dn445 ++ (L2 ++ ps.take (k + 1))).length ≤ 8 * i + (k + 1) := by rw [← htn]; omega
            have htaN : TailAt (.slice an445 (L2 ++ ps.take (k + 1)).length cn445) Dn445 (L2 ++ ps.take (k + 1)) vn445 := by rw [← htn]; exact hta445
            have hr7N : RowAt V446 q22 (iR (S (k + 1))) := by rw [hs1]; exact rN453
            have hoN : Owns w.heap.size (q67 :: q47 :: q31 :: q22 :: q14 :: q1 :: []) (orP vn445 (Dn445 ++ (L2 ++ ps.take (k + 1))) :: orF (.slice ag oz.fl.length cg) oz.fl :: orM (.slice ar oz.qu.length cr) oz.qu :: orP (.slice (some ⟨bP, oP, none⟩) ps.length cp) ps :: []) V446 := by rw [← htn]; exact (Owns.subH (H := (q67 :: q47 :: q31 :: q22 :: q14 :: q1 :: [])) hoN447 (fun k hk => by simp only [List.mem_cons, List.not_mem_nil, or_false] at hk ⊢; rcases hk with rfl | rfl | rfl | rfl | rfl | rfl <;> simp))
            have hslE : (((L2 ++ ps.take k) ++ [pk])).length = (L2 ++ ps.take (k + 1)).length := by rw [htn]
            exact fw_th (fw_gf (hK430 _ _ _ (by omega) ⟨(k + 1), Dn445, vn445, an445, cn445, rfl, (by omega), htaN, hll, hr7N, hoN, rfl, b454, rN448, rN449, rN450, rN451, rN452⟩) ⟨rfl, rfl, rfl, (by simp only [Look, cond, Nat.beq]; first | rfl | (congr 2; first | rfl | omega | (push_cast; omega))), rfl, rfl, rfl, (by simp only [Look, cond, Nat.beq]; first | rfl | rw [hslE] | simp), rfl, (by first | rfl | (simp only [Look, cond, Nat.beq]; first | rfl | (congr 2; first | rfl | omega | (push_cast; omega)) | (simp; try omega))), (by first | rfl | (simp only [Look, cond, Nat.beq]; first | rfl | (congr 2; first | rfl | omega | (push_cast; omega)) | (simp; try omega))), trivial⟩)
          · skip
            rcases hcs with ⟨hdu, hsn, hlt, hc1, hs1⟩ | ⟨hdu, hsn, hlt, hc1, hs1⟩
            · skip
              have hkk : (pk.k == 3) = true := by rw [hk3]; rfl
              have hti3 := htk
              have hk455 : (decide (((nq : Nat) : Int) < 0)) = false := (by rw [decide_eq_false_iff_not]; omega)
              have hk456 : (decide (((tk : Nat) : Int) ≤ ((nq : Nat) : Int))) = false := (by rw [decide_eq_false_iff_not]; omega)
              have hk457 : (rc2 nq) = false := hrc
              have hk458 : pk.dup = true := hdu
              have hk459 : (((S k) nq) == 0) = false := (by rw [hsn]; rw [beq_eq_false_iff_ne]; omega)
              have hk460 : (((S k) nq) == pk.id) = true := (by rw [hsn]; exact beq_self_eq_true _)
              have hk461 : (decide ((((C k) : Nat) : Int) < ((nq : Nat) : Int))) = false := (by rw [decide_eq_false_iff_not]; omega)
              have hk462 : (decide (pk.id < 1)) = false := (by rw [decide_eq_false_iff_not]; omega)
              have hs2 : S (k + 1) = (fun m => if m = nq then pk.id else (S k) m) := by rw [hs1]; funext m; by_cases e : m = nq <;> simp [e, hsn]
              refine fw_rg rfl ?_
              iterate 2 refine fw_pu rfl ?_
              refine fw_ex 157 (.pointer (some ⟨bP, (oP + k * 24), none⟩)) rfl rfl rfl (fun a h => (run_indexOp (h.ev rfl) (h.ev rfl) (idxPk _ _ _ _ _ hkp _))) ?_
              refine fw_pu rfl ?_
              refine fw_ex 159 (.int .i64 pk.k) rfl rfl rfl (fun a h => (run_loadOp (h.ev rfl) (ldI1 ((pk_cell (Owns.slP hoN447 3 rfl) hpk) 0 _ rfl)))) ?_
              refine fw_pu rfl ?_
              refine fw_dt ?_
              refine fw_cF rfl (not_of hkk) ?_
              refine fw_sk ?_
              refine fw_th ?_
              refine fw_sq ?_
              refine fw_sq ?_
              refine fw_rg rfl ?_
              iterate 2 refine fw_pu rfl ?_
              refine fw_ex 163 (.pointer (some ⟨bP, (oP + k * 24), none⟩)) rfl rfl rfl (fun a h => (run_indexOp (h.ev rfl) (h.ev rfl) (idxPk _ _ _ _ _ hkp _))) ?_
              refine fw_pu rfl ?_
              refine fw_ex 165 (.string (pay nq)) rfl rfl rfl (fun a h => (run_loadOp (h.ev rfl) (ldS1 ((pk_cell (Owns.slP hoN447 3 rfl) hpk) 21 _ (by rw [← hpq]; rfl))))) ?_
              iterate 2 refine fw_pu rfl ?_
              refine fw_dt ?_
              refine fw_cF rfl (not_of rfl) ?_
              refine fw_sk ?_
              refine fw_th ?_
              refine fw_sq ?_
              refine fw_rg rfl ?_
              iterate 2 refine fw_pu rfl ?_
              refine fw_ex 170 (.pointer (some ⟨bP, (oP + k * 24), none⟩)) rfl rfl rfl (fun a h => (run_indexOp (h.ev rfl) (h.ev rfl) (idxPk _ _ _ _ _ hkp _))) ?_
              refine fw_pu rfl ?_
              refine fw_ex 172 (.string (pay nq)) rfl rfl rfl (fun a h => (run_loadOp (h.ev rfl) (ldS1 ((pk_cell (Owns.slP hoN447 3 rfl) hpk) 21 _ (by rw [← hpq]; rfl))))) ?_
              refine fw_ex 173 ((.int .u8 ((UInt8.ofNat (33 + nq)).toNat : Int))) rfl rfl rfl (fun a h => (run_ixOp (h.ev rfl) (h.ev rfl) (pay_at _ _))) ?_
              refine fw_ex 174 (.int .i64 (33 + ((nq : Nat) : Int))) rfl rfl rfl (fun a h => (run_convOp (h.ev rfl) (cv83p _ (by omega) _))) ?_
              refine fw_ex 175 (.int .i64 ((nq : Nat) : Int)) rfl rfl rfl (fun a h => (run_binOp (h.ev rfl) (h.ev rfl) (by simp [go_sem]) (subIw _ _ _ _ (by omega) (by omega) (by omega)))) ?_
              refine fw_pu rfl ?_
              refine fw_dt ?_
              refine fw_sq ?_
              refine fw_sq ?_
              refine fw_hr (fun X => Below w.heap.size w X ∧ RowAt X q1 [.int .i64 o1.last, .slice af1 o1.fl.length cf1, .slice aq1 o1.qu.length cq1, .slice (some ⟨bA, oA, none⟩) SL.length cL] ∧ RowAt X q14 [.int .i64 oz.last, .slice ag oz.fl.length cg, .slice ar oz.qu.length cr] ∧ RowAt X q47 [.int .i64 a0.d, .int .i64 a0.id, .string a0.m.t, .string a0.m.p, .int .i64 a0.m.q, .bool a0.m.r, .bool a0.up, .bool a0.ft] ∧ RowAt X q67 [.int .i64 oz.last, .slice ag oz.fl.length cg, .slice ar oz.qu.length cr] ∧ RowAt X q31 (bR rc2) ∧ RowAt X q22 (iR (S k)) ∧ Owns w.heap.size (q432 :: q67 :: q47 :: q31 :: q22 :: q14 :: q1 :: []) ((orP (vn445) (Dn445 ++ ((L2 ++ ps.take k) ++ [pk]))) :: (orF (.slice ag oz.fl.length cg) oz.fl) :: (orM (.slice ar oz.qu.length cr) oz.qu) :: (orP (.slice (some ⟨bP, oP, none⟩) ps.length cp) ps) :: []) X) (by kernel_rfl) 60 rfl ?_
              intro W463 s464
              have b465 := b454.trans (s464.mono b454.size)
              have r466 := rN448.below s464
              have r467 := rN449.below s464
              have r468 := rN450.below s464
              have r469 := rN451.below s464
              have r470 := rN452.below s464
              have r471 := rN453.below s464
              have f472 := (Owns.below hoN447 s464)
              refine ⟨⟨b465, r466, r467, r468, r469, r470, r471, f472⟩, ?_⟩
              refine fw_tk 0 rfl rfl (by kernel_rfl) (fun _ _ _ _ _ h => h) ?_
              refine fw_tk 1 rfl rfl (by kernel_rfl) (fun _ _ _ _ _ h => h) ?_
              refine fw_tk 2 rfl rfl (by kernel_rfl) (fun _ _ _ _ _ h => h) ?_
              refine fw_kh 178 rfl hk455 ?_
              refine fw_tk 3 rfl rfl (by kernel_rfl) (fun _ _ _ _ _ h => h) ?_
              refine fw_tk 4 rfl rfl (by kernel_rfl) (fun _ _ _ _ _ h => h) ?_
              refine fw_tk 5 rfl rfl (by kernel_rfl) (fun _ _ _ _ _ h => h) ?_
              refine fw_tk 6 rfl rfl (by kernel_rfl) (fun _ _ _ _ _ h => h) ?_
              refine fw_tk 7 rfl rfl (by kernel_rfl) (fun _ _ _ _ _ h => h) ?_
              refine fw_kh 183 rfl hk456 ?_
              refine fw_tk 8 rfl rfl (by kernel_rfl) (fun _ _ _ _ _ h => h) ?_
              refine fw_tx 9 185 (.pointer (some ⟨q31, nq, none⟩)) rfl rfl rfl rfl (fun a h W hW => by obtain ⟨b465, r466, r467, r468, r469, r470, r471, f472⟩ := hW; exact (run_indexOp (h.ev rfl) (h.ev rfl) (idxR5 _ _ (show nq < 65 by omega) _))) (by kernel_rfl) (fun _ _ _ _ _ h => h) ?_
              refine fw_tx 10 186 (.bool (rc2 nq)) rfl rfl rfl rfl (fun a h W hW => by obtain ⟨b465, r466, r467, r468, r469, r470, r471, f472⟩ := hW; exact (run_loadOp (h.ev rfl) (ldB1w (r470.cell (bR_at _ (show nq < 65 by omega)))))) (by kernel_rfl) (fun _ _ _ _ _ h => h) ?_
              refine fw_tk 11 rfl rfl (by kernel_rfl) (fun _ _ _ _ _ h => h) ?_
              refine fw_tk 12 rfl rfl (by kernel_rfl) (fun _ _ _ _ _ h => h) ?_
              refine fw_kh 188 rfl hk457 ?_
              refine fw_tk 13 rfl rfl (by kernel_rfl) (fun _ _ _ _ _ h => h) ?_
              refine fw_tk 14 rfl rfl (by kernel_rfl) (fun _ _ _ _ _ h => h) ?_
              refine fw_tx 15 191 (.pointer (some ⟨bP, (oP + k * 24), none⟩)) rfl rfl rfl rfl (fun a h W hW => by obtain ⟨b465, r466, r467, r468, r469, r470, r471, f472⟩ := hW; exact (run_indexOp (h.ev rfl) (h.ev rfl) (idxPk _ _ _ _ _ hkp _))) (by kernel_rfl) (fun _ _ _ _ _ h => h) ?_
              refine fw_tk 16 rfl rfl (by kernel_rfl) (fun _ _ _ _ _ h => h) ?_
              refine fw_tx 17 193 (.bool pk.dup) rfl rfl rfl rfl (fun a h W hW => by obtain ⟨b465, r466, r467, r468, r469, r470, r471, f472⟩ := hW; exact (run_loadOp (h.ev rfl) (ldB1w ((pk_cell (Owns.slP f472 3 rfl) hpk) 16 _ rfl)))) (by kernel_rfl) (fun _ _ _ _ _ h => h) ?_
              refine fw_tk 18 rfl rfl (by kernel_rfl) (fun _ _ _ _ _ h => h) ?_
              refine fw_tx 19 195 (.pointer (some ⟨q22, nq, none⟩)) rfl rfl rfl rfl (fun a h W hW => by obtain ⟨b465, r466, r467, r468, r469, r470, r471, f472⟩ := hW; exact (run_indexOp (h.ev rfl) (h.ev rfl) (idxS _ _ (show nq < 65 by omega) _))) (by kernel_rfl) (fun _ _ _ _ _ h => h) ?_
              refine fw_tx 20 196 (.int .i64 ((S k) nq)) rfl rfl rfl rfl (fun a h W hW => by obtain ⟨b465, r466, r467, r468, r469, r470, r471, f472⟩ := hW; exact (run_loadOp (h.ev rfl) (ldI1 (r471.cell (iR_at _ (show nq < 65 by omega)))))) (by kernel_rfl) (fun _ _ _ _ _ h => h) ?_
              refine fw_tk 21 rfl rfl (by kernel_rfl) (fun _ _ _ _ _ h => h) ?_
              refine fw_tx 22 198 (.bool false) rfl rfl rfl rfl (fun a h W hW => by obtain ⟨b465, r466, r467, r468, r469, r470, r471, f472⟩ := hW; exact (run_binOp (h.ev rfl) (h.ev rfl) (eqBoolI _ _ _ _ _ _ _) (neqBb _ _ _ false (by rw [hk458, hk459]; rfl)))) (by kernel_rfl) (fun _ _ _ _ _ h => h) ?_
              refine fw_tk 23 rfl rfl (by kernel_rfl) (fun _ _ _ _ _ h => h) ?_
              refine fw_tk 24 rfl rfl (by kernel_rfl) (fun _ _ _ _ _ h => h) ?_
              refine fw_tk 25 rfl rfl (by kernel_rfl) (fun _ _ _ _ _ h => h) ?_
              refine fw_tx 26 202 (.pointer (some ⟨q22, nq, none⟩)) rfl rfl rfl rfl (fun a h W hW => by obtain ⟨b465, r466, r467, r468, r469, r470, r471, f472⟩ := hW; exact (run_indexOp (h.ev rfl) (h.ev rfl) (idxS _ _ (show nq < 65 by omega) _))) (by kernel_rfl) (fun _ _ _ _ _ h => h) ?_
              refine fw_tx 27 203 (.int .i64 ((S k) nq)) rfl rfl rfl rfl (fun a h W hW => by obtain ⟨b465, r466, r467, r468, r469, r470, r471, f472⟩ := hW; exact (run_loadOp (h.ev rfl) (ldI1 (r471.cell (iR_at _ (show nq < 65 by omega)))))) (by kernel_rfl) (fun _ _ _ _ _ h => h) ?_
              refine fw_tk 28 rfl rfl (by kernel_rfl) (fun _ _ _ _ _ h => h) ?_
              refine fw_tk 29 rfl rfl (by kernel_rfl) (fun _ _ _ _ _ h => h) ?_
              refine fw_kh 205 rfl (not_of hk459) ?_
              refine fw_tk 30 rfl rfl (by kernel_rfl) (fun _ _ _ _ _ h => h) ?_
              refine fw_tx 31 207 (.pointer (some ⟨q22, nq, none⟩)) rfl rfl rfl rfl (fun a h W hW => by obtain ⟨b465, r466, r467, r468, r469, r470, r471, f472⟩ := hW; exact (run_indexOp (h.ev rfl) (h.ev rfl) (idxS _ _ (show nq < 65 by omega) _))) (by kernel_rfl) (fun _ _ _ _ _ h => h) ?_
              refine fw_tx 32 208 (.int .i64 ((S k) nq)) rfl rfl rfl rfl (fun a h W hW => by obtain ⟨b465, r466, r467, r468, r469, r470, r471, f472⟩ := hW; exact (run_loadOp (h.ev rfl) (ldI1 (r471.cell (iR_at _ (show nq < 65 by omega)))))) (by kernel_rfl) (fun _ _ _ _ _ h => h) ?_
              refine fw_tk 33 rfl rfl (by kernel_rfl) (fun _ _ _ _ _ h => h) ?_
              refine fw_tk 34 rfl rfl (by kernel_rfl) (fun _ _ _ _ _ h => h) ?_
              refine fw_tx 35 211 (.pointer (some ⟨bP, (oP + k * 24), none⟩)) rfl rfl rfl rfl (fun a h W hW => by obtain ⟨b465, r466, r467, r468, r469, r470, r471, f472⟩ := hW; exact (run_indexOp (h.ev rfl) (h.ev rfl) (idxPk _ _ _ _ _ hkp _))) (by kernel_rfl) (fun _ _ _ _ _ h => h) ?_
              refine fw_tk 36 rfl rfl (by kernel_rfl) (fun _ _ _ _ _ h => h) ?_
              refine fw_tx 37 213 (.int .i64 pk.id) rfl rfl rfl rfl (fun a h W hW => by obtain ⟨b465, r466, r467, r468, r469, r470, r471, f472⟩ := hW; exact (run_loadOp (h.ev rfl) (ldI1 ((pk_cell (Owns.slP f472 3 rfl) hpk) 20 _ rfl)))) (by kernel_rfl) (fun _ _ _ _ _ h => h) ?_
              refine fw_tk 38 rfl rfl (by kernel_rfl) (fun _ _ _ _ _ h => h) ?_
              refine fw_tk 39 rfl rfl (by kernel_rfl) (fun _ _ _ _ _ h => h) ?_
              refine fw_tk 40 rfl rfl (by kernel_rfl) (fun _ _ _ _ _ h => h) ?_
              refine fw_tk 41 rfl rfl (by kernel_rfl) (fun _ _ _ _ _ h => h) ?_
              refine fw_kh 217 rfl (not_of hk460) ?_
              refine fw_tk 42 rfl rfl (by kernel_rfl) (fun _ _ _ _ _ h => h) ?_
              refine fw_tk 43 rfl rfl (by kernel_rfl) (fun _ _ _ _ _ h => h) ?_
              refine fw_tk 44 rfl rfl (by kernel_rfl) (fun _ _ _ _ _ h => h) ?_
              refine fw_tk 45 rfl rfl (by kernel_rfl) (fun _ _ _ _ _ h => h) ?_
              refine fw_kh 221 rfl hk461 ?_
              refine fw_tk 46 rfl rfl (by kernel_rfl) (fun _ _ _ _ _ h => h) ?_
              refine fw_tk 47 rfl rfl (by kernel_rfl) (fun _ _ _ _ _ h => h) ?_
              refine fw_tk 48 rfl rfl (by kernel_rfl) (fun _ _ _ _ _ h => h) ?_
              refine fw_tk 49 rfl rfl (by kernel_rfl) (fun _ _ _ _ _ h => h) ?_
              refine fw_tk 50 rfl rfl (by kernel_rfl) (fun _ _ _ _ _ h => h) ?_
              refine fw_tk 51 rfl rfl (by kernel_rfl) (fun _ _ _ _ _ h => h) ?_
              refine fw_tk 52 rfl rfl (by kernel_rfl) (fun _ _ _ _ _ h => h) ?_
              refine fw_tk 53 rfl rfl (by kernel_rfl) (fun _ _ _ _ _ h => h) ?_
              refine fw_tk 54 rfl rfl (by kernel_rfl) (fun _ _ _ _ _ h => h) ?_
              refine fw_tx 55 231 (.pointer (some ⟨bP, (oP + k * 24), none⟩)) rfl rfl rfl rfl (fun a h W hW => by obtain ⟨b465, r466, r467, r468, r469, r470, r471, f472⟩ := hW; exact (run_indexOp (h.ev rfl) (h.ev rfl) (idxPk _ _ _ _ _ hkp _))) (by kernel_rfl) (fun _ _ _ _ _ h => h) ?_
              refine fw_tk 56 rfl rfl (by kernel_rfl) (fun _ _ _ _ _ h => h) ?_
              refine fw_tx 57 233 (.int .i64 pk.id) rfl rfl rfl rfl (fun a h W hW => by obtain ⟨b465, r466, r467, r468, r469, r470, r471, f472⟩ := hW; exact (run_loadOp (h.ev rfl) (ldI1 ((pk_cell (Owns.slP f472 3 rfl) hpk) 20 _ rfl)))) (by kernel_rfl) (fun _ _ _ _ _ h => h) ?_
              refine fw_tk 58 rfl rfl (by kernel_rfl) (fun _ _ _ _ _ h => h) ?_
              refine fw_tk 59 rfl rfl (by kernel_rfl) (fun _ _ _ _ _ h => h) ?_
              refine fw_ht (by kernel_rfl) ?_
              refine fw_cF rfl hk462 ?_
              refine fw_sk ?_
              refine fw_th ?_
              refine fw_sq ?_
              refine fw_sq ?_
              refine fw_rg rfl ?_
              refine fw_pu rfl ?_
              refine fw_ex 237 (.pointer (some ⟨q22, nq, none⟩)) rfl rfl rfl (fun a h => (run_indexOp (h.ev rfl) (h.ev rfl) (idxS _ _ (show nq < 65 by omega) _))) ?_
              refine fw_ex 238 (.int .i64 ((S k) nq)) rfl rfl rfl (fun a h => (run_loadOp (h.ev rfl) (ldI1 (r471.cell (iR_at _ (show nq < 65 by omega)))))) ?_
              refine fw_pu rfl ?_
              refine fw_dt ?_
              refine fw_cF rfl hk459 ?_
              refine fw_sk ?_
              refine fw_th ?_
              refine fw_rg rfl ?_
              iterate 3 refine fw_pu rfl ?_
              refine fw_ex 245 (.pointer (some ⟨bP, (oP + k * 24), none⟩)) rfl rfl rfl (fun a h => (run_indexOp (h.ev rfl) (h.ev rfl) (idxPk _ _ _ _ _ hkp _))) ?_
              refine fw_pu rfl ?_
              refine fw_ex 247 (.int .i64 pk.id) rfl rfl rfl (fun a h => (run_loadOp (h.ev rfl) (ldI1 ((pk_cell (Owns.slP f472 3 rfl) hpk) 20 _ rfl)))) ?_
              refine fw_ex 248 (.pointer (some ⟨q22, nq, none⟩)) rfl rfl rfl (fun a h => (run_indexOp (h.ev rfl) (h.ev rfl) (idxS _ _ (show nq < 65 by omega) _))) ?_
              refine fw_sr (vs' := (iR (fun m => if m = nq then pk.id else (S k) m))) r471 rfl (by rw [iR_len]; exact (show nq < 65 by omega)) rfl (iR_set _ _ _) ?_
              intro W473 s474 r475
              have b476 := below_chg b465 s474 (by omega) b465.size
              have r477 := r466.chg s474 (by omega)
              have r478 := r467.chg s474 (by omega)
              have r479 := r468.chg s474 (by omega)
              have r480 := r469.chg s474 (by omega)
              have r481 := r470.chg s474 (by omega)
              have f482 := (Owns.chg f472 s474 (by simp))
              refine fw_dn ?_
              refine fw_bn ?_
              refine fw_th ?_
              refine fw_rg rfl ?_
              refine fw_pu rfl ?_
              refine fw_ex 147 (.int .i64 (((k + 1) : Nat) : Int)) rfl rfl rfl (fun a h => (run_binOp (h.ev rfl) (h.ev rfl) (by simp [go_sem]) (addIw _ _ _ _ (by omega) (by omega) (by omega)))) ?_
              refine fw_pu rfl ?_
              refine fw_dn ?_
              have htn : ((L2 ++ ps.take k) ++ [pk]) = L2 ++ ps.take (k + 1) := by rw [List.take_add_one, hpk]; simp
              have hll : (Dn445 ++ (L2 ++ ps.take (k + 1))).length ≤ 8 * i + (k + 1) := by rw [← htn]; omega
              have htaN : TailAt (.slice an445 (L2 ++ ps.take (k + 1)).length cn445) Dn445 (L2 ++ ps.take (k + 1)) vn445 := by rw [← htn]; exact hta445
              have hr7N : RowAt W473 q22 (iR (S (k + 1))) := by rw [hs2]; exact r475
              have hoN : Owns w.heap.size (q67 :: q47 :: q31 :: q22 :: q14 :: q1 :: []) (orP vn445 (Dn445 ++ (L2 ++ ps.take (k + 1))) :: orF (.slice ag oz.fl.length cg) oz.fl :: orM (.slice ar oz.qu.length cr) oz.qu :: orP (.slice (some ⟨bP, oP, none⟩) ps.length cp) ps :: []) W473 := by rw [← htn]; exact (Owns.subH (H := (q67 :: q47 :: q31 :: q22 :: q14 :: q1 :: [])) f482 (fun k hk => by simp only [List.mem_cons, List.not_mem_nil, or_false] at hk ⊢; rcases hk with rfl | rfl | rfl | rfl | rfl | rfl <;> simp))
              have hslE : (((L2 ++ ps.take k) ++ [pk])).length = (L2 ++ ps.take (k + 1)).length := by rw [htn]
              exact fw_th (fw_gf (hK430 _ _ _ (by omega) ⟨(k + 1), Dn445, vn445, an445, cn445, rfl, (by omega), htaN, hll, hr7N, hoN, rfl, b476, r477, r478, r479, r480, r481⟩) ⟨rfl, rfl, rfl, (by simp only [Look, cond, Nat.beq]; first | rfl | (congr 2; first | rfl | omega | (push_cast; omega))), rfl, rfl, rfl, (by simp only [Look, cond, Nat.beq]; first | rfl | rw [hslE] | simp), rfl, (by first | rfl | (simp only [Look, cond, Nat.beq]; first | rfl | (congr 2; first | rfl | omega | (push_cast; omega)) | (simp; try omega))), (by first | rfl | (simp only [Look, cond, Nat.beq]; first | rfl | (congr 2; first | rfl | omega | (push_cast; omega)) | (simp; try omega))), trivial⟩)
            · skip
              have hkk : (pk.k == 3) = true := by rw [hk3]; rfl
              have hti3 := htk
              have hk483 : (decide (((nq : Nat) : Int) < 0)) = false := (by rw [decide_eq_false_iff_not]; omega)
              have hk484 : (decide (((tk : Nat) : Int) ≤ ((nq : Nat) : Int))) = false := (by rw [decide_eq_false_iff_not]; omega)
              have hk485 : (rc2 nq) = false := hrc
              have hk486 : pk.dup = false := hdu
              have hk487 : (((S k) nq) == 0) = true := (by rw [hsn]; rfl)
              have hk488 : (decide ((((C k) : Nat) : Int) < ((nq : Nat) : Int))) = false := (by rw [decide_eq_false_iff_not]; omega)
              have hk489 : (decide (pk.id < 1)) = false := (by rw [decide_eq_false_iff_not]; omega)
              refine fw_rg rfl ?_
              iterate 2 refine fw_pu rfl ?_
              refine fw_ex 157 (.pointer (some ⟨bP, (oP + k * 24), none⟩)) rfl rfl rfl (fun a h => (run_indexOp (h.ev rfl) (h.ev rfl) (idxPk _ _ _ _ _ hkp _))) ?_
              refine fw_pu rfl ?_
              refine fw_ex 159 (.int .i64 pk.k) rfl rfl rfl (fun a h => (run_loadOp (h.ev rfl) (ldI1 ((pk_cell (Owns.slP hoN447 3 rfl) hpk) 0 _ rfl)))) ?_
              refine fw_pu rfl ?_
              refine fw_dt ?_
              refine fw_cF rfl (not_of hkk) ?_
              refine fw_sk ?_
              refine fw_th ?_
              refine fw_sq ?_
              refine fw_sq ?_
              refine fw_rg rfl ?_
              iterate 2 refine fw_pu rfl ?_
              refine fw_ex 163 (.pointer (some ⟨bP, (oP + k * 24), none⟩)) rfl rfl rfl (fun a h => (run_indexOp (h.ev rfl) (h.ev rfl) (idxPk _ _ _ _ _ hkp _))) ?_
              refine fw_pu rfl ?_
              refine fw_ex 165 (.string (pay nq)) rfl rfl rfl (fun a h => (run_loadOp (h.ev rfl) (ldS1 ((pk_cell (Owns.slP hoN447 3 rfl) hpk) 21 _ (by rw [← hpq]; rfl))))) ?_
              iterate 2 refine fw_pu rfl ?_
              refine fw_dt ?_
              refine fw_cF rfl (not_of rfl) ?_
              refine fw_sk ?_
              refine fw_th ?_
              refine fw_sq ?_
              refine fw_rg rfl ?_
              iterate 2 refine fw_pu rfl ?_
              refine fw_ex 170 (.pointer (some ⟨bP, (oP + k * 24), none⟩)) rfl rfl rfl (fun a h => (run_indexOp (h.ev rfl) (h.ev rfl) (idxPk _ _ _ _ _ hkp _))) ?_
              refine fw_pu rfl ?_
              refine fw_ex 172 (.string (pay nq)) rfl rfl rfl (fun a h => (run_loadOp (h.ev rfl) (ldS1 ((pk_cell (Owns.slP hoN447 3 rfl) hpk) 21 _ (by rw [← hpq]; rfl))))) ?_
              refine fw_ex 173 ((.int .u8 ((UInt8.ofNat (33 + nq)).toNat : Int))) rfl rfl rfl (fun a h => (run_ixOp (h.ev rfl) (h.ev rfl) (pay_at _ _))) ?_
              refine fw_ex 174 (.int .i64 (33 + ((nq : Nat) : Int))) rfl rfl rfl (fun a h => (run_convOp (h.ev rfl) (cv83p _ (by omega) _))) ?_
              refine fw_ex 175 (.int .i64 ((nq : Nat) : Int)) rfl rfl rfl (fun a h => (run_binOp (h.ev rfl) (h.ev rfl) (by simp [go_sem]) (subIw _ _ _ _ (by omega) (by omega) (by omega)))) ?_
              refine fw_pu rfl ?_
              refine fw_dt ?_
              refine fw_sq ?_
              refine fw_sq ?_
              refine fw_hr (fun X => Below w.heap.size w X ∧ RowAt X q1 [.int .i64 o1.last, .slice af1 o1.fl.length cf1, .slice aq1 o1.qu.length cq1, .slice (some ⟨bA, oA, none⟩) SL.length cL] ∧ RowAt X q14 [.int .i64 oz.last, .slice ag oz.fl.length cg, .slice ar oz.qu.length cr] ∧ RowAt X q47 [.int .i64 a0.d, .int .i64 a0.id, .string a0.m.t, .string a0.m.p, .int .i64 a0.m.q, .bool a0.m.r, .bool a0.up, .bool a0.ft] ∧ RowAt X q67 [.int .i64 oz.last, .slice ag oz.fl.length cg, .slice ar oz.qu.length cr] ∧ RowAt X q31 (bR rc2) ∧ RowAt X q22 (iR (S k)) ∧ Owns w.heap.size (q432 :: q67 :: q47 :: q31 :: q22 :: q14 :: q1 :: []) ((orP (vn445) (Dn445 ++ ((L2 ++ ps.take k) ++ [pk]))) :: (orF (.slice ag oz.fl.length cg) oz.fl) :: (orM (.slice ar oz.qu.length cr) oz.qu) :: (orP (.slice (some ⟨bP, oP, none⟩) ps.length cp) ps) :: []) X) (by kernel_rfl) 60 rfl ?_
              intro W490 s491
              have b492 := b454.trans (s491.mono b454.size)
              have r493 := rN448.below s491
              have r494 := rN449.below s491
              have r495 := rN450.below s491
              have r496 := rN451.below s491
              have r497 := rN452.below s491
              have r498 := rN453.below s491
              have f499 := (Owns.below hoN447 s491)
              refine ⟨⟨b492, r493, r494, r495, r496, r497, r498, f499⟩, ?_⟩
              refine fw_tk 0 rfl rfl (by kernel_rfl) (fun _ _ _ _ _ h => h) ?_
              refine fw_tk 1 rfl rfl (by kernel_rfl) (fun _ _ _ _ _ h => h) ?_
              refine fw_tk 2 rfl rfl (by kernel_rfl) (fun _ _ _ _ _ h => h) ?_
              refine fw_kh 178 rfl hk483 ?_
              refine fw_tk 3 rfl rfl (by kernel_rfl) (fun _ _ _ _ _ h => h) ?_
              refine fw_tk 4 rfl rfl (by kernel_rfl) (fun _ _ _ _ _ h => h) ?_
              refine fw_tk 5 rfl rfl (by kernel_rfl) (fun _ _ _ _ _ h => h) ?_
              refine fw_tk 6 rfl rfl (by kernel_rfl) (fun _ _ _ _ _ h => h) ?_
              refine fw_tk 7 rfl rfl (by kernel_rfl) (fun _ _ _ _ _ h => h) ?_
              refine fw_kh 183 rfl hk484 ?_
              refine fw_tk 8 rfl rfl (by kernel_rfl) (fun _ _ _ _ _ h => h) ?_
              refine fw_tx 9 185 (.pointer (some ⟨q31, nq, none⟩)) rfl rfl rfl rfl (fun a h W hW => by obtain ⟨b492, r493, r494, r495, r496, r497, r498, f499⟩ := hW; exact (run_indexOp (h.ev rfl) (h.ev rfl) (idxR5 _ _ (show nq < 65 by omega) _))) (by kernel_rfl) (fun _ _ _ _ _ h => h) ?_
              refine fw_tx 10 186 (.bool (rc2 nq)) rfl rfl rfl rfl (fun a h W hW => by obtain ⟨b492, r493, r494, r495, r496, r497, r498, f499⟩ := hW; exact (run_loadOp (h.ev rfl) (ldB1w (r497.cell (bR_at _ (show nq < 65 by omega)))))) (by kernel_rfl) (fun _ _ _ _ _ h => h) ?_
              refine fw_tk 11 rfl rfl (by kernel_rfl) (fun _ _ _ _ _ h => h) ?_
              refine fw_tk 12 rfl rfl (by kernel_rfl) (fun _ _ _ _ _ h => h) ?_
              refine fw_kh 188 rfl hk485 ?_
              refine fw_tk 13 rfl rfl (by kernel_rfl) (fun _ _ _ _ _ h => h) ?_
              refine fw_tk 14 rfl rfl (by kernel_rfl) (fun _ _ _ _ _ h => h) ?_
              refine fw_tx 15 191 (.pointer (some ⟨bP, (oP + k * 24), none⟩)) rfl rfl rfl rfl (fun a h W hW => by obtain ⟨b492, r493, r494, r495, r496, r497, r498, f499⟩ := hW; exact (run_indexOp (h.ev rfl) (h.ev rfl) (idxPk _ _ _ _ _ hkp _))) (by kernel_rfl) (fun _ _ _ _ _ h => h) ?_
              refine fw_tk 16 rfl rfl (by kernel_rfl) (fun _ _ _ _ _ h => h) ?_
              refine fw_tx 17 193 (.bool pk.dup) rfl rfl rfl rfl (fun a h W hW => by obtain ⟨b492, r493, r494, r495, r496, r497, r498, f499⟩ := hW; exact (run_loadOp (h.ev rfl) (ldB1w ((pk_cell (Owns.slP f499 3 rfl) hpk) 16 _ rfl)))) (by kernel_rfl) (fun _ _ _ _ _ h => h) ?_
              refine fw_tk 18 rfl rfl (by kernel_rfl) (fun _ _ _ _ _ h => h) ?_
              refine fw_tx 19 195 (.pointer (some ⟨q22, nq, none⟩)) rfl rfl rfl rfl (fun a h W hW => by obtain ⟨b492, r493, r494, r495, r496, r497, r498, f499⟩ := hW; exact (run_indexOp (h.ev rfl) (h.ev rfl) (idxS _ _ (show nq < 65 by omega) _))) (by kernel_rfl) (fun _ _ _ _ _ h => h) ?_
              refine fw_tx 20 196 (.int .i64 ((S k) nq)) rfl rfl rfl rfl (fun a h W hW => by obtain ⟨b492, r493, r494, r495, r496, r497, r498, f499⟩ := hW; exact (run_loadOp (h.ev rfl) (ldI1 (r498.cell (iR_at _ (show nq < 65 by omega)))))) (by kernel_rfl) (fun _ _ _ _ _ h => h) ?_
              refine fw_tk 21 rfl rfl (by kernel_rfl) (fun _ _ _ _ _ h => h) ?_
              refine fw_tx 22 198 (.bool false) rfl rfl rfl rfl (fun a h W hW => by obtain ⟨b492, r493, r494, r495, r496, r497, r498, f499⟩ := hW; exact (run_binOp (h.ev rfl) (h.ev rfl) (eqBoolI _ _ _ _ _ _ _) (neqBb _ _ _ false (by rw [hk486, hk487]; rfl)))) (by kernel_rfl) (fun _ _ _ _ _ h => h) ?_
              refine fw_tk 23 rfl rfl (by kernel_rfl) (fun _ _ _ _ _ h => h) ?_
              refine fw_tk 24 rfl rfl (by kernel_rfl) (fun _ _ _ _ _ h => h) ?_
              refine fw_tk 25 rfl rfl (by kernel_rfl) (fun _ _ _ _ _ h => h) ?_
              refine fw_tx 26 202 (.pointer (some ⟨q22, nq, none⟩)) rfl rfl rfl rfl (fun a h W hW => by obtain ⟨b492, r493, r494, r495, r496, r497, r498, f499⟩ := hW; exact (run_indexOp (h.ev rfl) (h.ev rfl) (idxS _ _ (show nq < 65 by omega) _))) (by kernel_rfl) (fun _ _ _ _ _ h => h) ?_
              refine fw_tx 27 203 (.int .i64 ((S k) nq)) rfl rfl rfl rfl (fun a h W hW => by obtain ⟨b492, r493, r494, r495, r496, r497, r498, f499⟩ := hW; exact (run_loadOp (h.ev rfl) (ldI1 (r498.cell (iR_at _ (show nq < 65 by omega)))))) (by kernel_rfl) (fun _ _ _ _ _ h => h) ?_
              refine fw_tk 28 rfl rfl (by kernel_rfl) (fun _ _ _ _ _ h => h) ?_
              refine fw_tk 29 rfl rfl (by kernel_rfl) (fun _ _ _ _ _ h => h) ?_
              refine fw_kh 205 rfl (not_of hk487) ?_
              refine fw_tk 30 rfl rfl (by kernel_rfl) (fun _ _ _ _ _ h => h) ?_
              refine fw_tk 31 rfl rfl (by kernel_rfl) (fun _ _ _ _ _ h => h) ?_
              refine fw_tk 32 rfl rfl (by kernel_rfl) (fun _ _ _ _ _ h => h) ?_
              refine fw_tk 33 rfl rfl (by kernel_rfl) (fun _ _ _ _ _ h => h) ?_
              refine fw_tk 34 rfl rfl (by kernel_rfl) (fun _ _ _ _ _ h => h) ?_
              refine fw_tk 35 rfl rfl (by kernel_rfl) (fun _ _ _ _ _ h => h) ?_
              refine fw_tk 36 rfl rfl (by kernel_rfl) (fun _ _ _ _ _ h => h) ?_
              refine fw_tk 37 rfl rfl (by kernel_rfl) (fun _ _ _ _ _ h => h) ?_
              refine fw_tk 38 rfl rfl (by kernel_rfl) (fun _ _ _ _ _ h => h) ?_
              refine fw_tk 39 rfl rfl (by kernel_rfl) (fun _ _ _ _ _ h => h) ?_
              refine fw_tk 40 rfl rfl (by kernel_rfl) (fun _ _ _ _ _ h => h) ?_
              refine fw_tk 41 rfl rfl (by kernel_rfl) (fun _ _ _ _ _ h => h) ?_
              refine fw_tk 42 rfl rfl (by kernel_rfl) (fun _ _ _ _ _ h => h) ?_
              refine fw_tk 43 rfl rfl (by kernel_rfl) (fun _ _ _ _ _ h => h) ?_
              refine fw_tk 44 rfl rfl (by kernel_rfl) (fun _ _ _ _ _ h => h) ?_
              refine fw_tk 45 rfl rfl (by kernel_rfl) (fun _ _ _ _ _ h => h) ?_
              refine fw_kh 221 rfl hk488 ?_
              refine fw_tk 46 rfl rfl (by kernel_rfl) (fun _ _ _ _ _ h => h) ?_
              refine fw_tk 47 rfl rfl (by kernel_rfl) (fun _ _ _ _ _ h => h) ?_
              refine fw_tk 48 rfl rfl (by kernel_rfl) (fun _ _ _ _ _ h => h) ?_
              refine fw_tk 49 rfl rfl (by kernel_rfl) (fun _ _ _ _ _ h => h) ?_
              refine fw_tk 50 rfl rfl (by kernel_rfl) (fun _ _ _ _ _ h => h) ?_
              refine fw_tk 51 rfl rfl (by kernel_rfl) (fun _ _ _ _ _ h => h) ?_
              refine fw_tk 52 rfl rfl (by kernel_rfl) (fun _ _ _ _ _ h => h) ?_
              refine fw_tk 53 rfl rfl (by kernel_rfl) (fun _ _ _ _ _ h => h) ?_
              refine fw_tk 54 rfl rfl (by kernel_rfl) (fun _ _ _ _ _ h => h) ?_
              refine fw_tx 55 231 (.pointer (some ⟨bP, (oP + k * 24), none⟩)) rfl rfl rfl rfl (fun a h W hW => by obtain ⟨b492, r493, r494, r495, r496, r497, r498, f499⟩ := hW; exact (run_indexOp (h.ev rfl) (h.ev rfl) (idxPk _ _ _ _ _ hkp _))) (by kernel_rfl) (fun _ _ _ _ _ h => h) ?_
              refine fw_tk 56 rfl rfl (by kernel_rfl) (fun _ _ _ _ _ h => h) ?_
              refine fw_tx 57 233 (.int .i64 pk.id) rfl rfl rfl rfl (fun a h W hW => by obtain ⟨b492, r493, r494, r495, r496, r497, r498, f499⟩ := hW; exact (run_loadOp (h.ev rfl) (ldI1 ((pk_cell (Owns.slP f499 3 rfl) hpk) 20 _ rfl)))) (by kernel_rfl) (fun _ _ _ _ _ h => h) ?_
              refine fw_tk 58 rfl rfl (by kernel_rfl) (fun _ _ _ _ _ h => h) ?_
              refine fw_tk 59 rfl rfl (by kernel_rfl) (fun _ _ _ _ _ h => h) ?_
              refine fw_ht (by kernel_rfl) ?_
              refine fw_cF rfl hk489 ?_
              refine fw_sk ?_
              refine fw_th ?_
              refine fw_sq ?_
              refine fw_sq ?_
              refine fw_rg rfl ?_
              refine fw_pu rfl ?_
              refine fw_ex 237 (.pointer (some ⟨q22, nq, none⟩)) rfl rfl rfl (fun a h => (run_indexOp (h.ev rfl) (h.ev rfl) (idxS _ _ (show nq < 65 by omega) _))) ?_
              refine fw_ex 238 (.int .i64 ((S k) nq)) rfl rfl rfl (fun a h => (run_loadOp (h.ev rfl) (ldI1 (r498.cell (iR_at _ (show nq < 65 by omega)))))) ?_
              refine fw_pu rfl ?_
              refine fw_dt ?_
              refine fw_cT rfl hk487 ?_
              refine fw_rg rfl ?_
              refine fw_pu rfl ?_
              refine fw_ex 241 (.int .i64 (((nq + 1) : Nat) : Int)) rfl rfl rfl (fun a h => (run_binOp (h.ev rfl) (h.ev rfl) (by simp [go_sem]) (addIw _ _ _ _ (by omega) (by omega) (by omega)))) ?_
              refine fw_pu rfl ?_
              refine fw_dt ?_
              refine fw_rg rfl ?_
              iterate 3 refine fw_pu rfl ?_
              refine fw_ex 245 (.pointer (some ⟨bP, (oP + k * 24), none⟩)) rfl rfl rfl (fun a h => (run_indexOp (h.ev rfl) (h.ev rfl) (idxPk _ _ _ _ _ hkp _))) ?_
              refine fw_pu rfl ?_
              refine fw_ex 247 (.int .i64 pk.id) rfl rfl rfl (fun a h => (run_loadOp (h.ev rfl) (ldI1 ((pk_cell (Owns.slP f499 3 rfl) hpk) 20 _ rfl)))) ?_
              refine fw_ex 248 (.pointer (some ⟨q22, nq, none⟩)) rfl rfl rfl (fun a h => (run_indexOp (h.ev rfl) (h.ev rfl) (idxS _ _ (show nq < 65 by omega) _))) ?_
              refine fw_sr (vs' := (iR (fun m => if m = nq then pk.id else (S k) m))) r498 rfl (by rw [iR_len]; exact (show nq < 65 by omega)) rfl (iR_set _ _ _) ?_
              intro W500 s501 r502
              have b503 := below_chg b492 s501 (by omega) b492.size
              have r504 := r493.chg s501 (by omega)
              have r505 := r494.chg s501 (by omega)
              have r506 := r495.chg s501 (by omega)
              have r507 := r496.chg s501 (by omega)
              have r508 := r497.chg s501 (by omega)
              have f509 := (Owns.chg f499 s501 (by simp))
              refine fw_dn ?_
              refine fw_bn ?_
              refine fw_th ?_
              refine fw_rg rfl ?_
              refine fw_pu rfl ?_
              refine fw_ex 147 (.int .i64 (((k + 1) : Nat) : Int)) rfl rfl rfl (fun a h => (run_binOp (h.ev rfl) (h.ev rfl) (by simp [go_sem]) (addIw _ _ _ _ (by omega) (by omega) (by omega)))) ?_
              refine fw_pu rfl ?_
              refine fw_dn ?_
              have htn : ((L2 ++ ps.take k) ++ [pk]) = L2 ++ ps.take (k + 1) := by rw [List.take_add_one, hpk]; simp
              have hll : (Dn445 ++ (L2 ++ ps.take (k + 1))).length ≤ 8 * i + (k + 1) := by rw [← htn]; omega
              have htaN : TailAt (.slice an445 (L2 ++ ps.take (k + 1)).length cn445) Dn445 (L2 ++ ps.take (k + 1)) vn445 := by rw [← htn]; exact hta445
              have hr7N : RowAt W500 q22 (iR (S (k + 1))) := by rw [hs1]; exact r502
              have hoN : Owns w.heap.size (q67 :: q47 :: q31 :: q22 :: q14 :: q1 :: []) (orP vn445 (Dn445 ++ (L2 ++ ps.take (k + 1))) :: orF (.slice ag oz.fl.length cg) oz.fl :: orM (.slice ar oz.qu.length cr) oz.qu :: orP (.slice (some ⟨bP, oP, none⟩) ps.length cp) ps :: []) W500 := by rw [← htn]; exact (Owns.subH (H := (q67 :: q47 :: q31 :: q22 :: q14 :: q1 :: [])) f509 (fun k hk => by simp only [List.mem_cons, List.not_mem_nil, or_false] at hk ⊢; rcases hk with rfl | rfl | rfl | rfl | rfl | rfl <;> simp))
              have hslE : (((L2 ++ ps.take k) ++ [pk])).length = (L2 ++ ps.take (k + 1)).length := by rw [htn]
              exact fw_th (fw_gf (hK430 _ _ _ (by omega) ⟨(k + 1), Dn445, vn445, an445, cn445, rfl, (by omega), htaN, hll, hr7N, hoN, rfl, b503, r504, r505, r506, r507, r508⟩) ⟨rfl, rfl, rfl, (by simp only [Look, cond, Nat.beq]; first | rfl | (congr 2; first | rfl | omega | (push_cast; omega))), rfl, rfl, rfl, (by simp only [Look, cond, Nat.beq]; first | rfl | rw [hslE] | simp), rfl, (by first | rfl | (simp only [Look, cond, Nat.beq]; first | rfl | (congr 2; first | rfl | omega | (push_cast; omega)) | (simp; try omega))), (by first | rfl | (simp only [Look, cond, Nat.beq]; first | rfl | (congr 2; first | rfl | omega | (push_cast; omega)) | (simp; try omega))), trivial⟩)
        refine fw_cF rfl hb_431 ?_
        refine fw_xt ?_
        refine fw_te ?_
        refine fw_te ?_
        refine fw_be ?_
        refine fw_bn ?_
        refine fw_th ?_
        obtain rfl : k = ps.length := by have h := of_decide_eq_false hb_431; omega
        have h8 := hAct.sent.le
        rw [List.take_length] at htak hbdk ho3
        refine fw_rg rfl ?_
        refine fw_pu rfl ?_
        refine fw_ex 39 (.int .i64 (((i + 1) : Nat) : Int)) rfl rfl rfl (fun a h => (run_binOp (h.ev rfl) (h.ev rfl) (by simp [go_sem]) (addIw _ _ _ _ (by omega) (by omega) (by omega)))) ?_
        refine fw_pu rfl ?_
        refine fw_dn ?_
        have hoA := Owns.sub ho3 (.cons_cons _ (.cons_cons _ (.cons_cons _ (.cons _ .slnil))))
        have hoE : Owns w.heap.size (q31 :: q22 :: q14 :: q1 :: []) (orP vk (Dk ++ (L2 ++ ps)) :: orF (.slice ag oz.fl.length cg) oz.fl :: orM (.slice ar oz.qu.length cr) oz.qu :: []) W428 := (Owns.subH (H := (q31 :: q22 :: q14 :: q1 :: [])) hoA (fun k hk => by simp only [List.mem_cons, List.not_mem_nil, or_false] at hk ⊢; rcases hk with rfl | rfl | rfl | rfl <;> simp))
        exact fw_th (fw_gf (hK44 _ _ _ (by omega) ⟨(i + 1), oz, tk, (C ps.length), u2, (L2 ++ ps), Dk, vk, (S ps.length), rc2, N2, ag, cg, ar, cr, ak, ck, rfl, (by omega), (by omega), hAct.si, htak, (by omega), rW428_1, hr7, rW428_4, hoE, rfl, bW428, rW428_0⟩) ⟨rfl, rfl, (by first | rfl | (simp only [Look, cond, Nat.beq]; first | rfl | (congr 2; first | rfl | omega | (push_cast; omega)) | (simp; try omega))), (by first | rfl | (simp only [Look, cond, Nat.beq]; first | rfl | (congr 2; first | rfl | omega | (push_cast; omega)) | (simp; try omega))), (by first | rfl | (simp only [Look, cond, Nat.beq]; first | rfl | (congr 2; first | rfl | omega | (push_cast; omega)) | (simp; try omega))), rfl, rfl, (by first | rfl | (simp only [Look, cond, Nat.beq]; first | rfl | (congr 2; first | rfl | omega | (push_cast; omega)) | (simp; try omega))), (by first | rfl | (simp only [Look, cond, Nat.beq]; first | rfl | (congr 2; first | rfl | omega | (push_cast; omega)) | (simp; try omega))), trivial⟩)
      refine fw_cF rfl hb_46 ?_
      refine fw_xt ?_
      refine fw_te ?_
      refine fw_te ?_
      refine fw_be ?_
      have hoE : Owns w.heap.size (q31 :: q22 :: q14 :: q1 :: []) (orP v0 (D ++ Lw) :: orF (.slice af o.fl.length cf) o.fl :: orM (.slice aq o.qu.length cq) o.qu :: []) W42 := (Owns.subH (H := (q31 :: q22 :: q14 :: q1 :: [])) ho0 (fun k hk => by simp only [List.mem_cons, List.not_mem_nil, or_false] at hk ⊢; rcases hk with rfl | rfl | rfl | rfl <;> simp))
      exact fw_th (fw_gf (hK41 _ _ ⟨o, taken, came, up, Lw, D, v0, seen, recd, Nn, af, cf, aq, cq, aw, cw, hSI, (by omega), hta, (by omega), hr3, hoE, rfl, bW42, rW42_0⟩) ⟨rfl, rfl, rfl, rfl, rfl, trivial⟩)
    refine fw_kn 34 rfl hb_45 ?_
    iterate 3 refine fw_pu rfl ?_
    refine fw_dt ?_
    refine fw_cF rfl rfl ?_
    refine fw_xt ?_
    refine fw_te ?_
    refine fw_te ?_
    refine fw_be ?_
    have hoE : Owns w.heap.size (q31 :: q22 :: q14 :: q1 :: []) (orP v0 (D ++ Lw) :: orF (.slice af o.fl.length cf) o.fl :: orM (.slice aq o.qu.length cq) o.qu :: []) W42 := (Owns.subH (H := (q31 :: q22 :: q14 :: q1 :: [])) ho0 (fun k hk => by simp only [List.mem_cons, List.not_mem_nil, or_false] at hk ⊢; rcases hk with rfl | rfl | rfl | rfl <;> simp))
    exact fw_th (fw_gf (hK41 _ _ ⟨o, taken, came, up, Lw, D, v0, seen, recd, Nn, af, cf, aq, cq, aw, cw, hSI, (by omega), hta, (by omega), hr3, hoE, rfl, bW42, rW42_0⟩) ⟨rfl, rfl, rfl, rfl, rfl, trivial⟩)
  rintro _ W510 ⟨o, taken, came, up, Lw, D, v0, seen, recd, Nn, af, cf, aq, cq, aw, cw, hSI, hti, hta, hbd, hr3, ho4, rfl, bW510, rW510_0⟩
  refine fw_md (fun K W => ∃ (o : EO) (came : Nat) (Lw : List EPk) (D : List EPk) (v0 : Value) (seen : Nat → Int) (recd : Nat → Bool) (Nn : List Nat) (af : Option Addr) (cf : Nat) (aq : Option Addr) (cq : Nat) (aw : Option Addr) (cw : Nat), SI true Lw o taken came seen recd Nn ∧ TailAt (.slice aw Lw.length cw) D Lw v0 ∧ (D ++ Lw).length ≤ 500 ∧ RowAt W q14 [.int .i64 o.last, .slice af o.fl.length cf, .slice aq o.qu.length cq] ∧ Owns w.heap.size (q31 :: q22 :: q14 :: q1 :: []) (orP v0 (D ++ Lw) :: orF (.slice af o.fl.length cf) o.fl :: orM (.slice aq o.qu.length cq) o.qu :: []) W ∧ K = [(3, .pointer (some ⟨q14, 0, none⟩)), (4, .int .i64 ((taken : Nat) : Int)), (5, .int .i64 ((came : Nat) : Int)), (9, .slice aw Lw.length cw)] ∧ Below w.heap.size w W ∧ RowAt W q1 [.int .i64 o1.last, .slice af1 o1.fl.length cf1, .slice aq1 o1.qu.length cq1, .slice aL SL.length cL]) (fun K512 hK512 => ?_) ?_
  · skip
    refine fw_sq ?_
    refine fw_rg rfl ?_
    iterate 2 refine fw_pu rfl ?_
    refine fw_dt ?_
    rcases Bool.eq_false_or_eq_true (up) with hb_513 | hb_513
    · skip
      refine fw_cF rfl (not_of hb_513) ?_
      refine fw_sk ?_
      have hoE : Owns w.heap.size (q31 :: q22 :: q14 :: q1 :: []) (orP v0 (D ++ Lw) :: orF (.slice af o.fl.length cf) o.fl :: orM (.slice aq o.qu.length cq) o.qu :: []) W510 := (Owns.subH (H := (q31 :: q22 :: q14 :: q1 :: [])) ho4 (fun k hk => by simp only [List.mem_cons, List.not_mem_nil, or_false] at hk ⊢; rcases hk with rfl | rfl | rfl | rfl <;> simp))
      exact fw_th (fw_gf (hK512 _ _ ⟨o, came, Lw, D, v0, seen, recd, Nn, af, cf, aq, cq, aw, cw, (hb_513 ▸ hSI), hta, (by omega), hr3, hoE, rfl, bW510, rW510_0⟩) ⟨rfl, rfl, rfl, rfl, trivial⟩)
    refine fw_cT rfl (not_of hb_513) ?_
    refine fw_sq ?_
    have hSf : SI false Lw o taken came seen recd Nn := hb_513 ▸ hSI
    obtain ⟨hE0, oz, ps, N2, C, S, hz0, hC0, hS0, hAct⟩ := hSf.resume
    refine fw_rg rfl ?_
    refine fw_ld hr3 rfl rfl ?_
    refine fw_ca Try.func56 rfl rfl rfl ((cRes (w := W510) (Owns.slF ho4 1 rfl) (Owns.slM ho4 2 rfl) hSI.oi.small hz0 hE0)) ?_
    rintro _ V514 ⟨af515, cf515, aq515, cq515, ap515, cp515, rfl, ho515, hb515⟩
    refine ⟨_, rfl, ?_⟩
    have hoA515 := Owns.app ho4 hb515 ho515 bW510.size
    have hoB515 : Owns w.heap.size (q31 :: q22 :: q14 :: q1 :: []) ((orP (v0) (D ++ Lw)) :: (orF (.slice af o.fl.length cf) o.fl) :: (orM (.slice aq o.qu.length cq) o.qu) :: (orF (.slice af515 oz.fl.length cf515) oz.fl) :: (orM (.slice aq515 oz.qu.length cq515) oz.qu) :: (orP (.slice ap515 ps.length cp515) ps) :: []) V514 := Owns.sub hoA515 (.cons_cons _ (.cons_cons _ (.cons_cons _ (.cons_cons _ (.cons_cons _ (.cons_cons _ .slnil))))))
    have b516 := bW510.trans (hb515.mono bW510.size)
    have r517 := rW510_0.below hb515
    have r518 := hr3.below hb515
    iterate 4 refine fw_pu rfl ?_
    refine fw_al (t := 79) (u := fun q => .pointer (some ⟨q, 0, none⟩)) 18 [.int .i64 0, .slice none 0 0, .slice none 0 0] rfl rfl rfl (fun a h => (run_allocOp (by simp [go_sem, Instr.alloc]))) ?_
    intro q519 W520 g523 s521 r522
    have := Nat.le_trans b516.size g523
    have := r517.lt g523
    have := r518.lt g523
    have b524 := b516.trans (s521.mono b516.size)
    have r525 := r517.below s521
    have r526 := r518.below s521
    have f527 := (Owns.hold hoB515 s521 g523 r522.2.2)
    refine fw_st r522 rfl rfl ?_
    intro W528 s529 r530
    have b531 := below_chg b524 s529 (by omega) b524.size
    have r532 := r525.chg s529 (by omega)
    have r533 := r526.chg s529 (by omega)
    have f534 := (Owns.chg f527 s529 (by simp))
    iterate 2 refine fw_pu rfl ?_
    refine fw_dt ?_
    refine fw_sq ?_
    refine fw_sq ?_
    refine fw_rg rfl ?_
    refine fw_pu rfl ?_
    refine fw_ca Try.func55 rfl rfl rfl ((num23_any 0 W528)) ?_
    rintro _ _ ⟨rfl, rfl⟩
    refine ⟨(.int .i64 0), rfl, ?_⟩
    refine fw_pu rfl ?_
    refine fw_dt ?_
    refine fw_cF rfl rfl ?_
    refine fw_sk ?_
    refine fw_th ?_
    refine fw_sq ?_
    refine fw_rg rfl ?_
    refine fw_ld r530 rfl rfl ?_
    refine fw_pu rfl ?_
    refine fw_st r533 rfl rfl ?_
    intro W535 s536 r537
    have b538 := below_chg b531 s536 (by omega) b531.size
    have r539 := r532.chg s536 (by omega)
    have r540 := r530.chg s536 (by omega)
    have f541 := (Owns.chg f534 s536 (by simp))
    refine fw_pu rfl ?_
    refine fw_dt ?_
    refine fw_sq ?_
    refine fw_rg rfl ?_
    refine fw_pu rfl ?_
    refine fw_dt ?_
    refine fw_bk ?_
    have hct542 := hSI.oi.ct
    have h8543 := hAct.sent.le
    refine fw_lp (fun N K W => ∃ (k : Nat), N = ps.length - k ∧ k ≤ ps.length ∧ C k ≤ came + k ∧ K = [(3, .pointer (some ⟨q14, 0, none⟩)), (4, .int .i64 ((taken : Nat) : Int)), (5, .int .i64 (((C k) : Nat) : Int)), (9, .slice ap515 ps.length cp515), (19, .slice ap515 ps.length cp515), (21, .int .i64 ((k : Nat) : Int))] ∧ Below w.heap.size w W ∧ RowAt W q1 [.int .i64 o1.last, .slice af1 o1.fl.length cf1, .slice aq1 o1.qu.length cq1, .slice aL SL.length cL] ∧ RowAt W q14 [.int .i64 oz.last, .slice af515 oz.fl.length cf515, .slice aq515 oz.qu.length cq515] ∧ RowAt W q519 [.int .i64 oz.last, .slice af515 oz.fl.length cf515, .slice aq515 oz.qu.length cq515] ∧ Owns w.heap.size (q519 :: q31 :: q22 :: q14 :: q1 :: []) ((orP (v0) (D ++ Lw)) :: (orF (.slice af o.fl.length cf) o.fl) :: (orM (.slice aq o.qu.length cq) o.qu) :: (orF (.slice af515 oz.fl.length cf515) oz.fl) :: (orM (.slice aq515 oz.qu.length cq515) oz.qu) :: (orP (.slice ap515 ps.length cp515) ps) :: []) W) _ _ ⟨0, rfl, Nat.zero_le _, (by omega), rfl, b538, r539, r537, r540, f541⟩ ⟨rfl, rfl, (by simp only [Look, cond, Nat.beq]; first | rfl | (congr 2; first | rfl | omega | (push_cast; omega))), rfl, rfl, (by first | rfl | (simp only [Look, cond, Nat.beq]; first | rfl | (congr 2; first | rfl | omega | (push_cast; omega)) | (simp; try omega))), trivial⟩ ?_
    rintro N _ W544 ⟨k, rfl, hkl, hCk, rfl, bW544, rW544_0, rW544_1, rW544_2, fW544_0⟩
    intro K546 hK546
    refine fw_sq ?_
    refine fw_sq ?_
    refine fw_rg rfl ?_
    iterate 4 refine fw_pu rfl ?_
    refine fw_dt ?_
    rcases Bool.eq_false_or_eq_true ((decide (((k : Nat) : Int) < ((ps.length : Nat) : Int)))) with hb_547 | hb_547
    · skip
      refine fw_cT rfl hb_547 ?_
      refine fw_sk ?_
      refine fw_th ?_
      refine fw_sq ?_
      refine fw_bk ?_
      refine fw_sq ?_
      have hkp : k < ps.length := by have h := of_decide_eq_true hb_547; omega
      obtain ⟨pk, hpk⟩ : ∃ p, ps[k]? = some p := ⟨_, List.getElem?_eq_getElem hkp⟩
      have hst := hAct.sent.st k pk hpk
      obtain ⟨bP, oP, hap⟩ := pk_addr (Owns.slP fW544_0 5 rfl) hpk
      subst hap
      rcases hst with ⟨hk3, hc1, -⟩ | ⟨hk3, nq, -, -, -, -, ⟨hdu, -, -, hc1, -⟩ | ⟨hdu, -, -, hc1, -⟩⟩
      · skip
        have hkk : (pk.k == 3) = false := by rw [hk3]; rfl
        refine fw_rg rfl ?_
        iterate 2 refine fw_pu rfl ?_
        refine fw_ex 270 (.pointer (some ⟨bP, (oP + k * 24), none⟩)) rfl rfl rfl (fun a h => (run_indexOp (h.ev rfl) (h.ev rfl) (idxPk _ _ _ _ _ hkp _))) ?_
        refine fw_pu rfl ?_
        refine fw_ex 272 (.int .i64 pk.k) rfl rfl rfl (fun a h => (run_loadOp (h.ev rfl) (ldI1 ((pk_cell (Owns.slP fW544_0 5 rfl) hpk) 0 _ rfl)))) ?_
        iterate 2 refine fw_pu rfl ?_
        refine fw_kn 274 rfl hkk ?_
        iterate 7 refine fw_pu rfl ?_
        refine fw_dt ?_
        refine fw_cF rfl rfl ?_
        refine fw_sk ?_
        refine fw_bn ?_
        refine fw_th ?_
        refine fw_rg rfl ?_
        refine fw_pu rfl ?_
        refine fw_ex 267 (.int .i64 (((k + 1) : Nat) : Int)) rfl rfl rfl (fun a h => (run_binOp (h.ev rfl) (h.ev rfl) (by simp [go_sem]) (addIw _ _ _ _ (by omega) (by omega) (by omega)))) ?_
        refine fw_pu rfl ?_
        refine fw_dn ?_
        exact fw_th (fw_gf (hK546 _ _ _ (by omega) ⟨(k + 1), rfl, (by omega), (by omega), rfl, bW544, rW544_0, rW544_1, rW544_2, fW544_0⟩) ⟨rfl, rfl, (by simp only [Look, cond, Nat.beq]; first | rfl | (congr 2; first | rfl | omega | (push_cast; omega))), (by first | rfl | (simp only [Look, cond, Nat.beq]; first | rfl | (congr 2; first | rfl | omega | (push_cast; omega)) | (simp; try omega))), (by first | rfl | (simp only [Look, cond, Nat.beq]; first | rfl | (congr 2; first | rfl | omega | (push_cast; omega)) | (simp; try omega))), (by first | rfl | (simp only [Look, cond, Nat.beq]; first | rfl | (congr 2; first | rfl | omega | (push_cast; omega)) | (simp; try omega))), trivial⟩)
      · skip
        have hkk : (pk.k == 3) = true := by rw [hk3]; rfl
        refine fw_rg rfl ?_
        iterate 2 refine fw_pu rfl ?_
        refine fw_ex 270 (.pointer (some ⟨bP, (oP + k * 24), none⟩)) rfl rfl rfl (fun a h => (run_indexOp (h.ev rfl) (h.ev rfl) (idxPk _ _ _ _ _ hkp _))) ?_
        refine fw_pu rfl ?_
        refine fw_ex 272 (.int .i64 pk.k) rfl rfl rfl (fun a h => (run_loadOp (h.ev rfl) (ldI1 ((pk_cell (Owns.slP fW544_0 5 rfl) hpk) 0 _ rfl)))) ?_
        iterate 2 refine fw_pu rfl ?_
        refine fw_kn 274 rfl hkk ?_
        iterate 2 refine fw_pu rfl ?_
        refine fw_ex 277 (.pointer (some ⟨bP, (oP + k * 24), none⟩)) rfl rfl rfl (fun a h => (run_indexOp (h.ev rfl) (h.ev rfl) (idxPk _ _ _ _ _ hkp _))) ?_
        refine fw_pu rfl ?_
        refine fw_ex 279 (.bool pk.dup) rfl rfl rfl (fun a h => (run_loadOp (h.ev rfl) (ldB1w ((pk_cell (Owns.slP fW544_0 5 rfl) hpk) 16 _ rfl)))) ?_
        iterate 2 refine fw_pu rfl ?_
        refine fw_dt ?_
        refine fw_cF rfl (not_of hdu) ?_
        refine fw_sk ?_
        refine fw_bn ?_
        refine fw_th ?_
        refine fw_rg rfl ?_
        refine fw_pu rfl ?_
        refine fw_ex 267 (.int .i64 (((k + 1) : Nat) : Int)) rfl rfl rfl (fun a h => (run_binOp (h.ev rfl) (h.ev rfl) (by simp [go_sem]) (addIw _ _ _ _ (by omega) (by omega) (by omega)))) ?_
        refine fw_pu rfl ?_
        refine fw_dn ?_
        exact fw_th (fw_gf (hK546 _ _ _ (by omega) ⟨(k + 1), rfl, (by omega), (by omega), rfl, bW544, rW544_0, rW544_1, rW544_2, fW544_0⟩) ⟨rfl, rfl, (by simp only [Look, cond, Nat.beq]; first | rfl | (congr 2; first | rfl | omega | (push_cast; omega))), (by first | rfl | (simp only [Look, cond, Nat.beq]; first | rfl | (congr 2; first | rfl | omega | (push_cast; omega)) | (simp; try omega))), (by first | rfl | (simp only [Look, cond, Nat.beq]; first | rfl | (congr 2; first | rfl | omega | (push_cast; omega)) | (simp; try omega))), (by first | rfl | (simp only [Look, cond, Nat.beq]; first | rfl | (congr 2; first | rfl | omega | (push_cast; omega)) | (simp; try omega))), trivial⟩)
      · skip
        have hkk : (pk.k == 3) = true := by rw [hk3]; rfl
        refine fw_rg rfl ?_
        iterate 2 refine fw_pu rfl ?_
        refine fw_ex 270 (.pointer (some ⟨bP, (oP + k * 24), none⟩)) rfl rfl rfl (fun a h => (run_indexOp (h.ev rfl) (h.ev rfl) (idxPk _ _ _ _ _ hkp _))) ?_
        refine fw_pu rfl ?_
        refine fw_ex 272 (.int .i64 pk.k) rfl rfl rfl (fun a h => (run_loadOp (h.ev rfl) (ldI1 ((pk_cell (Owns.slP fW544_0 5 rfl) hpk) 0 _ rfl)))) ?_
        iterate 2 refine fw_pu rfl ?_
        refine fw_kn 274 rfl hkk ?_
        iterate 2 refine fw_pu rfl ?_
        refine fw_ex 277 (.pointer (some ⟨bP, (oP + k * 24), none⟩)) rfl rfl rfl (fun a h => (run_indexOp (h.ev rfl) (h.ev rfl) (idxPk _ _ _ _ _ hkp _))) ?_
        refine fw_pu rfl ?_
        refine fw_ex 279 (.bool pk.dup) rfl rfl rfl (fun a h => (run_loadOp (h.ev rfl) (ldB1w ((pk_cell (Owns.slP fW544_0 5 rfl) hpk) 16 _ rfl)))) ?_
        iterate 2 refine fw_pu rfl ?_
        refine fw_dt ?_
        refine fw_cT rfl (not_of hdu) ?_
        refine fw_rg rfl ?_
        refine fw_pu rfl ?_
        refine fw_ex 283 (.int .i64 ((((C k) : Nat) : Int) + 1)) rfl rfl rfl (fun a h => (run_binOp (h.ev rfl) (h.ev rfl) (by simp [go_sem]) (addIw _ _ _ _ (by omega) (by omega) (by omega)))) ?_
        refine fw_pu rfl ?_
        refine fw_dn ?_
        refine fw_bn ?_
        refine fw_th ?_
        refine fw_rg rfl ?_
        refine fw_pu rfl ?_
        refine fw_ex 267 (.int .i64 (((k + 1) : Nat) : Int)) rfl rfl rfl (fun a h => (run_binOp (h.ev rfl) (h.ev rfl) (by simp [go_sem]) (addIw _ _ _ _ (by omega) (by omega) (by omega)))) ?_
        refine fw_pu rfl ?_
        refine fw_dn ?_
        exact fw_th (fw_gf (hK546 _ _ _ (by omega) ⟨(k + 1), rfl, (by omega), (by omega), rfl, bW544, rW544_0, rW544_1, rW544_2, fW544_0⟩) ⟨rfl, rfl, (by simp only [Look, cond, Nat.beq]; first | rfl | (congr 2; first | rfl | omega | (push_cast; omega))), (by first | rfl | (simp only [Look, cond, Nat.beq]; first | rfl | (congr 2; first | rfl | omega | (push_cast; omega)) | (simp; try omega))), (by first | rfl | (simp only [Look, cond, Nat.beq]; first | rfl | (congr 2; first | rfl | omega | (push_cast; omega)) | (simp; try omega))), (by first | rfl | (simp only [Look, cond, Nat.beq]; first | rfl | (congr 2; first | rfl | omega | (push_cast; omega)) | (simp; try omega))), trivial⟩)
    refine fw_cF rfl hb_547 ?_
    refine fw_xt ?_
    refine fw_te ?_
    refine fw_te ?_
    refine fw_be ?_
    obtain rfl : k = ps.length := by have h := of_decide_eq_false hb_547; omega
    have h8 := hAct.sent.le
    have hoA := Owns.perm (Owns.sub fW544_0 (.cons _ (.cons _ (.cons _ (.cons_cons _ (.cons_cons _ (.cons_cons _ .slnil))))))) (List.perm_append_comm (l₁ := [_, _]) (l₂ := [_]))
    have htaE := TailAt.own (Owns.get fW544_0 (i := 5) rfl)
    have hoE : Owns w.heap.size (q31 :: q22 :: q14 :: q1 :: []) (orP (.slice ap515 ps.length cp515) ([] ++ ps) :: orF (.slice af515 oz.fl.length cf515) oz.fl :: orM (.slice aq515 oz.qu.length cq515) oz.qu :: []) W544 := (Owns.subH (H := (q31 :: q22 :: q14 :: q1 :: [])) hoA (fun k hk => by simp only [List.mem_cons, List.not_mem_nil, or_false] at hk ⊢; rcases hk with rfl | rfl | rfl | rfl <;> simp))
    exact fw_th (fw_gf (hK512 _ _ ⟨oz, (C ps.length), ps, [], (.slice ap515 ps.length cp515), (S ps.length), recd, N2, af515, cf515, aq515, cq515, ap515, cp515, hAct.si, htaE, (by simp; omega), rW544_1, hoE, rfl, bW544, rW544_0⟩) ⟨rfl, rfl, (by first | rfl | (simp only [Look, cond, Nat.beq]; first | rfl | (congr 2; first | rfl | omega | (push_cast; omega)) | (simp; try omega))), (by first | rfl | (simp only [Look, cond, Nat.beq]; first | rfl | (congr 2; first | rfl | omega | (push_cast; omega)) | (simp; try omega))), trivial⟩)
  rintro _ W548 ⟨o, came, Lw, D, v0, seen, recd, Nn, af, cf, aq, cq, aw, cw, hSI, hta, hbd, hr3, ho5, rfl, bW548, rW548_0⟩
  refine fw_sq ?_
  refine fw_sq ?_
  refine fw_rg rfl ?_
  refine fw_pu rfl ?_
  refine fw_dt ?_
  refine fw_bk ?_
  refine fw_lp (fun N K W => ∃ (t : Nat) (o : EO) (came : Nat) (Lw : List EPk) (D : List EPk) (v0 : Value) (seen : Nat → Int) (recd : Nat → Bool) (Nn : List Nat) (af : Option Addr) (cf : Nat) (aq : Option Addr) (cq : Nat) (aw : Option Addr) (cw : Nat), N = 500 - t ∧ t + wO o ≤ 24 ∧ SI true Lw o taken came seen recd Nn ∧ TailAt (.slice aw Lw.length cw) D Lw v0 ∧ (D ++ Lw).length ≤ 500 + 8 * t ∧ RowAt W q14 [.int .i64 o.last, .slice af o.fl.length cf, .slice aq o.qu.length cq] ∧ Owns w.heap.size (q31 :: q22 :: q14 :: q1 :: []) (orP v0 (D ++ Lw) :: orF (.slice af o.fl.length cf) o.fl :: orM (.slice aq o.qu.length cq) o.qu :: []) W ∧ K = [(3, .pointer (some ⟨q14, 0, none⟩)), (4, .int .i64 ((taken : Nat) : Int)), (5, .int .i64 ((came : Nat) : Int)), (9, .slice aw Lw.length cw), (22, .int .i64 ((t : Nat) : Int))] ∧ Below w.heap.size w W ∧ RowAt W q1 [.int .i64 o1.last, .slice af1 o1.fl.length cf1, .slice aq1 o1.qu.length cq1, .slice aL SL.length cL]) _ _ ⟨0, o, came, Lw, D, v0, seen, recd, Nn, af, cf, aq, cq, aw, cw, rfl, (by have := hSI.weight; omega), hSI, hta, (by omega), hr3, ho5, rfl, bW548, rW548_0⟩ ⟨rfl, rfl, rfl, rfl, (by first | rfl | (simp only [Look, cond, Nat.beq]; first | rfl | (congr 2; first | rfl | omega | (push_cast; omega)) | (simp; try omega))), trivial⟩ ?_
  rintro N _ W550 ⟨t, o, came, Lw, D, v0, seen, recd, Nn, af, cf, aq, cq, aw, cw, rfl, hw24, hSI, hta, hbd, hr3, ho6, rfl, bW550, rW550_0⟩
  intro K552 hK552
  have ht5 : (decide (((t : Nat) : Int) < 500)) = true := decide_eq_true (by omega)
  refine fw_sq ?_
  refine fw_sq ?_
  refine fw_rg rfl ?_
  iterate 3 refine fw_pu rfl ?_
  refine fw_kn 286 rfl ht5 ?_
  iterate 4 refine fw_pu rfl ?_
  refine fw_dt ?_
  rcases Bool.eq_false_or_eq_true ((decide (0 < ((Lw.length : Nat) : Int)))) with hb_553 | hb_553
  · skip
    refine fw_cT rfl hb_553 ?_
    refine fw_sk ?_
    refine fw_th ?_
    refine fw_sq ?_
    refine fw_bk ?_
    refine fw_sq ?_
    obtain ⟨qh, Lt, rfl⟩ : ∃ p l, Lw = p :: l := by cases Lw with | nil => exact absurd hb_553 (by decide) | cons p l => exact ⟨p, l, rfl⟩
    obtain ⟨gW, haw, hcW⟩ := tail_first (Owns.get ho6 (i := 0) rfl) hta
    subst haw
    refine fw_rg rfl ?_
    refine fw_pu rfl ?_
    refine fw_ex 294 (.pointer (some ⟨gW, (D.length * 24), none⟩)) rfl rfl rfl (fun a h => (run_indexOp (h.ev rfl) (h.ev rfl) (idx0Pk _ _ _ _ (by simp) _))) ?_
    refine fw_ex 295 (.agg #[.int .i64 qh.k, .string { data := #[] }, .bool false, .int .i64 0, .bool false, .string { data := #[] }, .string { data := #[] }, .int .i64 0, .bool false, .string { data := #[] }, .bool false, .string { data := #[] }, .bool false, .bool false, .int .i64 0, .slice none 0 0, .bool qh.dup, .int .i64 qh.m.q, .bool qh.m.r, .string qh.m.t, .int .i64 qh.id, .string qh.m.p, .slice none 0 0, .slice none 0 0]) rfl rfl rfl (fun a h => (run_loadOp (h.ev rfl) (ldPk hcW))) ?_
    refine fw_al (t := 99) (u := fun q => .pointer (some ⟨q, 0, none⟩)) 23 [.int .i64 0, .string { data := #[] }, .bool false, .int .i64 0, .bool false, .string { data := #[] }, .string { data := #[] }, .int .i64 0, .bool false, .string { data := #[] }, .bool false, .string { data := #[] }, .bool false, .bool false, .int .i64 0, .slice none 0 0, .bool false, .int .i64 0, .bool false, .string { data := #[] }, .int .i64 0, .string { data := #[] }, .slice none 0 0, .slice none 0 0] rfl rfl rfl (fun a h => (run_allocOp (by simp [go_sem, Instr.alloc]))) ?_
    intro q554 W555 g558 s556 r557
    have := Nat.le_trans bW550.size g558
    have := rW550_0.lt g558
    have := hr3.lt g558
    have b559 := bW550.trans (s556.mono bW550.size)
    have r560 := rW550_0.below s556
    have r561 := hr3.below s556
    have f562 := (Owns.hold ho6 s556 g558 r557.2.2)
    refine fw_st r557 rfl rfl ?_
    intro W563 s564 r565
    have b566 := below_chg b559 s564 (by omega) b559.size
    have r567 := r560.chg s564 (by omega)
    have r568 := r561.chg s564 (by omega)
    have f569 := (Owns.chg f562 s564 (by simp))
    refine fw_dt ?_
    refine fw_sq ?_
    refine fw_rg rfl ?_
    refine fw_pu rfl ?_
    obtain ⟨aw570, cw570, hrn570, hta570⟩ := tail_away (w := W563) (Owns.get f569 (i := 0) rfl) hta
    refine fw_ex 297 (.slice aw570 Lt.length cw570) rfl rfl rfl (fun a h => (run_slOpL (h.ev rfl) rfl hrn570)) ?_
    have hoC570 : Owns w.heap.size (q554 :: q31 :: q22 :: q14 :: q1 :: []) ((orP (v0) ((D ++ [qh]) ++ Lt)) :: (orF (.slice af o.fl.length cf) o.fl) :: (orM (.slice aq o.qu.length cq) o.qu) :: []) W563 := by rw [show (D ++ [qh]) ++ Lt = D ++ (qh :: Lt) by simp]; exact f569
    have hbd570 : ((D ++ [qh]) ++ Lt).length ≤ 500 + 8 * t := by rw [show (D ++ [qh]) ++ Lt = D ++ (qh :: Lt) by simp]; exact hbd
    refine fw_pu rfl ?_
    refine fw_dt ?_
    refine fw_sq ?_
    refine fw_rg rfl ?_
    refine fw_pu rfl ?_
    refine fw_dt ?_
    refine fw_sq ?_
    refine fw_rg rfl ?_
    refine fw_pu rfl ?_
    refine fw_dt ?_
    refine fw_md (fun K W => ∃ (oz : EO) (ps : List EPk) (rc2 : Nat → Bool) (N2 : List Nat) (C : Nat → Nat) (S : Nat → Nat → Int) (ag : Option Addr) (cg : Nat) (ar : Option Addr) (cr : Nat) (ap : Option Addr) (cp : Nat), ActS true Lt oz ps taken rc2 N2 C S ∧ C 0 = came ∧ NoDup ps ∧ wO oz + 1 ≤ wO o ∧ RowAt W q14 [.int .i64 oz.last, .slice ag oz.fl.length cg, .slice ar oz.qu.length cr] ∧ Owns w.heap.size (q554 :: q31 :: q22 :: q14 :: q1 :: []) (orP v0 ((D ++ [qh]) ++ Lt) :: orF (.slice ag oz.fl.length cg) oz.fl :: orM (.slice ar oz.qu.length cr) oz.qu :: orP (.slice ap ps.length cp) ps :: []) W ∧ K = [(3, .pointer (some ⟨q14, 0, none⟩)), (4, .int .i64 ((taken : Nat) : Int)), (5, .int .i64 ((came : Nat) : Int)), (9, .slice aw570 Lt.length cw570), (22, .int .i64 ((t : Nat) : Int)), (24, .slice ap ps.length cp), (25, .int .i64 0)] ∧ Below w.heap.size w W ∧ RowAt W q1 [.int .i64 o1.last, .slice af1 o1.fl.length cf1, .slice aq1 o1.qu.length cq1, .slice aL SL.length cL] ∧ RowAt W q554 [.int .i64 qh.k, .string { data := #[] }, .bool false, .int .i64 0, .bool false, .string { data := #[] }, .string { data := #[] }, .int .i64 0, .bool false, .string { data := #[] }, .bool false, .string { data := #[] }, .bool false, .bool false, .int .i64 0, .slice none 0 0, .bool qh.dup, .int .i64 qh.m.q, .bool qh.m.r, .string qh.m.t, .int .i64 qh.id, .string qh.m.p, .slice none 0 0, .slice none 0 0]) (fun K571 hK571 => ?_) ?_
    · skip
      refine fw_bk ?_
      refine fw_sq ?_
      refine fw_rg rfl ?_
      refine fw_pu rfl ?_
      refine fw_ld r565 rfl rfl ?_
      iterate 2 refine fw_pu rfl ?_
      refine fw_dt ?_
      rcases Bool.eq_false_or_eq_true ((qh.k == 6)) with hb_572 | hb_572
      · skip
        refine fw_cT rfl hb_572 ?_
        obtain ⟨hE0, oz, ps, N2, C, S, hz0, hC0, hS0, hAct, hND, hwt⟩ := hSI.comp (eq_of_beq hb_572)
        refine fw_rg rfl ?_
        refine fw_ld r568 rfl rfl ?_
        refine fw_pu rfl ?_
        refine fw_ld r565 rfl rfl ?_
        refine fw_ca Try.func57 rfl rfl rfl ((cComp (w := W563) (Owns.slF hoC570 1 rfl) (Owns.slM hoC570 2 rfl) hSI.oi.small hz0 hE0)) ?_
        rintro _ V573 ⟨af574, cf574, aq574, cq574, ap574, cp574, rfl, ho574, hb574⟩
        refine ⟨_, rfl, ?_⟩
        have hoA574 := Owns.app hoC570 hb574 ho574 b566.size
        have hoB574 : Owns w.heap.size (q554 :: q31 :: q22 :: q14 :: q1 :: []) ((orP (v0) ((D ++ [qh]) ++ Lt)) :: (orF (.slice af o.fl.length cf) o.fl) :: (orM (.slice aq o.qu.length cq) o.qu) :: (orF (.slice af574 oz.fl.length cf574) oz.fl) :: (orM (.slice aq574 oz.qu.length cq574) oz.qu) :: (orP (.slice ap574 ps.length cp574) ps) :: []) V573 := Owns.sub hoA574 (.cons_cons _ (.cons_cons _ (.cons_cons _ (.cons_cons _ (.cons_cons _ (.cons_cons _ .slnil))))))
        have b575 := b566.trans (hb574.mono b566.size)
        have r576 := r567.below hb574
        have r577 := r568.below hb574
        have r578 := r565.below hb574
        iterate 4 refine fw_pu rfl ?_
        refine fw_st r577 rfl rfl ?_
        intro W579 s580 r581
        have b582 := below_chg b575 s580 (by omega) b575.size
        have r583 := r576.chg s580 (by omega)
        have r584 := r578.chg s580 (by omega)
        have f585 := (Owns.chg hoB574 s580 (by simp))
        iterate 2 refine fw_pu rfl ?_
        refine fw_dn ?_
        refine fw_bn ?_
        have hoA := Owns.sub f585 (.cons_cons _ (.cons _ (.cons _ (.cons_cons _ (.cons_cons _ (.cons_cons _ .slnil))))))
        have hoE : Owns w.heap.size (q554 :: q31 :: q22 :: q14 :: q1 :: []) (orP v0 ((D ++ [qh]) ++ Lt) :: orF (.slice af574 oz.fl.length cf574) oz.fl :: orM (.slice aq574 oz.qu.length cq574) oz.qu :: orP (.slice ap574 ps.length cp574) ps :: []) W579 := (Owns.subH (H := (q554 :: q31 :: q22 :: q14 :: q1 :: [])) hoA (fun k hk => by simp only [List.mem_cons, List.not_mem_nil, or_false] at hk ⊢; rcases hk with rfl | rfl | rfl | rfl | rfl <;> simp))
        exact fw_th (fw_gf (hK571 _ _ ⟨oz, ps, recd, N2, C, S, af574, cf574, aq574, cq574, ap574, cp574, hAct, hC0, hND, hwt, r581, hoE, rfl, b582, r583, r584⟩) ⟨rfl, rfl, rfl, rfl, rfl, (by first | rfl | (simp only [Look, cond, Nat.beq]; first | rfl | (congr 2; first | rfl | omega | (push_cast; omega)) | (simp; try omega))), rfl, trivial⟩)
      refine fw_cF rfl hb_572 ?_
      refine fw_sq ?_
      refine fw_rg rfl ?_
      refine fw_pu rfl ?_
      refine fw_ld r565 rfl rfl ?_
      iterate 2 refine fw_pu rfl ?_
      refine fw_dt ?_
      rcases Bool.eq_false_or_eq_true ((qh.m.q == 1)) with hb_586 | hb_586
      · skip
        refine fw_cT rfl hb_586 ?_
        obtain ⟨hE0, oz, ps, N2, C, S, hz0, hC0, hS0, hAct, hND, hwt⟩ := hSI.ack (beq_eq_false_iff_ne.1 hb_572) (eq_of_beq hb_586)
        refine fw_rg rfl ?_
        refine fw_ld r568 rfl rfl ?_
        refine fw_pu rfl ?_
        refine fw_ld r565 rfl rfl ?_
        refine fw_ca Try.func58 rfl rfl rfl ((cAck (w := W563) (Owns.slF hoC570 1 rfl) (Owns.slM hoC570 2 rfl) hSI.oi.small hz0 hE0)) ?_
        rintro _ V587 ⟨af588, cf588, aq588, cq588, ap588, cp588, rfl, ho588, hb588⟩
        refine ⟨_, rfl, ?_⟩
        have hoA588 := Owns.app hoC570 hb588 ho588 b566.size
        have hoB588 : Owns w.heap.size (q554 :: q31 :: q22 :: q14 :: q1 :: []) ((orP (v0) ((D ++ [qh]) ++ Lt)) :: (orF (.slice af o.fl.length cf) o.fl) :: (orM (.slice aq o.qu.length cq) o.qu) :: (orF (.slice af588 oz.fl.length cf588) oz.fl) :: (orM (.slice aq588 oz.qu.length cq588) oz.qu) :: (orP (.slice ap588 ps.length cp588) ps) :: []) V587 := Owns.sub hoA588 (.cons_cons _ (.cons_cons _ (.cons_cons _ (.cons_cons _ (.cons_cons _ (.cons_cons _ .slnil))))))
        have b589 := b566.trans (hb588.mono b566.size)
        have r590 := r567.below hb588
        have r591 := r568.below hb588
        have r592 := r565.below hb588
        iterate 4 refine fw_pu rfl ?_
        refine fw_st r591 rfl rfl ?_
        intro W593 s594 r595
        have b596 := below_chg b589 s594 (by omega) b589.size
        have r597 := r590.chg s594 (by omega)
        have r598 := r592.chg s594 (by omega)
        have f599 := (Owns.chg hoB588 s594 (by simp))
        iterate 2 refine fw_pu rfl ?_
        refine fw_dn ?_
        refine fw_bn ?_
        have hoA := Owns.sub f599 (.cons_cons _ (.cons _ (.cons _ (.cons_cons _ (.cons_cons _ (.cons_cons _ .slnil))))))
        have hoE : Owns w.heap.size (q554 :: q31 :: q22 :: q14 :: q1 :: []) (orP v0 ((D ++ [qh]) ++ Lt) :: orF (.slice af588 oz.fl.length cf588) oz.fl :: orM (.slice aq588 oz.qu.length cq588) oz.qu :: orP (.slice ap588 ps.length cp588) ps :: []) W593 := (Owns.subH (H := (q554 :: q31 :: q22 :: q14 :: q1 :: [])) hoA (fun k hk => by simp only [List.mem_cons, List.not_mem_nil, or_false] at hk ⊢; rcases hk with rfl | rfl | rfl | rfl | rfl <;> simp))
        exact fw_th (fw_gf (hK571 _ _ ⟨oz, ps, recd, N2, C, S, af588, cf588, aq588, cq588, ap588, cp588, hAct, hC0, hND, hwt, r595, hoE, rfl, b596, r597, r598⟩) ⟨rfl, rfl, rfl, rfl, rfl, (by first | rfl | (simp only [Look, cond, Nat.beq]; first | rfl | (congr 2; first | rfl | omega | (push_cast; omega)) | (simp; try omega))), rfl, trivial⟩)
      refine fw_cF rfl hb_586 ?_
      obtain ⟨xq, hpx, hxc⟩ := (hSI.head.resolve_left (beq_eq_false_iff_ne.1 hb_572)).2.2
      have hct := hSI.oi.ct
      obtain ⟨hE0, oz, ps, N2, C, S, hz0, hC0, hS0, hAct, hND, hwt⟩ := hSI.recv (beq_eq_false_iff_ne.1 hb_572) (beq_eq_false_iff_ne.1 hb_586) hpx (by omega) (by omega)
      refine fw_rg rfl ?_
      refine fw_ld r568 rfl rfl ?_
      refine fw_pu rfl ?_
      refine fw_ld r565 rfl rfl ?_
      refine fw_ca Try.func59 rfl rfl rfl ((cRec (w := W563) (Owns.slF hoC570 1 rfl) (Owns.slM hoC570 2 rfl) hSI.oi.small hz0 hE0)) ?_
      rintro _ V600 ⟨af601, cf601, aq601, cq601, ap601, cp601, rfl, ho601, hb601⟩
      refine ⟨_, rfl, ?_⟩
      have hoA601 := Owns.app hoC570 hb601 ho601 b566.size
      have hoB601 : Owns w.heap.size (q554 :: q31 :: q22 :: q14 :: q1 :: []) ((orP (v0) ((D ++ [qh]) ++ Lt)) :: (orF (.slice af o.fl.length cf) o.fl) :: (orM (.slice aq o.qu.length cq) o.qu) :: (orF (.slice af601 oz.fl.length cf601) oz.fl) :: (orM (.slice aq601 oz.qu.length cq601) oz.qu) :: (orP (.slice ap601 ps.length cp601) ps) :: []) V600 := Owns.sub hoA601 (.cons_cons _ (.cons_cons _ (.cons_cons _ (.cons_cons _ (.cons_cons _ (.cons_cons _ .slnil))))))
      have b602 := b566.trans (hb601.mono b566.size)
      have r603 := r567.below hb601
      have r604 := r568.below hb601
      have r605 := r565.below hb601
      iterate 4 refine fw_pu rfl ?_
      refine fw_st r604 rfl rfl ?_
      intro W606 s607 r608
      have b609 := below_chg b602 s607 (by omega) b602.size
      have r610 := r603.chg s607 (by omega)
      have r611 := r605.chg s607 (by omega)
      have f612 := (Owns.chg hoB601 s607 (by simp))
      iterate 2 refine fw_pu rfl ?_
      refine fw_dn ?_
      refine fw_bn ?_
      have hoA := Owns.sub f612 (.cons_cons _ (.cons _ (.cons _ (.cons_cons _ (.cons_cons _ (.cons_cons _ .slnil))))))
      have hoE : Owns w.heap.size (q554 :: q31 :: q22 :: q14 :: q1 :: []) (orP v0 ((D ++ [qh]) ++ Lt) :: orF (.slice af601 oz.fl.length cf601) oz.fl :: orM (.slice aq601 oz.qu.length cq601) oz.qu :: orP (.slice ap601 ps.length cp601) ps :: []) W606 := (Owns.subH (H := (q554 :: q31 :: q22 :: q14 :: q1 :: [])) hoA (fun k hk => by simp only [List.mem_cons, List.not_mem_nil, or_false] at hk ⊢; rcases hk with rfl | rfl | rfl | rfl | rfl <;> simp))
      exact fw_th (fw_gf (hK571 _ _ ⟨oz, ps, (recF recd xq), N2, C, S, af601, cf601, aq601, cq601, ap601, cp601, hAct, hC0, hND, hwt, r608, hoE, rfl, b609, r610, r611⟩) ⟨rfl, rfl, rfl, rfl, rfl, (by first | rfl | (simp only [Look, cond, Nat.beq]; first | rfl | (congr 2; first | rfl | omega | (push_cast; omega)) | (simp; try omega))), rfl, trivial⟩)
    rintro _ W613 ⟨oz, ps, rc2, N2, C, S, ag, cg, ar, cr, ap, cp, hAct, hC0, hND, hwt, hr3, ho7, rfl, bW613, rW613_0, rW613_1⟩
    refine fw_sq ?_
    refine fw_sq ?_
    refine fw_rg rfl ?_
    refine fw_pu rfl ?_
    refine fw_ca Try.func55 rfl rfl rfl ((num23_any 0 W613)) ?_
    rintro _ _ ⟨rfl, rfl⟩
    refine ⟨(.int .i64 0), rfl, ?_⟩
    refine fw_pu rfl ?_
    refine fw_dt ?_
    refine fw_cF rfl rfl ?_
    refine fw_sk ?_
    refine fw_th ?_
    refine fw_sq ?_
    refine fw_rg rfl ?_
    iterate 2 refine fw_pu rfl ?_
    have h8 := hAct.sent.le
    refine fw_to 335 rfl rfl rfl (fun a h => tail_many (B := w.heap.size) _ _ rfl (h.ev rfl) (Owns.get ho7 (i := 0) rfl) hta570 (h.ev rfl) (Owns.slP ho7 3 rfl) (by omega) (by omega) bW613.size) ?_
    rintro _ V616 ⟨Dn615, vn615, an615, cn615, rfl, hog615, hta615, hgr615, hbd615⟩
    have hnq617 := Owns.notHeld ho7 (i := 0) rfl
    have how617 := Owns.get ho7 (i := 0) rfl
    have rN618 := rowAt_keep rW613_0 hgr615.1 (fun e => hnq617 _ e.symm (by simp))
    have rN619 := rowAt_keep rW613_1 hgr615.1 (fun e => hnq617 _ e.symm (by simp))
    have rN620 := rowAt_keep hr3 hgr615.1 (fun e => hnq617 _ e.symm (by simp))
    have hoN617 : Owns w.heap.size (q554 :: q31 :: q22 :: q14 :: q1 :: []) ((orP (vn615) (Dn615 ++ (Lt ++ ps))) :: (orF (.slice ag oz.fl.length cg) oz.fl) :: (orM (.slice ar oz.qu.length cr) oz.qu) :: (orP (.slice ap ps.length cp) ps) :: []) V616 := Owns.upd (r' := (orP (vn615) (Dn615 ++ (Lt ++ ps)))) ho7 0 rfl hgr615 hog615
    have b621 := (bW613.trans (grew_low hgr615 (Nat.le_trans (Nat.le_refl _) bW613.size) (fun k hk => (blk_lt how617 hk).1)))
    refine fw_pu rfl ?_
    refine fw_dt ?_
    refine fw_sq ?_
    refine fw_rg rfl ?_
    refine fw_pu rfl ?_
    refine fw_dt ?_
    refine fw_bk ?_
    have hct622 := hSI.oi.ct
    have h8623 := hAct.sent.le
    refine fw_lp (fun N K W => ∃ (k : Nat), N = ps.length - k ∧ k ≤ ps.length ∧ C k ≤ came + k ∧ K = [(3, .pointer (some ⟨q14, 0, none⟩)), (4, .int .i64 ((taken : Nat) : Int)), (5, .int .i64 (((C k) : Nat) : Int)), (9, .slice an615 (Lt ++ ps).length cn615), (22, .int .i64 ((t : Nat) : Int)), (24, .slice ap ps.length cp), (26, .int .i64 ((k : Nat) : Int))] ∧ Below w.heap.size w W ∧ RowAt W q1 [.int .i64 o1.last, .slice af1 o1.fl.length cf1, .slice aq1 o1.qu.length cq1, .slice aL SL.length cL] ∧ RowAt W q554 [.int .i64 qh.k, .string { data := #[] }, .bool false, .int .i64 0, .bool false, .string { data := #[] }, .string { data := #[] }, .int .i64 0, .bool false, .string { data := #[] }, .bool false, .string { data := #[] }, .bool false, .bool false, .int .i64 0, .slice none 0 0, .bool qh.dup, .int .i64 qh.m.q, .bool qh.m.r, .string qh.m.t, .int .i64 qh.id, .string qh.m.p, .slice none 0 0, .slice none 0 0] ∧ RowAt W q14 [.int .i64 oz.last, .slice ag oz.fl.length cg, .slice ar oz.qu.length cr] ∧ Owns w.heap.size (q554 :: q31 :: q22 :: q14 :: q1 :: []) ((orP (vn615) (Dn615 ++ (Lt ++ ps))) :: (orF (.slice ag oz.fl.length cg) oz.fl) :: (orM (.slice ar oz.qu.length cr) oz.qu) :: (orP (.slice ap ps.length cp) ps) :: []) W) _ _ ⟨0, rfl, Nat.zero_le _, (by omega), rfl, b621, rN618, rN619, rN620, hoN617⟩ ⟨rfl, rfl, (by simp only [Look, cond, Nat.beq]; first | rfl | (congr 2; first | rfl | omega | (push_cast; omega))), rfl, rfl, rfl, (by first | rfl | (simp only [Look, cond, Nat.beq]; first | rfl | (congr 2; first | rfl | omega | (push_cast; omega)) | (simp; try omega))), trivial⟩ ?_
    rintro N _ W624 ⟨k, rfl, hkl, hCk, rfl, bW624, rW624_0, rW624_1, rW624_2, fW624_0⟩
    intro K626 hK626
    refine fw_sq ?_
    refine fw_sq ?_
    refine fw_rg rfl ?_
    iterate 4 refine fw_pu rfl ?_
    refine fw_dt ?_
    rcases Bool.eq_false_or_eq_true ((decide (((k : Nat) : Int) < ((ps.length : Nat) : Int)))) with hb_627 | hb_627
    · skip
      refine fw_cT rfl hb_627 ?_
      refine fw_sk ?_
      refine fw_th ?_
      refine fw_sq ?_
      refine fw_bk ?_
      refine fw_sq ?_
      have hkp : k < ps.length := by have h := of_decide_eq_true hb_627; omega
      obtain ⟨pk, hpk⟩ : ∃ p, ps[k]? = some p := ⟨_, List.getElem?_eq_getElem hkp⟩
      have hst := hAct.sent.st k pk hpk
      obtain ⟨bP, oP, hap⟩ := pk_addr (Owns.slP fW624_0 3 rfl) hpk
      subst hap
      rcases hst with ⟨hk3, hc1, -⟩ | ⟨hk3, nq, -, -, -, -, ⟨hdu, -, -, hc1, -⟩ | ⟨hdu, -, -, hc1, -⟩⟩
      · skip
        have hkk : (pk.k == 3) = false := by rw [hk3]; rfl
        refine fw_rg rfl ?_
        iterate 2 refine fw_pu rfl ?_
        refine fw_ex 344 (.pointer (some ⟨bP, (oP + k * 24), none⟩)) rfl rfl rfl (fun a h => (run_indexOp (h.ev rfl) (h.ev rfl) (idxPk _ _ _ _ _ hkp _))) ?_
        refine fw_pu rfl ?_
        refine fw_ex 346 (.int .i64 pk.k) rfl rfl rfl (fun a h => (run_loadOp (h.ev rfl) (ldI1 ((pk_cell (Owns.slP fW624_0 3 rfl) hpk) 0 _ rfl)))) ?_
        refine fw_pu rfl ?_
        refine fw_dt ?_
        refine fw_cF rfl hkk ?_
        refine fw_sk ?_
        refine fw_bn ?_
        refine fw_th ?_
        refine fw_rg rfl ?_
        refine fw_pu rfl ?_
        refine fw_ex 341 (.int .i64 (((k + 1) : Nat) : Int)) rfl rfl rfl (fun a h => (run_binOp (h.ev rfl) (h.ev rfl) (by simp [go_sem]) (addIw _ _ _ _ (by omega) (by omega) (by omega)))) ?_
        refine fw_pu rfl ?_
        refine fw_dn ?_
        exact fw_th (fw_gf (hK626 _ _ _ (by omega) ⟨(k + 1), rfl, (by omega), (by omega), rfl, bW624, rW624_0, rW624_1, rW624_2, fW624_0⟩) ⟨rfl, rfl, (by simp only [Look, cond, Nat.beq]; first | rfl | (congr 2; first | rfl | omega | (push_cast; omega))), rfl, rfl, (by first | rfl | (simp only [Look, cond, Nat.beq]; first | rfl | (congr 2; first | rfl | omega | (push_cast; omega)) | (simp; try omega))), (by first | rfl | (simp only [Look, cond, Nat.beq]; first | rfl | (congr 2; first | rfl | omega | (push_cast; omega)) | (simp; try omega))), trivial⟩)
      · skip
        exact absurd (hND pk (List.mem_of_getElem? hpk) hk3) (by rw [hdu]; decide)
      · skip
        have hkk : (pk.k == 3) = true := by rw [hk3]; rfl
        refine fw_rg rfl ?_
        iterate 2 refine fw_pu rfl ?_
        refine fw_ex 344 (.pointer (some ⟨bP, (oP + k * 24), none⟩)) rfl rfl rfl (fun a h => (run_indexOp (h.ev rfl) (h.ev rfl) (idxPk _ _ _ _ _ hkp _))) ?_
        refine fw_pu rfl ?_
        refine fw_ex 346 (.int .i64 pk.k) rfl rfl rfl (fun a h => (run_loadOp (h.ev rfl) (ldI1 ((pk_cell (Owns.slP fW624_0 3 rfl) hpk) 0 _ rfl)))) ?_
        refine fw_pu rfl ?_
        refine fw_dt ?_
        refine fw_cT rfl hkk ?_
        refine fw_rg rfl ?_
        refine fw_pu rfl ?_
        refine fw_ex 349 (.int .i64 ((((C k) : Nat) : Int) + 1)) rfl rfl rfl (fun a h => (run_binOp (h.ev rfl) (h.ev rfl) (by simp [go_sem]) (addIw _ _ _ _ (by omega) (by omega) (by omega)))) ?_
        refine fw_pu rfl ?_
        refine fw_dn ?_
        refine fw_bn ?_
        refine fw_th ?_
        refine fw_rg rfl ?_
        refine fw_pu rfl ?_
        refine fw_ex 341 (.int .i64 (((k + 1) : Nat) : Int)) rfl rfl rfl (fun a h => (run_binOp (h.ev rfl) (h.ev rfl) (by simp [go_sem]) (addIw _ _ _ _ (by omega) (by omega) (by omega)))) ?_
        refine fw_pu rfl ?_
        refine fw_dn ?_
        exact fw_th (fw_gf (hK626 _ _ _ (by omega) ⟨(k + 1), rfl, (by omega), (by omega), rfl, bW624, rW624_0, rW624_1, rW624_2, fW624_0⟩) ⟨rfl, rfl, (by simp only [Look, cond, Nat.beq]; first | rfl | (congr 2; first | rfl | omega | (push_cast; omega))), rfl, rfl, (by first | rfl | (simp only [Look, cond, Nat.beq]; first | rfl | (congr 2; first | rfl | omega | (push_cast; omega)) | (simp; try omega))), (by first | rfl | (simp only [Look, cond, Nat.beq]; first | rfl | (congr 2; first | rfl | omega | (push_cast; omega)) | (simp; try omega))), trivial⟩)
    refine fw_cF rfl hb_627 ?_
    refine fw_xt ?_
    refine fw_te ?_
    refine fw_te ?_
    refine fw_be ?_
    refine fw_bn ?_
    refine fw_th ?_
    refine fw_rg rfl ?_
    refine fw_pu rfl ?_
    refine fw_ex 292 (.int .i64 (((t : Nat) : Int) + 1)) rfl rfl rfl (fun a h => (run_binOp (h.ev rfl) (h.ev rfl) (by simp [go_sem]) (addIw _ _ _ _ (by omega) (by omega) (by omega)))) ?_
    refine fw_pu rfl ?_
    refine fw_dn ?_
    obtain rfl : k = ps.length := by have h := of_decide_eq_false hb_627; omega
    have hoA := Owns.sub fW624_0 (.cons_cons _ (.cons_cons _ (.cons_cons _ (.cons _ .slnil))))
    have h8 := hAct.sent.le
    have hoE : Owns w.heap.size (q31 :: q22 :: q14 :: q1 :: []) (orP vn615 (Dn615 ++ (Lt ++ ps)) :: orF (.slice ag oz.fl.length cg) oz.fl :: orM (.slice ar oz.qu.length cr) oz.qu :: []) W624 := (Owns.subH (H := (q31 :: q22 :: q14 :: q1 :: [])) hoA (fun k hk => by simp only [List.mem_cons, List.not_mem_nil, or_false] at hk ⊢; rcases hk with rfl | rfl | rfl | rfl <;> simp))
    exact fw_th (fw_gf (hK552 _ _ _ (by omega) ⟨(t + 1), oz, (C ps.length), (Lt ++ ps), Dn615, vn615, (S ps.length), rc2, N2, ag, cg, ar, cr, an615, cn615, rfl, (by omega), hAct.si, hta615, (by omega), rW624_2, hoE, rfl, bW624, rW624_0⟩) ⟨rfl, rfl, (by first | rfl | (simp only [Look, cond, Nat.beq]; first | rfl | (congr 2; first | rfl | omega | (push_cast; omega)) | (simp; try omega))), (by first | rfl | (simp only [Look, cond, Nat.beq]; first | rfl | (congr 2; first | rfl | omega | (push_cast; omega)) | (simp; try omega))), (by first | rfl | (simp only [Look, cond, Nat.beq]; first | rfl | (congr 2; first | rfl | omega | (push_cast; omega)) | (simp; try omega))), trivial⟩)
  refine fw_cF rfl hb_553 ?_
  refine fw_xt ?_
  refine fw_te ?_
  refine fw_te ?_
  refine fw_be ?_
  refine fw_th ?_
  refine fw_sq ?_
  obtain rfl : Lw = [] := by cases Lw with | nil => rfl | cons p l => exact absurd hb_553 (by simp)
  obtain ⟨hz1, hz2, hz3⟩ := hSI.none
  have hl1 : o.fl.length = 0 := by rw [hz1]; rfl
  have hl2 : o.qu.length = 0 := by rw [hz2]; rfl
  have hce : (((came : Nat) : Int) == ((taken : Nat) : Int)) = true := by rw [hz3]; exact beq_self_eq_true _
  refine fw_rg rfl ?_
  refine fw_pu rfl ?_
  refine fw_ld hr3 rfl rfl ?_
  iterate 2 refine fw_pu rfl ?_
  refine fw_ld hr3 rfl rfl ?_
  refine fw_pu rfl ?_
  refine fw_ex 356 (.int .i64 0) rfl rfl rfl (fun a h => (run_binOp (h.ev rfl) (h.ev rfl) (by simp [go_sem]) (addIw _ _ _ _ (by omega) (by omega) (by omega)))) ?_
  iterate 7 refine fw_pu rfl ?_
  refine fw_kn 363 rfl hce ?_
  refine fw_ca Try.func61 rfl rfl rfl ((wakes23_any W550)) ?_
  rintro _ V629 ⟨rfl, hb628⟩
  refine ⟨(.bool true), rfl, ?_⟩
  have b630 := bW550.trans (hb628.mono bW550.size)
  have r631 := rW550_0.below hb628
  have r632 := hr3.below hb628
  have f633 := (Owns.below ho6 hb628)
  iterate 2 refine fw_pu rfl ?_
  refine fw_dt ?_
  refine fw_rt ?_
  refine ⟨fun a h => ?_⟩
  exact ow_ret1 rfl h.df (h.g 2 rfl) ⟨rfl, b630⟩
namespace outboxOnce
open Go.ChangeShapes Go.WideShapes Go.ChangeAt
theorem own : ownKnob Try.prog.godebug = none := by kernel_rfl
theorem laidOut : laidOutB Try.prog = true := by kernel_rfl
set_option maxRecDepth 100000 in
theorem lifted (os : Os) (started : os.Started) (H : Type) (enc : TypeId × Value → H) :
    ReturnsInHanded {} Try.checked os 10 .any (Rows.outboxOnceSpec.pre6 enc Try.prog Try.f10 Rows.outboxOnceRow.domain false) (Rows.outboxOnceSpec.post enc Try.prog Try.f10 false true false false) := by
  refine returnsInHanded_of_change_sized (C := Try.checked) own started (by kernel_rfl) Try.func10
    (ChangeSpec.witness6 (enc := enc) (C := Try.checked) false ⟨#[], #[.agg #[.int .i64 0, .slice none 0 0, .slice none 0 0, .slice none 0 0]], []⟩ 12 (by kernel_rfl) (by kernel_rfl) (by kernel_rfl) (by kernel_rfl)) ?_
  intro W base args ds gs before hval0 hW _ hsz0 _
  have hsz : (DataW.weightsEach Try.prog (Try.f10.params.toList ++ Rows.outboxOnceSpec.plain.varTypes Try.prog) (ds ++ gs)).all (· ≤ reachBytes) = true := hsz0
  clear hsz0
  have hval : ∀ (j : Nat) t v, Try.f10.params[j]? = some t → args[j]? = some v → Value.okWide Try.prog W .any base t v := hval0
  have hW' := hW
  obtain ⟨p, q, hA0, hV, rfl, hfz, hnd⟩ := hW
  have hA : DataW.TrodAll enc Try.prog W 0 (fun _ => true) true Try.f10.params.toList args.toList ds p := hA0
  rw [Try.params10] at hA hval
  obtain ⟨v0, vs0, d0, ds0, p0, q0, hargs, rfl, rfl, h0, r0⟩ := trodAll_cons hA
  obtain ⟨rfl, rfl, rfl⟩ := trodAll_nil r0
  obtain rfl : args = #[v0] := by cases args; simp_all
  obtain ⟨rfl, rfl⟩ := trodVars_none hV
  obtain ⟨cs0, rfl⟩ : ∃ cs0 : Array Value, v0 = .agg cs0 := by
    have h := hval 0 82 v0 rfl rfl
    unfold Value.okWide at h
    rw [Try.underlying82] at h
    exact ⟨h.choose, h.choose_spec.1⟩
  have k0 := h0
  have lt0 : ∀ x ∈ p0, x.block < W.heap.size := by obtain ⟨m, hm⟩ := k0; exact DataW.trod_lt m _ _ _ hm
  have hrd : RdZ Try.prog W 82 cs0.toList := by obtain ⟨fuel, hf⟩ := h0; exact ⟨H, enc, 0, _, true, fuel, _, hf, by simp only [List.all_eq_true]; intro n hn; exact List.all_eq_true.1 hsz n (DataW.weights_mem_each (j := 0) rfl rfl n hn)⟩
  clear hA0 hval0
  refine (show Calls Try.prog 10 _ W (fun e W' => e = .returned (.bool true) ∧ Below W.heap.size W W') from by have := outboxOnce_walk W _ hrd; rwa [Array.toArray_toList] at this).mono fun e W' ⟨he, bel⟩ => ?_
  subst he
  exact ⟨_, rfl, _, _, _, [], _, [], hW', trodAll_mk1 (shut_bool Try.underlying4 _), (trodAll_cons_mk (Below.trod laidOut (by kernel_rfl) (of_decide_eq_true (by kernel_rfl)) k0 bel lt0) trodAll_mk0), rfl, bel.frame _, fun h => by cases h⟩
theorem over : Rows.outboxOnceRow.holds Try.pinned (OpenSpec.ofChange Rows.outboxOnceSpec) :=
  OpenClaim.holds_of_wide 10 Try.f10 rfl rfl rfl rfl rfl rfl rfl ⟨rfl, rfl, rfl, rfl, rfl⟩ rfl rfl rfl rfl rfl (by kernel_rfl) Try.func10 (by kernel_rfl)
    (of_decide_eq_true (by kernel_rfl)) (by unfold Func.isWrapper; first | (rw [if_pos (by decide +kernel)]; kernel_rfl) | (rw [if_neg (by decide +kernel)]; exact ⟨rfl, rfl⟩))
    (fun os started H enc _ => lifted os started H enc)
/-- THE STATEMENT. -/
theorem proved : Rows.OutboxOnceSaid := over
end outboxOnce
-- CLAIM: OutboxOnce outboxOnce.proved
end Go.Proofs.Ytcglmkcefenjcaa
