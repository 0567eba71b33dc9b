/-
  An outbox: a copy; what is offered, what came through.
-/
import Derived.Test.YtcglmkcefenjcaaObD
namespace Go.Proofs.Ytcglmkcefenjcaa
open Go.RowKit Go.Lib
theorem Owns.outH {B : Nat} {H : List Nat} {R : List OR} {W : World} (h : Owns B [] R W) (hH : ∀ k ∈ H, k < B) (hl : B ≤ W.heap.size) : Owns B H R W :=
  ⟨h.at_, h.two, fun k hk => ⟨Nat.lt_of_lt_of_le (hH k hk) hl, fun r hr e => by have h1 := (blk_lt (h.at_ r hr) e).1; have h2 := hH k hk; omega⟩⟩
/-- What an operation tells. -/
def ResO (w : World) (o : EO) (ps : List EPk) (c : Int) (e : Ending) (w' : World) : Prop :=
  ∃ af cf aq cq ap cp, e = .returned (.tuple #[.agg #[.int .i64 o.last, .slice af o.fl.length cf, .slice aq o.qu.length cq], .slice ap ps.length cp, .int .i64 c]) ∧ Owns w.heap.size [] (orF (.slice af o.fl.length cf) o.fl :: orM (.slice aq o.qu.length cq) o.qu :: orP (.slice ap ps.length cp) ps :: []) w' ∧ Below w.heap.size w w'
def ckI (o : EO) : Int := if checkO o then 0 else 1
theorem ck_t {o : EO} (h : (ckI o == 0) = true) : checkO o = true := by unfold ckI at h; cases hc : checkO o with | true => rfl | false => rw [hc] at h; cases h
theorem ck_f {o : EO} (h : (ckI o == 0) = false) : checkO o = false := by unfold ckI at h; cases hc : checkO o with | false => rfl | true => rw [hc] at h; cases h
def o0 : EO := ⟨0, [], []⟩
theorem Owns0 (B : Nat) (W : World) : Owns B [] (orF (.slice none 0 0) [] :: orM (.slice none 0 0) [] :: orP (.slice none 0 0) [] :: []) W := by
  have h0 : Owns B [] [] W := Owns.nil (fun k hk => nomatch hk)
  have h1 : Owns B [] (orP (.slice none 0 0) [] :: []) W := Owns.cons (orP (.slice none 0 0) []) h0 rfl (PkOwn.nil _ _) 0
  have h2 : Owns B [] (orM (.slice none 0 0) [] :: orP (.slice none 0 0) [] :: []) W := Owns.cons (orM (.slice none 0 0) []) h1 rfl (MsOwn.nil _ _) 0
  exact Owns.cons (orF (.slice none 0 0) []) h2 rfl (FlOwn.nil _ _) 0
theorem ResO.bad {w w' : World} {c : Int} {z : EO} {ps : List EPk} (hz : some (o0, ([] : List EPk)) = some (z, ps)) (hb : Below w.heap.size w w') : ResO w z ps c (.returned (.tuple #[.agg #[.int .i64 0, .slice none 0 0, .slice none 0 0], .slice none 0 0, .int .i64 c])) w' := by
  simp only [Option.some.injEq, Prod.mk.injEq] at hz
  obtain ⟨rfl, rfl⟩ := hz
  exact ⟨none, 0, none, 0, none, 0, rfl, Owns0 _ _, hb⟩
def offE (o : EO) (m : EMsg) (up : Bool) : Int := if !checkO o || !vaM m then 1 else if (((o.qu.length : Nat) : Int) == 8) && (!up || (((o.fl.length : Nat) : Int) == 4)) then 5 else 0
def offO (o : EO) (m : EMsg) (up : Bool) : Option (EO × List EPk) := if offE o m up = 0 then (if up then fillO 4 ⟨o.last, o.fl, o.qu ++ [m]⟩ else some (⟨o.last, o.fl, o.qu ++ [m]⟩, [])) else some (o0, [])
def remE (d : EFl → Bool) (o : EO) (id : Int) : Int := if !checkO o then 1 else if findO o.fl id < 0 then 3 else match o.fl[(findO o.fl id).toNat]? with | some f => if d f then 0 else 3 | none => 3
def remO (d : EFl → Bool) (o : EO) (id : Int) : Option (EO × List EPk) := if remE d o id = 0 then fillO 4 ⟨o.last, o.fl.eraseIdx (findO o.fl id).toNat, o.qu⟩ else some (o0, [])
theorem fnd_some {id : Int} : ∀ {L : List EFl}, 0 ≤ findO L id → ∃ i x, findO L id = ((i : Nat) : Int) ∧ L[i]? = some x
  | [], h => by simp [findO] at h
  | f :: r, h => by
    unfold findO at h ⊢
    by_cases h1 : (f.id == id) = true
    · rw [if_pos h1]; exact ⟨0, f, rfl, rfl⟩
    · rw [if_neg h1] at h ⊢
      by_cases h2 : findO r id < 0
      · rw [if_pos h2] at h; omega
      · obtain ⟨i, x, e, hx⟩ := fnd_some (id := id) (L := r) (by omega)
        rw [if_neg h2]
        exact ⟨i + 1, x, by rw [e]; rfl, by simpa using hx⟩
theorem check_le {o : EO} (h : checkO o = true) : o.fl.length ≤ 4 ∧ o.qu.length ≤ 8 := by
  unfold checkO at h
  simp only [Bool.and_eq_true, Bool.not_eq_true', decide_eq_false_iff_not] at h
  omega
set_option maxRecDepth 100000 in
set_option maxHeartbeats 4000000 in
theorem obTwin (o : EO) (af aq : Option Addr) (nf nq cf cq : Nat) (w : World) (hF : SlR w 6 (.slice af nf cf) (o.fl.map rowFl)) (hQ : SlR w 4 (.slice aq nq cq) (o.qu.map rowMsg)) (hlf : o.fl.length ≤ 100000) (hlq : o.qu.length ≤ 100000) :
    Calls Try.prog 88 #[.agg #[.int .i64 o.last, .slice af nf cf, .slice aq nq cq]] w fun e w' => ∃ af2 cf2 aq2 cq2, e = .returned (.agg #[.int .i64 o.last, .slice af2 o.fl.length cf2, .slice aq2 o.qu.length cq2]) ∧ Owns w.heap.size [] (orF (.slice af2 o.fl.length cf2) o.fl :: orM (.slice aq2 o.qu.length cq2) o.qu :: []) w' ∧ Below w.heap.size w w' := by
  obtain rfl : nf = o.fl.length := by have := slR_len hF; simpa using this
  obtain rfl : nq = o.qu.length := by have := slR_len hQ; simpa using this
  have ho : Owns w.heap.size [] [] w := Owns.nil (fun k hk => nomatch hk)
  have hb0 := Below.refl w.heap.size w
  refine fw_en 12 [(0, .agg #[.int .i64 o.last, .slice af o.fl.length cf, .slice aq o.qu.length cq])] Try.func88 rfl Try.ntmps88 rfl ⟨rfl, trivial⟩ ?_
  refine fw_sq ?_
  refine fw_rg rfl ?_
  refine fw_bx rfl (cs := [.int .i64 o.last, .slice af o.fl.length cf, .slice aq o.qu.length cq]) rfl ?_
  intro q1 W2 g5 s3 r4
  have := Nat.le_trans hb0.size g5
  have b6 := hb0.trans (s3.mono hb0.size)
  have f7 := (Owns.hold ho s3 g5 r4.2.2)
  refine fw_al (t := 79) (u := fun q => .pointer (some ⟨q, 0, none⟩)) 2 [.int .i64 0, .slice none 0 0, .slice none 0 0] rfl rfl rfl (fun a h => (run_allocOp (by simp [go_sem, Instr.alloc]))) ?_
  intro q8 W9 g12 s10 r11
  have := Nat.le_trans b6.size g12
  have := r4.lt g12
  have b13 := b6.trans (s10.mono b6.size)
  have r14 := r4.below s10
  have f15 := (Owns.hold f7 s10 g12 r11.2.2)
  refine fw_dt ?_
  refine fw_sq ?_
  refine fw_rg rfl ?_
  refine fw_pu rfl ?_
  refine fw_ld r14 rfl rfl ?_
  refine fw_ca Try.func112 rfl rfl rfl ((cFl_any _ o.fl W9 (by omega) (hF.below b13))) ?_
  rintro _ V16 ⟨vx17, rfl, hb17, hog17⟩
  refine ⟨_, rfl, ?_⟩
  obtain ⟨ax17, cx17, rfl⟩ := own_slice hog17
  have hoA18 : Owns w.heap.size (q8 :: q1 :: []) ((orF (.slice ax17 o.fl.length cx17) o.fl) :: []) V16 := Owns.add f15 hb17 hog17 b13.size
  have b19 := b13.trans (hb17.mono b13.size)
  have r20 := r14.below hb17
  have r21 := r11.below hb17
  refine fw_pu rfl ?_
  refine fw_st r20 rfl rfl ?_
  intro W22 s23 r24
  have b25 := below_chg b19 s23 (by omega) b19.size
  have r26 := r21.chg s23 (by omega)
  have f27 := (Owns.chg hoA18 s23 (by simp))
  refine fw_dt ?_
  refine fw_sq ?_
  refine fw_rg rfl ?_
  refine fw_pu rfl ?_
  refine fw_ld r24 rfl rfl ?_
  refine fw_ca Try.func113 rfl rfl rfl ((cMs_any _ o.qu W22 (by omega) (hQ.below b25))) ?_
  rintro _ V28 ⟨vx29, rfl, hb29, hog29⟩
  refine ⟨_, rfl, ?_⟩
  obtain ⟨ax29, cx29, rfl⟩ := own_slice hog29
  have hoA30 : Owns w.heap.size (q8 :: q1 :: []) ((orF (.slice ax17 o.fl.length cx17) o.fl) :: (orM (.slice ax29 o.qu.length cx29) o.qu) :: []) V28 := Owns.add f27 hb29 hog29 b25.size
  have b31 := b25.trans (hb29.mono b25.size)
  have r32 := r24.below hb29
  have r33 := r26.below hb29
  refine fw_pu rfl ?_
  refine fw_st r32 rfl rfl ?_
  intro W34 s35 r36
  have b37 := below_chg b31 s35 (by omega) b31.size
  have r38 := r33.chg s35 (by omega)
  have f39 := (Owns.chg hoA30 s35 (by simp))
  refine fw_dt ?_
  refine fw_sq ?_
  refine fw_rg rfl ?_
  refine fw_ld r36 rfl rfl ?_
  refine fw_st r38 rfl rfl ?_
  intro W40 s41 r42
  have b43 := below_chg b37 s41 (by omega) b37.size
  have r44 := r36.chg s41 (by omega)
  have f45 := (Owns.chg f39 s41 (by simp))
  refine fw_dt ?_
  refine fw_rt ?_
  refine ⟨fun a h => ?_⟩
  exact ow_retCell rfl h.df (h.g 2 rfl) (run_loadVar_mid _ _ 0 _ [.int .i64 o.last, .slice ax17 o.fl.length cx17, .slice ax29 o.qu.length cx29] _ (r42.range 0 _ (fun j v hj => by rw [Nat.zero_add j]; exact hj)) Try.underlying79 rfl (by kernel_rfl)) ⟨ax17, cx17, ax29, cx29, rfl, Owns.subH f45 (fun k hk => nomatch hk), b43⟩
set_option maxRecDepth 100000 in
set_option maxHeartbeats 4000000 in
theorem obOffer (o : EO) (af aq : Option Addr) (nf nq cf cq : Nat) (m : EMsg) (up : Bool) (z : EO) (ps : List EPk) (w : World) (hF : SlR w 6 (.slice af nf cf) (o.fl.map rowFl)) (hQ : SlR w 4 (.slice aq nq cq) (o.qu.map rowMsg)) (hlf : o.fl.length ≤ 100000) (hlq : o.qu.length ≤ 100000) (hz : offO o m up = some (z, ps)) :
    Calls Try.prog 54 #[.agg #[.int .i64 o.last, .slice af nf cf, .slice aq nq cq], .agg #[.string m.t, .string m.p, .int .i64 m.q, .bool m.r], .bool up] w fun e w' => ResO w z ps (offE o m up) e w' := by
  obtain rfl : nf = o.fl.length := by have := slR_len hF; simpa using this
  obtain rfl : nq = o.qu.length := by have := slR_len hQ; simpa using this
  have ho : Owns w.heap.size [] [] w := Owns.nil (fun k hk => nomatch hk)
  have hb0 := Below.refl w.heap.size w
  refine fw_en 46 [(0, .agg #[.int .i64 o.last, .slice af o.fl.length cf, .slice aq o.qu.length cq]), (1, .agg #[.string m.t, .string m.p, .int .i64 m.q, .bool m.r]), (2, .bool up)] Try.func54 rfl Try.ntmps54 rfl ⟨rfl, rfl, rfl, trivial⟩ ?_
  refine fw_sq ?_
  refine fw_rg rfl ?_
  refine fw_bx rfl (cs := [.int .i64 o.last, .slice af o.fl.length cf, .slice aq o.qu.length cq]) rfl ?_
  intro q1 W2 g5 s3 r4
  have := Nat.le_trans hb0.size g5
  have b6 := hb0.trans (s3.mono hb0.size)
  have f7 := (Owns.hold ho s3 g5 r4.2.2)
  refine fw_bx rfl (cs := [.string m.t, .string m.p, .int .i64 m.q, .bool m.r]) rfl ?_
  intro q8 W9 g12 s10 r11
  have := Nat.le_trans b6.size g12
  have := r4.lt g12
  have b13 := b6.trans (s10.mono b6.size)
  have r14 := r4.below s10
  have f15 := (Owns.hold f7 s10 g12 r11.2.2)
  refine fw_al (t := 79) (u := fun q => .pointer (some ⟨q, 0, none⟩)) 6 [.int .i64 0, .slice none 0 0, .slice none 0 0] rfl rfl rfl (fun a h => (run_allocOp (by simp [go_sem, Instr.alloc]))) ?_
  intro q16 W17 g20 s18 r19
  have := Nat.le_trans b13.size g20
  have := r14.lt g20
  have := r11.lt g20
  have b21 := b13.trans (s18.mono b13.size)
  have r22 := r14.below s18
  have r23 := r11.below s18
  have f24 := (Owns.hold f15 s18 g20 r19.2.2)
  iterate 2 refine fw_pu rfl ?_
  refine fw_dt ?_
  refine fw_sq ?_
  refine fw_sq ?_
  refine fw_rg rfl ?_
  refine fw_ld r22 rfl rfl ?_
  refine fw_ca Try.func86 rfl rfl rfl ((check_any o af aq _ _ cf cq W17 (hF.below b21) (hQ.below b21) hlf hlq)) ?_
  rintro _ V26 ⟨rfl, hb25⟩
  refine ⟨(.int .i64 (ckI o)), rfl, ?_⟩
  have b27 := b21.trans (hb25.mono b21.size)
  have r28 := r22.below hb25
  have r29 := r23.below hb25
  have r30 := r19.below hb25
  have f31 := (Owns.below f24 hb25)
  iterate 2 refine fw_pu rfl ?_
  rcases Bool.eq_false_or_eq_true (((ckI o) == 0)) with hb_32 | hb_32
  · skip
    refine fw_kn 13 rfl (not_of hb_32) ?_
    refine fw_ld r29 rfl rfl ?_
    refine fw_ca Try.func87 rfl rfl rfl ((valid_any m V26)) ?_
    rintro _ V34 ⟨rfl, hb33⟩
    refine ⟨(.bool (vaM m)), rfl, ?_⟩
    have b35 := b27.trans (hb33.mono b27.size)
    have r36 := r28.below hb33
    have r37 := r29.below hb33
    have r38 := r30.below hb33
    have f39 := (Owns.below f31 hb33)
    iterate 2 refine fw_pu rfl ?_
    refine fw_dt ?_
    rcases Bool.eq_false_or_eq_true ((vaM m)) with hb_40 | hb_40
    · skip
      refine fw_cF rfl (not_of hb_40) ?_
      refine fw_sk ?_
      refine fw_th ?_
      refine fw_sq ?_
      refine fw_sq ?_
      refine fw_rg rfl ?_
      refine fw_pu rfl ?_
      refine fw_ld r36 rfl rfl ?_
      iterate 3 refine fw_pu rfl ?_
      rcases Bool.eq_false_or_eq_true ((((o.qu.length : Nat) : Int) == 8)) with hb_41 | hb_41
      · skip
        refine fw_kn 23 rfl hb_41 ?_
        iterate 3 refine fw_pu rfl ?_
        rcases Bool.eq_false_or_eq_true (up) with hb_42 | hb_42
        · skip
          refine fw_kn 26 rfl (not_of hb_42) ?_
          refine fw_pu rfl ?_
          refine fw_ld r36 rfl rfl ?_
          iterate 4 refine fw_pu rfl ?_
          refine fw_dt ?_
          rcases Bool.eq_false_or_eq_true ((((o.fl.length : Nat) : Int) == 4)) with hb_43 | hb_43
          · skip
            refine fw_cT rfl hb_43 ?_
            refine fw_sq ?_
            refine fw_rg rfl ?_
            refine fw_ex 33 (.agg #[.int .i64 0, .slice none 0 0, .slice none 0 0]) rfl rfl rfl (fun a h => (run_buildOp (vs := #[]) (by simp) (by kernel_rfl))) ?_
            refine fw_st r38 rfl rfl ?_
            intro W44 s45 r46
            have b47 := below_chg b35 s45 (by omega) b35.size
            have r48 := r36.chg s45 (by omega)
            have r49 := r37.chg s45 (by omega)
            have f50 := (Owns.chg f39 s45 (by simp))
            iterate 2 refine fw_pu rfl ?_
            refine fw_dt ?_
            refine fw_rt ?_
            refine fw_tr ?_
            refine ⟨fun a h => ?_⟩
            have hE : offE o m up = 5 := by unfold offE; simp [ck_t hb_32, hb_40, hb_41, hb_42, hb_43]
            have hz0 : some (o0, ([] : List EPk)) = some (z, ps) := by rw [← hz]; unfold offO; rw [hE, if_neg (by decide)]
            exact ow_retCell2 rfl h.df (h.g 6 rfl) (run_loadVar_mid _ _ 0 _ [.int .i64 0, .slice none 0 0, .slice none 0 0] _ (r46.range 0 _ (fun j v hj => by rw [Nat.zero_add j]; exact hj)) Try.underlying79 rfl (by kernel_rfl)) (h.g 7 rfl) (h.g 8 rfl) (hE.symm ▸ ResO.bad (hz0) b47)
          refine fw_cF rfl hb_43 ?_
          refine fw_sk ?_
          refine fw_th ?_
          refine fw_sq ?_
          have hle := check_le (ck_t hb_32)
          refine fw_rg rfl ?_
          refine fw_ld r36 rfl rfl ?_
          refine fw_ca Try.func88 rfl rfl rfl ((obTwin o af aq _ _ cf cq V34 (hF.below b35) (hQ.below b35) hlf hlq)) ?_
          rintro _ V51 ⟨af52, cf52, aq52, cq52, rfl, ho52, hb52⟩
          refine ⟨_, rfl, ?_⟩
          have hlt52_q1 := r36.2.2
          have hlt52_q8 := r37.2.2
          have hlt52_q16 := r38.2.2
          have hoH52 : Owns V34.heap.size (q1 :: q8 :: q16 :: []) ((orF (.slice af52 o.fl.length cf52) o.fl) :: (orM (.slice aq52 o.qu.length cq52) o.qu) :: []) V51 := Owns.outH ho52 (fun j hj => by simp only [List.mem_cons, List.not_mem_nil, or_false] at hj; rcases hj with rfl | rfl | rfl <;> assumption) hb52.size
          have hoM52 : Owns w.heap.size (q1 :: q8 :: q16 :: []) ((orF (.slice af52 o.fl.length cf52) o.fl) :: (orM (.slice aq52 o.qu.length cq52) o.qu) :: []) V51 := Owns.mono hoH52 b35.size
          have b53 := b35.trans (hb52.mono b35.size)
          have r54 := r36.below hb52
          have r55 := r37.below hb52
          have r56 := r38.below hb52
          refine fw_st r54 rfl rfl ?_
          intro W57 s58 r59
          have b60 := below_chg b53 s58 (by omega) b53.size
          have r61 := r55.chg s58 (by omega)
          have r62 := r56.chg s58 (by omega)
          have f63 := (Owns.chg hoM52 s58 (by simp))
          refine fw_dt ?_
          refine fw_sq ?_
          refine fw_rg rfl ?_
          refine fw_pu rfl ?_
          refine fw_ld r59 rfl rfl ?_
          refine fw_ld r61 rfl rfl ?_
          refine fw_al (t := 88) (u := fun q => .slice (some ⟨q, 0, none⟩) 1 1) 39 (rowMsg m) rfl rfl rfl (fun a h => (bsMs m _ (h.ev rfl))) ?_
          intro q64 W65 g68 s66 r67
          have := Nat.le_trans b60.size g68
          have := r59.lt g68
          have := r61.lt g68
          have := r62.lt g68
          have b69 := b60.trans (s66.mono b60.size)
          have r70 := r59.below s66
          have r71 := r61.below s66
          have r72 := r62.below s66
          have f73 := (Owns.hold f63 s66 g68 r67.2.2)
          refine fw_to 40 rfl rfl rfl (fun a h => (Ms_app _ _ rfl (h.ev rfl) (Owns.get f73 (i := 1) rfl) (h.ev rfl) r67 (by omega) b69.size)) ?_
          rintro vx75 V74 ⟨hgr75, hog75⟩
          obtain ⟨ax75, cx75, rfl⟩ := own_slice hog75
          have hnq76 := Owns.notHeld f73 (i := 1) rfl
          have how76 := Owns.get f73 (i := 1) rfl
          have rN77 := rowAt_keep r70 hgr75.1 (fun e => hnq76 _ e.symm (by simp))
          have rN78 := rowAt_keep r71 hgr75.1 (fun e => hnq76 _ e.symm (by simp))
          have rN79 := rowAt_keep r72 hgr75.1 (fun e => hnq76 _ e.symm (by simp))
          have hoN76 : Owns w.heap.size (q64 :: q1 :: q8 :: q16 :: []) ((orF (.slice af52 o.fl.length cf52) o.fl) :: (orM (.slice ax75 (o.qu ++ [m]).length cx75) (o.qu ++ [m])) :: []) V74 := Owns.upd (r' := (orM (.slice ax75 (o.qu ++ [m]).length cx75) (o.qu ++ [m]))) f73 1 rfl hgr75 hog75
          have b80 := (b69.trans (grew_low hgr75 (Nat.le_trans (Nat.le_refl _) b69.size) (fun k hk => (blk_lt how76 hk).1)))
          refine fw_pu rfl ?_
          refine fw_st rN77 rfl rfl ?_
          intro W81 s82 r83
          have b84 := below_chg b80 s82 (by omega) b80.size
          have r85 := rN78.chg s82 (by omega)
          have r86 := rN79.chg s82 (by omega)
          have f87 := (Owns.chg hoN76 s82 (by simp))
          refine fw_dt ?_
          refine fw_sq ?_
          refine fw_rg rfl ?_
          refine fw_pu rfl ?_
          refine fw_dt ?_
          refine fw_sq ?_
          refine fw_sq ?_
          refine fw_rg rfl ?_
          refine fw_pu rfl ?_
          refine fw_dt ?_
          refine fw_cT rfl hb_42 ?_
          have hEo : offE o m up = 0 := by unfold offE; simp [ck_t hb_32, hb_40, hb_41, hb_42, hb_43]
          have hzf : fillO 4 ⟨o.last, o.fl, o.qu ++ [m]⟩ = some (z, ps) := by rw [← hz]; unfold offO; rw [hEo, if_pos rfl, hb_42]; rfl
          refine fw_rg rfl ?_
          have hoS89 := Owns.subH (H := q1 :: [q8, q16]) f87 (fun k hk => by simp only [List.mem_cons, List.not_mem_nil, or_false] at hk ⊢; rcases hk with rfl | rfl | rfl <;> simp)
          have hqk89 : q1 ∉ [q8, q16] := by simp only [List.mem_cons, List.not_mem_nil, or_false, not_or]; exact ⟨(by omega), (by omega)⟩
          have hBq89 : w.heap.size ≤ q1 := by omega
          refine fw_ca Try.func89 rfl rfl rfl ((obFill (o := ⟨o.last, o.fl, o.qu ++ [m]⟩) hzf (by exact hle.1) (by simp; omega) r83 hoS89 hqk89 hBq89)) ?_
          rintro _ V88 ⟨af89, cf89, aq89, cq89, ap89, cp89, rfl, hr89, ho89, hK89, hB89⟩
          refine ⟨_, rfl, ?_⟩
          have rK90 := hr89
          have rK91 := Kz.row hK89 (by simp) r85
          have rK92 := Kz.row hK89 (by simp) r86
          have b93 := b84.trans hB89
          have hoF89 : Owns w.heap.size (q1 :: q8 :: q16 :: []) ((orF (.slice af89 z.fl.length cf89) z.fl) :: (orM (.slice aq89 z.qu.length cq89) z.qu) :: (orP (.slice ap89 ps.length cp89) ps) :: []) V88 := ho89
          refine fw_pu rfl ?_
          refine fw_dt ?_
          refine fw_sq ?_
          refine fw_rg rfl ?_
          refine fw_ld rK90 rfl rfl ?_
          refine fw_pu rfl ?_
          refine fw_st rK92 rfl rfl ?_
          intro W94 s95 r96
          have b97 := below_chg b93 s95 (by omega) b93.size
          have r98 := rK90.chg s95 (by omega)
          have r99 := rK91.chg s95 (by omega)
          have f100 := (Owns.chg hoF89 s95 (by simp))
          iterate 2 refine fw_pu rfl ?_
          refine fw_dt ?_
          refine fw_rt ?_
          refine ⟨fun a h => ?_⟩
          have hE : offE o m up = 0 := by unfold offE; simp [ck_t hb_32, hb_40, hb_41, hb_42, hb_43]
          exact ow_retCell2 rfl h.df (h.g 6 rfl) (run_loadVar_mid _ _ 0 _ [.int .i64 z.last, .slice af89 z.fl.length cf89, .slice aq89 z.qu.length cq89] _ (r96.range 0 _ (fun j v hj => by rw [Nat.zero_add j]; exact hj)) Try.underlying79 rfl (by kernel_rfl)) (h.g 7 rfl) (h.g 8 rfl) (hE.symm ▸ ⟨af89, cf89, aq89, cq89, ap89, cp89, rfl, (Owns.subH (H := []) f100 (fun k hk => nomatch hk)), b97⟩)
        refine fw_kn 26 rfl (not_of hb_42) ?_
        iterate 6 refine fw_pu rfl ?_
        refine fw_dt ?_
        refine fw_cT rfl rfl ?_
        refine fw_sq ?_
        refine fw_rg rfl ?_
        refine fw_ex 33 (.agg #[.int .i64 0, .slice none 0 0, .slice none 0 0]) rfl rfl rfl (fun a h => (run_buildOp (vs := #[]) (by simp) (by kernel_rfl))) ?_
        refine fw_st r38 rfl rfl ?_
        intro W101 s102 r103
        have b104 := below_chg b35 s102 (by omega) b35.size
        have r105 := r36.chg s102 (by omega)
        have r106 := r37.chg s102 (by omega)
        have f107 := (Owns.chg f39 s102 (by simp))
        iterate 2 refine fw_pu rfl ?_
        refine fw_dt ?_
        refine fw_rt ?_
        refine fw_tr ?_
        refine ⟨fun a h => ?_⟩
        have hE : offE o m up = 5 := by unfold offE; simp [ck_t hb_32, hb_40, hb_41, hb_42]
        have hz0 : some (o0, ([] : List EPk)) = some (z, ps) := by rw [← hz]; unfold offO; rw [hE, if_neg (by decide)]
        exact ow_retCell2 rfl h.df (h.g 6 rfl) (run_loadVar_mid _ _ 0 _ [.int .i64 0, .slice none 0 0, .slice none 0 0] _ (r103.range 0 _ (fun j v hj => by rw [Nat.zero_add j]; exact hj)) Try.underlying79 rfl (by kernel_rfl)) (h.g 7 rfl) (h.g 8 rfl) (hE.symm ▸ ResO.bad (hz0) b104)
      refine fw_kn 23 rfl hb_41 ?_
      iterate 9 refine fw_pu rfl ?_
      refine fw_dt ?_
      refine fw_cF rfl rfl ?_
      refine fw_sk ?_
      refine fw_th ?_
      refine fw_sq ?_
      have hle := check_le (ck_t hb_32)
      refine fw_rg rfl ?_
      refine fw_ld r36 rfl rfl ?_
      refine fw_ca Try.func88 rfl rfl rfl ((obTwin o af aq _ _ cf cq V34 (hF.below b35) (hQ.below b35) hlf hlq)) ?_
      rintro _ V108 ⟨af109, cf109, aq109, cq109, rfl, ho109, hb109⟩
      refine ⟨_, rfl, ?_⟩
      have hlt109_q1 := r36.2.2
      have hlt109_q8 := r37.2.2
      have hlt109_q16 := r38.2.2
      have hoH109 : Owns V34.heap.size (q1 :: q8 :: q16 :: []) ((orF (.slice af109 o.fl.length cf109) o.fl) :: (orM (.slice aq109 o.qu.length cq109) o.qu) :: []) V108 := Owns.outH ho109 (fun j hj => by simp only [List.mem_cons, List.not_mem_nil, or_false] at hj; rcases hj with rfl | rfl | rfl <;> assumption) hb109.size
      have hoM109 : Owns w.heap.size (q1 :: q8 :: q16 :: []) ((orF (.slice af109 o.fl.length cf109) o.fl) :: (orM (.slice aq109 o.qu.length cq109) o.qu) :: []) V108 := Owns.mono hoH109 b35.size
      have b110 := b35.trans (hb109.mono b35.size)
      have r111 := r36.below hb109
      have r112 := r37.below hb109
      have r113 := r38.below hb109
      refine fw_st r111 rfl rfl ?_
      intro W114 s115 r116
      have b117 := below_chg b110 s115 (by omega) b110.size
      have r118 := r112.chg s115 (by omega)
      have r119 := r113.chg s115 (by omega)
      have f120 := (Owns.chg hoM109 s115 (by simp))
      refine fw_dt ?_
      refine fw_sq ?_
      refine fw_rg rfl ?_
      refine fw_pu rfl ?_
      refine fw_ld r116 rfl rfl ?_
      refine fw_ld r118 rfl rfl ?_
      refine fw_al (t := 88) (u := fun q => .slice (some ⟨q, 0, none⟩) 1 1) 39 (rowMsg m) rfl rfl rfl (fun a h => (bsMs m _ (h.ev rfl))) ?_
      intro q121 W122 g125 s123 r124
      have := Nat.le_trans b117.size g125
      have := r116.lt g125
      have := r118.lt g125
      have := r119.lt g125
      have b126 := b117.trans (s123.mono b117.size)
      have r127 := r116.below s123
      have r128 := r118.below s123
      have r129 := r119.below s123
      have f130 := (Owns.hold f120 s123 g125 r124.2.2)
      refine fw_to 40 rfl rfl rfl (fun a h => (Ms_app _ _ rfl (h.ev rfl) (Owns.get f130 (i := 1) rfl) (h.ev rfl) r124 (by omega) b126.size)) ?_
      rintro vx132 V131 ⟨hgr132, hog132⟩
      obtain ⟨ax132, cx132, rfl⟩ := own_slice hog132
      have hnq133 := Owns.notHeld f130 (i := 1) rfl
      have how133 := Owns.get f130 (i := 1) rfl
      have rN134 := rowAt_keep r127 hgr132.1 (fun e => hnq133 _ e.symm (by simp))
      have rN135 := rowAt_keep r128 hgr132.1 (fun e => hnq133 _ e.symm (by simp))
      have rN136 := rowAt_keep r129 hgr132.1 (fun e => hnq133 _ e.symm (by simp))
      have hoN133 : Owns w.heap.size (q121 :: q1 :: q8 :: q16 :: []) ((orF (.slice af109 o.fl.length cf109) o.fl) :: (orM (.slice ax132 (o.qu ++ [m]).length cx132) (o.qu ++ [m])) :: []) V131 := Owns.upd (r' := (orM (.slice ax132 (o.qu ++ [m]).length cx132) (o.qu ++ [m]))) f130 1 rfl hgr132 hog132
      have b137 := (b126.trans (grew_low hgr132 (Nat.le_trans (Nat.le_refl _) b126.size) (fun k hk => (blk_lt how133 hk).1)))
      refine fw_pu rfl ?_
      refine fw_st rN134 rfl rfl ?_
      intro W138 s139 r140
      have b141 := below_chg b137 s139 (by omega) b137.size
      have r142 := rN135.chg s139 (by omega)
      have r143 := rN136.chg s139 (by omega)
      have f144 := (Owns.chg hoN133 s139 (by simp))
      refine fw_dt ?_
      refine fw_sq ?_
      refine fw_rg rfl ?_
      refine fw_pu rfl ?_
      refine fw_dt ?_
      refine fw_sq ?_
      refine fw_sq ?_
      refine fw_rg rfl ?_
      refine fw_pu rfl ?_
      refine fw_dt ?_
      rcases Bool.eq_false_or_eq_true (up) with hb_145 | hb_145
      · skip
        refine fw_cT rfl hb_145 ?_
        have hEo : offE o m up = 0 := by unfold offE; simp [ck_t hb_32, hb_40, hb_41, hb_145]
        have hzf : fillO 4 ⟨o.last, o.fl, o.qu ++ [m]⟩ = some (z, ps) := by rw [← hz]; unfold offO; rw [hEo, if_pos rfl, hb_145]; rfl
        refine fw_rg rfl ?_
        have hoS147 := Owns.subH (H := q1 :: [q8, q16]) f144 (fun k hk => by simp only [List.mem_cons, List.not_mem_nil, or_false] at hk ⊢; rcases hk with rfl | rfl | rfl <;> simp)
        have hqk147 : q1 ∉ [q8, q16] := by simp only [List.mem_cons, List.not_mem_nil, or_false, not_or]; exact ⟨(by omega), (by omega)⟩
        have hBq147 : w.heap.size ≤ q1 := by omega
        refine fw_ca Try.func89 rfl rfl rfl ((obFill (o := ⟨o.last, o.fl, o.qu ++ [m]⟩) hzf (by exact hle.1) (by simp; omega) r140 hoS147 hqk147 hBq147)) ?_
        rintro _ V146 ⟨af147, cf147, aq147, cq147, ap147, cp147, rfl, hr147, ho147, hK147, hB147⟩
        refine ⟨_, rfl, ?_⟩
        have rK148 := hr147
        have rK149 := Kz.row hK147 (by simp) r142
        have rK150 := Kz.row hK147 (by simp) r143
        have b151 := b141.trans hB147
        have hoF147 : Owns w.heap.size (q1 :: q8 :: q16 :: []) ((orF (.slice af147 z.fl.length cf147) z.fl) :: (orM (.slice aq147 z.qu.length cq147) z.qu) :: (orP (.slice ap147 ps.length cp147) ps) :: []) V146 := ho147
        refine fw_pu rfl ?_
        refine fw_dt ?_
        refine fw_sq ?_
        refine fw_rg rfl ?_
        refine fw_ld rK148 rfl rfl ?_
        refine fw_pu rfl ?_
        refine fw_st rK150 rfl rfl ?_
        intro W152 s153 r154
        have b155 := below_chg b151 s153 (by omega) b151.size
        have r156 := rK148.chg s153 (by omega)
        have r157 := rK149.chg s153 (by omega)
        have f158 := (Owns.chg hoF147 s153 (by simp))
        iterate 2 refine fw_pu rfl ?_
        refine fw_dt ?_
        refine fw_rt ?_
        refine ⟨fun a h => ?_⟩
        have hE : offE o m up = 0 := by unfold offE; simp [ck_t hb_32, hb_40, hb_41, hb_145]
        exact ow_retCell2 rfl h.df (h.g 6 rfl) (run_loadVar_mid _ _ 0 _ [.int .i64 z.last, .slice af147 z.fl.length cf147, .slice aq147 z.qu.length cq147] _ (r154.range 0 _ (fun j v hj => by rw [Nat.zero_add j]; exact hj)) Try.underlying79 rfl (by kernel_rfl)) (h.g 7 rfl) (h.g 8 rfl) (hE.symm ▸ ⟨af147, cf147, aq147, cq147, ap147, cp147, rfl, (Owns.subH (H := []) f158 (fun k hk => nomatch hk)), b155⟩)
      refine fw_cF rfl hb_145 ?_
      refine fw_sk ?_
      refine fw_th ?_
      refine fw_sq ?_
      refine fw_rg rfl ?_
      refine fw_ld r140 rfl rfl ?_
      refine fw_pu rfl ?_
      refine fw_st r143 rfl rfl ?_
      intro W159 s160 r161
      have b162 := below_chg b141 s160 (by omega) b141.size
      have r163 := r140.chg s160 (by omega)
      have r164 := r142.chg s160 (by omega)
      have f165 := (Owns.chg f144 s160 (by simp))
      iterate 2 refine fw_pu rfl ?_
      refine fw_dt ?_
      refine fw_rt ?_
      refine ⟨fun a h => ?_⟩
      have hE : offE o m up = 0 := by unfold offE; simp [ck_t hb_32, hb_40, hb_41, hb_145]
      have hz0 : some ((⟨o.last, o.fl, o.qu ++ [m]⟩ : EO), ([] : List EPk)) = some (z, ps) := by rw [← hz]; unfold offO; rw [hE, if_pos rfl, hb_145]; rfl
      simp only [Option.some.injEq, Prod.mk.injEq] at hz0
      obtain ⟨rfl, rfl⟩ := hz0
      exact ow_retCell2 rfl h.df (h.g 6 rfl) (run_loadVar_mid _ _ 0 _ [.int .i64 o.last, .slice af109 o.fl.length cf109, .slice ax132 (o.qu ++ [m]).length cx132] _ (r161.range 0 _ (fun j v hj => by rw [Nat.zero_add j]; exact hj)) Try.underlying79 rfl (by kernel_rfl)) (h.g 7 rfl) (h.g 8 rfl) (hE.symm ▸ ⟨af109, cf109, ax132, cx132, none, 0, rfl, (Owns.cons (orP (.slice none 0 0) []) (Owns.subH (H := []) f165 (fun k hk => nomatch hk)) rfl (PkOwn.nil _ _) 2), b162⟩)
    refine fw_cT rfl (not_of hb_40) ?_
    refine fw_sq ?_
    refine fw_rg rfl ?_
    refine fw_ex 18 (.agg #[.int .i64 0, .slice none 0 0, .slice none 0 0]) rfl rfl rfl (fun a h => (run_buildOp (vs := #[]) (by simp) (by kernel_rfl))) ?_
    refine fw_st r38 rfl rfl ?_
    intro W166 s167 r168
    have b169 := below_chg b35 s167 (by omega) b35.size
    have r170 := r36.chg s167 (by omega)
    have r171 := r37.chg s167 (by omega)
    have f172 := (Owns.chg f39 s167 (by simp))
    iterate 2 refine fw_pu rfl ?_
    refine fw_dt ?_
    refine fw_rt ?_
    refine fw_tr ?_
    refine ⟨fun a h => ?_⟩
    have hE : offE o m up = 1 := by unfold offE; simp [ck_t hb_32, hb_40]
    have hz0 : some (o0, ([] : List EPk)) = some (z, ps) := by rw [← hz]; unfold offO; rw [hE, if_neg (by decide)]
    exact ow_retCell2 rfl h.df (h.g 6 rfl) (run_loadVar_mid _ _ 0 _ [.int .i64 0, .slice none 0 0, .slice none 0 0] _ (r168.range 0 _ (fun j v hj => by rw [Nat.zero_add j]; exact hj)) Try.underlying79 rfl (by kernel_rfl)) (h.g 7 rfl) (h.g 8 rfl) (hE.symm ▸ ResO.bad (hz0) b169)
  refine fw_kn 13 rfl (not_of hb_32) ?_
  iterate 4 refine fw_pu rfl ?_
  refine fw_dt ?_
  refine fw_cT rfl rfl ?_
  refine fw_sq ?_
  refine fw_rg rfl ?_
  refine fw_ex 18 (.agg #[.int .i64 0, .slice none 0 0, .slice none 0 0]) rfl rfl rfl (fun a h => (run_buildOp (vs := #[]) (by simp) (by kernel_rfl))) ?_
  refine fw_st r30 rfl rfl ?_
  intro W173 s174 r175
  have b176 := below_chg b27 s174 (by omega) b27.size
  have r177 := r28.chg s174 (by omega)
  have r178 := r29.chg s174 (by omega)
  have f179 := (Owns.chg f31 s174 (by simp))
  iterate 2 refine fw_pu rfl ?_
  refine fw_dt ?_
  refine fw_rt ?_
  refine fw_tr ?_
  refine ⟨fun a h => ?_⟩
  have hE : offE o m up = 1 := by unfold offE; simp [ck_f hb_32]
  have hz0 : some (o0, ([] : List EPk)) = some (z, ps) := by rw [← hz]; unfold offO; rw [hE, if_neg (by decide)]
  exact ow_retCell2 rfl h.df (h.g 6 rfl) (run_loadVar_mid _ _ 0 _ [.int .i64 0, .slice none 0 0, .slice none 0 0] _ (r175.range 0 _ (fun j v hj => by rw [Nat.zero_add j]; exact hj)) Try.underlying79 rfl (by kernel_rfl)) (h.g 7 rfl) (h.g 8 rfl) (hE.symm ▸ ResO.bad (hz0) b176)
end Go.Proofs.Ytcglmkcefenjcaa
