/-
  An outbox: a message of QoS 2 was received.
-/
import Derived.Test.YtcglmkcefenjcaaObH
namespace Go.Proofs.Ytcglmkcefenjcaa
open Go.RowKit Go.Lib
theorem obRowD {W : World} {B t sz g n cap : Nat} {xs : List Value} (h : W.ownsRow B t sz (.slice (some ⟨g, 0, none⟩) n cap) n xs) : RowAt W g xs := by
  rcases h.2 with ⟨h1, -⟩ | ⟨g', cap', cur, e, -, hh, h1, h2, h3, h4⟩
  · cases h1
  · injection e with e; injection e with e; injection e with e e2
    subst e
    refine ⟨fun j v hj => ?_, fun j => ?_, ?_⟩
    · rw [← h4, List.getElem?_take] at hj
      split at hj
      · simp [World.cell?, hh]
        simpa using hj
      · cases hj
    · simp [World.frozen?, hh]
    · rcases Nat.lt_or_ge g W.heap.size with h | h
      · exact h
      · rw [Array.getElem?_eq_none h] at hh; simp at hh
theorem obPtr {W : World} {B t sz n cap : Nat} {a : Option Addr} {xs : List Value} (h : W.ownsRow B t sz (.slice a n cap) n xs) (hn : 0 < n) : ∃ g, a = some ⟨g, 0, none⟩ := by
  rcases h.2 with ⟨-, h2⟩ | ⟨g, cap', cur, e, -⟩
  · omega
  · injection e with e; exact ⟨g, e⟩
section
variable {P : Program} {ops : Array Oper} {Q : Exit → Act → World → Prop} {n q j : Nat} {L : Kn} {o : Oper} {l : List Oper} {W : World}
theorem obSo {T : List TE} [hTk : TOk P T] {B e sz m cap : Nat} {u : Value} {xs : List Value} (r : W.ownsRow B e sz (.slice (some ⟨q, 0, none⟩) m cap) m xs) (hs : storeC T ops L o = some (q, j, [u])) (hj : j < xs.length) (h1 : u.oneCell' = true)
    (k : ∀ W', W.grownBy W' (some q) → W'.ownsRow B e sz (.slice (some ⟨q, 0, none⟩) m cap) m (xs.set j u) → Fr n L (WL P ops Q l) W') : Fr n L (WL P ops Q (o :: l)) W :=
  ⟨fun a h => by
    obtain ⟨h4, h2, h3⟩ := storeC_run hTk.ok h hs (obRowD r) (by unfold stB; rw [Bool.and_eq_true]; exact ⟨Nat.ble_eq_true_of_le (by simp only [List.length_cons, List.length_nil]; omega), by simp [h1]⟩)
    exact owl_skip (wantL_sound h h3) _ h2 h4 ((k _ (gr_sets q [u] j W) (r.stored j u).1).out _ h)⟩
end
theorem idxFl0 (b n cap i : Nat) (hi : i < n) (w : World) : (Instr.indexAt 76 (.slice (some ⟨b, 0, none⟩) n cap) (.int .i64 (i : Int))).run Try.prog w = .ok (.pointer (some ⟨b, i * 6, none⟩)) w := by
  have h := idxFl b 0 n cap i hi w
  rw [Nat.zero_add] at h
  exact h
theorem obFull (w : World) (B sz n : Nat) (T : TypeId) (cs : List Value) (hb : B ≤ w.heap.size) (hm : n ≤ maxLen) (hs : cs.length = n * sz) : (w.alloc (.cells cs.toArray T)).ownsRow B T sz (.slice (some ⟨w.heap.size, 0, none⟩) n n) n cs :=
  ⟨hs, .inr ⟨w.heap.size, n, cs.toArray, rfl, hb, heap_alloc_new w _, Nat.le_refl _, hm, by simp [hs], by rw [← hs]; simp⟩⟩
theorem bs1Pk {a : Act} {w : World} {d : Option Tmp} {ty : TypeId} {pos : String} {af : Array Edge} {gd : Option (Nat × Bool)} {x : Operand} (f : EPk) (hx : a.eval x = .agg (rowPk f).toArray) :
    opTo Try.prog ⟨d, .buildSlice 86 1 #[(0, x)], ty, pos, af, gd⟩ a w fun v w' => ∃ q, v = .slice (some ⟨q, 0, none⟩) 1 1 ∧ PkOwn w' w.heap.size (.slice (some ⟨q, 0, none⟩) 1 1) [f] ∧ Below w.heap.size w w' :=
  .inl ⟨_, _, bsPk f w hx, _, rfl, by unfold PkOwn; rw [show ([f].map rowPk).flatten = rowPk f by simp]; exact obFull w _ 24 1 _ (rowPk f) (Nat.le_refl _) (by unfold maxLen; decide) rfl, (Below.refl _ _).alloc (Nat.le_refl _) _⟩
def setRc (f : EFl) : EFl := { f with rc := true }
def rcE (o : EO) (id : Int) : Int := if !checkO o then 1 else if findO o.fl id < 0 then 3 else match o.fl[(findO o.fl id).toNat]? with | some f => if f.m.q == 2 then 0 else 3 | none => 3
def rcO (o : EO) (id : Int) : Option (EO × List EPk) := if rcE o id = 0 then some (⟨o.last, o.fl.modify (findO o.fl id).toNat setRc, o.qu⟩, [relP id]) else some (o0, [])
theorem rc_flat : ∀ {L : List EFl} {i : Nat} {x : EFl}, L[i]? = some x → ((L.map rowFl).flatten).set (i * 6 + 5) (.bool true) = ((L.modify i setRc).map rowFl).flatten
  | f :: r, 0, x, _ => by simp [setRc]
  | f :: r, i + 1, x, h => by
    have h1 := rc_flat (L := r) (i := i) (x := x) (by simpa using h)
    rw [List.modify_succ_cons, List.map_cons, List.map_cons, List.flatten_cons, List.flatten_cons, ← h1, List.set_append_right _ _ (by simp; omega)]
    congr 2
    simp; omega
set_option maxRecDepth 100000 in
set_option maxHeartbeats 4000000 in
theorem obRec (o : EO) (af aq : Option Addr) (nf nq cf cq : Nat) (id : Int) (z : EO) (ps : List EPk) (w : World) (hF : SlR w 6 (.slice af nf cf) (o.fl.map rowFl)) (hQ : SlR w 4 (.slice aq nq cq) (o.qu.map rowMsg)) (hlf : o.fl.length ≤ 100000) (hlq : o.qu.length ≤ 100000) (hz : rcO o id = some (z, ps)) :
    Calls Try.prog 59 #[.agg #[.int .i64 o.last, .slice af nf cf, .slice aq nq cq], .int .i64 id] w fun e w' => ResO w z ps (rcE o id) e w' := by
  obtain rfl : nf = o.fl.length := by have := slR_len hF; simpa using this
  obtain rfl : nq = o.qu.length := by have := slR_len hQ; simpa using this
  have ho : Owns w.heap.size [] [] w := Owns.nil (fun k hk => nomatch hk)
  have hb0 := Below.refl w.heap.size w
  refine fw_en 40 [(0, .agg #[.int .i64 o.last, .slice af o.fl.length cf, .slice aq o.qu.length cq]), (1, .int .i64 id)] Try.func59 rfl Try.ntmps59 rfl ⟨rfl, rfl, trivial⟩ ?_
  refine fw_sq ?_
  refine fw_rg rfl ?_
  refine fw_bx rfl (cs := [.int .i64 o.last, .slice af o.fl.length cf, .slice aq o.qu.length cq]) rfl ?_
  intro q1 W2 g5 s3 r4
  have := Nat.le_trans hb0.size g5
  have b6 := hb0.trans (s3.mono hb0.size)
  have f7 := (Owns.hold ho s3 g5 r4.2.2)
  refine fw_al (t := 79) (u := fun q => .pointer (some ⟨q, 0, none⟩)) 4 [.int .i64 0, .slice none 0 0, .slice none 0 0] rfl rfl rfl (fun a h => (run_allocOp (by simp [go_sem, Instr.alloc]))) ?_
  intro q8 W9 g12 s10 r11
  have := Nat.le_trans b6.size g12
  have := r4.lt g12
  have b13 := b6.trans (s10.mono b6.size)
  have r14 := r4.below s10
  have f15 := (Owns.hold f7 s10 g12 r11.2.2)
  iterate 2 refine fw_pu rfl ?_
  refine fw_dt ?_
  refine fw_sq ?_
  refine fw_sq ?_
  refine fw_rg rfl ?_
  refine fw_ld r14 rfl rfl ?_
  refine fw_ca Try.func86 rfl rfl rfl ((check_any o af aq _ _ cf cq W9 (hF.below b13) (hQ.below b13) hlf hlq)) ?_
  rintro _ V17 ⟨rfl, hb16⟩
  refine ⟨(.int .i64 (ckI o)), rfl, ?_⟩
  have b18 := b13.trans (hb16.mono b13.size)
  have r19 := r14.below hb16
  have r20 := r11.below hb16
  have f21 := (Owns.below f15 hb16)
  refine fw_pu rfl ?_
  refine fw_dt ?_
  rcases Bool.eq_false_or_eq_true (((ckI o) == 0)) with hb_22 | hb_22
  · skip
    refine fw_cF rfl (not_of hb_22) ?_
    refine fw_sk ?_
    refine fw_th ?_
    refine fw_sq ?_
    refine fw_rg rfl ?_
    refine fw_pu rfl ?_
    refine fw_ld r19 rfl rfl ?_
    refine fw_pu rfl ?_
    refine fw_ca Try.func95 rfl rfl rfl ((find_any o.fl af _ cf id V17 (hF.below b18) (by omega))) ?_
    rintro _ V24 ⟨rfl, hb23⟩
    refine ⟨(.int .i64 (findO o.fl id)), rfl, ?_⟩
    have b25 := b18.trans (hb23.mono b18.size)
    have r26 := r19.below hb23
    have r27 := r20.below hb23
    have f28 := (Owns.below f21 hb23)
    refine fw_pu rfl ?_
    refine fw_dt ?_
    refine fw_sq ?_
    refine fw_sq ?_
    refine fw_rg rfl ?_
    iterate 3 refine fw_pu rfl ?_
    rcases Bool.eq_false_or_eq_true ((decide ((findO o.fl id) < 0))) with hb_29 | hb_29
    · skip
      refine fw_kn 18 rfl hb_29 ?_
      iterate 9 refine fw_pu rfl ?_
      refine fw_dt ?_
      refine fw_cT rfl rfl ?_
      refine fw_sq ?_
      refine fw_rg rfl ?_
      refine fw_ex 28 (.agg #[.int .i64 0, .slice none 0 0, .slice none 0 0]) rfl rfl rfl (fun a h => (run_buildOp (vs := #[]) (by simp) (by kernel_rfl))) ?_
      refine fw_st r27 rfl rfl ?_
      intro W30 s31 r32
      have b33 := below_chg b25 s31 (by omega) b25.size
      have r34 := r26.chg s31 (by omega)
      have f35 := (Owns.chg f28 s31 (by simp))
      iterate 2 refine fw_pu rfl ?_
      refine fw_dt ?_
      refine fw_rt ?_
      refine fw_tr ?_
      refine ⟨fun a h => ?_⟩
      have hE : rcE o id = 3 := by unfold rcE; rw [ck_t hb_22]; exact if_pos (of_decide_eq_true hb_29)
      have hz0 : some (o0, ([] : List EPk)) = some (z, ps) := by rw [← hz]; unfold rcO; rw [hE, if_neg (by decide)]
      exact ow_retCell2 rfl h.df (h.g 4 rfl) (run_loadVar_mid _ _ 0 _ [.int .i64 0, .slice none 0 0, .slice none 0 0] _ (r32.range 0 _ (fun j v hj => by rw [Nat.zero_add j]; exact hj)) Try.underlying79 rfl (by kernel_rfl)) (h.g 5 rfl) (h.g 6 rfl) (hE.symm ▸ ResO.bad (hz0) b33)
    refine fw_kn 18 rfl hb_29 ?_
    refine fw_pu rfl ?_
    refine fw_ld r26 rfl rfl ?_
    refine fw_pu rfl ?_
    obtain ⟨i, x0, hfi, hx0⟩ := fnd_some (show 0 ≤ (findO o.fl id) by have h := of_decide_eq_false hb_29; omega)
    obtain ⟨bF, oF, rfl, hbF, hcF⟩ := slR_at hF (i := i) (q := rowFl x0) (by rw [List.getElem?_map, hx0]; rfl)
    have hiL := (List.getElem?_eq_some_iff.1 hx0).1
    rw [hfi]
    have hdi := hb_29
    rw [hfi] at hdi
    refine fw_ex 22 (.pointer (some ⟨bF, (oF + i * 6), none⟩)) rfl rfl rfl (fun a h => (run_indexOp (h.ev rfl) (h.ev rfl) (idxFl _ _ _ _ _ hiL _))) ?_
    iterate 2 refine fw_pu rfl ?_
    refine fw_ex 25 (.int .i64 x0.m.q) rfl rfl rfl (fun a h => (run_loadOp (h.ev rfl) (ldI1 ((Below.cell b25 (p := ⟨bF, oF + i * 6 + 3, none⟩) hbF).trans (hcF 3 _ rfl))))) ?_
    iterate 2 refine fw_pu rfl ?_
    refine fw_dt ?_
    rcases Bool.eq_false_or_eq_true ((x0.m.q == 2)) with hb_36 | hb_36
    · skip
      refine fw_cF rfl (not_of hb_36) ?_
      refine fw_sk ?_
      refine fw_th ?_
      refine fw_sq ?_
      have hle := check_le (ck_t hb_22)
      refine fw_rg rfl ?_
      refine fw_ld r26 rfl rfl ?_
      refine fw_ca Try.func88 rfl rfl rfl ((obTwin o (some ⟨bF, oF, none⟩) aq _ _ cf cq V24 (hF.below b25) (hQ.below b25) hlf hlq)) ?_
      rintro _ V37 ⟨af38, cf38, aq38, cq38, rfl, ho38, hb38⟩
      refine ⟨_, rfl, ?_⟩
      have hlt38_q1 := r26.2.2
      have hlt38_q8 := r27.2.2
      have hoH38 : Owns V24.heap.size (q1 :: q8 :: []) ((orF (.slice af38 o.fl.length cf38) o.fl) :: (orM (.slice aq38 o.qu.length cq38) o.qu) :: []) V37 := Owns.outH ho38 (fun j hj => by simp only [List.mem_cons, List.not_mem_nil, or_false] at hj; rcases hj with rfl | rfl <;> assumption) hb38.size
      have hoM38 : Owns w.heap.size (q1 :: q8 :: []) ((orF (.slice af38 o.fl.length cf38) o.fl) :: (orM (.slice aq38 o.qu.length cq38) o.qu) :: []) V37 := Owns.mono hoH38 b25.size
      have b39 := b25.trans (hb38.mono b25.size)
      have r40 := r26.below hb38
      have r41 := r27.below hb38
      refine fw_st r40 rfl rfl ?_
      intro W42 s43 r44
      have b45 := below_chg b39 s43 (by omega) b39.size
      have r46 := r41.chg s43 (by omega)
      have f47 := (Owns.chg hoM38 s43 (by simp))
      refine fw_dt ?_
      refine fw_sq ?_
      refine fw_rg rfl ?_
      refine fw_pu rfl ?_
      refine fw_ld r44 rfl rfl ?_
      refine fw_pu rfl ?_
      obtain ⟨gF, hgF⟩ := obPtr (Owns.get f47 (i := 0) rfl) (show 0 < o.fl.length by omega)
      subst hgF
      refine fw_ex 34 (.pointer (some ⟨gF, (i * 6), none⟩)) rfl rfl rfl (fun a h => (run_indexOp (h.ev rfl) (h.ev rfl) (idxFl0 _ _ _ _ hiL _))) ?_
      refine fw_pu rfl ?_
      refine obSo (Owns.get f47 (i := 0) rfl) rfl (show i * 6 + 5 < ((o.fl.map rowFl).flatten).length by rw [flatten_len _ (Fl_n o.fl), List.length_map]; omega) rfl ?_
      intro W49 sS50 oS50
      rw [rc_flat hx0] at oS50
      have hnq50 := Owns.notHeld f47 (i := 0) rfl
      have rN51 := rowAt_keep r44 sS50 (fun e => hnq50 _ e.symm (by simp))
      have rN52 := rowAt_keep r46 sS50 (fun e => hnq50 _ e.symm (by simp))
      have hml50 : o.fl.length = (o.fl.modify i setRc).length := by rw [List.length_modify]
      have oT50 : FlOwn W49 w.heap.size (.slice (some ⟨gF, 0, none⟩) (o.fl.modify i setRc).length cf38) (o.fl.modify i setRc) := by unfold FlOwn; rw [← hml50]; exact oS50
      have hoS50 : Owns w.heap.size (q1 :: q8 :: []) ((orF (.slice (some ⟨gF, 0, none⟩) (o.fl.modify i setRc).length cf38) (o.fl.modify i setRc)) :: (orM (.slice aq38 o.qu.length cq38) o.qu) :: []) W49 := Owns.set (r' := (orF (.slice (some ⟨gF, 0, none⟩) (o.fl.modify i setRc).length cf38) (o.fl.modify i setRc))) f47 0 rfl sS50 oT50 (fun k hk => .inl hk)
      have how50 := Owns.get f47 (i := 0) rfl
      have b53 := below_grown b45 sS50 (fun k hk => (blk_lt how50 hk).1) b45.size
      have rM54 : RowAt W49 q1 [.int .i64 o.last, .slice (some ⟨gF, 0, none⟩) (o.fl.modify i setRc).length cf38, .slice aq38 o.qu.length cq38] := by first | exact rN51 | (rw [← hml50]; exact rN51)
      have rM55 : RowAt W49 q8 [.int .i64 0, .slice none 0 0, .slice none 0 0] := by first | exact rN52 | (rw [← hml50]; exact rN52)
      refine fw_dt ?_
      refine fw_sq ?_
      refine fw_hr (fun X => Below w.heap.size w X ∧ RowAt X q1 [.int .i64 o.last, .slice (some ⟨gF, 0, none⟩) (o.fl.modify i setRc).length cf38, .slice aq38 o.qu.length cq38]) (by kernel_rfl) 7 rfl ?_
      intro W56 s57
      have b58 := b53.trans (s57.mono b53.size)
      have r59 := rM54.below s57
      have r60 := rM55.below s57
      have f61 := (Owns.below hoS50 s57)
      refine ⟨⟨b58, r59⟩, ?_⟩
      refine fw_tl 0 (fun _ h => h.2) rfl rfl rfl (by kernel_rfl) (fun _ _ _ _ _ h => h) ?_
      refine fw_tk 1 rfl rfl (by kernel_rfl) (fun _ _ _ _ _ h => h) ?_
      refine fw_o1 2 (by kernel_rfl) ?_
      refine fw_oc rfl Try.func90 rfl rfl rfl ((release_any id W56)) ?_
      rintro _ V63 ⟨rfl, hb62⟩
      refine ⟨_, rfl, ?_⟩
      have b64 := b58.trans (hb62.mono b58.size)
      have r65 := r59.below hb62
      have r66 := r60.below hb62
      have f67 := (Owns.below f61 hb62)
      refine ⟨⟨b64, r65⟩, ?_⟩
      refine fw_o2 3 4 (by kernel_rfl) ?_ ?_
      · skip
        refine fw_ot rfl 39 rfl rfl rfl (fun a h => (bs1Pk (relP id) (h.ev rfl))) ?_
        rintro _ V69 ⟨qf68, rfl, hog68, hb68⟩
        have hoA70 : Owns w.heap.size (q1 :: q8 :: []) ((orF (.slice (some ⟨gF, 0, none⟩) (o.fl.modify i setRc).length cf38) (o.fl.modify i setRc)) :: (orM (.slice aq38 o.qu.length cq38) o.qu) :: (orP (.slice (some ⟨qf68, 0, none⟩) 1 1) [relP id]) :: []) V69 := Owns.add f67 hb68 hog68 b64.size
        have b71 := b64.trans (hb68.mono b64.size)
        have r72 := r65.below hb68
        have r73 := r66.below hb68
        refine ⟨⟨b71, r72⟩, ?_⟩
        refine fw_o1 4 (by kernel_rfl) ?_
        refine fw_os rfl r73 rfl rfl ?_
        intro W74 s75 r76
        have b77 := below_chg b71 s75 (by omega) b71.size
        have r78 := r72.chg s75 (by omega)
        have f79 := (Owns.chg hoA70 s75 (by simp))
        refine ⟨⟨b77, r78⟩, ?_⟩
        refine fw_tk 5 rfl rfl (by kernel_rfl) (fun _ _ _ _ _ h => h) ?_
        refine fw_tk 6 rfl rfl (by kernel_rfl) (fun _ _ _ _ _ h => h) ?_
        refine fw_ht (by kernel_rfl) ?_
        refine fw_rt ?_
        refine ⟨fun a h => ?_⟩
        have hE : rcE o id = 0 := by unfold rcE; rw [ck_t hb_22]; show (if findO o.fl id < 0 then (3 : Int) else _) = _; rw [hfi, if_neg (by omega), Int.toNat_natCast, hx0]; show (if (x0.m.q == 2) = true then (0 : Int) else 3) = _; rw [hb_36]; rfl
        have hz0 : some ((⟨o.last, o.fl.modify i setRc, o.qu⟩ : EO), [relP id]) = some (z, ps) := by rw [← hz]; unfold rcO; rw [hE, if_pos rfl, hfi, Int.toNat_natCast]
        simp only [Option.some.injEq, Prod.mk.injEq] at hz0
        obtain ⟨rfl, rfl⟩ := hz0
        exact ow_retCell2 rfl h.df (h.g 4 rfl) (run_loadVar_mid _ _ 0 _ [.int .i64 o.last, .slice (some ⟨gF, 0, none⟩) (o.fl.modify i setRc).length cf38, .slice aq38 o.qu.length cq38] _ (r76.range 0 _ (fun j v hj => by rw [Nat.zero_add j]; exact hj)) Try.underlying79 rfl (by kernel_rfl)) (h.g 5 rfl) (h.g 6 rfl) (hE.symm ▸ ⟨(some ⟨gF, 0, none⟩), cf38, aq38, cq38, (some ⟨qf68, 0, none⟩), 1, rfl, (Owns.subH (H := []) f79 (fun k hk => nomatch hk)), b77⟩)
      refine fw_os rfl r66 rfl rfl ?_
      intro W80 s81 r82
      have b83 := below_chg b64 s81 (by omega) b64.size
      have r84 := r65.chg s81 (by omega)
      have f85 := (Owns.chg f67 s81 (by simp))
      refine ⟨⟨b83, r84⟩, ?_⟩
      refine fw_o1 3 (by kernel_rfl) ?_
      refine fw_ot rfl 39 rfl rfl rfl (fun a h => (bs1Pk (relP id) (h.ev rfl))) ?_
      rintro _ V87 ⟨qf86, rfl, hog86, hb86⟩
      have hoA88 : Owns w.heap.size (q1 :: q8 :: []) ((orF (.slice (some ⟨gF, 0, none⟩) (o.fl.modify i setRc).length cf38) (o.fl.modify i setRc)) :: (orM (.slice aq38 o.qu.length cq38) o.qu) :: (orP (.slice (some ⟨qf86, 0, none⟩) 1 1) [relP id]) :: []) V87 := Owns.add f85 hb86 hog86 b83.size
      have b89 := b83.trans (hb86.mono b83.size)
      have r90 := r84.below hb86
      have r91 := r82.below hb86
      refine ⟨⟨b89, r90⟩, ?_⟩
      refine fw_tk 5 rfl rfl (by kernel_rfl) (fun _ _ _ _ _ h => h) ?_
      refine fw_tk 6 rfl rfl (by kernel_rfl) (fun _ _ _ _ _ h => h) ?_
      refine fw_ht (by kernel_rfl) ?_
      refine fw_rt ?_
      refine ⟨fun a h => ?_⟩
      have hE : rcE o id = 0 := by unfold rcE; rw [ck_t hb_22]; show (if findO o.fl id < 0 then (3 : Int) else _) = _; rw [hfi, if_neg (by omega), Int.toNat_natCast, hx0]; show (if (x0.m.q == 2) = true then (0 : Int) else 3) = _; rw [hb_36]; rfl
      have hz0 : some ((⟨o.last, o.fl.modify i setRc, o.qu⟩ : EO), [relP id]) = some (z, ps) := by rw [← hz]; unfold rcO; rw [hE, if_pos rfl, hfi, Int.toNat_natCast]
      simp only [Option.some.injEq, Prod.mk.injEq] at hz0
      obtain ⟨rfl, rfl⟩ := hz0
      exact ow_retCell2 rfl h.df (h.g 4 rfl) (run_loadVar_mid _ _ 0 _ [.int .i64 o.last, .slice (some ⟨gF, 0, none⟩) (o.fl.modify i setRc).length cf38, .slice aq38 o.qu.length cq38] _ (r91.range 0 _ (fun j v hj => by rw [Nat.zero_add j]; exact hj)) Try.underlying79 rfl (by kernel_rfl)) (h.g 5 rfl) (h.g 6 rfl) (hE.symm ▸ ⟨(some ⟨gF, 0, none⟩), cf38, aq38, cq38, (some ⟨qf86, 0, none⟩), 1, rfl, (Owns.subH (H := []) hoA88 (fun k hk => nomatch hk)), b89⟩)
    refine fw_cT rfl (not_of hb_36) ?_
    refine fw_sq ?_
    refine fw_rg rfl ?_
    refine fw_ex 28 (.agg #[.int .i64 0, .slice none 0 0, .slice none 0 0]) rfl rfl rfl (fun a h => (run_buildOp (vs := #[]) (by simp) (by kernel_rfl))) ?_
    refine fw_st r27 rfl rfl ?_
    intro W92 s93 r94
    have b95 := below_chg b25 s93 (by omega) b25.size
    have r96 := r26.chg s93 (by omega)
    have f97 := (Owns.chg f28 s93 (by simp))
    iterate 2 refine fw_pu rfl ?_
    refine fw_dt ?_
    refine fw_rt ?_
    refine fw_tr ?_
    refine ⟨fun a h => ?_⟩
    have hE : rcE o id = 3 := by unfold rcE; rw [ck_t hb_22]; show (if findO o.fl id < 0 then (3 : Int) else _) = _; rw [hfi, if_neg (by omega), Int.toNat_natCast, hx0]; show (if (x0.m.q == 2) = true then (0 : Int) else 3) = _; rw [hb_36]; rfl
    have hz0 : some (o0, ([] : List EPk)) = some (z, ps) := by rw [← hz]; unfold rcO; rw [hE, if_neg (by decide)]
    exact ow_retCell2 rfl h.df (h.g 4 rfl) (run_loadVar_mid _ _ 0 _ [.int .i64 0, .slice none 0 0, .slice none 0 0] _ (r94.range 0 _ (fun j v hj => by rw [Nat.zero_add j]; exact hj)) Try.underlying79 rfl (by kernel_rfl)) (h.g 5 rfl) (h.g 6 rfl) (hE.symm ▸ ResO.bad (hz0) b95)
  refine fw_cT rfl (not_of hb_22) ?_
  refine fw_sq ?_
  refine fw_rg rfl ?_
  refine fw_ex 11 (.agg #[.int .i64 0, .slice none 0 0, .slice none 0 0]) rfl rfl rfl (fun a h => (run_buildOp (vs := #[]) (by simp) (by kernel_rfl))) ?_
  refine fw_st r20 rfl rfl ?_
  intro W98 s99 r100
  have b101 := below_chg b18 s99 (by omega) b18.size
  have r102 := r19.chg s99 (by omega)
  have f103 := (Owns.chg f21 s99 (by simp))
  iterate 2 refine fw_pu rfl ?_
  refine fw_dt ?_
  refine fw_rt ?_
  refine fw_tr ?_
  refine ⟨fun a h => ?_⟩
  have hE : rcE o id = 1 := by unfold rcE; rw [ck_f hb_22]; rfl
  have hz0 : some (o0, ([] : List EPk)) = some (z, ps) := by rw [← hz]; unfold rcO; rw [hE, if_neg (by decide)]
  exact ow_retCell2 rfl h.df (h.g 4 rfl) (run_loadVar_mid _ _ 0 _ [.int .i64 0, .slice none 0 0, .slice none 0 0] _ (r100.range 0 _ (fun j v hj => by rw [Nat.zero_add j]; exact hj)) Try.underlying79 rfl (by kernel_rfl)) (h.g 5 rfl) (h.g 6 rfl) (hE.symm ▸ ResO.bad (hz0) b101)
end Go.Proofs.Ytcglmkcefenjcaa
