/-
  Words of our own, of no program: the reckoner: comp, where the world stands.
-/
import Derived.Test.YtlkchdbbpnkbfaaGreatDoorRkJ4
namespace Go.Rk
open Go.RowKit
variable {P : Program} {ev : Nat → Nat} {B : Nat} {ρ : Ren} {σ : Heap} {w : World}
theorem eqN_bytes {s t : ByteArray} {l r : List Nat} (h : byteNs s = l) (h' : byteNs t = r) : (s.toList == t.toList) = eqN l r := by rw [byteNs_inj, h, h']
theorem eq1_inv {q : Nat} {x y : AV} {k : Bool → Bool} (h : eq1 q x y k = true) : ∃ b, k b = true ∧ ∀ ρ t cx cy (d : Nat), tk P t = q → VR ev ρ x cx → VR ev ρ y cy → ∀ w, (Op.equalIn (d + 1) t cx cy).run P w = .ok b w := by
  unfold eq1 at h
  split at h
  · obtain ⟨a, rfl, h1⟩ := asB_inv h
    obtain ⟨b, rfl, h2⟩ := asB_inv h1
    rw [eqvB_eq] at h2
    refine ⟨_, h2, fun ρ t cx cy d ht hx hy w => ?_⟩
    have hu : P.underlying t = some .bool := by rcases tk_spec ht (by decide) with h | h | h | h | h | h <;> first | exact h.2 | (obtain ⟨h, -⟩ := h; cases h)
    rw [hx.asB, hy.asB]; exact eqIn_bool d hu
  · obtain ⟨a, rfl, h1⟩ := asS_inv h
    obtain ⟨b, rfl, h2⟩ := asS_inv h1
    refine ⟨_, h2, fun ρ t cx cy d ht hx hy w => ?_⟩
    have hu : P.underlying t = some .string := by rcases tk_spec ht (by decide) with h | h | h | h | h | h <;> first | exact h.2 | (obtain ⟨h, -⟩ := h; cases h)
    obtain ⟨s, rfl, hs⟩ := hx.asS
    obtain ⟨s', rfl, hs'⟩ := hy.asS
    rw [run_equalIn_string w d t s s' hu, eqN_bytes hs hs']
  · obtain ⟨q, a, rfl, h1⟩ := asI_inv h
    obtain ⟨q', b, rfl, h2⟩ := asI_inv h1
    obtain ⟨hq, h3⟩ := sameK_inv h2
    subst hq
    rw [eqF_eq] at h3
    refine ⟨_, h3, fun ρ t cx cy d ht hx hy w => ?_⟩
    obtain ⟨q', hu⟩ : ∃ q, P.underlying t = some (.int q) := by rcases tk_spec ht (by decide) with h | h | h | h | h | h <;> first | exact h.2 | (obtain ⟨h, -⟩ := h; cases h)
    rw [hx.asI, hy.asI, run_equalIn_int w d t q q' a b hu]
  · cases h
theorem zvOk_cells {v : Value} (h : zvOk v = true) (ev : Nat → Nat) (ρ : Ren) : VRs ev ρ (v.cells.toList.map cS) v.cells.toList ∧ ∀ c ∈ v.cells.toList, c.oneCell' = true :=
  valOk_cells (by cases v <;> first | exact h | exact nomatch (show false = true from h)) ev ρ (fun vs e => by subst e; exact nomatch (show false = true from h))
theorem VR.notAgg {v : AV} {c : Value} (h : VR ev ρ v c) (hu : v ≠ .un) (ha : ∀ l, v ≠ .ag l) : (∀ cs, c ≠ .agg cs) ∧ c ≠ .nilIface := by
  cases h <;> first | exact absurd rfl hu | exact absurd rfl (ha _) | exact ⟨fun _ e => (nomatch e), fun e => (nomatch e)⟩
theorem eqGuard_not {op : BinOp} {t : Nat} {x y : Operand} {vx vy : Value} (h1 : ∀ cs, vx ≠ .agg cs) (h2 : vx ≠ .nilIface) : (eqGuard op t x y vx vy).run P w = .ok () w := by
  cases vx <;> first | exact absurd rfl h2 | exact absurd rfl (h1 _) | (cases op <;> rfl)
theorem part_one {t off : Nat} {cs : List Value} {c : Value} (h : tk P t = 1 ∨ tk P t = 5 ∨ tk P t = 6) (hc : cs[off]? = some c) : (part t cs.toArray off).run P w = .ok c w := by
  have hd : ∃ d, P.underlying t = some d ∧ d.isRow = false := by
    rcases h with h | h | h <;> rcases tk_spec h (by decide) with g | g | g | g | g | g <;> first
      | exact ⟨_, g.2, rfl⟩
      | exact absurd g.1 (by decide)
      | (obtain ⟨-, e, g⟩ := g; exact ⟨_, g, rfl⟩)
  obtain ⟨d, hu, hd⟩ := hd
  simp only [part, Sem.run_bind, run_isAgg hu, hd, Result.andThen_ok, Bool.false_eq_true, if_false]
  simp [hc]
theorem eqFl_inv : ∀ {fs : List Field} {l : List (Nat × Nat)}, eqTys P fs = some l → ∀ {xs ys : List AV} {k : Bool → Bool}, eqFl l xs ys k = true →
    ∃ b, k b = true ∧ ∀ ρ (d : Nat) cx cy, VRs ev ρ xs cx → VRs ev ρ ys cy → ∀ w, (Op.eqFields (d + 1) cx.toArray cy.toArray fs).run P w = .ok b w
  | [], l, hl, xs, ys, k, h => by
    simp only [eqTys, Option.some.injEq] at hl
    subst hl
    exact ⟨true, h, fun ρ d cx cy _ _ w => by simp [Op.eqFields]⟩
  | f :: fs, l, hl, xs, ys, k, h => by
    have key : ∃ q l', (q = 1 ∨ q = 5 ∨ q = 6) ∧ f.name ≠ "_" ∧ tk P f.type = q ∧ eqTys P fs = some l' ∧ l = (f.offset, q) :: l' := by
      unfold eqTys at hl
      split at hl <;> simp only [Option.some.injEq, reduceCtorEq] at hl
      · rename_i l' h1 h2 h3; exact ⟨1, l', .inl rfl, of_decide_eq_false h1, h2, h3, hl.symm⟩
      · rename_i l' h1 h2 h3; exact ⟨5, l', .inr (.inl rfl), of_decide_eq_false h1, h2, h3, hl.symm⟩
      · rename_i l' h1 h2 h3; exact ⟨6, l', .inr (.inr rfl), of_decide_eq_false h1, h2, h3, hl.symm⟩
    obtain ⟨q, l', hq, hname, htk, htl, rfl⟩ := key
    obtain ⟨x, hx, h1⟩ := getL_inv (show (getL xs f.offset fun x => getL ys f.offset fun y => eq1 q x y fun b => iff_ b (eqFl l' xs ys k) (k false)) = true from h)
    obtain ⟨y, hy, h2⟩ := getL_inv h1
    obtain ⟨b, h3, he⟩ := eq1_inv (P := P) (ev := ev) h2
    have hp : tk P f.type = 1 ∨ tk P f.type = 5 ∨ tk P f.type = 6 := by rw [htk]; exact hq
    cases b with
    | false =>
      refine ⟨false, h3, fun ρ d cx cy hcx hcy w => ?_⟩
      obtain ⟨u, hu, hvu⟩ := hcx.get hx
      obtain ⟨v, hv, hvv⟩ := hcy.get hy
      simp only [Op.eqFields, ne_eq, hname, not_false_eq_true, if_true, Sem.run_bind, part_one hp hu, part_one hp hv, Result.andThen_ok, he ρ f.type u v d htk hvu hvv w, Bool.not_false, Sem.run_pure]
    | true =>
      obtain ⟨b, hk, hb⟩ := eqFl_inv htl (show eqFl l' xs ys k = true from h3)
      refine ⟨b, hk, fun ρ d cx cy hcx hcy w => ?_⟩
      obtain ⟨u, hu, hvu⟩ := hcx.get hx
      obtain ⟨v, hv, hvv⟩ := hcy.get hy
      simp only [Op.eqFields, ne_eq, hname, not_false_eq_true, if_true, Sem.run_bind, part_one hp hu, part_one hp hv, Result.andThen_ok, he ρ f.type u v d htk hvu hvv w, Bool.not_true, Bool.false_eq_true, if_false]
      exact hb ρ d cx cy hcx hcy w
/-- What comp says of an operation that yields a value, the world standing. -/
theorem comp_ld {o : Oper} {f : Fm → Heap → K1 → Bool} (hc : comp P o = .ld f) {fr : Fm} {k : K1} (h : f fr σ k = true) : ∃ v, k v = true ∧ LdS P ev B o fr σ v := by
  obtain ⟨dst, op, ty, pos, after, gd⟩ := o
  cases op <;> unfold comp at hc <;> dsimp only at hc
  case move x =>
    simp only [CO.ld.injEq] at hc
    subst hc
    dsimp only at h
    rw [forceV_eq] at h
    exact ⟨_, h, fun ρ a w ho hr => ⟨_, rfl, ho x (by simp [Op.operands])⟩⟩
  case assign x =>
    simp only [CO.ld.injEq] at hc
    subst hc
    dsimp only at h
    rw [forceV_eq] at h
    exact ⟨_, h, fun ρ a w ho hr => ⟨_, rfl, ho x (by simp [Op.operands])⟩⟩
  case pick c x y =>
    simp only [CO.ld.injEq] at hc
    subst hc
    dsimp only at h
    obtain ⟨b, hb, h1⟩ := asB_inv h
    rw [pickK_eq, forceV_eq] at h1
    refine ⟨_, h1, fun ρ a w ho hr => ?_⟩
    have hvb := ho c (by simp [Op.operands])
    rw [hb] at hvb
    refine ⟨if b then a.eval x else a.eval y, by simp [execOp, hvb.asB, asBool], ?_⟩
    cases b
    · exact ho y (by simp [Op.operands])
    · exact ho x (by simp [Op.operands])
  case load t x =>
    split at hc
    · rename_i g hg
      simp only [CO.ld.injEq] at hc
      subst hc
      obtain ⟨v, hk, hv⟩ := cLoad_inv (ev := ev) (B := B) hg h
      refine ⟨v, hk, fun ρ a w ho hr => ?_⟩
      obtain ⟨u, hu, hvu⟩ := hv ρ w _ (ho x (by simp [Op.operands])) (hr rfl)
      exact ⟨u, by simp [execOp, hu], hvu⟩
    · cases hc
  case nilCheck x =>
    simp only [CO.ld.injEq] at hc
    subst hc
    dsimp only at h
    obtain ⟨hk, hx⟩ := nilCk_inv h
    refine ⟨_, hk, fun ρ a w ho hr => ⟨_, ?_, ho x (by simp [Op.operands])⟩⟩
    have hvx := ho x (by simp [Op.operands])
    rcases hx with ⟨r, off, e⟩ | ⟨g, l, e⟩ <;> rw [e] at hvx
    · obtain ⟨b, base, E, -, e2⟩ := hvx.asP
      simp [execOp, e2]
    · obtain ⟨cs, e2, -⟩ := hvx.asFn
      simp [execOp, e2]
  case fieldAddr s x fd =>
    split at hc
    · rename_i off hoff
      simp only [CO.ld.injEq] at hc
      subst hc
      dsimp only at h
      obtain ⟨r, o, hx, h1⟩ := asP_inv h
      rw [forceN_eq] at h1
      refine ⟨_, h1, fun ρ a w ho hr => ?_⟩
      have hvx := ho x (by simp [Op.operands])
      rw [hx] at hvx
      obtain ⟨b, base, E, hρ, e⟩ := hvx.asP
      refine ⟨.pointer (some ⟨b, base + (o + off), none⟩), ?_, .p hρ⟩
      simp [execOp, e, cFieldAddr_run hoff, Nat.add_assoc]
    · cases hc
  case extract x n =>
    simp only [CO.ld.injEq] at hc
    subst hc
    dsimp only at h
    obtain ⟨v, hk, hv⟩ := exK_inv (P := P) (ev := ev) h
    refine ⟨v, hk, fun ρ a w ho hr => ?_⟩
    obtain ⟨cv, e, hvv⟩ := hv ρ _ (ho x (by simp [Op.operands])) w
    exact ⟨cv, by simp [execOp, e], hvv⟩
  case unOp op t x =>
    simp only [CO.ld.injEq] at hc
    subst hc
    dsimp only at h
    obtain ⟨v, hk, hv⟩ := unK_inv (P := P) (ev := ev) h
    refine ⟨v, hk, fun ρ a w ho hr => ?_⟩
    obtain ⟨cv, e, hvv⟩ := hv ρ _ (ho x (by simp [Op.operands])) w
    exact ⟨cv, by simp [execOp, e], hvv⟩
  case field t x fd =>
    split at hc
    · rename_i off b n hf
      simp only [CO.ld.injEq] at hc
      subst hc
      dsimp only at h
      obtain ⟨l, hx, h1⟩ := asAg_inv h
      obtain ⟨v, hk, hv⟩ := partK_inv h1
      refine ⟨v, hk, fun ρ a w ho hr => ?_⟩
      have hvx := ho x (by simp [Op.operands])
      rw [hx] at hvx
      obtain ⟨cs, e, hcs, h1c⟩ := hvx.asAg
      unfold cField at hf
      split at hf
      · rename_i fs hu
        split at hf
        · rename_i fdd hfd
          split at hf
          · rename_i b' n' hlay
            simp only [Option.some.injEq, Prod.mk.injEq] at hf
            obtain ⟨rfl, rfl, rfl⟩ := hf
            obtain ⟨cv, hcv, hvv⟩ := part_run (P := P) (w := w) hlay hcs h1c hv
            exact ⟨cv, by simp [execOp, e, Instr.field, run_underlying hu, hfd, asAgg, hcv], hvv⟩
          · cases hf
        · cases hf
      · cases hf
    · cases hc
  case indexAddr t x i =>
    split at hc
    · rename_i z m hz
      simp only [CO.ld.injEq] at hc
      subst hc
      dsimp only at h
      obtain ⟨v, hk, hv⟩ := ixSl_inv (P := P) (ev := ev) hz h
      refine ⟨v, hk, fun ρ a w ho hr => ?_⟩
      obtain ⟨cv, e, hvv⟩ := hv ρ _ _ (ho x (by simp [Op.operands])) (ho i (by simp [Op.operands])) w
      exact ⟨cv, by simp [execOp, e], hvv⟩
    · rename_i z m hz
      simp only [CO.ld.injEq] at hc
      subst hc
      dsimp only at h
      obtain ⟨v, hk, hv⟩ := ixAr_inv (P := P) (ev := ev) hz h
      refine ⟨v, hk, fun ρ a w ho hr => ?_⟩
      obtain ⟨cv, e, hvv⟩ := hv ρ _ _ (ho x (by simp [Op.operands])) (ho i (by simp [Op.operands])) w
      exact ⟨cv, by simp [execOp, e], hvv⟩
    · cases hc
  case index t x i =>
    split at hc
    · rename_i ht
      simp only [CO.ld.injEq] at hc
      subst hc
      dsimp only at h
      obtain ⟨v, hk, hv⟩ := ixStr_inv (P := P) (ev := ev) ht h
      refine ⟨v, hk, fun ρ a w ho hr => ?_⟩
      obtain ⟨cv, e, hvv⟩ := hv ρ _ _ (ho x (by simp [Op.operands])) (ho i (by simp [Op.operands])) w
      exact ⟨cv, by simp [execOp, e], hvv⟩
    · cases hc
  case binOp op t x y ty' =>
    split at hc
    · simp only [CO.ld.injEq] at hc
      subst hc
      dsimp only at h
      obtain ⟨v, hk, hv⟩ := binV_inv (P := P) (ev := ev) h
      refine ⟨v, hk, fun ρ a w ho hr => ?_⟩
      have hx := ho x (by simp [Op.operands])
      have hy := ho y (by simp [Op.operands])
      obtain ⟨cv, e, hvv⟩ := hv ρ _ _ hx hy w
      refine ⟨cv, ?_, hvv⟩
      have hna := hx.notAgg (fun e => by rw [e] at h; exact nomatch (show false = true from h)) (fun l e => by rw [e] at h; exact nomatch (show false = true from h))
      have hg : (eqGuard op t x y (a.eval x) (a.eval y)).run P w = .ok () w := eqGuard_not hna.1 hna.2
      simp [execOp, hg, e]
    · rename_i l hl
      simp only [CO.ld.injEq] at hc
      subst hc
      dsimp only at h
      obtain ⟨xs, hx, h1⟩ := asAg_inv h
      obtain ⟨ys, hy, h2⟩ := asAg_inv h1
      unfold cEq at hl
      split at hl
      · rename_i fs hu
        split at hl
        · rename_i hst heg
          obtain ⟨b, h3, hb⟩ := eqFl_inv (ev := ev) hl h2
          have hrun : ∀ (ρ : Ren) (a : Act) (w : World), Opnds ev ρ fr a { dst := dst, op := .binOp op t x y ty', type := ty, pos := pos, after := after, guard := gd } → ∃ cx cy : List Value, a.eval x = .agg cx.toArray ∧ a.eval y = .agg cy.toArray ∧ (Op.equal t (.agg cx.toArray) (.agg cy.toArray)).run P w = .ok b w := fun ρ a w ho => by
            have hvx := ho x (by simp [Op.operands])
            have hvy := ho y (by simp [Op.operands])
            rw [hx] at hvx
            rw [hy] at hvy
            obtain ⟨cx, e1, hcx, -⟩ := hvx.asAg
            obtain ⟨cy, e2, hcy, -⟩ := hvy.asAg
            refine ⟨cx, cy, e1, e2, ?_⟩
            have hu' : P.underlying t = some (.struct (P.fieldsOf t)) := by unfold Program.fieldsOf; rw [hu]
            have hfs : P.fieldsOf t = fs := by unfold Program.fieldsOf; rw [hu]
            have hst' : P.stoodInHeld t = false := hst
            unfold Op.equal
            show (Op.equalIn (9999 + 1) t _ _).run P w = _
            rw [run_equalIn_struct w 9999 t _ _ hu' hst', hfs]
            exact hb ρ 9998 cx cy hcx hcy w
          have hgd : ∀ (cx cy : Array Value) (w : World), (eqGuard op t x y (.agg cx) (.agg cy)).run P w = .ok () w := fun cx cy w => by
            have heg' : P.eqGuardType P.depth t = false := heg
            unfold eqGuard
            cases op <;> simp [heg']
          rcases eqOp_inv h3 with ⟨rfl, hk⟩ | ⟨rfl, hk⟩
          · refine ⟨_, hk, fun ρ a w ho hr => ⟨_, ?_, .b _⟩⟩
            obtain ⟨cx, cy, e1, e2, e3⟩ := hrun ρ a w ho
            simp [execOp, e1, e2, hgd, Go.binOp, e3]
          · refine ⟨_, hk, fun ρ a w ho hr => ⟨_, ?_, .b _⟩⟩
            obtain ⟨cx, cy, e1, e2, e3⟩ := hrun ρ a w ho
            simp [execOp, e1, e2, hgd, Go.binOp, e3]
        · cases hl
      · cases hl
  case build t ps =>
    split at hc
    · rename_i L z hb
      simp only [CO.ld.injEq] at hc
      subst hc
      dsimp only at h
      have hOps : ∀ (ρ : Ren) (a : Act), Opnds ev ρ fr a { dst := dst, op := .build t ps, type := ty, pos := pos, after := after, guard := gd } → ∀ p ∈ ps.toList, VR ev ρ (oval p.2 fr) (a.eval p.2) := fun ρ a ho p hp => ho p.2 (by
        simp only [Op.operands]; simp; exact ⟨p.1, by simpa using hp⟩)
      have mapE : ∀ a : Act, (ps.map fun (p : Nat × Operand) => (p.1, a.eval p.2)).toList = ps.toList.map fun p => (p.1, a.eval p.2) := fun a => by simp
      unfold cBuild at hb
      split at hb
      · rename_i fs zz hu hz
        obtain ⟨i, v, hi, hv, hov, rfl⟩ := zeroOf_spec hz
        split at hb
        · rename_i places hpl
          split at hb
          · rename_i L' hL
            simp only [Option.some.injEq, Prod.mk.injEq] at hb
            obtain ⟨rfl, rfl⟩ := hb
            obtain ⟨r, hk, hr'⟩ := fillK_inv (ev := ev) hL h
            refine ⟨_, hk, fun ρ a w ho hr => ?_⟩
            have hzv := zvOk_cells hov ev ρ
            obtain ⟨rs, e, h2, h3⟩ := hr' ρ a _ hzv.1 hzv.2 (hOps ρ a ho)
            refine ⟨.agg rs.toArray, ?_, .ag h2 h3⟩
            have hb : P.built t (ps.map fun (p : Nat × Operand) => (p.1, a.eval p.2)).toList = some rs.toArray := by
              unfold Program.built
              simp only [hi, hu, hv, hpl, mapE]
              simpa using e
            simp only [execOp, Sem.run_bind, run_build w t _ _ hb, Result.andThen_ok, Sem.run_pure]
          · cases hb
        · cases hb
      · rename_i n e0 zz hu hz
        obtain ⟨i, v, hi, hv, hov, rfl⟩ := zeroOf_spec hz
        split at hb
        · rename_i ie hie
          split at hb
          · rename_i L' hL
            simp only [Option.some.injEq, Prod.mk.injEq] at hb
            obtain ⟨rfl, rfl⟩ := hb
            obtain ⟨r, hk, hr'⟩ := fillK_inv (ev := ev) hL h
            refine ⟨_, hk, fun ρ a w ho hr => ?_⟩
            have hzv := zvOk_cells hov ev ρ
            obtain ⟨rs, e, h2, h3⟩ := hr' ρ a _ hzv.1 hzv.2 (hOps ρ a ho)
            refine ⟨.agg rs.toArray, ?_, .ag h2 h3⟩
            have hb : P.built t (ps.map fun (p : Nat × Operand) => (p.1, a.eval p.2)).toList = some rs.toArray := by
              unfold Program.built
              simp only [hi, hu, hv, hie, mapE]
              simpa using e
            simp only [execOp, Sem.run_bind, run_build w t _ _ hb, Result.andThen_ok, Sem.run_pure]
          · cases hb
        · cases hb
      · cases hb
    · cases hc
  case makeFunc g first cs =>
    split at hc
    · rename_i f' hfirst
      simp only [CO.ld.injEq] at hc
      subst hc
      dsimp only at h
      rw [argsK_eq] at h
      refine ⟨_, h, fun ρ a w ho hr => ?_⟩
      have hf0 : first = #[] := by apply Array.ext'; simpa using hfirst
      subst hf0
      refine ⟨.func (.func f') #[] (cs.toList.map a.eval).toArray, ?_, .fn (VRs.map fun x hx => ho x (by simp [Op.operands]; simpa using hx))⟩
      have e : cs.map a.eval = (cs.toList.map a.eval).toArray := Array.ext' (by simp)
      simp only [execOp, Instr.makeFunc, Sem.run_bind, Sem.run_pure, Result.andThen_ok, e]
      simp
    · cases hc
  case slice t x lo hi mx =>
    have hOV : ∀ (ρ : Ren) (a : Act) (y : Option Operand), (∀ z, y = some z → VR ev ρ (oval z fr) (a.eval z)) → OV ev ρ (y.map (oval · fr)) (y.map a.eval) := fun ρ a y hy => by
      cases y with
      | none => exact .no
      | some z => exact .so (hy z rfl)
    unfold cSliceOp at hc
    split at hc
    · rename_i hu
      split at hc
      · rename_i hm
        simp only [CO.ld.injEq] at hc
        subst hc
        dsimp only at h
        obtain ⟨v, hk, hv⟩ := slStr_inv (P := P) (ev := ev) hu h
        refine ⟨v, hk, fun ρ a w ho hr => ?_⟩
        obtain ⟨cv, e, hvv⟩ := hv ρ (a.eval x) (lo.map a.eval) (hi.map a.eval) (ho x (by simp [Op.operands])) (hOV ρ a lo fun z hz => ho z (by subst hz; simp [Op.operands])) (hOV ρ a hi fun z hz => ho z (by subst hz; simp [Op.operands])) w
        exact ⟨cv, by simp [execOp, e], hvv⟩
      · cases hc
    · rename_i e0 hu
      split at hc
      · rename_i i hi'
        split at hc
        · cases hc
        · rename_i hb
          rw [Bool.and_eq_true, Bool.or_eq_true] at hb
          obtain ⟨h1, h2⟩ := hb
          simp only [CO.ld.injEq] at hc
          subst hc
          dsimp only at h
          have hmh : mx.map (oval · fr) = none ∨ hi.map (oval · fr) ≠ none := by
            rcases h2 with h2 | h2
            · exact .inl (by rw [Option.isNone_iff_eq_none.1 h2]; rfl)
            · obtain ⟨y, hy⟩ := Option.isSome_iff_exists.1 h2; exact .inr (by rw [hy]; simp)
          obtain ⟨v, hk, hv⟩ := slSl_inv (P := P) (ev := ev) (B := B) hu hi' (Nat.le_of_ble_eq_true h1) hmh h
          refine ⟨v, hk, fun ρ a w ho hr => ?_⟩
          obtain ⟨cv, e, hvv⟩ := hv ρ w (a.eval x) (lo.map a.eval) (hi.map a.eval) (mx.map a.eval) (ho x (by simp [Op.operands])) (hOV ρ a lo fun z hz => ho z (by subst hz; simp [Op.operands])) (hOV ρ a hi fun z hz => ho z (by subst hz; simp [Op.operands])) (hOV ρ a mx fun z hz => ho z (by subst hz; simp [Op.operands])) (hr rfl)
          exact ⟨cv, by simp [execOp, e], hvv⟩
      · cases hc
    · rename_i n e0 hu
      split at hc
      · rename_i i hi'
        simp only [CO.ld.injEq] at hc
        subst hc
        dsimp only at h
        obtain ⟨v, hk, hv⟩ := slArr_inv (P := P) (ev := ev) (B := B) hu hi' h
        refine ⟨v, hk, fun ρ a w ho hr => ?_⟩
        obtain ⟨cv, e, hvv⟩ := hv ρ w (a.eval x) (lo.map a.eval) (hi.map a.eval) (ho x (by simp [Op.operands])) (hOV ρ a lo fun z hz => ho z (by subst hz; simp [Op.operands])) (hOV ρ a hi fun z hz => ho z (by subst hz; simp [Op.operands])) (hr rfl)
        exact ⟨cv, by simp [execOp, e], hvv⟩
      · cases hc
    · cases hc
  case convert s d x =>
    unfold cConv at hc
    split at hc
    · rename_i q0 q hs hd
      simp only [CO.ld.injEq] at hc
      subst hc
      dsimp only at h
      obtain ⟨q', n, hx, hk⟩ := toI_inv h
      refine ⟨_, hk, fun ρ a w ho hr => ⟨_, ?_, .i _ _⟩⟩
      have hvx := ho x (by simp [Op.operands])
      rw [hx] at hvx
      simp [execOp, hvx.asI, convert, run_underlying hs, run_underlying hd, Conv.intToInt]
    · rename_i hs hd
      simp only [CO.ld.injEq] at hc
      subst hc
      dsimp only at h
      obtain ⟨l, hx, hk⟩ := asS_inv h
      refine ⟨_, hk, fun ρ a w ho hr => ?_⟩
      have hvx := ho x (by simp [Op.operands])
      rw [hx] at hvx
      obtain ⟨s', e, hs'⟩ := hvx.asS
      exact ⟨.string s', by simp [execOp, e, convert, run_underlying hs, run_underlying hd], .s hs'⟩
    · rename_i e0 hs hd
      split at hc
      · rename_i h8
        simp only [CO.ld.injEq] at hc
        subst hc
        dsimp only at h
        obtain ⟨v, hk, hv⟩ := b2s_inv (P := P) (ev := ev) (B := B) h8 hd h
        refine ⟨v, hk, fun ρ a w ho hr => ?_⟩
        obtain ⟨cv, e, hvv⟩ := hv ρ w _ (ho x (by simp [Op.operands])) (hr rfl)
        exact ⟨cv, by simp [execOp, e], hvv⟩
      · cases hc
    · split at hc <;> cases hc
    · cases hc
  case call c =>
    unfold cCall at hc
    split at hc
    · cases hc
    · cases hc
    · rename_i b hb
      obtain ⟨callee, args, argTypes⟩ := c
      dsimp only at hb
      subst hb
      dsimp only at hc
      have run1 : ∀ (a : Act) (w : World), (execOp a.eval { dst := dst, op := .call ⟨.builtin b, args, argTypes⟩, type := ty, pos := pos, after := after, guard := gd }).run P w = (Go.builtin b argTypes ty (args.map fun | .const _ => true | _ => false) (args.map a.eval)).run P w := fun a w => by
        simp [execOp, resolve, invoke]; rfl
      unfold cBuiltin at hc
      split at hc
      · rename_i t x hts hxs
        have hargs : args = #[x] := Array.ext' (by simpa using hxs)
        have htys : argTypes = #[t] := Array.ext' (by simpa using hts)
        subst hargs htys
        split at hc
        · rename_i htk
          simp only [CO.ld.injEq] at hc
          subst hc
          dsimp only at h
          obtain ⟨e0, hu⟩ : ∃ e, P.underlying t = some (.slice e) := by rcases tk_spec htk (by decide) with h | h | h | h | h | h <;> first | exact h.2 | exact absurd h.1 (by decide)
          rcases lnV_inv h with ⟨hx, hk⟩ | ⟨r, o, n, c, z, hx, hk⟩ | ⟨j, lb, hx, hk⟩
          · refine ⟨_, hk, fun ρ a w ho hr => ⟨.int .i64 0, ?_, .i _ _⟩⟩
            have hv := ho x (by simp [Op.operands, Call.operands])
            rw [hx] at hv
            rw [run1]
            simp [Go.builtin, Builtin.len_, run_underlying hu, hv.asNils, goInt]
          · refine ⟨_, hk, fun ρ a w ho hr => ⟨.int .i64 n, ?_, .i _ _⟩⟩
            have hv := ho x (by simp [Op.operands, Call.operands])
            rw [hx] at hv
            obtain ⟨_, _, _, _, _, _, e, -⟩ := hv.asSl
            rw [run1]
            simp [Go.builtin, Builtin.len_, run_underlying hu, e, goInt]
          · refine ⟨_, hk, fun ρ a w ho hr => ?_⟩
            have hv := ho x (by simp [Op.operands, Call.operands])
            rw [hx] at hv
            obtain ⟨_, _, e, hlb, hex⟩ := hv.asOsl
            refine ⟨.int .i64 (ev j), ?_, ?_⟩
            · rw [run1]
              simp [Go.builtin, Builtin.len_, run_underlying hu, e, goInt]
            · split
              · rename_i hj0
                rw [hex hj0]; exact .i _ _
              · exact .nat hlb
        · rename_i htk
          simp only [CO.ld.injEq] at hc
          subst hc
          dsimp only at h
          have hu : P.underlying t = some .string := by rcases tk_spec htk (by decide) with h | h | h | h | h | h <;> first | exact h.2 | exact absurd h.1 (by decide)
          obtain ⟨l, hx, hk⟩ := asS_inv h
          rw [lenN_eq] at hk
          refine ⟨_, hk, fun ρ a w ho hr => ?_⟩
          have hv := ho x (by simp [Op.operands, Call.operands])
          rw [hx] at hv
          obtain ⟨s, e, hs⟩ := hv.asS
          refine ⟨.int .i64 (s.size : Int), ?_, ?_⟩
          · rw [run1]
            simp [Go.builtin, Builtin.len_, run_underlying hu, e, goInt]
          · rw [← hs, byteNs_size]; exact .i _ _
        · cases hc
      · rename_i t x hts hxs
        have hargs : args = #[x] := Array.ext' (by simpa using hxs)
        have htys : argTypes = #[t] := Array.ext' (by simpa using hts)
        subst hargs htys
        split at hc
        · rename_i htk
          simp only [CO.ld.injEq] at hc
          subst hc
          dsimp only at h
          obtain ⟨e0, hu⟩ : ∃ e, P.underlying t = some (.slice e) := by rcases tk_spec htk (by decide) with h | h | h | h | h | h <;> first | exact h.2 | exact absurd h.1 (by decide)
          rcases capV_inv h with ⟨hx, hk⟩ | ⟨r, o, n, c, z, hx, hk⟩
          · refine ⟨_, hk, fun ρ a w ho hr => ⟨.int .i64 0, ?_, .i _ _⟩⟩
            have hv := ho x (by simp [Op.operands, Call.operands])
            rw [hx] at hv
            rw [run1]
            simp [Go.builtin, Builtin.cap_, run_underlying hu, hv.asNils, goInt]
          · refine ⟨_, hk, fun ρ a w ho hr => ⟨.int .i64 c, ?_, .i _ _⟩⟩
            have hv := ho x (by simp [Op.operands, Call.operands])
            rw [hx] at hv
            obtain ⟨_, _, _, _, kk, _, e, _, _, _, hkk, -⟩ := hv.asSl
            have := hkk c rfl
            subst this
            rw [run1]
            simp [Go.builtin, Builtin.cap_, run_underlying hu, e, goInt]
        · cases hc
      · rename_i t1 t2 x y hts hxs
        have hargs : args = #[x, y] := Array.ext' (by simpa using hxs)
        subst hargs
        simp only [CO.ld.injEq] at hc
        subst hc
        dsimp only at h
        obtain ⟨q, m, n, hx, hy, hk⟩ := mmK_inv h
        refine ⟨_, hk, fun ρ a w ho hr => ⟨_, ?_, .i _ _⟩⟩
        have hvx := ho x (by simp [Op.operands, Call.operands])
        have hvy := ho y (by simp [Op.operands, Call.operands])
        rw [hx] at hvx
        rw [hy] at hvy
        rw [run1]
        simp [Go.builtin, Builtin.min_, Builtin.min2, hvx.asI, hvy.asI]
      · rename_i t1 t2 x y hts hxs
        have hargs : args = #[x, y] := Array.ext' (by simpa using hxs)
        subst hargs
        simp only [CO.ld.injEq] at hc
        subst hc
        dsimp only at h
        obtain ⟨q, m, n, hx, hy, hk⟩ := mmK_inv h
        refine ⟨_, hk, fun ρ a w ho hr => ⟨_, ?_, .i _ _⟩⟩
        have hvx := ho x (by simp [Op.operands, Call.operands])
        have hvy := ho y (by simp [Op.operands, Call.operands])
        rw [hx] at hvx
        rw [hy] at hvy
        rw [run1]
        simp [Go.builtin, Builtin.max_, Builtin.max2, hvx.asI, hvy.asI]
      · split at hc
        · split at hc <;> cases hc
        · cases hc
      · split at hc <;> cases hc
      · split at hc <;> cases hc
      · cases hc
    · cases hc
  all_goals first
    | (cases hc; done)
    | (split at hc <;> cases hc; done)
    | (split at hc <;> first | (cases hc; done) | (split at hc <;> cases hc); done)
    | skip
end Go.Rk
