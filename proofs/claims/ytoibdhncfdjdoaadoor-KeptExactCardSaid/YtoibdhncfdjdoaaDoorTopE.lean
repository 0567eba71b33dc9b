/-
  Topics: the program's Name, Filter, matches, Match.
-/
import Derived.Test.YtoibdhncfdjdoaaDoorTopA
import Derived.Test.YtoibdhncfdjdoaaDoorTopC
import Derived.Test.YtoibdhncfdjdoaaDoorTopD
namespace Go.Proofs.YtoibdhncfdjdoaaDoor
open Go.RowKit Go.Shelf Go.Lib
/-- The cell that strings.Index reads. -/
def Mx (w : World) : Prop := ∃ m, w.cell? ⟨Tryd.laysCut_ren.g 1, 0, none⟩ = some (.int .i64 m) ∧ Tryd.laysCut_ren.g 1 < w.heap.size
theorem Mx.below {w w' : World} (h : Mx w) (hb : Below w.heap.size w w') : Mx w' := by
  obtain ⟨m, h1, h2⟩ := h
  exact ⟨m, (hb.cell (p := ⟨Tryd.laysCut_ren.g 1, 0, none⟩) h2).trans h1, Nat.lt_of_lt_of_le h2 hb.size⟩
theorem cut_any (l : Bs) (w : World) (hs : l.length < 4294967281) (hM : Mx w) :
    Calls Tryd.prog 68 #[.string ⟨l.toArray⟩, .string ⟨#[47]⟩] w fun e w' => e = .returned (.tuple #[.string ⟨(cutS l).1.toArray⟩, .string ⟨(cutS l).2.1.toArray⟩, .bool (cutS l).2.2]) ∧ Below w.heap.size w w' := by
  obtain ⟨m, hm, -⟩ := hM
  have h := (show Calls Tryd.prog 68 #[.string ⟨l.toArray⟩, .string ⟨#[47]⟩] w _ from Any.strings_Cut Tryd.laysCut ⟨l.toArray⟩ ⟨#[47]⟩ m w hs hm)
  refine h.mono fun e w' ⟨h1, n, h2⟩ => ⟨h1, ?_⟩
  rw [h2]
  exact below_drewN (Below.refl _ _) n
theorem cont_any (l : Bs) (b : UInt8) (w : World) :
    Calls Tryd.prog 69 #[.string ⟨l.toArray⟩, .string ⟨#[b]⟩] w fun e w' => e = .returned (.bool (l.contains b)) ∧ w = w' := by
  have h := (show Calls Tryd.prog 69 #[.string ⟨l.toArray⟩, .string ⟨#[b]⟩] w _ from Any.strings_Contains_one Tryd.laysContains ⟨l.toArray⟩ b w)
  refine h.mono fun e w' ⟨h1, h2⟩ => ⟨?_, h2.symm⟩
  rw [h1, ← contains_ix]
def nameB (l : Bs) : Bool := textB l && !hasP l
def filtB (l : Bs) : Bool := textB l && fOk (levels l)
def errN (b : Bool) : Value := .int .i64 (if b then 0 else 1)
set_option maxHeartbeats 1000000 in
set_option maxRecDepth 100000 in
theorem name_any (s : ByteArray) (w : World) (hs : s.size < 4294967281) (hT : Tabs w) :
    Calls Tryd.prog 47 #[.string s] w fun e w' => e = .returned (errN (nameB s.data.toList)) ∧ Below w.heap.size w w' := by
  have C1 := Lib.hid (isText_any s w (by omega) hT)
  unfold nameB
  rw [← containsAny_hasP]
  generalize hX : textB s.data.toList = X at C1 ⊢
  clear hX
  cases X with
  | false =>
    go_enter Tryd.func47, Tryd.ntmps47
    go_wp2_with (first | ((with_reducible refine C1.out.mono ?_); rintro e' w1 ⟨rfl, hb1⟩))
    go_ret
    exact ⟨rfl, hb1⟩
  | true =>
    have C2 := Lib.hid (fun W => containsAny_any s W hs)
    generalize hY : Lib.containsAny s.data.toList [43, 35] = Y at C2 ⊢
    clear hY
    cases Y with
    | false =>
      go_enter Tryd.func47, Tryd.ntmps47
      go_wp2_with (first | ((with_reducible refine C1.out.mono ?_); rintro e' w1 ⟨rfl, hb1⟩) | ((with_reducible refine (C2.out _).mono ?_); rintro e' w2 ⟨rfl, hb2⟩))
      go_ret
      exact ⟨rfl, hb1.trans (hb2.mono hb1.size)⟩
    | true =>
      go_enter Tryd.func47, Tryd.ntmps47
      go_wp2_with (first | ((with_reducible refine C1.out.mono ?_); rintro e' w1 ⟨rfl, hb1⟩) | ((with_reducible refine (C2.out _).mono ?_); rintro e' w2 ⟨rfl, hb2⟩))
      go_ret
      exact ⟨rfl, hb1.trans (hb2.mono hb1.size)⟩
theorem eqBs (a b : Bs) : (a == b) = decide (a = b) := by
  by_cases h : a = b
  · subst h; simp
  · rw [decide_eq_false h]; exact beq_eq_false_iff_ne.2 h
set_option maxHeartbeats 4000000 in
set_option maxRecDepth 100000 in
theorem matches_any (f t : Bs) (w : World) (hf : f.length < 1000000) (ht : t.length < 1000000) (hM : Mx w) :
    Calls Tryd.prog 65 #[.string ⟨f.toArray⟩, .string ⟨t.toArray⟩] w fun e w' => e = .returned (.bool (mOk (levels f) (levels t))) ∧ Below w.heap.size w w' := by
  obtain ⟨ANS, hANS⟩ : ∃ ANS, mOk (levels f) (levels t) = ANS := ⟨_, rfl⟩
  rw [hANS]
  have HM := Lib.hid hM
  clear hM
  go_enter Tryd.func65, Tryd.ntmps65
  go_wp2
  go_loopg [0, 1, 5, 6] (f.length + 1) (fun g vf vt vl vm wx => ∃ (fl tl : Bs) (lf mo : Bool), vf = .string ⟨fl.toArray⟩ ∧ vt = .string ⟨tl.toArray⟩ ∧ vl = .bool lf ∧ vm = .bool mo ∧ Below w.heap.size w wx ∧ fl.length < 1000000 ∧ tl.length < 1000000 ∧ (mo = true → fl.length < g) ∧ mOk (lvLeft mo fl) (lvLeft lf tl) = ANS)
  case atStart => exact ⟨f, t, true, true, rfl, rfl, rfl, rfl, Below.refl _ _, hf, ht, fun _ => by omega, hANS⟩
  case round =>
    obtain ⟨fl, tl, lf, mo, rfl, rfl, rfl, rfl, hbw, hfl, htl, hg, hm⟩ := hrel
    have HB := Lib.hid hbw
    clear hbw
    cases mo with
    | false =>
      have hA : ANS = !lf := by rw [← hm]; exact lvLeft_isEmpty lf tl
      have HA := Lib.hid hA
      clear hA hm hANS hg
      go_wp2
      go_ret
      exact ⟨by rw [HA.out]; rfl, HB.out⟩
    | true =>
      obtain ⟨g, rfl⟩ : ∃ g, gk = g + 1 := ⟨gk - 1, by have := hg rfl; omega⟩
      have C1 := Lib.hid (cut_any fl wr (by omega) (HM.out.below HB.out))
      have hL : levels fl = _ := lvLeft_cut fl
      have hcl := cut_len fl
      rw [lvLeft, if_pos rfl, hL] at hm
      have hg1 := hg rfl
      generalize (cutS fl).1 = x at C1 hm hcl
      generalize (cutS fl).2.1 = f2 at C1 hm hcl
      generalize (cutS fl).2.2 = m2 at C1 hm hcl
      have HCL := Lib.hid hcl
      have HG := Lib.hid hg1
      clear hL hcl hg hg1 hANS
      have hE1 := eqBs x [35]
      by_cases hx : x = [35]
      · rw [mOk_hash _ _ _ hx] at hm
        have HMM := Lib.hid hm
        clear hm
        rw [decide_eq_true hx] at hE1
        clear hx
        go_wp2_with (first | ((with_reducible refine C1.out.mono ?_); rintro e' w1 ⟨rfl, hb1⟩))
        go_ret
        exact ⟨by rw [← HMM.out]; rfl, HB.out.trans (hb1.mono HB.out.size)⟩
      · rw [decide_eq_false hx] at hE1
        cases lf with
        | false =>
          rw [show lvLeft false tl = [] from rfl, mOk_none _ _ hx] at hm
          have HMM := Lib.hid hm
          clear hm hx
          go_wp2_with (first | ((with_reducible refine C1.out.mono ?_); rintro e' w1 ⟨rfl, hb1⟩))
          go_ret
          exact ⟨by rw [← HMM.out]; rfl, HB.out.trans (hb1.mono HB.out.size)⟩
        | true =>
          have C2 := Lib.hid (fun W (hb : Below wr.heap.size wr W) => cut_any tl W (by omega) ((HM.out.below HB.out).below hb))
          have hL : levels tl = _ := lvLeft_cut tl
          have hcl := cut_len tl
          rw [show lvLeft true tl = levels tl from rfl, hL, mOk_cons _ _ _ _ hx] at hm
          clear hx
          generalize (cutS tl).1 = y at C2 hm hcl
          generalize (cutS tl).2.1 = t2 at C2 hm hcl
          generalize (cutS tl).2.2 = l2 at C2 hm hcl
          have HCL2 := Lib.hid hcl
          clear hL hcl
          have hE2 := eqBs x [43]
          have hE3 := eqBs x y
          by_cases hp : x = [43]
          · rw [decide_eq_true hp] at hE2
            rw [if_neg (fun h => h.1 hp)] at hm
            have HMM := Lib.hid hm
            clear hm hp hE3
            go_wp2_with (first | ((with_reducible refine C1.out.mono ?_); rintro e' w1 ⟨rfl, hb1⟩) | ((with_reducible refine (C2.out _ (by assumption)).mono ?_); rintro e' w2 ⟨rfl, hb2⟩))
            go_roundg g
            case measure => omega
            case rel => exact ⟨f2, t2, l2, m2, rfl, rfl, rfl, rfl, HB.out.trans ((hb1.trans (hb2.mono hb1.size)).mono HB.out.size), by have := HCL.out; omega, by have := HCL2.out; omega, fun h => by have := HCL.out.2.2 h; have := HG.out; omega, HMM.out⟩
          · rw [decide_eq_false hp] at hE2
            by_cases hy : x = y
            · rw [decide_eq_true hy] at hE3
              rw [if_neg (fun h => h.2 hy)] at hm
              have HMM := Lib.hid hm
              clear hm hp hy
              go_wp2_with (first | ((with_reducible refine C1.out.mono ?_); rintro e' w1 ⟨rfl, hb1⟩) | ((with_reducible refine (C2.out _ (by assumption)).mono ?_); rintro e' w2 ⟨rfl, hb2⟩))
              go_roundg g
              case measure => omega
              case rel => exact ⟨f2, t2, l2, m2, rfl, rfl, rfl, rfl, HB.out.trans ((hb1.trans (hb2.mono hb1.size)).mono HB.out.size), by have := HCL.out; omega, by have := HCL2.out; omega, fun h => by have := HCL.out.2.2 h; have := HG.out; omega, HMM.out⟩
            · rw [decide_eq_false hy] at hE3
              rw [if_pos ⟨hp, hy⟩] at hm
              have HMM := Lib.hid hm
              clear hm hp hy
              go_wp2_with (first | ((with_reducible refine C1.out.mono ?_); rintro e' w1 ⟨rfl, hb1⟩) | ((with_reducible refine (C2.out _ (by assumption)).mono ?_); rintro e' w2 ⟨rfl, hb2⟩))
              go_ret
              exact ⟨by rw [← HMM.out]; rfl, HB.out.trans ((hb1.trans (hb2.mono hb1.size)).mono HB.out.size)⟩
set_option maxHeartbeats 4000000 in
set_option maxRecDepth 100000 in
theorem filter_any (s : Bs) (w : World) (hs : s.length < 1000000) (hT : Tabs w) (hM : Mx w) :
    Calls Tryd.prog 54 #[.string ⟨s.toArray⟩] w fun e w' => e = .returned (errN (filtB s)) ∧ Below w.heap.size w w' := by
  have C1 := Lib.hid (show Calls Tryd.prog 63 #[.string ⟨s.toArray⟩] w fun e w' => e = .returned (.bool (textB s)) ∧ Below w.heap.size w w' from isText_any ⟨s.toArray⟩ w (by show s.length ≤ _; omega) hT)
  unfold filtB
  generalize hX : textB s = X at C1 ⊢
  clear hX
  have HM := Lib.hid hM
  clear hM hT
  cases X with
  | false =>
    go_enter Tryd.func54, Tryd.ntmps54
    go_wp2
    refine wp_scope_end rfl rfl fun J' HJ => ?_
    refine wpSpine_seq rfl fun K hK => ?_
    go_wp2
    refine wpSpine_seq rfl fun K hK => ?_
    go_wp2
    refine wpSpine_seq rfl fun K hK => ?_
    go_wp2_with (first | ((with_reducible refine C1.out.mono ?_); rintro e' w1 ⟨rfl, hb1⟩))
    refine wp_goto (HJ _ _ ?_)
    go_wp2
    rw [Exit.noGoto_ret]
    go_ret
    exact ⟨rfl, hb1⟩
  | true =>
    obtain ⟨ANS, hANS⟩ : ∃ ANS, fOk (levels s) = ANS := ⟨_, rfl⟩
    rw [hANS]
    go_enter Tryd.func54, Tryd.ntmps54
    go_wp2
    refine wp_scope_end rfl rfl fun J' HJ => ?_
    refine wpSpine_seq rfl fun K hK => ?_
    go_wp2
    refine wpSpine_seq rfl fun K hK => ?_
    go_wp2
    refine wpSpine_seq rfl fun K hK => ?_
    go_wp2_with (first | ((with_reducible refine C1.out.mono ?_); rintro e' w1 ⟨rfl, hb1⟩))
    refine wpSpine_seq rfl fun K hK => ?_
    have HB1 := Lib.hid hb1
    clear hb1 C1
    go_wp2
    go_loopg [3, 4] (s.length + 1) (fun g vr vm wx => ∃ (l : Bs) (mo : Bool), vr = .string ⟨l.toArray⟩ ∧ vm = .bool mo ∧ Below w.heap.size w wx ∧ l.length < 1000000 ∧ (mo = true → l.length < g) ∧ (if mo = true then fOk (levels l) else true) = ANS)
    case atStart => exact ⟨s, true, rfl, rfl, HB1.out, hs, fun _ => by omega, by rw [if_pos rfl]; exact hANS⟩
    case round =>
      obtain ⟨l, mo, rfl, rfl, hbw, hl, hg, hm⟩ := hrel
      have HB := Lib.hid hbw
      clear hbw hANS
      cases mo with
      | false =>
        have hA : ANS = true := by rw [← hm]; rfl
        have HA := Lib.hid hA
        clear hA hm hg
        go_wp2
        refine wpSpine_seq rfl fun K hK => ?_
        go_wp2
        refine wpSpine_label (HJ _ _ ?_)
        go_wp2
        rw [Exit.noGoto_ret]
        go_ret
        exact ⟨by rw [HA.out]; rfl, HB.out⟩
      | true =>
        obtain ⟨g, rfl⟩ : ∃ g, gk = g + 1 := ⟨gk - 1, by have := hg rfl; omega⟩
        have CC := Lib.hid (cut_any l wr (by omega) (HM.out.below HB.out))
        have hcl := cut_len l
        rw [if_pos rfl, fOk_cut l] at hm
        have hg1 := hg rfl
        generalize (cutS l).1 = x at CC hm hcl
        generalize (cutS l).2.1 = l2 at CC hm hcl
        generalize (cutS l).2.2 = m2 at CC hm hcl
        have HCL := Lib.hid hcl
        have HG := Lib.hid hg1
        clear hcl hg hg1
        have CP := Lib.hid (fun W => cont_any x 43 W)
        have CH := Lib.hid (fun W => cont_any x 35 W)
        have hm' : ((!(x.contains 43 && !(x == [43])) && !(x.contains 35 && (!(x == [35]) || m2))) && (if m2 = true then fOk (levels l2) else true)) = ANS := by
          rw [← hm]
          unfold lvOk
          rw [eqBs, eqBs]
          simp only [decide_not]
        clear hm
        have hm := hm'
        clear hm'
        generalize hE1 : (x == [43]) = E1 at hm
        generalize hE2 : (x == [35]) = E2 at hm
        generalize hP : x.contains 43 = P at CP hm
        clear hP
        cases P with
        | false =>
          replace hm : (!(x.contains 35 && (!E2 || m2)) && (if m2 = true then fOk (levels l2) else true)) = ANS := hm
          clear hE1
          generalize hH : x.contains 35 = H at CH hm
          clear hH
          cases H with
          | false =>
            replace hm : (if m2 = true then fOk (levels l2) else true) = ANS := hm
            have HMM := Lib.hid hm
            clear hm
            go_wp2_with (first | ((with_reducible refine CC.out.mono ?_); rintro e' w1 ⟨rfl, hb1⟩) | ((with_reducible refine (CP.out _).mono ?_); rintro e' w2 ⟨rfl, rfl⟩) | ((with_reducible refine (CH.out _).mono ?_); rintro e' w2 ⟨rfl, rfl⟩))
            go_roundg g
            case measure => omega
            case rel => exact ⟨l2, _, rfl, rfl, HB.out.trans (hb1.mono HB.out.size), by have := HCL.out; omega, fun h => by have := HCL.out.2.2 h; have := HG.out; omega, HMM.out⟩
          | true =>
            cases E2 with
            | false =>
              replace hm : false = ANS := hm
              have HMM := Lib.hid hm
              clear hm
              go_wp2_with (first | ((with_reducible refine CC.out.mono ?_); rintro e' w1 ⟨rfl, hb1⟩) | ((with_reducible refine (CP.out _).mono ?_); rintro e' w2 ⟨rfl, rfl⟩) | ((with_reducible refine (CH.out _).mono ?_); rintro e' w2 ⟨rfl, rfl⟩))
              refine wp_goto (HJ _ _ ?_)
              go_wp2
              rw [Exit.noGoto_ret]
              go_ret
              exact ⟨by rw [← HMM.out]; rfl, HB.out.trans (hb1.mono HB.out.size)⟩
            | true =>
              cases m2 with
              | true =>
                replace hm : false = ANS := hm
                have HMM := Lib.hid hm
                clear hm
                go_wp2_with (first | ((with_reducible refine CC.out.mono ?_); rintro e' w1 ⟨rfl, hb1⟩) | ((with_reducible refine (CP.out _).mono ?_); rintro e' w2 ⟨rfl, rfl⟩) | ((with_reducible refine (CH.out _).mono ?_); rintro e' w2 ⟨rfl, rfl⟩))
                refine wp_goto (HJ _ _ ?_)
                go_wp2
                rw [Exit.noGoto_ret]
                go_ret
                exact ⟨by rw [← HMM.out]; rfl, HB.out.trans (hb1.mono HB.out.size)⟩
              | false =>
                replace hm : true = ANS := hm
                have HMM := Lib.hid hm
                clear hm
                go_wp2_with (first | ((with_reducible refine CC.out.mono ?_); rintro e' w1 ⟨rfl, hb1⟩) | ((with_reducible refine (CP.out _).mono ?_); rintro e' w2 ⟨rfl, rfl⟩) | ((with_reducible refine (CH.out _).mono ?_); rintro e' w2 ⟨rfl, rfl⟩))
                go_roundg g
                case measure => omega
                case rel => exact ⟨l2, false, rfl, rfl, HB.out.trans (hb1.mono HB.out.size), by have := HCL.out; omega, fun h => by have := HCL.out.2.2 h; have := HG.out; omega, HMM.out⟩
        | true =>
          cases E1 with
          | false =>
            replace hm : false = ANS := hm
            have HMM := Lib.hid hm
            clear hm
            go_wp2_with (first | ((with_reducible refine CC.out.mono ?_); rintro e' w1 ⟨rfl, hb1⟩) | ((with_reducible refine (CP.out _).mono ?_); rintro e' w2 ⟨rfl, rfl⟩) | ((with_reducible refine (CH.out _).mono ?_); rintro e' w2 ⟨rfl, rfl⟩))
            refine wp_goto (HJ _ _ ?_)
            go_wp2
            rw [Exit.noGoto_ret]
            go_ret
            exact ⟨by rw [← HMM.out]; rfl, HB.out.trans (hb1.mono HB.out.size)⟩
          | true =>
            replace hm : (!(x.contains 35 && (!E2 || m2)) && (if m2 = true then fOk (levels l2) else true)) = ANS := hm
            generalize hH : x.contains 35 = H at CH hm
            clear hH
            cases H with
            | false =>
              replace hm : (if m2 = true then fOk (levels l2) else true) = ANS := hm
              have HMM := Lib.hid hm
              clear hm
              go_wp2_with (first | ((with_reducible refine CC.out.mono ?_); rintro e' w1 ⟨rfl, hb1⟩) | ((with_reducible refine (CP.out _).mono ?_); rintro e' w2 ⟨rfl, rfl⟩) | ((with_reducible refine (CH.out _).mono ?_); rintro e' w2 ⟨rfl, rfl⟩))
              go_roundg g
              case measure => omega
              case rel => exact ⟨l2, _, rfl, rfl, HB.out.trans (hb1.mono HB.out.size), by have := HCL.out; omega, fun h => by have := HCL.out.2.2 h; have := HG.out; omega, HMM.out⟩
            | true =>
              cases E2 with
              | false =>
                replace hm : false = ANS := hm
                have HMM := Lib.hid hm
                clear hm
                go_wp2_with (first | ((with_reducible refine CC.out.mono ?_); rintro e' w1 ⟨rfl, hb1⟩) | ((with_reducible refine (CP.out _).mono ?_); rintro e' w2 ⟨rfl, rfl⟩) | ((with_reducible refine (CH.out _).mono ?_); rintro e' w2 ⟨rfl, rfl⟩))
                refine wp_goto (HJ _ _ ?_)
                go_wp2
                rw [Exit.noGoto_ret]
                go_ret
                exact ⟨by rw [← HMM.out]; rfl, HB.out.trans (hb1.mono HB.out.size)⟩
              | true =>
                cases m2 with
                | true =>
                  replace hm : false = ANS := hm
                  have HMM := Lib.hid hm
                  clear hm
                  go_wp2_with (first | ((with_reducible refine CC.out.mono ?_); rintro e' w1 ⟨rfl, hb1⟩) | ((with_reducible refine (CP.out _).mono ?_); rintro e' w2 ⟨rfl, rfl⟩) | ((with_reducible refine (CH.out _).mono ?_); rintro e' w2 ⟨rfl, rfl⟩))
                  refine wp_goto (HJ _ _ ?_)
                  go_wp2
                  rw [Exit.noGoto_ret]
                  go_ret
                  exact ⟨by rw [← HMM.out]; rfl, HB.out.trans (hb1.mono HB.out.size)⟩
                | false =>
                  replace hm : true = ANS := hm
                  have HMM := Lib.hid hm
                  clear hm
                  go_wp2_with (first | ((with_reducible refine CC.out.mono ?_); rintro e' w1 ⟨rfl, hb1⟩) | ((with_reducible refine (CP.out _).mono ?_); rintro e' w2 ⟨rfl, rfl⟩) | ((with_reducible refine (CH.out _).mono ?_); rintro e' w2 ⟨rfl, rfl⟩))
                  go_roundg g
                  case measure => omega
                  case rel => exact ⟨l2, false, rfl, rfl, HB.out.trans (hb1.mono HB.out.size), by have := HCL.out; omega, fun h => by have := HCL.out.2.2 h; have := HG.out; omega, HMM.out⟩
end Go.Proofs.YtoibdhncfdjdoaaDoor
