/-
  Who wants what: Check.
-/
import Derived.Test.YtoibdhncfdjdoaaDoorSuC
import Derived.Test.YtoibdhncfdjdoaaDoorGq
namespace Go.Proofs.YtoibdhncfdjdoaaDoor
open Go.RowKit Go.Lib
set_option maxRecDepth 100000 in
set_option maxHeartbeats 4000000 in
theorem check_any (v : Value) (L : List EWish) (w : World) (hE : Env w) (hv : SlOf w 2 EWish.At v L) (hs : ∀ x ∈ L, x.f.size < 1000000) (hl : L.length ≤ 1000000) :
    Calls Tryd.prog 13 #[v] w fun e w' => e = .returned (errN (subsB L)) ∧ Below w.heap.size w w' := by
  obtain ⟨ao, cap, rfl, hlc, hlm, -, hB⟩ := hv
  have HB := Lib.hid hB
  have HE := Lib.hid hE
  have HS := Lib.hid hs
  clear hB hE hs
  have HBAD := Lib.hid (fun k (hk : k < L.length) (h : okAt L k = false) => show errN (subsB L) = .int .i64 1 by rw [subs_bad hk h]; rfl)
  have HGOOD := Lib.hid (fun (h1 : L.length ≤ 16) (h : ∀ k, k < L.length → okAt L k = true) => show errN (subsB L) = .int .i64 0 by rw [subs_good h1 h]; rfl)
  have HLONG := Lib.hid (fun (h1 : ¬ L.length ≤ 16) => show errN (subsB L) = .int .i64 1 by unfold subsB; rw [decide_eq_false h1]; rfl)
  generalize errN (subsB L) = ANS at HBAD HGOOD HLONG ⊢
  by_cases h16 : L.length ≤ 16
  · have h16z : ¬ (16 : Int) < (L.length : Int) := by omega
    clear HLONG
    go_enter Tryd.func13, Tryd.ntmps13
    go_wp2
    refine wp_scope_end rfl rfl fun J' HJ => ?_
    refine wpSpine_seq rfl fun K hK => ?_
    go_wp2
    refine wpSpine_seq rfl fun K hK => ?_
    go_wp2
    refine wpSpine_seq rfl fun K hK => ?_
    go_wp2
    go_loopw [11] (fun i wr => ∃ k : Nat, k ≤ L.length ∧ i = .int .i64 k ∧ Below w.heap.size w wr ∧ (∀ j, j < k → okAt L j = true)) (fun i _ => L.length - (RowKit.intOf i).toNat)
    case atStart => exact ⟨0, by omega, rfl, Below.refl _ _, fun j hj => by omega⟩
    case round =>
      obtain ⟨k, hk, rfl, hb, hok⟩ := hrel
      have HW := Lib.hid hb
      have HOK := Lib.hid hok
      clear hb hok
      by_cases hlt : k < L.length
      · have hltz : (k : Int) < (L.length : Int) := by omega
        obtain ⟨b, off, rfl, hbk, hBB⟩ := HB.out (by intro h; simp [h] at hlt)
        obtain ⟨x, hq⟩ : ∃ x, L[k]? = some x := ⟨_, List.getElem?_eq_getElem hlt⟩
        have hsx := HS.out x (List.mem_of_getElem? hq)
        obtain ⟨c0, c1⟩ := hBB _ x hq
        have d0 := (HW.out.cell (p := ⟨b, off + k * 2, none⟩) hbk).trans c0
        have d1 := (HW.out.cell (p := ⟨b, off + k * 2 + 1, none⟩) hbk).trans c1
        have HBB := Lib.hid hBB
        have HQ := Lib.hid hq
        clear hBB c0 c1 hq
        go_wp2_with fail
        refine wp_gen (fun W => Below wr.heap.size wr W ∧ W.cell? ⟨wr.heap.size, 0, none⟩ = some (.string x.f) ∧ W.cell? ⟨wr.heap.size, 1, none⟩ = some (.int .i64 x.q) ∧ wr.heap.size < W.heap.size) ⟨(Below.refl _ _).alloc (Nat.le_refl _) _, by simp [go_sem], by simp [go_sem], by simp⟩ ?_
        rintro W1 ⟨hb1, f0, f1, hlt0⟩
        have HBW := Lib.hid (HW.out.trans (hb1.mono HW.out.size))
        have fp1 := fun p (hp : p.block < wr.heap.size) => hb1.cell (p := p) hp
        have HFP := Lib.hid fp1
        have hws := HW.out.size
        clear hb1 d0 d1 fp1
        obtain ⟨q0, hq0⟩ : ∃ q0, q0 = wr.heap.size := ⟨_, rfl⟩
        have hbq : b < q0 := by omega
        have HQ0 := Lib.hid hq0
        rw [← hq0] at f0 f1 hlt0 ⊢
        clear hq0 hws
        have CV := Lib.hid (fun W (hb : Below w.heap.size w W) => valid_any x W hsx (HE.out.below hb))
        cases hX : wishB x with
        | false =>
          have HF := Lib.hid (HBAD.out k hlt (okAt_wish HQ.out hX))
          have C1 := Lib.hid (show ∀ W (hb : Below w.heap.size w W), Calls Tryd.prog 40 #[.agg #[.string x.f, .int .i64 x.q]] W fun e w' => e = .returned (.bool false) ∧ Below W.heap.size W w' from fun W hb => by have := CV.out W hb; rw [hX] at this; exact this)
          clear CV hX
          have CQ := Lib.hid (grown_call fun g : Grown W1 => C1.out g.w (HBW.out.trans (g.low.mono HBW.out.size)))
          have gf0 := Grown.cell f0 hlt0
          have gf1 := Grown.cell f1 hlt0
          clear f0 f1
          refine wp_region_grown (by kernel_rfl) (by kernel_rfl) ?_
          repeat (go_big_quiet_step (exact CQ.out _))
          refine wpQuiet_nil ?_
          rintro _ ⟨g4, rfl⟩
          have HB4 := Lib.hid (HBW.out.trans (g4.low.mono HBW.out.size))
          clear gf0 gf1 CQ C1
          go_wp2
          refine wp_goto (HJ _ _ ?_)
          go_wp2
          rw [Exit.noGoto_ret]
          go_ret
          exact ⟨by rw [HF.out]; rfl, HB4.out⟩
        | true =>
          have C1 := Lib.hid (show ∀ W (hb : Below w.heap.size w W), Calls Tryd.prog 40 #[.agg #[.string x.f, .int .i64 x.q]] W fun e w' => e = .returned (.bool true) ∧ Below W.heap.size W w' from fun W hb => by have := CV.out W hb; rw [hX] at this; exact this)
          by_cases hk0 : 0 < k
          · have hk0z : (0 : Int) < (k : Int) := by omega
            obtain ⟨p, hp⟩ : ∃ p, L[k - 1]? = some p := ⟨_, List.getElem?_eq_getElem (by omega)⟩
            have hkk : k - 1 + 1 = k := by omega
            have fp : W1.cell? ⟨b, off + (k - 1) * 2, none⟩ = some (.string p.f) := (HFP.out ⟨b, off + (k - 1) * 2, none⟩ (by rw [← HQ0.out]; exact hbq)).trans ((HW.out.cell (p := ⟨b, off + (k - 1) * 2, none⟩) hbk).trans (HBB.out _ p hp).1)
            have hbk1 : b < W1.heap.size := by omega
            have hok := okAt_succ hp (by rw [hkk]; exact HQ.out)
            rw [hkk, hX, Bool.true_and] at hok
            clear CV hX hp
            have HTR := Lib.hid (sl_tri p.f x.f)
            cases hs : sl p.f x.f with
            | false =>
              rw [hs] at hok
              have HF := Lib.hid (HBAD.out k hlt hok)
              have hleq : (Op.bytesLess x.f.toList p.f.toList || x.f.toList == p.f.toList) = true := by
                rcases HTR.out with h | h | h
                · rw [hs] at h; cases h
                · rw [h]; simp
                · rw [show Op.bytesLess x.f.toList p.f.toList = true from h]; rfl
              clear hok hs
              have CQ := Lib.hid (grown_call fun g : Grown W1 => C1.out g.w (HBW.out.trans (g.low.mono HBW.out.size)))
              have gf0 := Grown.cell f0 hlt0
              have gf1 := Grown.cell f1 hlt0
              have gfp := Grown.cell fp hbk1
              clear f0 f1 fp
              refine wp_region_grown (by kernel_rfl) (by kernel_rfl) ?_
              repeat (go_big_quiet_step (exact CQ.out _))
              refine wpQuiet_nil ?_
              rintro _ ⟨g4, rfl⟩
              have HB4 := Lib.hid (HBW.out.trans (g4.low.mono HBW.out.size))
              clear gf0 gf1 CQ C1 gfp
              go_wp2
              refine wp_goto (HJ _ _ ?_)
              go_wp2
              rw [Exit.noGoto_ret]
              go_ret
              exact ⟨by rw [HF.out]; rfl, HB4.out⟩
            | true =>
              rw [hs] at hok
              have HO := Lib.hid hok
              have hleq : (Op.bytesLess x.f.toList p.f.toList || x.f.toList == p.f.toList) = false := by
                rw [show Op.bytesLess x.f.toList p.f.toList = false from sl_asym hs]
                exact beq_eq_false_iff_ne.2 (fun e => sl_ne hs (toL_inj e).symm)
              clear hok hs
              have CQ := Lib.hid (grown_call fun g : Grown W1 => C1.out g.w (HBW.out.trans (g.low.mono HBW.out.size)))
              have gf0 := Grown.cell f0 hlt0
              have gf1 := Grown.cell f1 hlt0
              have gfp := Grown.cell fp hbk1
              clear f0 f1 fp
              refine wp_region_grown (by kernel_rfl) (by kernel_rfl) ?_
              repeat (go_big_quiet_step (exact CQ.out _))
              refine wpQuiet_nil ?_
              rintro _ ⟨g4, rfl⟩
              have HB4 := Lib.hid (HBW.out.trans (g4.low.mono HBW.out.size))
              clear gf0 gf1 CQ C1 gfp
              go_wp2
              go_roundw
              case rel => exact ⟨k + 1, by omega, by go_num, HB4.out, fun j hj => by
                rcases Nat.lt_or_ge j k with h | h
                · exact HOK.out j h
                · obtain rfl : j = k := by omega
                  exact HO.out⟩
              case measure => simp [RowKit.intOf]; omega
          · have hk0z : ¬ (0 : Int) < (k : Int) := by omega
            have HO := Lib.hid (show okAt L k = true by
              obtain rfl : k = 0 := by omega
              rw [okAt_zero HQ.out, hX])
            clear CV hX
            have CQ := Lib.hid (grown_call fun g : Grown W1 => C1.out g.w (HBW.out.trans (g.low.mono HBW.out.size)))
            have gf0 := Grown.cell f0 hlt0
            have gf1 := Grown.cell f1 hlt0
            clear f0 f1
            refine wp_region_grown (by kernel_rfl) (by kernel_rfl) ?_
            repeat (go_big_quiet_step (exact CQ.out _))
            refine wpQuiet_nil ?_
            rintro _ ⟨g4, rfl⟩
            have HB4 := Lib.hid (HBW.out.trans (g4.low.mono HBW.out.size))
            clear gf0 gf1 CQ C1
            go_wp2
            go_roundw
            case rel => exact ⟨k + 1, by omega, by go_num, HB4.out, fun j hj => by
              rcases Nat.lt_or_ge j k with h | h
              · exact HOK.out j h
              · obtain rfl : j = k := by omega
                exact HO.out⟩
            case measure => simp [RowKit.intOf]; omega
      · obtain rfl : k = L.length := by omega
        have HF := Lib.hid (HGOOD.out h16 HOK.out)
        clear hlt
        go_wp2
        refine wpSpine_seq rfl fun K hK => ?_
        go_wp2
        refine wpSpine_label (HJ _ _ ?_)
        go_wp2
        rw [Exit.noGoto_ret]
        go_ret
        exact ⟨by rw [HF.out]; rfl, HW.out⟩
  · have h16z : (16 : Int) < (L.length : Int) := by omega
    have HF := Lib.hid (HLONG.out h16)
    clear h16
    go_enter Tryd.func13, Tryd.ntmps13
    go_wp2
    refine wp_scope_end rfl rfl fun J' HJ => ?_
    refine wpSpine_seq rfl fun K hK => ?_
    go_wp2
    refine wpSpine_seq rfl fun K hK => ?_
    go_wp2
    refine wp_goto (HJ _ _ ?_)
    go_wp2
    rw [Exit.noGoto_ret]
    go_ret
    exact ⟨by rw [HF.out]; rfl, Below.refl _ _⟩
end Go.Proofs.YtoibdhncfdjdoaaDoor
