/-
  What was said last: Check.
-/
import Derived.Test.YtoibdhncfdjdoaaDoorKeC
namespace Go.Proofs.YtoibdhncfdjdoaaDoor
open Go.RowKit Go.Lib
set_option maxRecDepth 100000 in
set_option maxHeartbeats 4000000 in
theorem check_any (v : Value) (L : List EMessage) (w : World) (hE : Env w) (hv : SlOf w 4 EMessage.At v L) (hs : ∀ x ∈ L, x.t.size < 1000000) (hl : L.length ≤ 1000000) :
    Calls Tryd.prog 30 #[v] w fun e w' => e = .returned (errN (keptB L)) ∧ Below w.heap.size w w' := by
  obtain ⟨ao, cap, rfl, hlc, hlm, -, hB⟩ := hv
  have HB := Lib.hid hB
  have HE := Lib.hid hE
  have HS := Lib.hid hs
  clear hB hE hs
  have HBAD := Lib.hid (fun k (hk : k < L.length) (h : okAt L k = false) => show errN (keptB L) = .int .i64 1 by rw [kept_bad hk h]; rfl)
  have HGOOD := Lib.hid (fun (h1 : L.length ≤ 16) (h : ∀ k, k < L.length → okAt L k = true) => show errN (keptB L) = .int .i64 0 by rw [kept_good h1 h]; rfl)
  have HLONG := Lib.hid (fun (h1 : ¬ L.length ≤ 16) => show errN (keptB L) = .int .i64 1 by unfold keptB; rw [decide_eq_false h1]; rfl)
  generalize errN (keptB L) = ANS at HBAD HGOOD HLONG ⊢
  by_cases h16 : L.length ≤ 16
  · have h16z : ¬ (16 : Int) < (L.length : Int) := by omega
    clear HLONG
    go_enter Tryd.func30, Tryd.ntmps30
    go_wp2
    refine wp_scope_end rfl rfl fun J' HJ => ?_
    refine wpSpine_seq rfl fun K hK => ?_
    go_wp2
    refine wpSpine_seq rfl fun K hK => ?_
    go_wp2
    refine wpSpine_seq rfl fun K hK => ?_
    go_wp2
    go_loopw [11] (fun i wr => ∃ k : Nat, k ≤ L.length ∧ i = .int .i64 k ∧ Below w.heap.size w wr ∧ (∀ j, j < k → okAt L j = true)) (fun i _ => L.length - (RowKit.intOf i).toNat)
    case atStart => exact ⟨0, by omega, rfl, Below.refl _ _, fun j hj => by omega⟩
    case round =>
      obtain ⟨k, hk, rfl, hb, hok⟩ := hrel
      have HW := Lib.hid hb
      have HOK := Lib.hid hok
      clear hb hok
      by_cases hlt : k < L.length
      · have hltz : (k : Int) < (L.length : Int) := by omega
        obtain ⟨b, off, rfl, hbk, hBB⟩ := HB.out (by intro h; simp [h] at hlt)
        obtain ⟨x, hq⟩ : ∃ x, L[k]? = some x := ⟨_, List.getElem?_eq_getElem hlt⟩
        have hsx := HS.out x (List.mem_of_getElem? hq)
        obtain ⟨c0, c1, c2, c3⟩ := hBB _ x hq
        have d0 := (HW.out.cell (p := ⟨b, off + k * 4, none⟩) hbk).trans c0
        have d1 := (HW.out.cell (p := ⟨b, off + k * 4 + 1, none⟩) hbk).trans c1
        have d2 := (HW.out.cell (p := ⟨b, off + k * 4 + 2, none⟩) hbk).trans c2
        have d3 := (HW.out.cell (p := ⟨b, off + k * 4 + 3, none⟩) hbk).trans c3
        have HBB := Lib.hid hBB
        have HQ := Lib.hid hq
        clear hBB c0 c1 c2 c3 hq
        go_wp2_with fail
        refine wp_gen (fun W => Below wr.heap.size wr W ∧ MxAt W wr.heap.size x) ⟨(Below.refl _ _).alloc (Nat.le_refl _) _, by simp [go_sem], by simp [go_sem], by simp [go_sem], by simp [go_sem], by simp⟩ ?_
        rintro W1 ⟨hb1, f0, f1, f2, f3, hlt0⟩
        have HBW := Lib.hid (HW.out.trans (hb1.mono HW.out.size))
        have fp1 := fun p (hp : p.block < wr.heap.size) => hb1.cell (p := p) hp
        have HFP := Lib.hid fp1
        have hws := HW.out.size
        clear hb1 d0 d1 d2 d3 fp1
        obtain ⟨q0, hq0⟩ : ∃ q0, q0 = wr.heap.size := ⟨_, rfl⟩
        have hbq : b < q0 := by omega
        have HQ0 := Lib.hid hq0
        rw [← hq0] at f0 f1 f2 f3 hlt0 ⊢
        clear hq0 hws
        have CV := Lib.hid (fun W (hb : Below w.heap.size w W) => valid_any x W hsx (HE.out.below hb))
        cases hX : msgB x with
        | false =>
          have HF := Lib.hid (HBAD.out k hlt (okAt_msg HQ.out hX))
          have C1 := Lib.hid (show ∀ W (hb : Below w.heap.size w W), Calls Tryd.prog 52 #[.agg #[.string x.t, .string x.p, .int .i64 x.q, .bool x.r]] W fun e w' => e = .returned (.bool false) ∧ Below W.heap.size W w' from fun W hb => by have := CV.out W hb; rw [hX] at this; exact this)
          have CQ := Lib.hid (grown_call fun g : Grown W1 => C1.out g.w (HBW.out.trans (g.low.mono HBW.out.size)))
          have gf0 := Grown.cell f0 hlt0
          have gf1 := Grown.cell f1 hlt0
          have gf2 := Grown.cell f2 hlt0
          have gf3 := Grown.cell f3 hlt0
          clear f0 f1 f2 f3 CV hX
          refine wp_region_grown (by kernel_rfl) (by kernel_rfl) ?_
          repeat (go_big_quiet_step (exact CQ.out _))
          refine wpQuiet_nil ?_
          rintro _ ⟨g4, rfl⟩
          have HB4 := Lib.hid (HBW.out.trans (g4.low.mono HBW.out.size))
          clear gf0 gf1 gf2 gf3 CQ C1
          go_wp2
          refine wp_goto (HJ _ _ ?_)
          go_wp2
          rw [Exit.noGoto_ret]
          go_ret
          exact ⟨by rw [HF.out]; rfl, HB4.out⟩

        | true =>
          cases hN : noneB x with
          | true =>
            have HF := Lib.hid (HBAD.out k hlt (okAt_none HQ.out hN))
            have hp1 : (x.p.toList == (⟨#[]⟩ : ByteArray).toList) = true := hN
            have hp2 : (x.p.toList == []) = true := by rw [← hN]; unfold noneB; rw [show (⟨#[]⟩ : ByteArray).toList = [] by rw [Lib.toList_data]]
            have hp3 : x.p.toList.isEmpty = true := by rw [← hp2]; cases x.p.toList <;> rfl
            clear hN
            have C1 := Lib.hid (show ∀ W (hb : Below w.heap.size w W), Calls Tryd.prog 52 #[.agg #[.string x.t, .string x.p, .int .i64 x.q, .bool x.r]] W fun e w' => e = .returned (.bool true) ∧ Below W.heap.size W w' from fun W hb => by have := CV.out W hb; rw [hX] at this; exact this)
            have CQ := Lib.hid (grown_call fun g : Grown W1 => C1.out g.w (HBW.out.trans (g.low.mono HBW.out.size)))
            have gf0 := Grown.cell f0 hlt0
            have gf1 := Grown.cell f1 hlt0
            have gf2 := Grown.cell f2 hlt0
            have gf3 := Grown.cell f3 hlt0
            clear f0 f1 f2 f3 CV hX
            refine wp_region_grown (by kernel_rfl) (by kernel_rfl) ?_
            repeat (go_big_quiet_step (exact CQ.out _))
            refine wpQuiet_nil ?_
            rintro _ ⟨g4, rfl⟩
            have HB4 := Lib.hid (HBW.out.trans (g4.low.mono HBW.out.size))
            clear gf0 gf1 gf2 gf3 CQ C1
            go_wp2
            refine wp_goto (HJ _ _ ?_)
            go_wp2
            rw [Exit.noGoto_ret]
            go_ret
            exact ⟨by rw [HF.out]; rfl, HB4.out⟩

          | false =>
            by_cases hk0 : 0 < k
            · have hk0z : (0 : Int) < (k : Int) := by omega
              obtain ⟨p, hp⟩ : ∃ p, L[k - 1]? = some p := ⟨_, List.getElem?_eq_getElem (by omega)⟩
              have hkk : k - 1 + 1 = k := by omega
              have fp : W1.cell? ⟨b, off + (k - 1) * 4, none⟩ = some (.string p.t) := (HFP.out ⟨b, off + (k - 1) * 4, none⟩ (by rw [← HQ0.out]; exact hbq)).trans ((HW.out.cell (p := ⟨b, off + (k - 1) * 4, none⟩) hbk).trans (HBB.out _ p hp).1)
              have hbk1 : b < W1.heap.size := by omega
              have hok := okAt_succ hp (by rw [hkk]; exact HQ.out)
              rw [hkk, hX, hN, Bool.not_false, Bool.true_and, Bool.true_and] at hok
              clear hp
              have hp1 : (x.p.toList == (⟨#[]⟩ : ByteArray).toList) = false := hN
              have hp2 : (x.p.toList == []) = false := by rw [← hN]; unfold noneB; rw [show (⟨#[]⟩ : ByteArray).toList = [] by rw [Lib.toList_data]]
              have hp3 : x.p.toList.isEmpty = false := by rw [← hp2]; cases x.p.toList <;> rfl
              clear hN
              have HTR := Lib.hid (sl_tri p.t x.t)
              cases hs : sl p.t x.t with
              | false =>
                rw [hs] at hok
                have HF := Lib.hid (HBAD.out k hlt hok)
                have hleq : (Op.bytesLess x.t.toList p.t.toList || x.t.toList == p.t.toList) = true := by
                  rcases HTR.out with h | h | h
                  · rw [hs] at h; cases h
                  · rw [h]; simp
                  · rw [show Op.bytesLess x.t.toList p.t.toList = true from h]; rfl
                clear hok hs
                have C1 := Lib.hid (show ∀ W (hb : Below w.heap.size w W), Calls Tryd.prog 52 #[.agg #[.string x.t, .string x.p, .int .i64 x.q, .bool x.r]] W fun e w' => e = .returned (.bool true) ∧ Below W.heap.size W w' from fun W hb => by have := CV.out W hb; rw [hX] at this; exact this)
                have CQ := Lib.hid (grown_call fun g : Grown W1 => C1.out g.w (HBW.out.trans (g.low.mono HBW.out.size)))
                have gf0 := Grown.cell f0 hlt0
                have gf1 := Grown.cell f1 hlt0
                have gf2 := Grown.cell f2 hlt0
                have gf3 := Grown.cell f3 hlt0
                have gfp := Grown.cell fp hbk1
                clear f0 f1 f2 f3 CV hX fp
                refine wp_region_grown (by kernel_rfl) (by kernel_rfl) ?_
                repeat (go_big_quiet_step (exact CQ.out _))
                refine wpQuiet_nil ?_
                rintro _ ⟨g4, rfl⟩
                have HB4 := Lib.hid (HBW.out.trans (g4.low.mono HBW.out.size))
                clear gf0 gf1 gf2 gf3 CQ C1 gfp
                go_wp2
                refine wp_goto (HJ _ _ ?_)
                go_wp2
                rw [Exit.noGoto_ret]
                go_ret
                exact ⟨by rw [HF.out]; rfl, HB4.out⟩

              | true =>
                rw [hs] at hok
                have HO := Lib.hid hok
                have hleq : (Op.bytesLess x.t.toList p.t.toList || x.t.toList == p.t.toList) = false := by
                  rw [show Op.bytesLess x.t.toList p.t.toList = false from sl_asym hs]
                  exact beq_eq_false_iff_ne.2 (fun e => sl_ne hs (toL_inj e).symm)
                clear hok hs
                have C1 := Lib.hid (show ∀ W (hb : Below w.heap.size w W), Calls Tryd.prog 52 #[.agg #[.string x.t, .string x.p, .int .i64 x.q, .bool x.r]] W fun e w' => e = .returned (.bool true) ∧ Below W.heap.size W w' from fun W hb => by have := CV.out W hb; rw [hX] at this; exact this)
                have CQ := Lib.hid (grown_call fun g : Grown W1 => C1.out g.w (HBW.out.trans (g.low.mono HBW.out.size)))
                have gf0 := Grown.cell f0 hlt0
                have gf1 := Grown.cell f1 hlt0
                have gf2 := Grown.cell f2 hlt0
                have gf3 := Grown.cell f3 hlt0
                have gfp := Grown.cell fp hbk1
                clear f0 f1 f2 f3 CV hX fp
                refine wp_region_grown (by kernel_rfl) (by kernel_rfl) ?_
                repeat (go_big_quiet_step (exact CQ.out _))
                refine wpQuiet_nil ?_
                rintro _ ⟨g4, rfl⟩
                have HB4 := Lib.hid (HBW.out.trans (g4.low.mono HBW.out.size))
                clear gf0 gf1 gf2 gf3 CQ C1 gfp
                go_wp2
                go_roundw
                case rel => exact ⟨k + 1, by omega, by go_num, HB4.out, fun j hj => by
                  rcases Nat.lt_or_ge j k with h | h
                  · exact HOK.out j h
                  · obtain rfl : j = k := by omega
                    exact HO.out⟩
                case measure => simp [RowKit.intOf]; omega

            · have hk0z : ¬ (0 : Int) < (k : Int) := by omega
              have HO := Lib.hid (show okAt L k = true by
                obtain rfl : k = 0 := by omega
                rw [okAt_zero HQ.out, hX, hN]; rfl)
              have hp1 : (x.p.toList == (⟨#[]⟩ : ByteArray).toList) = false := hN
              have hp2 : (x.p.toList == []) = false := by rw [← hN]; unfold noneB; rw [show (⟨#[]⟩ : ByteArray).toList = [] by rw [Lib.toList_data]]
              have hp3 : x.p.toList.isEmpty = false := by rw [← hp2]; cases x.p.toList <;> rfl
              clear hN
              have C1 := Lib.hid (show ∀ W (hb : Below w.heap.size w W), Calls Tryd.prog 52 #[.agg #[.string x.t, .string x.p, .int .i64 x.q, .bool x.r]] W fun e w' => e = .returned (.bool true) ∧ Below W.heap.size W w' from fun W hb => by have := CV.out W hb; rw [hX] at this; exact this)
              have CQ := Lib.hid (grown_call fun g : Grown W1 => C1.out g.w (HBW.out.trans (g.low.mono HBW.out.size)))
              have gf0 := Grown.cell f0 hlt0
              have gf1 := Grown.cell f1 hlt0
              have gf2 := Grown.cell f2 hlt0
              have gf3 := Grown.cell f3 hlt0
              clear f0 f1 f2 f3 CV hX
              refine wp_region_grown (by kernel_rfl) (by kernel_rfl) ?_
              repeat (go_big_quiet_step (exact CQ.out _))
              refine wpQuiet_nil ?_
              rintro _ ⟨g4, rfl⟩
              have HB4 := Lib.hid (HBW.out.trans (g4.low.mono HBW.out.size))
              clear gf0 gf1 gf2 gf3 CQ C1
              go_wp2
              go_roundw
              case rel => exact ⟨k + 1, by omega, by go_num, HB4.out, fun j hj => by
                rcases Nat.lt_or_ge j k with h | h
                · exact HOK.out j h
                · obtain rfl : j = k := by omega
                  exact HO.out⟩
              case measure => simp [RowKit.intOf]; omega

      · obtain rfl : k = L.length := by omega
        have HF := Lib.hid (HGOOD.out h16 HOK.out)
        clear hlt
        go_wp2
        refine wpSpine_seq rfl fun K hK => ?_
        go_wp2
        refine wpSpine_label (HJ _ _ ?_)
        go_wp2
        rw [Exit.noGoto_ret]
        go_ret
        exact ⟨by rw [HF.out]; rfl, HW.out⟩
  · have h16z : (16 : Int) < (L.length : Int) := by omega
    have HF := Lib.hid (HLONG.out h16)
    clear h16
    go_enter Tryd.func30, Tryd.ntmps30
    go_wp2
    refine wp_scope_end rfl rfl fun J' HJ => ?_
    refine wpSpine_seq rfl fun K hK => ?_
    go_wp2
    refine wpSpine_seq rfl fun K hK => ?_
    go_wp2
    refine wp_goto (HJ _ _ ?_)
    go_wp2
    rw [Exit.noGoto_ret]
    go_ret
    exact ⟨by rw [HF.out]; rfl, Below.refl _ _⟩
end Go.Proofs.YtoibdhncfdjdoaaDoor
