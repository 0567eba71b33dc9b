/-
  What is kept: the reference's Kept.
-/
import Derived.Test.YtoibdhncfdjdoaaDoorKeW
import Derived.Test.YtoibdhncfdjdoaaDoorGq
namespace Go.Proofs.YtoibdhncfdjdoaaDoor
open Go.RowKit Go.Lib
set_option maxRecDepth 100000 in
set_option maxHeartbeats 8000000 in
theorem rkept_any (v : Value) (L : List EMessage) (w : World) (hE : Env w) (hv : SlOf w 4 EMessage.At v L) (hs : ∀ x ∈ L, x.t.size < 1000000) (hl : L.length ≤ 1000000) :
    Calls Tryd.prog 28 #[v] w fun e w' => e = .returned (.bool (keptB L)) ∧ Below w.heap.size w w' := by
  obtain ⟨ao, cap, rfl, hlc, hlm, -, hB⟩ := hv
  have HB := Lib.hid hB
  have HE := Lib.hid hE
  have HS := Lib.hid hs
  clear hB hE hs
  have HBAD := Lib.hid (fun k (hk : k < L.length) (h : okAt L k = false) => show keptB L = false from kept_bad hk h)
  have HGOOD := Lib.hid (fun (h1 : L.length ≤ 16) (h : ∀ k, k < L.length → okAt L k = true) => show keptB L = true from kept_good h1 h)
  have HLONG := Lib.hid (fun (h1 : ¬ L.length ≤ 16) => show keptB L = false by unfold keptB; rw [decide_eq_false h1]; rfl)
  generalize keptB L = ANS at HBAD HGOOD HLONG ⊢
  by_cases h16 : L.length ≤ 16
  · have h16z : ¬ (16 : Int) < (L.length : Int) := by omega
    clear HLONG
    go_enter Tryd.func28, Tryd.ntmps28
    go_wp2
    go_loopw [3] (fun i wr => ∃ k : Nat, k ≤ L.length ∧ i = .int .i64 k ∧ Below w.heap.size w wr ∧ (∀ j, j < k → okAt L j = true)) (fun i _ => L.length - (RowKit.intOf i).toNat)
    case atStart => exact ⟨0, by omega, rfl, Below.refl _ _, fun j hj => by omega⟩
    case round =>
      obtain ⟨k, hk, rfl, hb, hok⟩ := hrel
      have HW := Lib.hid hb
      have HOK := Lib.hid hok
      have hws := hb.size
      clear hb hok
      by_cases hlt : k < L.length
      · have hltz : (k : Int) < (L.length : Int) := by omega
        obtain ⟨b, off, rfl, hbk, hBB⟩ := HB.out (by intro h; simp [h] at hlt)
        have hbr : b < wr.heap.size := by omega
        obtain ⟨x, hq⟩ : ∃ x, L[k]? = some x := ⟨_, List.getElem?_eq_getElem hlt⟩
        have hsx := HS.out x (List.mem_of_getElem? hq)
        obtain ⟨c0, c1, c2, c3⟩ := hBB _ x hq
        have f0 := (HW.out.cell (p := ⟨b, off + k * 4, none⟩) hbk).trans c0
        have f1 := (HW.out.cell (p := ⟨b, off + k * 4 + 1, none⟩) hbk).trans c1
        have f2 := (HW.out.cell (p := ⟨b, off + k * 4 + 2, none⟩) hbk).trans c2
        have f3 := (HW.out.cell (p := ⟨b, off + k * 4 + 3, none⟩) hbk).trans c3
        have HBB := Lib.hid hBB
        have HQ := Lib.hid hq
        clear hBB c0 c1 c2 c3 hq hws
        have CV := Lib.hid (fun W (hb : Below w.heap.size w W) => rmsg_any x W hsx (HE.out.below hb))
        go_wp2_with fail
        cases hX : msgB x with
        | false =>
          have HF := Lib.hid (HBAD.out k hlt (okAt_msg HQ.out hX))
          have CQ := Lib.hid (grown_call (v := .bool false) fun g : Grown wr => by have := CV.out g.w (HW.out.trans (g.low.mono HW.out.size)); rw [hX] at this; exact this)
          clear CV hX
          have gf0 := Grown.cell f0 hbr
          have gf1 := Grown.cell f1 hbr
          have gf2 := Grown.cell f2 hbr
          have gf3 := Grown.cell f3 hbr
          clear f0 f1 f2 f3
          refine wp_region_grown (by kernel_rfl) (by kernel_rfl) ?_
          repeat (go_big_quiet_step (exact CQ.out _))
          refine wpQuiet_nil ?_
          rintro _ ⟨g4, rfl⟩
          have HB4 := Lib.hid (HW.out.trans (g4.low.mono HW.out.size))
          clear gf0 gf1 gf2 gf3 CQ
          go_wp2
          go_ret
          exact ⟨by rw [HF.out]; rfl, HB4.out⟩
        | true =>
          have CQ := Lib.hid (grown_call (v := .bool true) fun g : Grown wr => by have := CV.out g.w (HW.out.trans (g.low.mono HW.out.size)); rw [hX] at this; exact this)
          clear CV
          cases hN : noneB x with
          | true =>
            have HF := Lib.hid (HBAD.out k hlt (okAt_none HQ.out hN))
            have hne : (x.p.toList == []) = true := by rw [← hN]; unfold noneB; rw [show (⟨#[]⟩ : ByteArray).toList = [] by rw [Lib.toList_data]]
            clear hX hN
            have gf0 := Grown.cell f0 hbr
            have gf1 := Grown.cell f1 hbr
            have gf2 := Grown.cell f2 hbr
            have gf3 := Grown.cell f3 hbr
            clear f0 f1 f2 f3
            refine wp_region_grown (by kernel_rfl) (by kernel_rfl) ?_
            repeat (go_big_quiet_step (exact CQ.out _))
            refine wpQuiet_nil ?_
            rintro _ ⟨g4, rfl⟩
            have HB4 := Lib.hid (HW.out.trans (g4.low.mono HW.out.size))
            clear gf0 gf1 gf2 gf3 CQ
            go_wp2
            go_ret
            exact ⟨by rw [HF.out]; rfl, HB4.out⟩
          | false =>
            have hne : (x.p.toList == []) = false := by rw [← hN]; unfold noneB; rw [show (⟨#[]⟩ : ByteArray).toList = [] by rw [Lib.toList_data]]
            by_cases hk0 : 0 < k
            · have hk0z : (0 : Int) < (k : Int) := by omega
              obtain ⟨p, hp⟩ : ∃ p, L[k - 1]? = some p := ⟨_, List.getElem?_eq_getElem (by omega)⟩
              have hkk : k - 1 + 1 = k := by omega
              have fp : wr.cell? ⟨b, off + (k - 1) * 4, none⟩ = some (.string p.t) := (HW.out.cell (p := ⟨b, off + (k - 1) * 4, none⟩) hbk).trans (HBB.out _ p hp).1
              have hok := okAt_succ hp (by rw [hkk]; exact HQ.out)
              rw [hkk, hX, hN, Bool.not_false, Bool.and_true, Bool.true_and] at hok
              clear hX hN hp
              have HTR := Lib.hid (sl_tri p.t x.t)
              cases hs : sl p.t x.t with
              | false =>
                rw [hs] at hok
                have HF := Lib.hid (HBAD.out k hlt hok)
                have hleq : Op.bytesLess p.t.toList x.t.toList = false := hs
                clear hok hs
                have gf0 := Grown.cell f0 hbr
                have gf1 := Grown.cell f1 hbr
                have gf2 := Grown.cell f2 hbr
                have gf3 := Grown.cell f3 hbr
                have gfp := Grown.cell fp hbr
                clear f0 f1 f2 f3 fp
                refine wp_region_grown (by kernel_rfl) (by kernel_rfl) ?_
                repeat (go_big_quiet_step (exact CQ.out _))
                refine wpQuiet_nil ?_
                rintro _ ⟨g4, rfl⟩
                have HB4 := Lib.hid (HW.out.trans (g4.low.mono HW.out.size))
                clear gf0 gf1 gf2 gf3 gfp CQ
                go_wp2
                go_ret
                exact ⟨by rw [HF.out]; rfl, HB4.out⟩
              | true =>
                rw [hs] at hok
                have HO := Lib.hid hok
                have hleq : Op.bytesLess p.t.toList x.t.toList = true := hs
                clear hok hs
                have gf0 := Grown.cell f0 hbr
                have gf1 := Grown.cell f1 hbr
                have gf2 := Grown.cell f2 hbr
                have gf3 := Grown.cell f3 hbr
                have gfp := Grown.cell fp hbr
                clear f0 f1 f2 f3 fp
                refine wp_region_grown (by kernel_rfl) (by kernel_rfl) ?_
                repeat (go_big_quiet_step (exact CQ.out _))
                refine wpQuiet_nil ?_
                rintro _ ⟨g4, rfl⟩
                have HB4 := Lib.hid (HW.out.trans (g4.low.mono HW.out.size))
                clear gf0 gf1 gf2 gf3 gfp CQ
                go_wp2
                go_roundw
                case rel => exact ⟨k + 1, by omega, by go_num, HB4.out, fun j hj => by
                  rcases Nat.lt_or_ge j k with h | h
                  · exact HOK.out j h
                  · obtain rfl : j = k := by omega
                    exact HO.out⟩
                case measure => simp [RowKit.intOf]; omega
            · have hk0z : ¬ (0 : Int) < (k : Int) := by omega
              have HO := Lib.hid (show okAt L k = true by
                obtain rfl : k = 0 := by omega
                rw [okAt_zero HQ.out, hX, hN]; rfl)
              clear hX hN
              have gf0 := Grown.cell f0 hbr
              have gf1 := Grown.cell f1 hbr
              have gf2 := Grown.cell f2 hbr
              have gf3 := Grown.cell f3 hbr
              clear f0 f1 f2 f3
              refine wp_region_grown (by kernel_rfl) (by kernel_rfl) ?_
              repeat (go_big_quiet_step (exact CQ.out _))
              refine wpQuiet_nil ?_
              rintro _ ⟨g4, rfl⟩
              have HB4 := Lib.hid (HW.out.trans (g4.low.mono HW.out.size))
              clear gf0 gf1 gf2 gf3 CQ
              go_wp2
              go_roundw
              case rel => exact ⟨k + 1, by omega, by go_num, HB4.out, fun j hj => by
                rcases Nat.lt_or_ge j k with h | h
                · exact HOK.out j h
                · obtain rfl : j = k := by omega
                  exact HO.out⟩
              case measure => simp [RowKit.intOf]; omega
      · obtain rfl : k = L.length := by omega
        have HF := Lib.hid (HGOOD.out h16 HOK.out)
        clear hlt
        go_wp2
        go_ret
        exact ⟨by rw [HF.out]; rfl, HW.out⟩
  · have h16z : (16 : Int) < (L.length : Int) := by omega
    have HF := Lib.hid (HLONG.out h16)
    clear h16
    go_enter Tryd.func28, Tryd.ntmps28
    go_wp2
    go_ret
    exact ⟨by rw [HF.out]; rfl, Below.refl _ _⟩
end Go.Proofs.YtoibdhncfdjdoaaDoor
