/-
  Who wants what: the reference's Match, Wish, Subs; what the laws ask besides; they wake.
-/
import Derived.Test.YtoibdhncfdjdoaaDoorSuF
namespace Go.Proofs.YtoibdhncfdjdoaaDoor
open Go.RowKit Go.Lib
theorem rmatch_ok (f t : ByteArray) (w : World) (hf : f.size < 1000000) (ht : t.size < 1000000) (hX : filtB f.data.toList = true) (hY : nameB t.data.toList = true) :
    Calls Tryd.prog 46 #[.string f, .string t] w fun e w' => e = .returned (.bool (matchB f.data.toList t.data.toList)) ∧ Below w.heap.size w w' := by
  have e1 : f = ⟨f.data.toList.toArray⟩ := by cases f; simp
  have e2 : t = ⟨t.data.toList.toArray⟩ := by cases t; simp
  have hf' : f.data.toList.length < 1000000 := by rw [← Lib.size_eq]; exact hf
  have ht' : t.data.toList.length < 1000000 := by rw [← Lib.size_eq]; exact ht
  rw [show (Value.string f) = .string ⟨f.data.toList.toArray⟩ from congrArg Value.string e1, show (Value.string t) = .string ⟨t.data.toList.toArray⟩ from congrArg Value.string e2]
  unfold matchB
  rw [hX, hY]
  obtain ⟨a, f', hfa, -⟩ := textB_ne (show textB f.data.toList = true by unfold filtB at hX; exact (Bool.and_eq_true _ _ ▸ hX).1)
  obtain ⟨b, t', htb, -⟩ := textB_ne (show textB t.data.toList = true by unfold nameB at hY; exact (Bool.and_eq_true _ _ ▸ hY).1)
  rw [hfa] at hf' ⊢
  rw [htb] at ht' ⊢
  cases hD : doll (a :: f') (b :: t') with
  | true => exact rmatch_doll a b f' t' w hD
  | false =>
    have := rmatch_any a b f' t' w hf' ht' hD
    exact this
theorem zNum_any (n m : Int) (w : World) : Calls Tryd.prog 49 #[.int .i64 n, .int .i64 m] w fun e w' => e = .returned (.bool (decide (0 ≤ n ∧ n ≤ m))) ∧ w = w' := by
  by_cases h : 0 ≤ n
  · go_enter Tryd.func49, Tryd.ntmps49
    go_wp2
    go_ret
    exact ⟨by simp [h], rfl⟩
  · go_enter Tryd.func49, Tryd.ntmps49
    go_wp2
    go_ret
    exact ⟨by simp; omega, rfl⟩

set_option maxRecDepth 100000 in
set_option maxHeartbeats 1000000 in
theorem rwish_any (x : EWish) (w : World) (hf : x.f.size < 1000000) (hE : Env w) :
    Calls Tryd.prog 21 #[.agg #[.string x.f, .int .i64 x.q]] w fun e w' => e = .returned (.bool (wishB x)) ∧ Below w.heap.size w w' := by
  have CF := Lib.hid (fun W (hb : Below w.heap.size w W) => rfilter_any x.f W hf (hE.below hb).1)
  have CN := Lib.hid (fun W => zNum_any x.q 2 W)
  unfold wishB
  rw [show (decide (0 ≤ x.q) && decide (x.q ≤ 2)) = decide (0 ≤ x.q ∧ x.q ≤ 2) from (Bool.decide_and _ _).symm]
  generalize decide (0 ≤ x.q ∧ x.q ≤ 2) = Z at CN ⊢
  cases hX : filtB x.f.data.toList with
  | false =>
    have C1 := Lib.hid (show ∀ W (hb : Below w.heap.size w W), Calls Tryd.prog 31 #[.string x.f] W fun e w' => e = .returned (.bool false) ∧ Below W.heap.size W w' from fun W hb => by have := CF.out W hb; rw [hX] at this; exact this)
    clear CF hX
    go_enter Tryd.func21, Tryd.ntmps21
    go_wp2_with fail
    refine calls_gen (fun W => Below w.heap.size w W) ((Below.refl _ _).alloc (Nat.le_refl _) _) ?_
    intro W1 hb1
    (with_reducible refine (C1.out W1 hb1).mono ?_)
    rintro e W2 ⟨rfl, hb2⟩
    go_wp2
    go_ret
    exact ⟨rfl, hb1.trans (hb2.mono hb1.size)⟩
  | true =>
    have C1 := Lib.hid (show ∀ W (hb : Below w.heap.size w W), Calls Tryd.prog 31 #[.string x.f] W fun e w' => e = .returned (.bool true) ∧ Below W.heap.size W w' from fun W hb => by have := CF.out W hb; rw [hX] at this; exact this)
    clear CF hX
    go_enter Tryd.func21, Tryd.ntmps21
    go_wp2_with fail
    refine calls_gen (fun W => Below w.heap.size w W ∧ WxAt W w.heap.size x) ⟨(Below.refl _ _).alloc (Nat.le_refl _) _, by simp [go_sem], by simp [go_sem], by simp⟩ ?_
    rintro W1 ⟨hb1, hx1⟩
    (with_reducible refine (C1.out W1 hb1).mono ?_)
    rintro e W2 ⟨rfl, hb2⟩
    obtain ⟨-, d1, -⟩ := hx1.below hb2
    have HB := Lib.hid (hb1.trans (hb2.mono hb1.size))
    clear hb1 hb2 hx1
    go_wp2_with ((with_reducible refine (CN.out _).mono ?_); rintro e w' ⟨rfl, rfl⟩)
    go_ret
    exact ⟨by simp, HB.out⟩
set_option maxRecDepth 100000 in
set_option maxHeartbeats 4000000 in
theorem rsubs_any (v : Value) (L : List EWish) (w : World) (hE : Env w) (hv : SlOf w 2 EWish.At v L) (hs : ∀ x ∈ L, x.f.size < 1000000) (hl : L.length ≤ 1000000) :
    Calls Tryd.prog 11 #[v] w fun e w' => e = .returned (.bool (subsB L)) ∧ Below w.heap.size w w' := by
  obtain ⟨ao, cap, rfl, hlc, hlm, -, hB⟩ := hv
  have HB := Lib.hid hB
  have HE := Lib.hid hE
  have HS := Lib.hid hs
  clear hB hE hs
  have HBAD := Lib.hid (fun k (hk : k < L.length) (h : okAt L k = false) => show subsB L = false from subs_bad hk h)
  have HGOOD := Lib.hid (fun (h1 : L.length ≤ 16) (h : ∀ k, k < L.length → okAt L k = true) => show subsB L = true from subs_good h1 h)
  have HLONG := Lib.hid (fun (h1 : ¬ L.length ≤ 16) => show subsB L = false by unfold subsB; rw [decide_eq_false h1]; rfl)
  generalize subsB L = ANS at HBAD HGOOD HLONG ⊢
  by_cases h16 : L.length ≤ 16
  · have h16z : ¬ (16 : Int) < (L.length : Int) := by omega
    clear HLONG
    go_enter Tryd.func11, Tryd.ntmps11
    go_wp2
    go_loopw [3] (fun i wr => ∃ k : Nat, k ≤ L.length ∧ i = .int .i64 k ∧ Below w.heap.size w wr ∧ (∀ j, j < k → okAt L j = true)) (fun i _ => L.length - (RowKit.intOf i).toNat)
    case atStart => exact ⟨0, by omega, rfl, Below.refl _ _, fun j hj => by omega⟩
    case round =>
      obtain ⟨k, hk, rfl, hb, hok⟩ := hrel
      have HW := Lib.hid hb
      have HOK := Lib.hid hok
      have hws := hb.size
      clear hb hok
      by_cases hlt : k < L.length
      · have hltz : (k : Int) < (L.length : Int) := by omega
        obtain ⟨b, off, rfl, hbk, hBB⟩ := HB.out (by intro h; simp [h] at hlt)
        have hbr : b < wr.heap.size := by omega
        obtain ⟨x, hq⟩ : ∃ x, L[k]? = some x := ⟨_, List.getElem?_eq_getElem hlt⟩
        have hsx := HS.out x (List.mem_of_getElem? hq)
        obtain ⟨c0, c1⟩ := hBB _ x hq
        have f0 := (HW.out.cell (p := ⟨b, off + k * 2, none⟩) hbk).trans c0
        have f1 := (HW.out.cell (p := ⟨b, off + k * 2 + 1, none⟩) hbk).trans c1
        have HBB := Lib.hid hBB
        have HQ := Lib.hid hq
        clear hBB c0 c1 hq hws
        have CV := Lib.hid (fun W (hb : Below w.heap.size w W) => rwish_any x W hsx (HE.out.below hb))
        go_wp2_with fail
        cases hX : wishB x with
        | false =>
          have HF := Lib.hid (HBAD.out k hlt (okAt_wish HQ.out hX))
          have CQ := Lib.hid (grown_call (v := .bool false) fun g : Grown wr => by have := CV.out g.w (HW.out.trans (g.low.mono HW.out.size)); rw [hX] at this; exact this)
          clear CV hX
          have gf0 := Grown.cell f0 hbr
          have gf1 := Grown.cell f1 hbr
          clear f0 f1
          refine wp_region_grown (by kernel_rfl) (by kernel_rfl) ?_
          repeat (go_big_quiet_step (exact CQ.out _))
          refine wpQuiet_nil ?_
          rintro _ ⟨g4, rfl⟩
          have HB4 := Lib.hid (HW.out.trans (g4.low.mono HW.out.size))
          clear gf0 gf1 CQ
          go_wp2
          go_ret
          exact ⟨by rw [HF.out]; rfl, HB4.out⟩
        | true =>
          have CQ := Lib.hid (grown_call (v := .bool true) fun g : Grown wr => by have := CV.out g.w (HW.out.trans (g.low.mono HW.out.size)); rw [hX] at this; exact this)
          clear CV
          by_cases hk0 : 0 < k
          · have hk0z : (0 : Int) < (k : Int) := by omega
            obtain ⟨p, hp⟩ : ∃ p, L[k - 1]? = some p := ⟨_, List.getElem?_eq_getElem (by omega)⟩
            have hkk : k - 1 + 1 = k := by omega
            have fp : wr.cell? ⟨b, off + (k - 1) * 2, none⟩ = some (.string p.f) := (HW.out.cell (p := ⟨b, off + (k - 1) * 2, none⟩) hbk).trans (HBB.out _ p hp).1
            have hok := okAt_succ hp (by rw [hkk]; exact HQ.out)
            rw [hkk, hX, Bool.true_and] at hok
            clear hX hp
            have HTR := Lib.hid (sl_tri p.f x.f)
            cases hs : sl p.f x.f with
            | false =>
              rw [hs] at hok
              have HF := Lib.hid (HBAD.out k hlt hok)
              have hleq : Op.bytesLess p.f.toList x.f.toList = false := hs
              clear hok hs
              have gf0 := Grown.cell f0 hbr
              have gf1 := Grown.cell f1 hbr
              have gfp := Grown.cell fp hbr
              clear f0 f1 fp
              refine wp_region_grown (by kernel_rfl) (by kernel_rfl) ?_
              repeat (go_big_quiet_step (exact CQ.out _))
              refine wpQuiet_nil ?_
              rintro _ ⟨g4, rfl⟩
              have HB4 := Lib.hid (HW.out.trans (g4.low.mono HW.out.size))
              clear gf0 gf1 gfp CQ
              go_wp2
              go_ret
              exact ⟨by rw [HF.out]; rfl, HB4.out⟩
            | true =>
              rw [hs] at hok
              have HO := Lib.hid hok
              have hleq : Op.bytesLess p.f.toList x.f.toList = true := hs
              clear hok hs
              have gf0 := Grown.cell f0 hbr
              have gf1 := Grown.cell f1 hbr
              have gfp := Grown.cell fp hbr
              clear f0 f1 fp
              refine wp_region_grown (by kernel_rfl) (by kernel_rfl) ?_
              repeat (go_big_quiet_step (exact CQ.out _))
              refine wpQuiet_nil ?_
              rintro _ ⟨g4, rfl⟩
              have HB4 := Lib.hid (HW.out.trans (g4.low.mono HW.out.size))
              clear gf0 gf1 gfp CQ
              go_wp2
              go_roundw
              case rel => exact ⟨k + 1, by omega, by go_num, HB4.out, fun j hj => by
                rcases Nat.lt_or_ge j k with h | h
                · exact HOK.out j h
                · obtain rfl : j = k := by omega
                  exact HO.out⟩
              case measure => simp [RowKit.intOf]; omega
          · have hk0z : ¬ (0 : Int) < (k : Int) := by omega
            have HO := Lib.hid (show okAt L k = true by
              obtain rfl : k = 0 := by omega
              rw [okAt_zero HQ.out, hX])
            clear hX
            have gf0 := Grown.cell f0 hbr
            have gf1 := Grown.cell f1 hbr
            clear f0 f1
            refine wp_region_grown (by kernel_rfl) (by kernel_rfl) ?_
            repeat (go_big_quiet_step (exact CQ.out _))
            refine wpQuiet_nil ?_
            rintro _ ⟨g4, rfl⟩
            have HB4 := Lib.hid (HW.out.trans (g4.low.mono HW.out.size))
            clear gf0 gf1 CQ
            go_wp2
            go_roundw
            case rel => exact ⟨k + 1, by omega, by go_num, HB4.out, fun j hj => by
              rcases Nat.lt_or_ge j k with h | h
              · exact HOK.out j h
              · obtain rfl : j = k := by omega
                exact HO.out⟩
            case measure => simp [RowKit.intOf]; omega
      · obtain rfl : k = L.length := by omega
        have HF := Lib.hid (HGOOD.out h16 HOK.out)
        clear hlt
        go_wp2
        go_ret
        exact ⟨by rw [HF.out]; rfl, HW.out⟩
  · have h16z : (16 : Int) < (L.length : Int) := by omega
    have HF := Lib.hid (HLONG.out h16)
    clear h16
    go_enter Tryd.func11, Tryd.ntmps11
    go_wp2
    go_ret
    exact ⟨by rw [HF.out]; rfl, Below.refl _ _⟩
theorem num21_any (x : Int) (w : World) (h0 : 0 ≤ x) (h1 : x ≤ 5) :
    Calls Tryd.prog 12 #[.int .i64 x] w fun e w' => e = .returned (.int .i64 x) ∧ w = w' := by
  have hw : IntKind.i64.wrap x = x := wrap_i64 x (by omega) (by omega)
  go_enter Tryd.func12, Tryd.ntmps12
  go_wp2
  go_ret
  exact ⟨rfl, rfl⟩
def wk1 : EWish := ⟨⟨#[97, 47, 43]⟩, 0⟩
def wk2 : EWish := ⟨⟨#[97, 47, 98]⟩, 1⟩
theorem wk_sl : sl wk1.f wk2.f = true := by
  unfold sl
  rw [Lib.toList_data, Lib.toList_data]
  decide +kernel
theorem wk_wish : wishB wk1 = true ∧ wishB wk2 = true := by decide +kernel
theorem wk_add1 : addR [] wk1 = ([wk1], 0) := by
  unfold addR
  rw [show subsB [] = true from rfl, wk_wish.1]
  rfl
theorem wk_ok1 : subsB [wk1] = true := by
  refine subs_good (by decide) fun k hk => ?_
  obtain rfl : k = 0 := by simp at hk; omega
  rw [okAt_zero rfl]; exact wk_wish.1
theorem wk_ok2 : subsB [wk1, wk2] = true := by
  refine subs_good (by decide) fun k hk => ?_
  have : k = 0 ∨ k = 1 := by simp at hk; omega
  rcases this with rfl | rfl
  · rw [okAt_zero rfl]; exact wk_wish.1
  · rw [okAt_succ (k := 0) rfl rfl, wk_wish.2, wk_sl]; rfl
theorem wk_place : placeN [wk1] wk2.f = 1 := by
  unfold placeN
  rw [List.takeWhile_cons_of_pos (p := fun q : EWish => sl q.f wk2.f) wk_sl]; rfl
theorem wk_add2 : addR [wk1] wk2 = ([wk1, wk2], 0) := by
  have ht : thB [wk1] wk2.f = false := by unfold thB; rw [wk_place]; rfl
  unfold addR addL
  rw [wk_ok1, wk_wish.2, ht, wk_place]; rfl
theorem wk_best : matchB wk1.f.data.toList [97, 47, 98] = true ∧ matchB wk2.f.data.toList [97, 47, 98] = true ∧ nameB [97, 47, 98] = true := by decide +kernel
theorem wk_match : matchR [wk1, wk2] ⟨#[97, 47, 98]⟩ = (1, 0) := by
  have h1 : bestL [wk1, wk2] ⟨#[97, 47, 98]⟩ = (1, true) := by
    unfold bestL bestS
    simp only [List.foldl_cons, List.foldl_nil]
    rw [show matchB wk1.f.data.toList (⟨#[97, 47, 98]⟩ : ByteArray).data.toList = true from wk_best.1, show matchB wk2.f.data.toList (⟨#[97, 47, 98]⟩ : ByteArray).data.toList = true from wk_best.2.1]
    rfl
  unfold matchR
  rw [wk_ok2, show nameB (⟨#[97, 47, 98]⟩ : ByteArray).data.toList = true from wk_best.2.2, h1]
  rfl
set_option maxRecDepth 100000 in
set_option maxHeartbeats 1000000 in
theorem wakes21_any (w : World) (hE : Env w) :
    Calls Tryd.prog 25 #[] w fun e w' => e = .returned (.bool true) ∧ Below w.heap.size w w' := by
  have C1 := Lib.hid (show Calls Tryd.prog 23 #[.slice none 0 0, .agg #[.string ⟨#[97, 47, 43]⟩, .int .i64 0]] w fun e w' => ∃ v', e = .returned (.tuple #[v', .int .i64 0]) ∧ WsOwn w' w.heap.size v' [wk1] ∧ Below w.heap.size w w' from by
    have := add_any (.slice none 0 0) [] wk1 w hE (SlR.nil w 2 : SlR w 2 _ (([] : List EWish).map rowWish)).toWs (by simp) (by decide) (by decide)
    rw [wk_add1] at this
    exact this)
  have C2 := Lib.hid (fun W v1 (hb : Below w.heap.size w W) (h1 : WsOwn W w.heap.size v1 [wk1]) => (show Calls Tryd.prog 23 #[v1, .agg #[.string ⟨#[97, 47, 98]⟩, .int .i64 1]] W fun e w' => ∃ v', e = .returned (.tuple #[v', .int .i64 0]) ∧ WsOwn w' W.heap.size v' [wk1, wk2] ∧ Below W.heap.size W w' from by
    have := add_any v1 [wk1] wk2 W (hE.below hb) h1.of (by simp; decide) (by decide) (by decide)
    rw [wk_add2] at this
    exact this))
  have C3 := Lib.hid (fun W v1 (hb : Below w.heap.size w W) (h1 : SlOf W 2 EWish.At v1 [wk1, wk2]) => (show Calls Tryd.prog 19 #[v1, .string ⟨#[97, 47, 98]⟩] W fun e w' => e = .returned (.tuple #[.int .i64 1, .int .i64 0]) ∧ Below W.heap.size W w' from by
    have := match_subs v1 [wk1, wk2] ⟨#[97, 47, 98]⟩ W (hE.below hb) h1 (by simp; decide) (by decide) (by decide)
    rw [wk_match] at this
    exact this))
  have CN := Lib.hid (fun W => num21_any 0 W (by omega) (by omega))
  go_enter Tryd.func25, Tryd.ntmps25
  go_wp2_with fail
  (with_reducible refine C1.out.mono ?_)
  rintro e W1 ⟨v1, rfl, ho1, hb1⟩
  have HB1 := Lib.hid hb1
  have HO1 := Lib.hid ho1
  clear hb1 ho1 C1
  go_wp2_with fail
  (with_reducible refine (C2.out W1 v1 HB1.out HO1.out).mono ?_)
  rintro e W2 ⟨v2, rfl, ho2, hb2⟩
  have HB2 := Lib.hid (HB1.out.trans (hb2.mono HB1.out.size))
  have HO2 := Lib.hid ho2.of
  clear hb2 ho2 C2 HO1 HB1
  go_wp2_with fail
  (with_reducible refine (C3.out W2 v2 HB2.out HO2.out).mono ?_)
  rintro e W3 ⟨rfl, hb3⟩
  have HB3 := Lib.hid (HB2.out.trans (hb3.mono HB2.out.size))
  clear hb3 C3 HB2 HO2
  go_wp2_with ((with_reducible refine (CN.out _).mono ?_); rintro e w' ⟨rfl, rfl⟩)
  go_ret
  exact ⟨rfl, HB3.out⟩
end Go.Proofs.YtoibdhncfdjdoaaDoor
