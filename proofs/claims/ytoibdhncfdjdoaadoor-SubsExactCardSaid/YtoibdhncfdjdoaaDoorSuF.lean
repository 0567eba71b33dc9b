/-
  Who wants what: Drop, Match.
-/
import Derived.Test.YtoibdhncfdjdoaaDoorSuE
namespace Go.Proofs.YtoibdhncfdjdoaaDoor
open Go.RowKit Go.Lib
set_option maxRecDepth 100000 in
set_option maxHeartbeats 4000000 in
theorem drop_any (v : Value) (L : List EWish) (t : ByteArray) (w : World) (hE : Env w) (hv : SlOf w 2 EWish.At v L) (hs : ∀ y ∈ L, y.f.size < 1000000) (hl : L.length ≤ 1000000) :
    Calls Tryd.prog 16 #[v, .string t] w fun e w' => ∃ v', e = .returned (.tuple #[v', .int .i64 (dropR L t).2]) ∧ WsOwn w' w.heap.size v' (dropR L t).1 ∧ Below w.heap.size w w' := by
  obtain ⟨R, hR⟩ : ∃ R, dropR L t = R := ⟨_, rfl⟩
  rw [hR]
  have HE := Lib.hid hE
  have HV := Lib.hid hv
  obtain ⟨ao, cap, rfl, -⟩ := id hv
  have CC := Lib.hid (check_any (.slice ao L.length cap) L w hE hv hs hl)
  clear hE hv hs
  unfold dropR at hR
  cases hS : subsB L with
  | false =>
    rw [hS] at hR CC
    subst hR
    have C1 := Lib.hid (show Calls Tryd.prog 13 #[.slice ao L.length cap] w fun e w' => e = .returned (.int .i64 1) ∧ Below w.heap.size w w' from CC.out)
    clear CC hS
    go_enter Tryd.func16, Tryd.ntmps16
    go_wp2_with fail
    (with_reducible refine C1.out.mono ?_)
    rintro e W2 ⟨rfl, hb2⟩
    go_wp2
    go_ret2
    exact ⟨_, rfl, WsOwn.nil _ _, hb2⟩
  | true =>
    rw [hS] at hR CC
    obtain ⟨h16, -⟩ := subs_parts hS
    have HRise := Lib.hid (subs_rising hS)
    have C1 := Lib.hid (show Calls Tryd.prog 13 #[.slice ao L.length cap] w fun e w' => e = .returned (.int .i64 0) ∧ Below w.heap.size w w' from CC.out)
    clear CC hS
    have C3 := Lib.hid (fun W (hb : Below w.heap.size w W) => placeV_any (.slice ao L.length cap) L t W (HV.out.wsR.below hb).toWs HRise.out (by omega))
    have C4 := Lib.hid (fun W (hb : Below w.heap.size w W) => wsClone_any (.slice ao L.length cap) L W hl (HV.out.wsR.below hb))
    obtain ⟨b, hT⟩ : ∃ b, thB L t = b := ⟨_, rfl⟩
    rw [hT] at C3 hR
    obtain ⟨i, hi⟩ : ∃ i, placeN L t = i := ⟨_, rfl⟩
    have HLT := Lib.hid (fun (h : b = true) => show i < L.length by have := thB_lt (L := L) (t := t) (by rw [hT]; exact h); rw [hi] at this; exact this)
    rw [hi] at C3 hR
    have HR := Lib.hid hR
    clear hT hi hR
    go_enter Tryd.func16, Tryd.ntmps16
    go_wp2_with fail
    (with_reducible refine C1.out.mono ?_)
    rintro e W2 ⟨rfl, hb2⟩
    have HB2 := Lib.hid hb2
    clear hb2 C1
    go_wp2_with fail
    (with_reducible refine (C3.out W2 HB2.out).mono ?_)
    rintro e W4 ⟨rfl, hil, hb4⟩
    have HB4 := Lib.hid (HB2.out.trans (hb4.mono HB2.out.size))
    clear hb4 HB2 C3
    cases b with
    | true =>
      have hilt : i < L.length := HLT.out rfl
      have hiltz : (i : Int) < (L.length : Int) := by omega
      go_wp2_with fail
      (with_reducible refine (C4.out W4 HB4.out).mono ?_)
      rintro e W5 ⟨v5, rfl, hb5, ho5⟩
      have hsz4 := HB4.out.size
      have HB5 := Lib.hid (HB4.out.trans (hb5.mono hsz4))
      have ho5' : WsOwn W5 w.heap.size v5 L := own_mono ho5 hsz4
      have HO5 := Lib.hid ho5'
      clear hb5 HB4 C4 ho5
      have C8 := Lib.hid (show Calls Tryd.prog 42 #[v5, .int .i64 i, .int .i64 ((i : Int) + 1)] W5 _ from wsDelete_any w.heap.size i v5 L W5 ho5' hilt)
      clear ho5'
      go_wp2_with fail
      (with_reducible refine C8.out.mono ?_)
      rintro e W6 ⟨v6, rfl, ho6, hg6⟩
      have HF := Lib.hid (HB5.out.trans (grew_below hg6 HB5.out.size (fun k hk => (HO5.out.lt k hk).1)))
      have HO6 := Lib.hid ho6
      clear ho6 hg6 C8
      go_wp2
      go_ret2
      exact ⟨_, by rw [← HR.out]; rfl, by rw [← HR.out]; exact HO6.out, HF.out⟩
    | false =>
      go_wp2
      go_ret2
      exact ⟨_, by rw [← HR.out]; rfl, by rw [← HR.out]; exact WsOwn.nil _ _, HB4.out⟩
theorem matchV (f t : ByteArray) (w : World) (hf : f.size < 1000000) (ht : t.size < 1000000) (hE : Env w) :
    Calls Tryd.prog 48 #[.string f, .string t] w fun e w' => e = .returned (.tuple #[.bool (matchB f.data.toList t.data.toList), errN (filtB f.data.toList && nameB t.data.toList)]) ∧ Below w.heap.size w w' := by
  have := match_any f.data.toList t.data.toList w (by rw [← Lib.size_eq]; exact hf) (by rw [← Lib.size_eq]; exact ht) hE.1 hE.2
  rw [Lib.mk_data, Lib.mk_data] at this
  exact this
/-- One step of the search for the greatest. -/
def bestS (t : ByteArray) (p : Int × Bool) (x : EWish) : Int × Bool := if matchB x.f.data.toList t.data.toList = true then (max p.1 x.q, true) else p
def bestL (L : List EWish) (t : ByteArray) : Int × Bool := L.foldl (bestS t) (0, false)
def matchR (L : List EWish) (t : ByteArray) : Int × Int :=
  if (subsB L && nameB t.data.toList) = true then ((bestL L t).1, if (bestL L t).2 = true then 0 else 3) else (0, 1)
set_option maxRecDepth 100000 in
set_option maxHeartbeats 4000000 in
theorem match_subs (v : Value) (L : List EWish) (t : ByteArray) (w : World) (hE : Env w) (hv : SlOf w 2 EWish.At v L) (hs : ∀ y ∈ L, y.f.size < 1000000) (ht : t.size < 1000000) (hl : L.length ≤ 1000000) :
    Calls Tryd.prog 19 #[v, .string t] w fun e w' => e = .returned (.tuple #[.int .i64 (matchR L t).1, .int .i64 (matchR L t).2]) ∧ Below w.heap.size w w' := by
  obtain ⟨R, hR⟩ : ∃ R, matchR L t = R := ⟨_, rfl⟩
  rw [hR]
  have HE := Lib.hid hE
  have HS := Lib.hid hs
  obtain ⟨ao, cap, rfl, -, -, -, hB⟩ := id hv
  have HB := Lib.hid hB
  have CC := Lib.hid (check_any (.slice ao L.length cap) L w hE hv hs hl)
  have CN := Lib.hid (fun W (hb : Below w.heap.size w W) => name_any t W (by omega) (HE.out.below hb).1)
  clear hE hv hs hB
  unfold matchR at hR
  cases hS : subsB L with
  | false =>
    rw [hS] at hR CC
    subst hR
    have C1 := Lib.hid (show Calls Tryd.prog 13 #[.slice ao L.length cap] w fun e w' => e = .returned (.int .i64 1) ∧ Below w.heap.size w w' from CC.out)
    clear CC hS CN
    go_enter Tryd.func19, Tryd.ntmps19
    go_wp2_with fail
    (with_reducible refine C1.out.mono ?_)
    rintro e W2 ⟨rfl, hb2⟩
    go_wp2
    go_ret2
    exact ⟨rfl, hb2⟩
  | true =>
    rw [hS] at hR CC
    have HQ := Lib.hid (fun k x (hx : L[k]? = some x) => subs_wish hS hx)
    have C1 := Lib.hid (show Calls Tryd.prog 13 #[.slice ao L.length cap] w fun e w' => e = .returned (.int .i64 0) ∧ Below w.heap.size w w' from CC.out)
    clear CC hS
    cases hN : nameB t.data.toList with
    | false =>
      rw [hN] at hR
      subst hR
      have C2 := Lib.hid (show ∀ W (hb : Below w.heap.size w W), Calls Tryd.prog 47 #[.string t] W fun e w' => e = .returned (.int .i64 1) ∧ Below W.heap.size W w' from fun W hb => by have := CN.out W hb; rw [hN] at this; exact this)
      clear CN hN
      go_enter Tryd.func19, Tryd.ntmps19
      go_wp2_with fail
      (with_reducible refine C1.out.mono ?_)
      rintro e W2 ⟨rfl, hb2⟩
      go_wp2_with fail
      (with_reducible refine (C2.out W2 hb2).mono ?_)
      rintro e W3 ⟨rfl, hb3⟩
      go_wp2
      go_ret2
      exact ⟨rfl, hb2.trans (hb3.mono hb2.size)⟩
    | true =>
      rw [hN] at hR
      have C2 := Lib.hid (show ∀ W (hb : Below w.heap.size w W), Calls Tryd.prog 47 #[.string t] W fun e w' => e = .returned (.int .i64 0) ∧ Below W.heap.size W w' from fun W hb => by have := CN.out W hb; rw [hN] at this; exact this)
      clear CN hN
      have hR2 : ((bestL L t).1, if (bestL L t).2 = true then (0 : Int) else 3) = R := by rw [← hR]; rfl
      unfold bestL at hR2
      clear hR
      obtain ⟨FIN, hFIN⟩ : ∃ FIN, L.foldl (bestS t) (0, false) = FIN := ⟨_, rfl⟩
      rw [hFIN] at hR2
      have HR := Lib.hid hR2
      have HFIN := Lib.hid hFIN
      clear hR2 hFIN
      go_enter Tryd.func19, Tryd.ntmps19
      go_wp2_with fail
      (with_reducible refine C1.out.mono ?_)
      rintro e W2 ⟨rfl, hb2⟩
      have HB2 := Lib.hid hb2
      clear hb2 C1
      go_wp2_with fail
      (with_reducible refine (C2.out W2 HB2.out).mono ?_)
      rintro e W3 ⟨rfl, hb3⟩
      have HB3 := Lib.hid (HB2.out.trans (hb3.mono HB2.out.size))
      clear hb3 HB2 C2
      go_wp2
      go_loopw [6, 7, 22] (fun vb ve i wr => ∃ (k : Nat) (b ev : Int) (a : Bool), k ≤ L.length ∧ i = .int .i64 k ∧ vb = .int .i64 b ∧ ve = .int .i64 ev ∧ (ev = if a = true then 0 else 3) ∧ 0 ≤ b ∧ b ≤ 2 ∧ Below w.heap.size w wr ∧ (L.drop k).foldl (bestS t) (b, a) = FIN) (fun _ _ i _ => L.length - (RowKit.intOf i).toNat)
      case atStart => exact ⟨0, 0, 3, false, by omega, rfl, rfl, rfl, rfl, by omega, by omega, HB3.out, HFIN.out⟩
      case round =>
        obtain ⟨k, b, ev, a, hk, rfl, rfl, rfl, hev, hb0, hb2, hb, hf⟩ := hrel
        have HEV := Lib.hid hev
        clear hev
        have HW := Lib.hid hb
        have HF := Lib.hid hf
        clear hb hf
        by_cases hlt : k < L.length
        · have hltz : (k : Int) < (L.length : Int) := by omega
          obtain ⟨bk, off, rfl, hbk, hBB⟩ := HB.out (by intro h; simp [h] at hlt)
          obtain ⟨x, hq⟩ : ∃ x, L[k]? = some x := ⟨_, List.getElem?_eq_getElem hlt⟩
          have hsx := HS.out x (List.mem_of_getElem? hq)
          obtain ⟨c0, c1⟩ := hBB _ x hq
          have d0 := (HW.out.cell (p := ⟨bk, off + k * 2, none⟩) hbk).trans c0
          have d1 := (HW.out.cell (p := ⟨bk, off + k * 2 + 1, none⟩) hbk).trans c1
          have hwb := HQ.out k x hq
          unfold wishB at hwb
          rw [Bool.and_eq_true, Bool.and_eq_true, decide_eq_true_eq, decide_eq_true_eq] at hwb
          obtain ⟨-, hq0, hq2⟩ := hwb
          have hdrop : L.drop k = x :: L.drop (k + 1) := by
            rw [List.drop_eq_getElem_cons hlt]
            congr 1
            rw [List.getElem?_eq_getElem hlt] at hq
            exact Option.some.inj hq
          have hf := HF.out
          rw [hdrop, List.foldl_cons] at hf
          clear hdrop hq c0 c1 hBB HF
          have CM := Lib.hid (fun W (hb : Below w.heap.size w W) => matchV x.f t W hsx ht (HE.out.below hb))
          generalize hE2 : errN (filtB x.f.data.toList && nameB t.data.toList) = E2 at CM
          clear hE2
          unfold bestS at hf
          cases hM : matchB x.f.data.toList t.data.toList with
          | false =>
            rw [hM, if_neg Bool.false_ne_true] at hf
            rw [hM] at CM
            have HF := Lib.hid hf
            clear hM hf
            go_wp2_with fail
            refine calls_gen (fun W => Below w.heap.size w W) (HW.out.alloc HW.out.size _) ?_
            intro W5 hb5
            (with_reducible refine (CM.out W5 hb5).mono ?_)
            rintro e W6 ⟨rfl, hb6⟩
            have HB6 := Lib.hid (hb5.trans (hb6.mono hb5.size))
            clear hb5 hb6 d0 d1
            go_wp2
            go_roundw
            case rel => exact ⟨k + 1, b, ev, a, by omega, by go_num, rfl, rfl, HEV.out, hb0, hb2, HB6.out, HF.out⟩
            case measure => simp [RowKit.intOf]; omega
          | true =>
            rw [hM, if_pos rfl] at hf
            rw [hM] at CM
            have HF := Lib.hid hf
            clear hM hf
            go_wp2_with fail
            refine calls_gen (fun W => Below w.heap.size w W ∧ WxAt W wr.heap.size x) ⟨HW.out.alloc HW.out.size _, by simp [go_sem], by simp [go_sem], by simp⟩ ?_
            rintro W5 ⟨hb5, hx5⟩
            obtain ⟨q0, hq0e⟩ : ∃ q, q = wr.heap.size := ⟨_, rfl⟩
            rw [← hq0e] at hx5 ⊢
            clear hq0e
            (with_reducible refine (CM.out W5 hb5).mono ?_)
            rintro e W6 ⟨rfl, hb6⟩
            have HB6 := Lib.hid (hb5.trans (hb6.mono hb5.size))
            obtain ⟨e0, e1, elt⟩ := hx5.below hb6
            clear hb5 hb6 d0 d1 hx5
            go_wp2
            go_roundw
            case rel => exact ⟨k + 1, max b x.q, 0, true, by omega, by go_num, rfl, rfl, rfl, by omega, by omega, HB6.out, HF.out⟩
            case measure => simp [RowKit.intOf]; omega
        · obtain rfl : k = L.length := by omega
          have hf := HF.out
          rw [List.drop_length] at hf
          have HRR := Lib.hid (show R = (b, ev) by rw [← HR.out, ← hf, HEV.out]; rfl)
          clear hf
          go_wp2
          go_ret2
          exact ⟨by rw [HRR.out]; rfl, HW.out⟩
end Go.Proofs.YtoibdhncfdjdoaaDoor
