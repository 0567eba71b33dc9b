/-
  The law SubsBest: Of all filters of a list that may be, those that match a name tell the greatest QoS, alone and together; of none there is none: whatever script is handed in, the law answers true.
-/
import Derived.Test.YtoibdhncfdjdoaaDoorTie
import Derived.Test.YtoibdhncfdjdoaaDoorCards
import Derived.SevenTiedAt
import Derived.ProofKit
import Derived.LaidMore
import Derived.OpenShut
import Derived.Stop.Joined
import Derived.Lay
import Derived.MakeChecks
import Derived.LaidOnce
/-
  Who wants what: SubsBest: the walk.
-/
import Derived.Test.YtoibdhncfdjdoaaDoorSuH
import Derived.Test.YtoibdhncfdjdoaaDoorWithin
namespace Go.Proofs.YtoibdhncfdjdoaaDoor
open Go.RowKit Go.Lib
theorem SlOf.belowG {α : Type} {w w' : World} {n : Nat} {v : Value} {L : List α} {p : World → Nat → Nat → α → Prop} (hp : ∀ b off q, b < w.heap.size → p w b off q → p w' b off q) (h : SlOf w n p v L) (hb : Below w.heap.size w w') : SlOf w' n p v L := by
  obtain ⟨ao, cap, rfl, h1, h2, h3, h4⟩ := h
  refine ⟨ao, cap, rfl, h1, h2, h3, fun hne => ?_⟩
  obtain ⟨b, off, rfl, hlt, hq⟩ := h4 hne
  exact ⟨b, off, rfl, Nat.lt_of_lt_of_le hlt hb.size, fun i q hi => hp _ _ _ hlt (hq i q hi)⟩
theorem Act21.below {w w' : World} (hb : Below w.heap.size w w') : ∀ b off (q : Act21), b < w.heap.size → Act21.At w b off q → Act21.At w' b off q := by
  intro b off q hlt ⟨h0, h1, h2, h3⟩
  exact ⟨(hb.cell (p := ⟨b, off, none⟩) hlt).trans h0, (hb.cell (p := ⟨b, off + 1, none⟩) hlt).trans h1, (hb.cell (p := ⟨b, off + 2, none⟩) hlt).trans h2, (hb.cell (p := ⟨b, off + 3, none⟩) hlt).trans h3⟩
theorem subs_one {x : EWish} (h : wishB x = true) : subsB [x] = true := by
  refine subs_good (by simp) fun k hk => ?_
  obtain rfl : k = 0 := by simp at hk; omega
  rw [okAt_zero rfl]; exact h
theorem wish_q {x : EWish} (h : wishB x = true) : 0 ≤ x.q ∧ x.q ≤ 2 := by
  unfold wishB at h
  rw [Bool.and_eq_true, Bool.and_eq_true, decide_eq_true_eq, decide_eq_true_eq] at h
  exact h.2
theorem match_one {x : EWish} {t : ByteArray} (h : wishB x = true) (ht : nameB t.data.toList = true) : matchR [x] t = if matchB x.f.data.toList t.data.toList = true then (x.q, 0) else (0, 3) := by
  have hq := wish_q h
  unfold matchR bestL bestS
  rw [subs_one h, ht]
  simp only [List.foldl_cons, List.foldl_nil, Bool.and_true, if_true]
  cases matchB x.f.data.toList t.data.toList with
  | true => simp; omega
  | false => simp
/-- The greatest of the first k; below nought: none. -/
def fold2 (S : List EWish) (t : ByteArray) (k : Nat) : Int × Bool := (S.take k).foldl (bestS t) (0, false)
def bvF (S : List EWish) (t : ByteArray) (k : Nat) : Int := if (fold2 S t k).2 = true then (fold2 S t k).1 else -1
theorem fold2_succ {S : List EWish} {t : ByteArray} {k : Nat} {x : EWish} (hx : S[k]? = some x) : fold2 S t (k + 1) = bestS t (fold2 S t k) x := by
  unfold fold2
  rw [List.take_add_one, hx, Option.toList_some, List.foldl_append]; rfl
theorem fold2_inv {S : List EWish} {t : ByteArray} (h : ∀ x ∈ S, wishB x = true) : ∀ k, k ≤ S.length → 0 ≤ (fold2 S t k).1 ∧ (fold2 S t k).1 ≤ 2 ∧ ((fold2 S t k).2 = false → (fold2 S t k).1 = 0) := by
  intro k
  induction k with
  | zero => intro _; exact ⟨by show (0 : Int) ≤ 0; decide, by show (0 : Int) ≤ 2; decide, fun _ => rfl⟩
  | succ k ih =>
    intro hk
    obtain ⟨h1, h2, h3⟩ := ih (by omega)
    obtain ⟨x, hx⟩ : ∃ x, S[k]? = some x := ⟨_, List.getElem?_eq_getElem (by omega)⟩
    have hq := wish_q (h x (List.mem_of_getElem? hx))
    rw [fold2_succ hx]
    unfold bestS
    split
    · exact ⟨by show 0 ≤ max _ _; omega, by show max _ _ ≤ 2; omega, fun h => by cases h⟩
    · exact ⟨h1, h2, h3⟩
theorem bv_match {S : List EWish} {t : ByteArray} {k : Nat} {x : EWish} (h : ∀ x ∈ S, wishB x = true) (hx : S[k]? = some x) (hm : matchB x.f.data.toList t.data.toList = true) : max (bvF S t k) x.q = bvF S t (k + 1) := by
  have hk := (List.getElem?_eq_some_iff.1 hx).1
  obtain ⟨h1, h2, h3⟩ := fold2_inv (t := t) h k (by omega)
  have hq := wish_q (h x (List.mem_of_getElem? hx))
  unfold bvF
  rw [fold2_succ hx]
  unfold bestS
  rw [if_pos hm, if_pos rfl]
  cases hb : (fold2 S t k).2 with
  | true => rw [if_pos rfl]
  | false => rw [if_neg Bool.false_ne_true, h3 hb]; show max (-1) _ = max 0 _; omega
theorem bv_none {S : List EWish} {t : ByteArray} {k : Nat} {x : EWish} (hx : S[k]? = some x) (hm : matchB x.f.data.toList t.data.toList = false) : bvF S t (k + 1) = bvF S t k := by
  unfold bvF
  rw [fold2_succ hx, show bestS t (fold2 S t k) x = fold2 S t k by unfold bestS; rw [if_neg (by rw [hm]; exact Bool.false_ne_true)]]
theorem bv_all (S : List EWish) (t : ByteArray) : fold2 S t S.length = bestL S t := by
  unfold fold2 bestL; rw [List.take_length]
set_option maxRecDepth 100000 in
set_option maxHeartbeats 8000000 in
theorem subsBest_any (sS sL : Value) (S : List EWish) (A : List Act21) (w : World) (hE : Env w) (hS : SlOf w 2 EWish.At sS S) (hA : SlOf w 4 Act21.At sL A) (hSl : S.length ≤ 140737488351232) (hAl : A.length ≤ 140737488351232) (hFS : ∀ x ∈ S, x.f.size ≤ 140737488351232) (hFA : ∀ a ∈ A, a.f.size ≤ 140737488351232 ∧ a.t.size ≤ 140737488351232) :
    Calls Tryd.prog 5 #[.agg #[sS, sL]] w fun e w' => e = .returned (.bool true) ∧ Below w.heap.size w w' := by
  have HE := Lib.hid hE
  have HSS := Lib.hid hS
  obtain ⟨aS, cS, rfl, -, -, -, hBS⟩ := id hS
  obtain ⟨aA, cA, rfl, -, -, -, hBA⟩ := id hA
  have HBS := Lib.hid hBS
  have HA := Lib.hid hBA
  obtain ⟨W0, hW0⟩ : ∃ W0, W0 = w.alloc (.cells #[.slice aS S.length cS, .slice aA A.length cA] 25) := ⟨_, rfl⟩
  have hb0 : Below w.heap.size w W0 := by rw [hW0]; exact (Below.refl _ w).alloc (Nat.le_refl _) _
  have hE0 : Sc w W0 w.heap.size (.slice aS S.length cS) (.slice aA A.length cA) := by
    rw [hW0]
    exact ⟨(Below.refl _ w).alloc (Nat.le_refl _) _, by simp [go_sem], by simp [go_sem], by simp⟩
  have CH := Lib.hid (heavy_any _ _ S A W0 ((hS.wsR.below hb0).toWs) (hA.belowG (Act21.below hb0) hb0) hSl hAl hFS hFA)
  have HSc0 := Lib.hid hE0
  clear hE hS hA hBS hBA hFS hFA hE0 hb0 hSl hAl
  have CN0 := Lib.hid (fun W => num21_any 0 W (by omega) (by omega))
  have CN3 := Lib.hid (fun W => num21_any 3 W (by omega) (by omega))
  obtain ⟨-, p0, p1, plt⟩ := id HSc0.out
  rw [hW0] at p0 p1 plt
  go_enter Tryd.func5, Tryd.ntmps5
  go_wp2_with fail
  rw [← hW0] at p0 p1 plt ⊢
  clear hW0 p0 p1 plt
  (with_reducible refine CH.out.mono ?_)
  rintro e w1 ⟨b, rfl, hli, hb1⟩
  have HSc1 := Lib.hid (HSc0.out.below hb1)
  clear hb1 CH HSc0
  cases b with
  | true =>
    go_wp2
    go_ret
    exact ⟨rfl, HSc1.out.low⟩
  | false =>
    obtain ⟨hl1, hl2, hl3, hl4⟩ := hli rfl
    clear hli
    have HS3 := Lib.hid hl3
    have HA4 := Lib.hid hl4
    clear hl3 hl4
    have CS := Lib.hid (rsubs_any _ S w1 (HE.out.below HSc1.out.low) (HSS.out.wsR.below HSc1.out.low).toWs (fun x hx => by have := HS3.out x hx; omega) (by omega))
    obtain ⟨-, p0, p1, plt⟩ := id HSc1.out
    go_wp2_with fail
    (with_reducible refine CS.out.mono ?_)
    rintro e w2 ⟨rfl, hb2⟩
    have HSc := Lib.hid (HSc1.out.below hb2)
    clear hb2 CS HSc1 p0 p1 plt
    cases hSB : subsB S with
    | false =>
      go_wp2
      go_ret
      exact ⟨rfl, HSc.out.low⟩
    | true =>
      have HW := Lib.hid (fun x (hx : x ∈ S) => show wishB x = true by
        obtain ⟨j, hj⟩ := List.getElem?_of_mem hx
        exact subs_wish hSB hj)
      have HSB := Lib.hid hSB
      clear hSB
      go_wp2
      go_loopw [3] (fun i wr => ∃ k : Nat, k ≤ A.length ∧ i = .int .i64 k ∧ Sc w wr w.heap.size (.slice aS S.length cS) (.slice aA A.length cA)) (fun i _ => A.length - (RowKit.intOf i).toNat)
      case atStart => exact ⟨0, by omega, rfl, HSc.out⟩
      case round =>
        obtain ⟨k, hk, rfl, hsc⟩ := hrel
        clear HSc
        have HSc := Lib.hid hsc
        clear hsc
        by_cases hlt : k < A.length
        · have hltz : (k : Int) < (A.length : Int) := by omega
          by_cases h25 : k < 25
          · have h25z : (k : Int) < 25 := by omega
            obtain ⟨b2, off2, rfl, hb2, hBB2⟩ := HA.out (by intro h; simp [h] at hlt)
            obtain ⟨a, hq2⟩ : ∃ a, A[k]? = some a := ⟨_, List.getElem?_eq_getElem hlt⟩
            obtain ⟨-, -, -, y3⟩ := hBB2 _ a hq2
            have d3 := (HSc.out.low.cell (p := ⟨b2, off2 + k * 4 + 3, none⟩) hb2).trans y3
            have hta : a.t.size ≤ 10000 := (HA4.out a (List.mem_of_getElem? hq2)).2
            generalize a.t = t at d3 hta
            clear y3 hBB2 hq2
            have CNm := Lib.hid (fun W (hb : Below w.heap.size w W) => rname_any t W (by omega) (HE.out.below hb).1)
            obtain ⟨-, p0, p1, plt⟩ := id HSc.out
            go_wp2_with fail
            (with_reducible refine (CNm.out _ HSc.out.low).mono ?_)
            rintro e w3 ⟨rfl, hb3⟩
            have HSc3 := Lib.hid (HSc.out.below hb3)
            clear hb3 CNm HSc p0 p1 plt d3
            cases hN : nameB t.data.toList with
            | false =>
              go_wp2
              go_roundw
              case rel => exact ⟨k + 1, by omega, by go_num, HSc3.out⟩
              case measure => simp [RowKit.intOf]; omega
            | true =>
              have HN := Lib.hid hN
              clear hN
              go_wp2
              go_loopw [5, 6] (fun vb vj wx => ∃ j : Nat, j ≤ S.length ∧ vj = .int .i64 j ∧ vb = .int .i64 (bvF S t j) ∧ Sc w wx w.heap.size (.slice aS S.length cS) (.slice (some ⟨b2, off2, none⟩) A.length cA)) (fun _ j _ => S.length - (RowKit.intOf j).toNat)
              case atStart => exact ⟨0, by omega, rfl, rfl, HSc3.out⟩
              case round =>
                obtain ⟨j, hj, rfl, rfl, hsc⟩ := hrel
                clear HSc3
                have HSc := Lib.hid hsc
                clear hsc
                by_cases hjt : j < S.length
                · have hjtz : (j : Int) < (S.length : Int) := by omega
                  obtain ⟨b1, off1, rfl, hb1, hBB1⟩ := HBS.out (by intro h; simp [h] at hjt)
                  obtain ⟨x, hq⟩ : ∃ x, S[j]? = some x := ⟨_, List.getElem?_eq_getElem hjt⟩
                  obtain ⟨c0, c1⟩ := hBB1 _ x hq
                  have d1 := (HSc.out.low.cell (p := ⟨b1, off1 + j * 2 + 1, none⟩) hb1).trans c1
                  have hxs : x.f.size ≤ 10000 := HS3.out x (List.mem_of_getElem? hq)
                  have hwx := HW.out x (List.mem_of_getElem? hq)
                  obtain ⟨hcS, hcm⟩ : S.length ≤ cS ∧ cS ≤ maxLen := by obtain ⟨_, _, hv, q1, q2, -⟩ := HSS.out; injection hv with _ _ e3; subst e3; exact ⟨q1, q2⟩
                  have HONE := Lib.hid (fun W (hb : Below w.heap.size w W) => show SlOf W 2 EWish.At (.slice (some ⟨b1, off1 + j * 2, none⟩) 1 (cS - j)) [x] from
                    ⟨_, _, rfl, (by simp; omega), (by omega), (fun h => by cases h), fun _ => ⟨b1, off1 + j * 2, rfl, Nat.lt_of_lt_of_le hb1 hb.size, fun i q hi => by
                      match i, hi with
                      | 0, hi =>
                        injection hi with hi
                        subst hi
                        have e0 : off1 + j * 2 + 0 * 2 = off1 + j * 2 := by omega
                        rw [e0]
                        exact ⟨(hb.cell (p := ⟨b1, off1 + j * 2, none⟩) hb1).trans c0, (hb.cell (p := ⟨b1, off1 + j * 2 + 1, none⟩) hb1).trans c1⟩
                      | i + 1, hi => simp at hi⟩⟩)
                  have CM := Lib.hid (fun W (hb : Below w.heap.size w W) => match_subs _ [x] t W (HE.out.below hb) (HONE.out W hb) (by intro y hy; have hyx : y = x := (by simpa using hy); subst hyx; omega) (by omega) (by simp))
                  rw [match_one hwx HN.out] at CM
                  have HQ := Lib.hid hq
                  have HWX := Lib.hid hwx
                  have hjc : ¬ cS = j := by omega
                  have hlen1 : (([x] : List EWish).length) = 1 := rfl
                  clear c0 c1 hBB1 hq hwx
                  obtain ⟨-, p0, p1, plt⟩ := id HSc.out
                  cases hM : matchB x.f.data.toList t.data.toList with
                  | true =>
                    have HBV := Lib.hid (bv_match HW.out HQ.out hM)
                    rw [hM] at CM
                    have CM1 := Lib.hid (show ∀ W (hb : Below w.heap.size w W), Calls Tryd.prog 19 #[.slice (some ⟨b1, off1 + j * 2, none⟩) 1 (cS - j), .string t] W fun e w' => e = .returned (.tuple #[.int .i64 x.q, .int .i64 0]) ∧ Below W.heap.size W w' from fun W hb => CM.out W hb)
                    clear CM hM HONE
                    go_wp2_with fail
                    (with_reducible refine (CM1.out _ HSc.out.low).mono ?_)
                    rintro e w4 ⟨rfl, hb4⟩
                    have HSc4 := Lib.hid (HSc.out.below hb4)
                    have d1' := (hb4.cell (p := ⟨b1, off1 + j * 2 + 1, none⟩) (Nat.lt_of_lt_of_le hb1 HSc.out.low.size)).trans d1
                    clear hb4 CM1 HSc p0 p1 plt d1
                    obtain ⟨-, p0, p1, plt⟩ := id HSc4.out
                    obtain ⟨bv, hbv⟩ : ∃ bv, bvF S t j = bv := ⟨_, rfl⟩
                    have HBV2 := Lib.hid (show max bv x.q = bvF S t (j + 1) by rw [← hbv]; exact HBV.out)
                    rw [hbv]
                    clear hbv HBV
                    go_wp2_with (with_reducible first | (refine (CN0.out _).mono ?_; rintro e w6 ⟨rfl, rfl⟩) | (refine (CN3.out _).mono ?_; rintro e w6 ⟨rfl, rfl⟩))
                    go_roundw
                    case rel => exact ⟨j + 1, by omega, by go_num, by rw [← HBV2.out], HSc4.out⟩
                    case measure => simp [RowKit.intOf]; omega
                  | false =>
                    have HBV := Lib.hid (bv_none HQ.out hM)
                    rw [hM] at CM
                    have CM1 := Lib.hid (show ∀ W (hb : Below w.heap.size w W), Calls Tryd.prog 19 #[.slice (some ⟨b1, off1 + j * 2, none⟩) 1 (cS - j), .string t] W fun e w' => e = .returned (.tuple #[.int .i64 0, .int .i64 3]) ∧ Below W.heap.size W w' from fun W hb => CM.out W hb)
                    clear CM hM HONE
                    go_wp2_with fail
                    (with_reducible refine (CM1.out _ HSc.out.low).mono ?_)
                    rintro e w4 ⟨rfl, hb4⟩
                    have HSc4 := Lib.hid (HSc.out.below hb4)
                    have d1' := (hb4.cell (p := ⟨b1, off1 + j * 2 + 1, none⟩) (Nat.lt_of_lt_of_le hb1 HSc.out.low.size)).trans d1
                    clear hb4 CM1 HSc p0 p1 plt d1
                    obtain ⟨-, p0, p1, plt⟩ := id HSc4.out
                    go_wp2_with (with_reducible first | (refine (CN0.out _).mono ?_; rintro e w6 ⟨rfl, rfl⟩) | (refine (CN3.out _).mono ?_; rintro e w6 ⟨rfl, rfl⟩))
                    go_roundw
                    case rel => exact ⟨j + 1, by omega, by go_num, by rw [HBV.out], HSc4.out⟩
                    case measure => simp [RowKit.intOf]; omega
                · have hjtz : ¬ (j : Int) < (S.length : Int) := by omega
                  obtain rfl : j = S.length := by omega
                  have CA := Lib.hid (fun W (hb : Below w.heap.size w W) => match_subs _ S t W (HE.out.below hb) (HSS.out.wsR.below hb).toWs (fun x hx => by have := HS3.out x hx; omega) (by omega) (by omega))
                  have hR : matchR S t = ((bestL S t).1, if (bestL S t).2 = true then 0 else 3) := by unfold matchR; rw [HSB.out, HN.out]; rfl
                  have hinv := fold2_inv (t := t) HW.out S.length (Nat.le_refl _)
                  have hbv : bvF S t S.length = if (bestL S t).2 = true then (bestL S t).1 else -1 := by unfold bvF; rw [bv_all]
                  rw [bv_all] at hinv
                  obtain ⟨m, hm⟩ : ∃ m, (bestL S t).1 = m := ⟨_, rfl⟩
                  obtain ⟨bb, hbb⟩ : ∃ bb, (bestL S t).2 = bb := ⟨_, rfl⟩
                  rw [hm, hbb] at hR hbv
                  rw [hm] at hinv
                  rw [hR] at CA
                  rw [hbv]
                  clear hR hbv hm hbb
                  obtain ⟨hm0, hm2, -⟩ := hinv
                  obtain ⟨-, p0, p1, plt⟩ := id HSc.out
                  cases bb with
                  | true =>
                    have CA1 := Lib.hid (show ∀ W (hb : Below w.heap.size w W), Calls Tryd.prog 19 #[.slice aS S.length cS, .string t] W fun e w' => e = .returned (.tuple #[.int .i64 m, .int .i64 0]) ∧ Below W.heap.size W w' from fun W hb => CA.out W hb)
                    clear CA
                    rw [if_pos rfl]
                    go_wp2_with fail
                    (with_reducible refine (CA1.out _ HSc.out.low).mono ?_)
                    rintro e w5 ⟨rfl, hb5⟩
                    have HSc5 := Lib.hid (HSc.out.below hb5)
                    clear hb5 CA1 HSc p0 p1 plt
                    go_wp2_with (with_reducible first | (refine (CN0.out _).mono ?_; rintro e w6 ⟨rfl, rfl⟩) | (refine (CN3.out _).mono ?_; rintro e w6 ⟨rfl, rfl⟩))
                    go_roundw
                    case rel => exact ⟨k + 1, by omega, by go_num, HSc5.out⟩
                    case measure => simp [RowKit.intOf]; omega
                  | false =>
                    have CA1 := Lib.hid (show ∀ W (hb : Below w.heap.size w W), Calls Tryd.prog 19 #[.slice aS S.length cS, .string t] W fun e w' => e = .returned (.tuple #[.int .i64 m, .int .i64 3]) ∧ Below W.heap.size W w' from fun W hb => CA.out W hb)
                    clear CA
                    rw [if_neg Bool.false_ne_true]
                    go_wp2_with fail
                    (with_reducible refine (CA1.out _ HSc.out.low).mono ?_)
                    rintro e w5 ⟨rfl, hb5⟩
                    have HSc5 := Lib.hid (HSc.out.below hb5)
                    clear hb5 CA1 HSc p0 p1 plt
                    go_wp2_with (with_reducible first | (refine (CN0.out _).mono ?_; rintro e w6 ⟨rfl, rfl⟩) | (refine (CN3.out _).mono ?_; rintro e w6 ⟨rfl, rfl⟩))
                    go_roundw
                    case rel => exact ⟨k + 1, by omega, by go_num, HSc5.out⟩
                    case measure => simp [RowKit.intOf]; omega
          · have h25z : ¬ (k : Int) < 25 := by omega
            have CM0 := Lib.hid (fun W ao (hb : Below w.heap.size w W) => (show Calls Tryd.prog 19 #[.slice (some ao) 0 0, .string ⟨#[97]⟩] W fun e w' => e = .returned (.tuple #[.int .i64 0, .int .i64 3]) ∧ Below W.heap.size W w' from by
              have := match_subs (.slice (some ao) 0 0) [] ⟨#[97]⟩ W (HE.out.below hb) ⟨some ao, 0, rfl, (by simp), (by decide), (fun h => by cases h), fun h => (h rfl).elim⟩ (by simp) (by decide) (by decide)
              rw [show matchR [] ⟨#[97]⟩ = (0, 3) by unfold matchR; rw [show nameB (⟨#[97]⟩ : ByteArray).data.toList = true by decide +kernel]; rfl] at this
              exact this))
            have CWi := Lib.hid (fun W => within_any 3 4 W (by decide) (by decide))
            rw [show within 3 4 = 3 by decide] at CWi
            obtain ⟨-, p0, p1, plt⟩ := id HSc.out
            go_wp2_with fail
            refine calls_gen (fun W => Below w.heap.size w W) (HSc.out.low.alloc HSc.out.low.size _) ?_
            intro w7 hb7
            (with_reducible refine (CM0.out _ _ hb7).mono ?_)
            rintro e w8 ⟨rfl, hb8⟩
            have HB8 := Lib.hid (hb7.trans (hb8.mono hb7.size))
            clear hb7 hb8 CM0 p0 p1 plt HSc
            have CWk := Lib.hid (wakes21_any w8 (HE.out.below HB8.out))
            go_wp2_with (with_reducible first | (refine (CN3.out _).mono ?_; rintro e w6 ⟨rfl, rfl⟩) | (refine (CWi.out _).mono ?_; rintro e w6 ⟨rfl, rfl⟩) | (refine CWk.out.mono ?_; rintro e w9 ⟨rfl, hb9⟩))
            go_ret
            exact ⟨rfl, HB8.out.trans (hb9.mono HB8.out.size)⟩
        · have hltz : ¬ (k : Int) < (A.length : Int) := by omega
          have CM0 := Lib.hid (fun W ao (hb : Below w.heap.size w W) => (show Calls Tryd.prog 19 #[.slice (some ao) 0 0, .string ⟨#[97]⟩] W fun e w' => e = .returned (.tuple #[.int .i64 0, .int .i64 3]) ∧ Below W.heap.size W w' from by
            have := match_subs (.slice (some ao) 0 0) [] ⟨#[97]⟩ W (HE.out.below hb) ⟨some ao, 0, rfl, (by simp), (by decide), (fun h => by cases h), fun h => (h rfl).elim⟩ (by simp) (by decide) (by decide)
            rw [show matchR [] ⟨#[97]⟩ = (0, 3) by unfold matchR; rw [show nameB (⟨#[97]⟩ : ByteArray).data.toList = true by decide +kernel]; rfl] at this
            exact this))
          have CWi := Lib.hid (fun W => within_any 3 4 W (by decide) (by decide))
          rw [show within 3 4 = 3 by decide] at CWi
          obtain ⟨-, p0, p1, plt⟩ := id HSc.out
          go_wp2_with fail
          refine calls_gen (fun W => Below w.heap.size w W) (HSc.out.low.alloc HSc.out.low.size _) ?_
          intro w7 hb7
          (with_reducible refine (CM0.out _ _ hb7).mono ?_)
          rintro e w8 ⟨rfl, hb8⟩
          have HB8 := Lib.hid (hb7.trans (hb8.mono hb7.size))
          clear hb7 hb8 CM0 p0 p1 plt HSc
          have CWk := Lib.hid (wakes21_any w8 (HE.out.below HB8.out))
          go_wp2_with (with_reducible first | (refine (CN3.out _).mono ?_; rintro e w6 ⟨rfl, rfl⟩) | (refine (CWi.out _).mono ?_; rintro e w6 ⟨rfl, rfl⟩) | (refine CWk.out.mono ?_; rintro e w9 ⟨rfl, hb9⟩))
          go_ret
          exact ⟨rfl, HB8.out.trans (hb9.mono HB8.out.size)⟩
theorem subsBest_walk (W : World) (hL : laidMetH Tryd.prog laid1 W) (hsh : W.ShapedOpen Tryd.prog) (cs : List Value) (h : RdZ Tryd.prog W 25 cs) :
    Calls Tryd.prog 5 #[.agg cs.toArray] W fun e W' => e = .returned (.bool true) ∧ Below W.heap.size W W' := by
      obtain ⟨vS, vL, S, A, rfl, hS, hA, h1, h2, h3, h4⟩ := script_of W cs h
      exact subsBest_any vS vL S A W ⟨tabs_of_laid hL, mx_of_shape hsh⟩ hS hA h1 h2 h3 h4
namespace subsBest
open Go.ChangeShapes Go.WideShapes Go.ChangeAt
theorem own : ownKnob Tryd.prog.godebug = none := by kernel_rfl
theorem laidOut : laidOutB Tryd.prog = true := by kernel_rfl
set_option maxRecDepth 100000 in
theorem lifted (os : Os) (started : os.Started) (H : Type) (enc : TypeId × Value → H) :
    ReturnsInHanded {} Tryd.checked os 5 .any (fun w args => (Rows.subsBestSpec.pre enc Tryd.prog Tryd.f5 [] false w args ∧ laidMetH Tryd.prog laid1 w) ∧ sizedMet enc Tryd.prog Tryd.f5 (OpenSpec.ofChange Rows.subsBestSpec) false w args)
      (Rows.subsBestSpec.post enc Tryd.prog Tryd.f5 false true false false) := by
  refine handed_shaped_sized (C := Tryd.checked) (X := fun w _ => laidMetH Tryd.prog laid1 w) (fun _ _ _ hh h => h.of_heap hh) own started (by kernel_rfl) Tryd.func5
    (ChangeSpec.witness_shaped (enc := enc) (C := Tryd.checked) (os := os) (X := fun w _ => laidMetH Tryd.prog laid1 w) false (World.laidAll Tryd.prog os laid1) #[.agg #[.slice none 0 0, .slice none 0 0]] 12 (World.laidAll_os _ _ _) (World.shaped_of_ZipB (by kernel_rfl) (by kernel_rfl)) (by kernel_rfl) (by kernel_rfl) (by kernel_rfl) (by rw [MakeChecks.laidMetH_plain _ _ _ (by kernel_rfl)]; exact laidMet_laidAll _ (by kernel_rfl) (by kernel_rfl))) ?_
  intro W base args ds gs before hval0 hW hsz0 hL hsh
  have hsz : (DataW.weightsEach Tryd.prog (Tryd.f5.params.toList ++ Rows.subsBestSpec.plain.varTypes Tryd.prog) (ds ++ gs)).all (· ≤ reachBytes) = true := hsz0
  clear hsz0
  have hval : ∀ (j : Nat) t v, Tryd.f5.params[j]? = some t → args[j]? = some v → Value.okWide Tryd.prog W .any base t v := hval0
  have hW' := hW
  obtain ⟨p, q, hA0, hV, rfl, hfz, hnd⟩ := hW
  have hA : DataW.TrodAll enc Tryd.prog W 0 (fun _ => true) true Tryd.f5.params.toList args.toList ds p := hA0
  rw [Tryd.params5] at hA hval
  obtain ⟨v0, vs0, d0, ds0, p0, q0, hargs, rfl, rfl, h0, r0⟩ := trodAll_cons hA
  obtain ⟨rfl, rfl, rfl⟩ := trodAll_nil r0
  obtain rfl : args = #[v0] := by cases args; simp_all
  obtain ⟨rfl, rfl⟩ := trodVars_none hV
  obtain ⟨cs0, rfl⟩ : ∃ cs0 : Array Value, v0 = .agg cs0 := by
    have h := hval 0 25 v0 rfl rfl
    unfold Value.okWide at h
    rw [Tryd.underlying25] at h
    exact ⟨h.choose, h.choose_spec.1⟩
  have k0 := h0
  have lt0 : ∀ x ∈ p0, x.block < W.heap.size := by obtain ⟨m, hm⟩ := k0; exact DataW.trod_lt m _ _ _ hm
  have hrd : RdZ Tryd.prog W 25 cs0.toList := by obtain ⟨fuel, hf⟩ := h0; exact ⟨H, enc, 0, _, true, fuel, _, hf, by simp only [List.all_eq_true]; intro n hn; exact List.all_eq_true.1 hsz n (DataW.weights_mem_each (j := 0) rfl rfl n hn)⟩
  clear hA0 hval0
  refine (show Calls Tryd.prog 5 _ W (fun e W' => e = .returned (.bool true) ∧ Below W.heap.size W W') from by have := subsBest_walk W hL hsh _ hrd; rwa [Array.toArray_toList] at this).mono fun e W' ⟨he, bel⟩ => ?_
  subst he
  exact ⟨_, rfl, _, _, _, [], _, [], hW', trodAll_mk1 (shut_bool Tryd.underlying4 _), (trodAll_cons_mk (Below.trod laidOut (by kernel_rfl) (of_decide_eq_true (by kernel_rfl)) k0 bel lt0) trodAll_mk0), rfl, bel.frame _, fun h => by cases h⟩
theorem over : Rows.subsBestRow.holds Tryd.pinned (OpenSpec.ofChange Rows.subsBestSpec) :=
  OpenClaim.holds_of_wide 5 Tryd.f5 rfl rfl rfl rfl rfl rfl rfl ⟨rfl, rfl, rfl, rfl, rfl⟩ rfl rfl rfl rfl rfl (by kernel_rfl) Tryd.func5 (by kernel_rfl)
    (of_decide_eq_true (by kernel_rfl)) (by unfold Func.isWrapper; first | (rw [if_pos (by decide +kernel)]; kernel_rfl) | (rw [if_neg (by decide +kernel)]; exact ⟨rfl, rfl⟩))
    (fun os started H enc _ => lifted os started H enc)
/-- THE STATEMENT: the card, its listed variables tied to the program's text. -/
theorem proved : Rows.SubsBestCardSaid :=
  Claim7.holds_tied_plain_at .later [] [.data, .pinned] true _ false
    over (fun _ h => by cases h) (by kernel_rfl) (fun _ h => by cases h) subsBest_row_tie rfl ⟨rfl, rfl⟩ (by kernel_rfl) rfl
    (fun f fn hf hfn => by
      obtain rfl : f = 5 := Option.some.inj ((show Tryd.prog.funcNamed "kiosk/kiosklaw21.SubsBest" = some 5 by kernel_rfl).symm.trans hf) |>.symm
      obtain rfl : fn = Tryd.f5 := (Option.some.inj (Tryd.func5.symm.trans hfn)).symm
      exact ⟨by kernel_rfl, fun j t ht => by
        rw [Tryd.params5] at ht
        have hm : t ∈ [25] := by simpa using Array.mem_of_getElem? ht
        have hall : ([25].all fun u => !Tryd.prog.wantsStandIn u) = true := by kernel_rfl
        exact (show Tryd.prog.wantsStandIn t = false by simpa using List.all_eq_true.1 hall t hm)⟩)
    (by kernel_rfl)
end subsBest
-- CLAIM: SubsBestCardSaid subsBest.proved
end Go.Proofs.YtoibdhncfdjdoaaDoor
