/-
  The law SubsOrders: Added in another order, with another QoS first, a list that may be is the same again; taken away and added again it is the same; beyond so many none is added: whatever script is handed in, the law answers true.
-/
import Derived.Test.YtoibdhncfdjdoaaDoorTie
import Derived.Test.YtoibdhncfdjdoaaDoorCards
import Derived.SevenTiedAt
import Derived.ProofKit
import Derived.LaidMore
import Derived.OpenShut
import Derived.Stop.Joined
import Derived.Lay
import Derived.MakeChecks
import Derived.LaidOnce
/-
  Who wants what: SubsOrders: the walk.
-/
import Derived.Test.YtoibdhncfdjdoaaDoorSuM
import Derived.Lib.SlBytesRow
namespace Go.Proofs.YtoibdhncfdjdoaaDoor
open Go.RowKit Go.Lib
theorem SlOf.belowG {α : Type} {w w' : World} {n : Nat} {v : Value} {L : List α} {p : World → Nat → Nat → α → Prop} (hp : ∀ b off q, b < w.heap.size → p w b off q → p w' b off q) (h : SlOf w n p v L) (hb : Below w.heap.size w w') : SlOf w' n p v L := by
  obtain ⟨ao, cap, rfl, h1, h2, h3, h4⟩ := h
  refine ⟨ao, cap, rfl, h1, h2, h3, fun hne => ?_⟩
  obtain ⟨b, off, rfl, hlt, hq⟩ := h4 hne
  exact ⟨b, off, rfl, Nat.lt_of_lt_of_le hlt hb.size, fun i q hi => hp _ _ _ hlt (hq i q hi)⟩
theorem Act21.below {w w' : World} (hb : Below w.heap.size w w') : ∀ b off (q : Act21), b < w.heap.size → Act21.At w b off q → Act21.At w' b off q := by
  intro b off q hlt ⟨h0, h1, h2, h3⟩
  exact ⟨(hb.cell (p := ⟨b, off, none⟩) hlt).trans h0, (hb.cell (p := ⟨b, off + 1, none⟩) hlt).trans h1, (hb.cell (p := ⟨b, off + 2, none⟩) hlt).trans h2, (hb.cell (p := ⟨b, off + 3, none⟩) hlt).trans h3⟩
theorem wish_q {x : EWish} (h : wishB x = true) : 0 ≤ x.q ∧ x.q ≤ 2 := by
  unfold wishB at h
  rw [Bool.and_eq_true, Bool.and_eq_true, decide_eq_true_eq, decide_eq_true_eq] at h
  exact h.2
theorem wish_sz {x : EWish} (h : wishB x = true) : x.f.size ≤ 64 := by
  unfold wishB at h
  rw [Bool.and_eq_true] at h
  have h1 := h.1
  unfold filtB at h1
  rw [Bool.and_eq_true] at h1
  obtain ⟨a, t, -, h2⟩ := textB_ne h1.1
  rw [Lib.size_eq]; exact h2
theorem place_ex {L : List EWish} (hr : Rising L) (t : ByteArray) : Place L t (placeN L t) := by
  have h1 : placeN L t ≤ L.length := by unfold placeN; exact (List.takeWhile_sublist _).length_le
  refine ⟨h1, fun k q hk hl => ?_, fun k q hk hl => ?_⟩
  · have hm : q ∈ L.takeWhile (fun q => sl q.f t) := by
      have hpre : L.takeWhile (fun q => sl q.f t) <+: L := List.takeWhile_prefix _
      obtain ⟨s, hs⟩ := hpre
      have : (L.takeWhile (fun q => sl q.f t))[k]? = some q := by
        rw [← hs, List.getElem?_append_left (by unfold placeN at hl; exact hl)] at hk
        exact hk
      exact List.mem_of_getElem? this
    have := List.all_takeWhile (p := fun q : EWish => sl q.f t) (l := L)
    exact List.all_eq_true.1 this q hm
  · have hlt : placeN L t < L.length := by have := (List.getElem?_eq_some_iff.1 hk).1; omega
    have hdw : ∃ y, L[placeN L t]? = some y ∧ sl y.f t = false := by
      have hne : L.dropWhile (fun q => sl q.f t) ≠ [] := by
        intro h
        have := congrArg List.length (List.takeWhile_append_dropWhile (p := fun q : EWish => sl q.f t) (l := L))
        rw [h, List.append_nil] at this
        unfold placeN at hlt
        omega
      obtain ⟨y, r, hy⟩ := List.exists_cons_of_ne_nil hne
      refine ⟨y, ?_, ?_⟩
      · have hL := List.takeWhile_append_dropWhile (p := fun q : EWish => sl q.f t) (l := L)
        rw [hy] at hL
        have h2 : (L.takeWhile (fun q => sl q.f t) ++ y :: r)[(L.takeWhile (fun q => sl q.f t)).length]? = some y := by
          rw [List.getElem?_append_right (Nat.le_refl _)]; simp
        rw [hL] at h2
        exact h2
      · have := List.head_dropWhile_not (p := fun q : EWish => sl q.f t) (l := L) hne
        have hh : (L.dropWhile (fun q => sl q.f t)).head hne = y := by simp [hy]
        rw [hh] at this
        simpa using this
    obtain ⟨y, hy, hys⟩ := hdw
    rcases Nat.eq_or_lt_of_le hl with he | hgt
    · rw [← he, hy] at hk; injection hk with hk; rw [← hk]; exact hys
    · cases hs : sl q.f t with
      | false => rfl
      | true => have := sl_trans (hr _ _ y q hy hk hgt) hs; rw [hys] at this; cases this
theorem subs_addL' {L : List EWish} (h : subsB L = true) {x : EWish} (hx : wishB x = true) (hl : thB L x.f = true ∨ L.length < 16) : subsB (addL L x) = true ∧ (∀ y ∈ L, y.f ∈ (addL L x).map (·.f)) ∧ x.f ∈ (addL L x).map (·.f) ∧ (addL L x).length ≤ 16 :=
  subs_addL h hx hl (place_ex (subs_rising h) x.f)
set_option maxRecDepth 100000 in
set_option maxHeartbeats 8000000 in
theorem subsOrders_any (sS sL : Value) (S : List EWish) (A : List Act21) (w : World) (hE : Env w) (hS : SlOf w 2 EWish.At sS S) (hA : SlOf w 4 Act21.At sL A) (hSl : S.length ≤ 140737488351232) (hAl : A.length ≤ 140737488351232) (hFS : ∀ x ∈ S, x.f.size ≤ 140737488351232) (hFA : ∀ a ∈ A, a.f.size ≤ 140737488351232 ∧ a.t.size ≤ 140737488351232) :
    Calls Tryd.prog 4 #[.agg #[sS, sL]] w fun e w' => e = .returned (.bool true) ∧ Below w.heap.size w w' := by
  have HE := Lib.hid hE
  have HSS := Lib.hid hS
  obtain ⟨aS, cS, rfl, -, -, -, hBS⟩ := id hS
  obtain ⟨aA, cA, rfl, -, -, -, hBA⟩ := id hA
  have HBS := Lib.hid hBS
  have HA := Lib.hid hBA
  obtain ⟨W0, hW0⟩ : ∃ W0, W0 = w.alloc (.cells #[.slice aS S.length cS, .slice aA A.length cA] 25) := ⟨_, rfl⟩
  have hb0 : Below w.heap.size w W0 := by rw [hW0]; exact (Below.refl _ w).alloc (Nat.le_refl _) _
  have hE0 : Sc w W0 w.heap.size (.slice aS S.length cS) (.slice aA A.length cA) := by
    rw [hW0]
    exact ⟨(Below.refl _ w).alloc (Nat.le_refl _) _, by simp [go_sem], by simp [go_sem], by simp⟩
  have CH := Lib.hid (heavy_any _ _ S A W0 ((hS.wsR.below hb0).toWs) (hA.belowG (Act21.below hb0) hb0) hSl hAl hFS hFA)
  have HSc0 := Lib.hid hE0
  clear hE hS hA hBS hBA hFS hFA hE0 hb0 hSl hAl
  have CN0 := Lib.hid (fun W => num21_any 0 W (by omega) (by omega))
  have CN3 := Lib.hid (fun W => num21_any 3 W (by omega) (by omega))
  obtain ⟨-, p0, p1, plt⟩ := id HSc0.out
  rw [hW0] at p0 p1 plt
  go_enter Tryd.func4, Tryd.ntmps4
  go_wp2_with fail
  rw [← hW0] at p0 p1 plt ⊢
  clear hW0 p0 p1 plt
  (with_reducible refine CH.out.mono ?_)
  rintro e w1 ⟨b, rfl, hli, hb1⟩
  have HSc1 := Lib.hid (HSc0.out.below hb1)
  clear hb1 CH HSc0
  cases b with
  | true =>
    go_wp2
    go_ret
    exact ⟨rfl, HSc1.out.low⟩
  | false =>
    obtain ⟨hl1, hl2, hl3, hl4⟩ := hli rfl
    clear hli
    have HS3 := Lib.hid hl3
    have HA4 := Lib.hid hl4
    clear hl3 hl4
    have CS := Lib.hid (check_any _ S w1 (HE.out.below HSc1.out.low) (HSS.out.wsR.below HSc1.out.low).toWs (fun x hx => by have := HS3.out x hx; omega) (by omega))
    have CN1 := Lib.hid (fun W => num21_any 1 W (by omega) (by omega))
    have CN5 := Lib.hid (fun W => num21_any 5 W (by omega) (by omega))
    have HSZ := Lib.hid (fun x (hx : x ∈ S) => show x.f.size < 1000000 by have := HS3.out x hx; omega)
    obtain ⟨-, p0, p1, plt⟩ := id HSc1.out
    cases hSB : subsB S with
    | false =>
      rw [hSB] at CS
      have CS1 := Lib.hid (show Calls Tryd.prog 13 #[.slice aS S.length cS] w1 fun e w' => e = .returned (.int .i64 1) ∧ Below w1.heap.size w1 w' from CS.out)
      go_wp2_with fail
      (with_reducible refine CS1.out.mono ?_)
      rintro e w2 ⟨rfl, hb2⟩
      have HSc := Lib.hid (HSc1.out.below hb2)
      clear hb2 CS CS1 HSc1 p0 p1 plt
      go_wp2_with ((with_reducible refine (CN1.out _).mono ?_); rintro e w6 ⟨rfl, rfl⟩)
      go_ret
      exact ⟨rfl, HSc.out.low⟩
    | true =>
      rw [hSB] at CS
      have CS1 := Lib.hid (show Calls Tryd.prog 13 #[.slice aS S.length cS] w1 fun e w' => e = .returned (.int .i64 0) ∧ Below w1.heap.size w1 w' from CS.out)
      go_wp2_with fail
      (with_reducible refine CS1.out.mono ?_)
      rintro e w2 ⟨rfl, hb2⟩
      have HSc := Lib.hid (HSc1.out.below hb2)
      clear hb2 CS CS1 HSc1 p0 p1 plt
      have hS16 := (subs_parts hSB).1
      have HSB := Lib.hid hSB
      clear hSB
      obtain ⟨-, p0, p1, plt⟩ := id HSc.out
      go_wp2_with ((with_reducible refine (CN0.out _).mono ?_); rintro e w6 ⟨rfl, rfl⟩)
      clear p0 p1 plt
      go_loopw [3, 4] (fun vl vi wr => ∃ (k : Nat) (z : Int) (v : Value), k ≤ S.length ∧ z = (k : Int) - 1 ∧ vi = .int .i64 z ∧ v = vl ∧ Sc w wr w.heap.size (.slice aS S.length cS) (.slice aA A.length cA) ∧ WsOwn wr w.heap.size v (S.drop k)) (fun _ i _ => (RowKit.intOf i + 1).toNat)
      case atStart => exact ⟨S.length, _, _, Nat.le_refl _, rfl, rfl, rfl, HSc.out, by rw [List.drop_length]; exact WsOwn.nil _ _⟩
      case round =>
        obtain ⟨k, z, v, hk, hz, rfl, rfl, hsc, ho⟩ := hrel
        clear HSc
        have HSc := Lib.hid hsc
        have HO := Lib.hid ho
        clear hsc ho
        by_cases hk0 : 0 < k
        · obtain ⟨j, rfl⟩ : ∃ j, k = j + 1 := ⟨k - 1, by omega⟩
          obtain rfl : z = (j : Int) := by omega
          clear hz hk0
          have hjl : j < S.length := by omega
          have hjz : (j : Int) < (S.length : Int) := by omega
          obtain ⟨m, hm⟩ : ∃ m, (S.drop (j + 1)).length = m := ⟨_, rfl⟩
          have ho4 := HO.out
          unfold WsOwn at ho4
          rw [hm] at ho4
          obtain ⟨aob, capb, rfl⟩ := own_slice ho4
          have hmb : m ≤ 16 := by rw [← hm, List.length_drop]; omega
          have HMM := Lib.hid hm
          clear hm ho4
          obtain ⟨b1, off1, rfl, hb1, hBB1⟩ := HBS.out (by intro h; simp [h] at hjl)
          obtain ⟨⟨f, q⟩, hq⟩ : ∃ x, S[j]? = some x := ⟨_, List.getElem?_eq_getElem hjl⟩
          obtain ⟨c0, c1⟩ := hBB1 _ _ hq
          have hwq := wish_q (subs_all HSB.out _ (List.mem_of_getElem? hq))
          dsimp only at c0 c1 hwq
          have hq3 : q = 0 ∨ q = 1 ∨ q = 2 := by omega
          have HQ := Lib.hid hq
          clear hBB1 hq hwq
          have d0 := (HSc.out.low.cell (p := ⟨b1, off1 + j * 2, none⟩) hb1).trans c0
          have d1 := (HSc.out.low.cell (p := ⟨b1, off1 + j * 2 + 1, none⟩) hb1).trans c1
          obtain ⟨-, p0, p1, plt⟩ := id HSc.out
          rcases hq3 with rfl | rfl | rfl
          ·
            have C1 := Lib.hid (fun W v (hb : Below w.heap.size w W) (ho : SlOf W 2 EWish.At v (S.drop (j + 1))) => (show Calls Tryd.prog 23 #[v, .agg #[.string f, .int .i64 1]] W fun e w' => ∃ v', e = .returned (.tuple #[v', .int .i64 0]) ∧ WsOwn w' W.heap.size v' (⟨f, 1⟩ :: S.drop (j + 1)) ∧ Below W.heap.size W w' from by
              have := add_any v (S.drop (j + 1)) ⟨f, 1⟩ W (HE.out.below hb) ho (fun y hy => HSZ.out y (List.mem_of_mem_drop hy)) (show f.size < 1000000 from HSZ.out _ (List.mem_of_getElem? HQ.out)) (by rw [List.length_drop]; omega)
              rw [show addR (S.drop (j + 1)) ⟨f, 1⟩ = _ from ord_add1 HSB.out HQ.out (q := 1) (by decide)] at this
              exact this))
            have C2 := Lib.hid (fun W v (hb : Below w.heap.size w W) (ho : SlOf W 2 EWish.At v (⟨f, 1⟩ :: S.drop (j + 1))) => (show Calls Tryd.prog 23 #[v, .agg #[.string f, .int .i64 0]] W fun e w' => ∃ v', e = .returned (.tuple #[v', .int .i64 0]) ∧ WsOwn w' W.heap.size v' (S.drop j) ∧ Below W.heap.size W w' from by
              have hfz : f.size < 1000000 := HSZ.out _ (List.mem_of_getElem? HQ.out)
              have := add_any v (⟨f, 1⟩ :: S.drop (j + 1)) ⟨f, 0⟩ W (HE.out.below hb) ho (fun y hy => by
                rcases List.mem_cons.1 hy with rfl | hy
                · exact hfz
                · exact HSZ.out y (List.mem_of_mem_drop hy)) hfz (by rw [List.length_cons, List.length_drop]; omega)
              rw [show addR (⟨f, 1⟩ :: S.drop (j + 1)) ⟨f, 0⟩ = _ from ord_add2 HSB.out HQ.out (q := 1) (by decide)] at this
              exact this))
            go_wp2_with fail
            refine calls_gen (fun W => Sc w W w.heap.size (.slice (some ⟨b1, off1, none⟩) S.length cS) (.slice aA A.length cA) ∧ WsOwn W w.heap.size (.slice aob m capb) (S.drop (j + 1))) (by
              have hbq : ∀ W', Below wr.heap.size wr W' → Sc w W' w.heap.size (.slice (some ⟨b1, off1, none⟩) S.length cS) (.slice aA A.length cA) ∧ WsOwn W' w.heap.size (.slice aob m capb) (S.drop (j + 1)) := fun W' hb => ⟨HSc.out.below hb, HO.out.below hb⟩
              exact hbq _ (by first | exact (Below.refl _ _).alloc (Nat.le_refl _) _ | exact (((Below.refl _ _).alloc (Nat.le_refl _) _).setCell (Nat.le_refl _) _))) ?_
            rintro W1 ⟨hsc1, ho1⟩
            (with_reducible refine (C1.out W1 _ hsc1.low ho1.of).mono ?_)
            rintro e W2 ⟨v2, rfl, ho2, hb2⟩
            have HSc2 := Lib.hid (hsc1.below hb2)
            have HO2 := Lib.hid ho2.of
            have d0' := (HSc2.out.low.cell (p := ⟨b1, off1 + j * 2, none⟩) hb1).trans c0
            have d1' := (HSc2.out.low.cell (p := ⟨b1, off1 + j * 2 + 1, none⟩) hb1).trans c1
            clear hsc1 ho1 ho2 hb2 C1 HSc HO p0 p1 plt d0 d1
            obtain ⟨-, p0, p1, plt⟩ := id HSc2.out
            go_wp2_with fail
            (with_reducible refine (C2.out W2 v2 HSc2.out.low HO2.out).mono ?_)
            rintro e W3 ⟨v3, rfl, ho3, hb3⟩
            have HSc3 := Lib.hid (HSc2.out.below hb3)
            have ho3' : WsOwn W3 w.heap.size v3 (S.drop j) := own_mono ho3 HSc2.out.low.size
            have HO3 := Lib.hid ho3'
            have ho4 := ho3'
            unfold WsOwn at ho4
            rw [show (S.drop j).length = m + 1 by rw [drop_cons HQ.out, List.length_cons, HMM.out]] at ho4
            obtain ⟨ao3, cap3, rfl⟩ := own_slice ho4
            clear ho3 ho3' ho4 hb3 C2 HSc2 HO2 p0 p1 plt d0' d1'
            go_wp2_with (with_reducible first | (refine (CN0.out _).mono ?_; rintro e w6 ⟨rfl, rfl⟩) | (refine (CN3.out _).mono ?_; rintro e w6 ⟨rfl, rfl⟩) | (refine (CN5.out _).mono ?_; rintro e w6 ⟨rfl, rfl⟩))
            go_roundw
            case rel => exact ⟨j, (j : Int) - 1, _, by omega, rfl, rfl, rfl, HSc3.out, HO3.out⟩
            case measure => first | (simp [RowKit.intOf]; done) | (simp [RowKit.intOf]; omega)

          ·
            have C1 := Lib.hid (fun W v (hb : Below w.heap.size w W) (ho : SlOf W 2 EWish.At v (S.drop (j + 1))) => (show Calls Tryd.prog 23 #[v, .agg #[.string f, .int .i64 2]] W fun e w' => ∃ v', e = .returned (.tuple #[v', .int .i64 0]) ∧ WsOwn w' W.heap.size v' (⟨f, 2⟩ :: S.drop (j + 1)) ∧ Below W.heap.size W w' from by
              have := add_any v (S.drop (j + 1)) ⟨f, 2⟩ W (HE.out.below hb) ho (fun y hy => HSZ.out y (List.mem_of_mem_drop hy)) (show f.size < 1000000 from HSZ.out _ (List.mem_of_getElem? HQ.out)) (by rw [List.length_drop]; omega)
              rw [show addR (S.drop (j + 1)) ⟨f, 2⟩ = _ from ord_add1 HSB.out HQ.out (q := 2) (by decide)] at this
              exact this))
            have C2 := Lib.hid (fun W v (hb : Below w.heap.size w W) (ho : SlOf W 2 EWish.At v (⟨f, 2⟩ :: S.drop (j + 1))) => (show Calls Tryd.prog 23 #[v, .agg #[.string f, .int .i64 1]] W fun e w' => ∃ v', e = .returned (.tuple #[v', .int .i64 0]) ∧ WsOwn w' W.heap.size v' (S.drop j) ∧ Below W.heap.size W w' from by
              have hfz : f.size < 1000000 := HSZ.out _ (List.mem_of_getElem? HQ.out)
              have := add_any v (⟨f, 2⟩ :: S.drop (j + 1)) ⟨f, 1⟩ W (HE.out.below hb) ho (fun y hy => by
                rcases List.mem_cons.1 hy with rfl | hy
                · exact hfz
                · exact HSZ.out y (List.mem_of_mem_drop hy)) hfz (by rw [List.length_cons, List.length_drop]; omega)
              rw [show addR (⟨f, 2⟩ :: S.drop (j + 1)) ⟨f, 1⟩ = _ from ord_add2 HSB.out HQ.out (q := 2) (by decide)] at this
              exact this))
            go_wp2_with fail
            refine calls_gen (fun W => Sc w W w.heap.size (.slice (some ⟨b1, off1, none⟩) S.length cS) (.slice aA A.length cA) ∧ WsOwn W w.heap.size (.slice aob m capb) (S.drop (j + 1))) (by
              have hbq : ∀ W', Below wr.heap.size wr W' → Sc w W' w.heap.size (.slice (some ⟨b1, off1, none⟩) S.length cS) (.slice aA A.length cA) ∧ WsOwn W' w.heap.size (.slice aob m capb) (S.drop (j + 1)) := fun W' hb => ⟨HSc.out.below hb, HO.out.below hb⟩
              exact hbq _ (by first | exact (Below.refl _ _).alloc (Nat.le_refl _) _ | exact (((Below.refl _ _).alloc (Nat.le_refl _) _).setCell (Nat.le_refl _) _))) ?_
            rintro W1 ⟨hsc1, ho1⟩
            (with_reducible refine (C1.out W1 _ hsc1.low ho1.of).mono ?_)
            rintro e W2 ⟨v2, rfl, ho2, hb2⟩
            have HSc2 := Lib.hid (hsc1.below hb2)
            have HO2 := Lib.hid ho2.of
            have d0' := (HSc2.out.low.cell (p := ⟨b1, off1 + j * 2, none⟩) hb1).trans c0
            have d1' := (HSc2.out.low.cell (p := ⟨b1, off1 + j * 2 + 1, none⟩) hb1).trans c1
            clear hsc1 ho1 ho2 hb2 C1 HSc HO p0 p1 plt d0 d1
            obtain ⟨-, p0, p1, plt⟩ := id HSc2.out
            go_wp2_with fail
            (with_reducible refine (C2.out W2 v2 HSc2.out.low HO2.out).mono ?_)
            rintro e W3 ⟨v3, rfl, ho3, hb3⟩
            have HSc3 := Lib.hid (HSc2.out.below hb3)
            have ho3' : WsOwn W3 w.heap.size v3 (S.drop j) := own_mono ho3 HSc2.out.low.size
            have HO3 := Lib.hid ho3'
            have ho4 := ho3'
            unfold WsOwn at ho4
            rw [show (S.drop j).length = m + 1 by rw [drop_cons HQ.out, List.length_cons, HMM.out]] at ho4
            obtain ⟨ao3, cap3, rfl⟩ := own_slice ho4
            clear ho3 ho3' ho4 hb3 C2 HSc2 HO2 p0 p1 plt d0' d1'
            go_wp2_with (with_reducible first | (refine (CN0.out _).mono ?_; rintro e w6 ⟨rfl, rfl⟩) | (refine (CN3.out _).mono ?_; rintro e w6 ⟨rfl, rfl⟩) | (refine (CN5.out _).mono ?_; rintro e w6 ⟨rfl, rfl⟩))
            go_roundw
            case rel => exact ⟨j, (j : Int) - 1, _, by omega, rfl, rfl, rfl, HSc3.out, HO3.out⟩
            case measure => first | (simp [RowKit.intOf]; done) | (simp [RowKit.intOf]; omega)

          ·
            have C1 := Lib.hid (fun W v (hb : Below w.heap.size w W) (ho : SlOf W 2 EWish.At v (S.drop (j + 1))) => (show Calls Tryd.prog 23 #[v, .agg #[.string f, .int .i64 0]] W fun e w' => ∃ v', e = .returned (.tuple #[v', .int .i64 0]) ∧ WsOwn w' W.heap.size v' (⟨f, 0⟩ :: S.drop (j + 1)) ∧ Below W.heap.size W w' from by
              have := add_any v (S.drop (j + 1)) ⟨f, 0⟩ W (HE.out.below hb) ho (fun y hy => HSZ.out y (List.mem_of_mem_drop hy)) (show f.size < 1000000 from HSZ.out _ (List.mem_of_getElem? HQ.out)) (by rw [List.length_drop]; omega)
              rw [show addR (S.drop (j + 1)) ⟨f, 0⟩ = _ from ord_add1 HSB.out HQ.out (q := 0) (by decide)] at this
              exact this))
            have C2 := Lib.hid (fun W v (hb : Below w.heap.size w W) (ho : SlOf W 2 EWish.At v (⟨f, 0⟩ :: S.drop (j + 1))) => (show Calls Tryd.prog 23 #[v, .agg #[.string f, .int .i64 2]] W fun e w' => ∃ v', e = .returned (.tuple #[v', .int .i64 0]) ∧ WsOwn w' W.heap.size v' (S.drop j) ∧ Below W.heap.size W w' from by
              have hfz : f.size < 1000000 := HSZ.out _ (List.mem_of_getElem? HQ.out)
              have := add_any v (⟨f, 0⟩ :: S.drop (j + 1)) ⟨f, 2⟩ W (HE.out.below hb) ho (fun y hy => by
                rcases List.mem_cons.1 hy with rfl | hy
                · exact hfz
                · exact HSZ.out y (List.mem_of_mem_drop hy)) hfz (by rw [List.length_cons, List.length_drop]; omega)
              rw [show addR (⟨f, 0⟩ :: S.drop (j + 1)) ⟨f, 2⟩ = _ from ord_add2 HSB.out HQ.out (q := 0) (by decide)] at this
              exact this))
            go_wp2_with fail
            refine calls_gen (fun W => Sc w W w.heap.size (.slice (some ⟨b1, off1, none⟩) S.length cS) (.slice aA A.length cA) ∧ WsOwn W w.heap.size (.slice aob m capb) (S.drop (j + 1))) (by
              have hbq : ∀ W', Below wr.heap.size wr W' → Sc w W' w.heap.size (.slice (some ⟨b1, off1, none⟩) S.length cS) (.slice aA A.length cA) ∧ WsOwn W' w.heap.size (.slice aob m capb) (S.drop (j + 1)) := fun W' hb => ⟨HSc.out.below hb, HO.out.below hb⟩
              exact hbq _ (by first | exact (Below.refl _ _).alloc (Nat.le_refl _) _ | exact (((Below.refl _ _).alloc (Nat.le_refl _) _).setCell (Nat.le_refl _) _))) ?_
            rintro W1 ⟨hsc1, ho1⟩
            (with_reducible refine (C1.out W1 _ hsc1.low ho1.of).mono ?_)
            rintro e W2 ⟨v2, rfl, ho2, hb2⟩
            have HSc2 := Lib.hid (hsc1.below hb2)
            have HO2 := Lib.hid ho2.of
            have d0' := (HSc2.out.low.cell (p := ⟨b1, off1 + j * 2, none⟩) hb1).trans c0
            have d1' := (HSc2.out.low.cell (p := ⟨b1, off1 + j * 2 + 1, none⟩) hb1).trans c1
            clear hsc1 ho1 ho2 hb2 C1 HSc HO p0 p1 plt d0 d1
            obtain ⟨-, p0, p1, plt⟩ := id HSc2.out
            go_wp2_with fail
            (with_reducible refine (C2.out W2 v2 HSc2.out.low HO2.out).mono ?_)
            rintro e W3 ⟨v3, rfl, ho3, hb3⟩
            have HSc3 := Lib.hid (HSc2.out.below hb3)
            have ho3' : WsOwn W3 w.heap.size v3 (S.drop j) := own_mono ho3 HSc2.out.low.size
            have HO3 := Lib.hid ho3'
            have ho4 := ho3'
            unfold WsOwn at ho4
            rw [show (S.drop j).length = m + 1 by rw [drop_cons HQ.out, List.length_cons, HMM.out]] at ho4
            obtain ⟨ao3, cap3, rfl⟩ := own_slice ho4
            clear ho3 ho3' ho4 hb3 C2 HSc2 HO2 p0 p1 plt d0' d1'
            go_wp2_with (with_reducible first | (refine (CN0.out _).mono ?_; rintro e w6 ⟨rfl, rfl⟩) | (refine (CN3.out _).mono ?_; rintro e w6 ⟨rfl, rfl⟩) | (refine (CN5.out _).mono ?_; rintro e w6 ⟨rfl, rfl⟩))
            go_roundw
            case rel => exact ⟨j, (j : Int) - 1, _, by omega, rfl, rfl, rfl, HSc3.out, HO3.out⟩
            case measure => first | (simp [RowKit.intOf]; done) | (simp [RowKit.intOf]; omega)

        · obtain rfl : k = 0 := by omega
          have hzn : ¬ (0 : Int) ≤ z := by omega
          have HZ := Lib.hid hz
          clear hz hk0 hk
          rw [List.drop_zero] at HO
          have CE := Lib.hid (eqWishes_any v (.slice aS S.length cS) S S wr (by omega) (by omega) HO.out.slr (HSS.out.wsR.below HSc.out.low))
          rw [show decide (S = S) = true from decide_eq_true rfl] at CE
          obtain ⟨-, p0, p1, plt⟩ := id HSc.out
          go_wp2_with fail
          (with_reducible refine CE.out.mono ?_)
          rintro e W2 ⟨rfl, m2, rfl⟩
          have HSc2 := Lib.hid (HSc.out.below (bdrew (Below.refl wr.heap.size wr) m2))
          have HO2 := Lib.hid (HO.out.below (bdrew (Below.refl wr.heap.size wr) m2))
          clear CE p0 p1 plt HSc HO
          generalize wr.drewN m2 = W2 at HSc2 HO2 ⊢
          go_wp2
          go_loopw [10] (fun vi wr => ∃ k : Nat, k ≤ S.length ∧ vi = .int .i64 k ∧ Sc w wr w.heap.size (.slice aS S.length cS) (.slice aA A.length cA) ∧ WsOwn wr w.heap.size v S) (fun i _ => S.length - (RowKit.intOf i).toNat)
          case atStart => exact ⟨0, by omega, rfl, HSc2.out, HO2.out⟩
          case round =>
            obtain ⟨k, hk, rfl, hsc, ho⟩ := hrel
            clear HSc2 HO2
            have HSc := Lib.hid hsc
            have HO := Lib.hid ho
            clear hsc ho
            by_cases hkl : k < S.length
            · have hkz : (k : Int) < (S.length : Int) := by omega
              obtain ⟨b1, off1, rfl, hb1, hBB1⟩ := HBS.out (by intro h; simp [h] at hkl)
              obtain ⟨⟨f, q⟩, hq⟩ : ∃ x, S[k]? = some x := ⟨_, List.getElem?_eq_getElem hkl⟩
              obtain ⟨c0, c1⟩ := hBB1 _ _ hq
              dsimp only at c0 c1
              have HQ := Lib.hid hq
              clear hBB1 hq
              have hfz : f.size < 1000000 := HSZ.out _ (List.mem_of_getElem? HQ.out)
              have hel : (S.eraseIdx k).length ≤ 1000000 := by have := List.length_eraseIdx_le S k; omega
              have D1 := Lib.hid (fun W (hb : Below w.heap.size w W) => (show Calls Tryd.prog 16 #[.slice (some ⟨b1, off1, none⟩) S.length cS, .string f] W fun e w' => ∃ v', e = .returned (.tuple #[v', .int .i64 0]) ∧ WsOwn w' W.heap.size v' (S.eraseIdx k) ∧ Below W.heap.size W w' from by
                have := drop_any _ S f W (HE.out.below hb) (HSS.out.wsR.below hb).toWs HSZ.out (by omega)
                rw [show dropR S f = _ from ord_drop1 HSB.out HQ.out] at this
                exact this))
              have D2 := Lib.hid (fun W v (hb : Below w.heap.size w W) (ho : SlOf W 2 EWish.At v (S.eraseIdx k)) => (show Calls Tryd.prog 16 #[v, .string f] W fun e w' => ∃ v', e = .returned (.tuple #[v', .int .i64 3]) ∧ WsOwn w' W.heap.size v' [] ∧ Below W.heap.size W w' from by
                have := drop_any v (S.eraseIdx k) f W (HE.out.below hb) ho (fun y hy => HSZ.out y (List.mem_of_mem_eraseIdx hy)) hel
                rw [show dropR (S.eraseIdx k) f = _ from ord_drop2 HSB.out HQ.out] at this
                exact this))
              have D3 := Lib.hid (fun W v (hb : Below w.heap.size w W) (ho : SlOf W 2 EWish.At v (S.eraseIdx k)) => (show Calls Tryd.prog 23 #[v, .agg #[.string f, .int .i64 q]] W fun e w' => ∃ v', e = .returned (.tuple #[v', .int .i64 0]) ∧ WsOwn w' W.heap.size v' S ∧ Below W.heap.size W w' from by
                have := add_any v (S.eraseIdx k) ⟨f, q⟩ W (HE.out.below hb) ho (fun y hy => HSZ.out y (List.mem_of_mem_eraseIdx hy)) hfz hel
                rw [show addR (S.eraseIdx k) ⟨f, q⟩ = _ from ord_add3 HSB.out HQ.out] at this
                exact this))
              have d0 := (HSc.out.low.cell (p := ⟨b1, off1 + k * 2, none⟩) hb1).trans c0
              obtain ⟨-, p0, p1, plt⟩ := id HSc.out
              go_wp2_with fail
              have hb1x : b1 < wr.heap.size := Nat.lt_of_lt_of_le hb1 HSc.out.low.size
              have KP := Lib.hid (show ∀ W', Below wr.heap.size wr W' → (W'.cell? ⟨w.heap.size, 0, none⟩ = some (.slice (some ⟨b1, off1, none⟩) S.length cS) ∧ W'.cell? ⟨b1, off1 + k * 2, none⟩ = some (.string f) ∧ Below wr.heap.size wr W') from fun W' h => ⟨(h.cell (p := ⟨w.heap.size, 0, none⟩) plt).trans p0, (h.cell (p := ⟨b1, off1 + k * 2, none⟩) hb1x).trans d0, h⟩)
              go_region_held3 (fun W => W.cell? ⟨w.heap.size, 0, none⟩ = some (.slice (some ⟨b1, off1, none⟩) S.length cS) ∧ W.cell? ⟨b1, off1 + k * 2, none⟩ = some (.string f) ∧ Below wr.heap.size wr W) (first | with_reducible assumption | exact ⟨p0, d0, Below.refl _ _⟩ | exact ⟨p0, d0, (Below.refl _ _).drew⟩ | exact KP.out _ ((Below.refl wr.heap.size wr).drew.trans hb4)) (first | ((with_reducible refine (D1.out _ (by first | exact HSc.out.low.drew | exact HSc.out.low)).mono ?_); rintro e1 W4 ⟨v4, rfl, ho4, hb4⟩))
              have HSc4 := Lib.hid (HSc.out.below ((Below.refl wr.heap.size wr).drew.trans hb4))
              have HO4 := Lib.hid (HO.out.below ((Below.refl wr.heap.size wr).drew.trans hb4))
              have HX4 := Lib.hid ho4.of
              have d0' := (HSc4.out.low.cell (p := ⟨b1, off1 + k * 2, none⟩) hb1).trans c0
              clear hb4 ho4 D1 KP HSc HO p0 p1 plt d0
              obtain ⟨-, p0, p1, plt⟩ := id HSc4.out
              go_wp2_with fail
              (with_reducible refine (D2.out W4 v4 HSc4.out.low HX4.out).mono ?_)
              rintro e W5 ⟨v5, rfl, -, hb5⟩
              have HSc5 := Lib.hid (HSc4.out.below hb5)
              have HO5 := Lib.hid (HO4.out.below hb5)
              have HX5 := Lib.hid ((HX4.out.wsR.below hb5).toWs)
              have e0 := (HSc5.out.low.cell (p := ⟨b1, off1 + k * 2, none⟩) hb1).trans c0
              have e1 := (HSc5.out.low.cell (p := ⟨b1, off1 + k * 2 + 1, none⟩) hb1).trans c1
              clear hb5 D2 HSc4 HO4 HX4 p0 p1 plt d0'
              obtain ⟨-, p0, p1, plt⟩ := id HSc5.out
              go_wp2_with fail
              (with_reducible refine (D3.out W5 v4 HSc5.out.low HX5.out).mono ?_)
              rintro e W6 ⟨v6, rfl, ho6, hb6⟩
              have HSc := Lib.hid (HSc5.out.below hb6)
              have HO6 := Lib.hid (HO5.out.below hb6)
              have HY := Lib.hid ho6.slr
              clear hb6 ho6 D3 HSc5 HO5 HX5 p0 p1 plt e0 e1
              have CE := Lib.hid (eqWishes_any v6 (.slice (some ⟨b1, off1, none⟩) S.length cS) S S W6 (by omega) (by omega) HY.out (HSS.out.wsR.below HSc.out.low))
              rw [show decide (S = S) = true from decide_eq_true rfl] at CE
              obtain ⟨-, p0, p1, plt⟩ := id HSc.out
              go_wp2_with (with_reducible first | (refine (CN0.out _).mono ?_; rintro e w6 ⟨rfl, rfl⟩) | (refine (CN3.out _).mono ?_; rintro e w6 ⟨rfl, rfl⟩) | (refine CE.out.mono ?_; rintro e w7 ⟨rfl, m7, rfl⟩))
              have hbq := bdrew (Below.refl W6.heap.size W6) m7
              have HSc7 := Lib.hid (HSc.out.below hbq)
              have HO7 := Lib.hid (HO6.out.below hbq)
              clear hbq
              go_roundw
              case rel => exact ⟨k + 1, by omega, by go_num, HSc7.out, HO7.out⟩
              case measure => simp [RowKit.intOf]; omega
            · have hkz : ¬ (k : Int) < (S.length : Int) := by omega
              clear hkl hk
              obtain ⟨-, p0, p1, plt⟩ := id HSc.out
              go_wp2
              clear p0 p1 plt
              go_loopw [3, 17] (fun vl vi wr => ∃ (j : Nat) (B : List EWish) (v : Value), j ≤ 16 ∧ vi = .int .i64 j ∧ v = vl ∧ Sc w wr w.heap.size (.slice aS S.length cS) (.slice aA A.length cA) ∧ WsOwn wr w.heap.size v B ∧ subsB B = true ∧ (∀ i, i < j → (zf i).data.toList ∈ B.map (fun y => y.f.data.toList))) (fun _ i _ => 17 - (RowKit.intOf i).toNat)
              case atStart => exact ⟨0, S, _, by omega, rfl, rfl, HSc.out, HO.out, HSB.out, fun i hi => by omega⟩
              case round =>
                obtain ⟨j, B, v, hj, rfl, rfl, hsc, ho, hB, hm⟩ := hrel
                clear HSc HO
                have HSc := Lib.hid hsc
                have HO := Lib.hid ho
                have HBS2 := Lib.hid hB
                have HM := Lib.hid hm
                have hB16 := (subs_parts hB).1
                have hpg : j ≤ B.length := by
                  have := pigeon j (fun i => (zf i).data.toList) (B.map (fun y => y.f.data.toList)) hm (fun a b hab hb => zf_ne a b hab (by omega))
                  rwa [List.length_map] at this
                clear hsc ho hB hm
                obtain ⟨aoB, capB, rfl⟩ := own_slice HO.out
                by_cases hlt : B.length < 16
                · have hltz : (B.length : Int) < 16 := by omega
                  have hj700 : (j : Int) < 700 := by omega
                  have hr1 : (j : Int).tmod 26 = j := by rw [Int.tmod_eq_emod_of_nonneg (by omega)]; omega
                  have hr2 : (j : Int) % 26 = j := by omega
                  have hr3 : (j : Int).tdiv 26 = 0 := by rw [Int.tdiv_eq_ediv_of_nonneg (by omega)]; omega
                  have hr4 : (j : Int) / 26 = 0 := by omega
                  have hw8 : IntKind.u8.wrap (97 + (j : Int)) = 97 + (j : Int) := by rw [IntKind.wrap_u8]; omega
                  obtain ⟨u1, hu1⟩ : ∃ u1, UInt8.ofNat (97 + j % 26) = u1 := ⟨_, rfl⟩
                  obtain ⟨u2, hu2⟩ : ∃ u2, UInt8.ofNat (97 + j / 26 % 26) = u2 := ⟨_, rfl⟩
                  have e0 : ((u1.toNat : Nat) : Int) = 97 + (j : Int) := by rw [← hu1, UInt8.toNat_ofNat']; omega
                  have e1 : ((u2.toNat : Nat) : Int) = 97 := by rw [← hu2, UInt8.toNat_ofNat']; omega
                  have hzs : Value.string (zf j) = Value.string ((⟨#[122, 47]⟩ : ByteArray) ++ ⟨#[u1, u2]⟩) := by unfold zf; rw [hu1, hu2]
                  have hcv : ∀ W : World, (convert 52 9 (.slice (some ⟨W.heap.size, 0, none⟩) 2 2)).run Tryd.prog (W.alloc (.cells #[.int .u8 (97 + (j : Int)), .int .u8 97] 5)) = .ok (.string ⟨#[u1, u2]⟩) (W.alloc (.cells #[.int .u8 (97 + (j : Int)), .int .u8 97] 5)) := fun W =>
                    Lib.run_convert_whole _ _ 5 _ Tryd.underlying52 Tryd.underlying5 Tryd.underlying9 _ 0 (⟨#[u1, u2]⟩ : ByteArray) (by
                      intro i hi
                      have hi2 : i < 2 := hi
                      have hcs : i = 0 ∨ i = 1 := by omega
                      rcases hcs with rfl | rfl
                      · show _ = some (Value.int .u8 ((u1.toNat : Nat) : Int)); rw [e0]; simp [go_sem]
                      · show _ = some (Value.int .u8 ((u2.toNat : Nat) : Int)); rw [e1]; simp [go_sem]) 2
                  have C3 := Lib.hid (fun W v (hb : Below w.heap.size w W) (ho : SlOf W 2 EWish.At v B) => (show Calls Tryd.prog 23 #[v, .agg #[.string ((⟨#[122, 47]⟩ : ByteArray) ++ ⟨#[u1, u2]⟩), .int .i64 0]] W fun e w' => ∃ v', e = .returned (.tuple #[v', .int .i64 0]) ∧ WsOwn w' W.heap.size v' (addL B ⟨zf j, 0⟩) ∧ Below W.heap.size W w' from by
                    have := add_any v B ⟨zf j, 0⟩ W (HE.out.below hb) ho (fun y hy => by have := wish_sz (subs_all HBS2.out y hy); omega) (by show 4 < 1000000; decide) (by omega)
                    have he : addR B ⟨zf j, 0⟩ = (addL B ⟨zf j, 0⟩, 0) := by
                      unfold addR
                      rw [HBS2.out, zf_wish]
                      have hne : ¬ B.length = 16 := by omega
                      cases thB B (zf j) <;> simp [hne]
                    rw [he] at this
                    rw [hzs] at this
                    exact this))
                  clear hu1 hu2 e0 e1 hzs

                  go_wp2_with fail
                  refine calls_gen (fun W => Sc w W w.heap.size (.slice aS S.length cS) (.slice aA A.length cA) ∧ WsOwn W w.heap.size (.slice aoB B.length capB) B) ⟨HSc.out.below ((Below.refl _ _).alloc (Nat.le_refl _) _), HO.out.below ((Below.refl _ _).alloc (Nat.le_refl _) _)⟩ ?_
                  rintro W1 ⟨hsc1, ho1⟩
                  (with_reducible refine (C3.out W1 _ hsc1.low ho1.of).mono ?_)
                  rintro e W2 ⟨v2, rfl, ho2, hb2⟩
                  have HSc2 := Lib.hid (hsc1.below hb2)
                  have HO2 := Lib.hid (show WsOwn W2 w.heap.size v2 (addL B ⟨zf j, 0⟩) from own_mono ho2 hsc1.low.size)
                  have HN2 := Lib.hid (subs_addL' HBS2.out (zf_wish j) (.inr hlt))
                  clear hsc1 ho1 ho2 hb2 C3 hcv hw8 hr1 hr2 hr3 hr4
                  go_wp2_with (with_reducible first | (refine (CN0.out _).mono ?_; rintro e w6 ⟨rfl, rfl⟩) | (refine (CN3.out _).mono ?_; rintro e w6 ⟨rfl, rfl⟩) | (refine (CN5.out _).mono ?_; rintro e w6 ⟨rfl, rfl⟩))
                  go_roundw
                  case rel => exact ⟨j + 1, addL B ⟨zf j, 0⟩, _, by omega, by go_num, rfl, HSc2.out, HO2.out, HN2.out.1, fun i hi => by
                    have hsub : ∀ g : ByteArray, g ∈ (addL B ⟨zf j, 0⟩).map (·.f) → g.data.toList ∈ (addL B ⟨zf j, 0⟩).map (fun y => y.f.data.toList) := fun g hg => by
                      obtain ⟨y, hy, rfl⟩ := List.mem_map.1 hg
                      exact List.mem_map.2 ⟨y, hy, rfl⟩
                    rcases Nat.lt_or_ge i j with h | h
                    · obtain ⟨y, hy, he⟩ := List.mem_map.1 (HM.out i h)
                      rw [← he]
                      exact hsub _ (HN2.out.2.1 y hy)
                    · obtain rfl : i = j := by omega
                      exact hsub _ HN2.out.2.2.1⟩
                  case measure => simp [RowKit.intOf]; omega
                · have hltz : ¬ (B.length : Int) < 16 := by omega
                  have hlen : B.length = 16 := by omega
                  have HLEN := Lib.hid hlen
                  clear hlt hlen hpg
                  obtain ⟨c, hc⟩ : ∃ c, c = A.length % 26 := ⟨_, rfl⟩
                  have hc26 : c < 26 := by omega
                  have hm1 : ((A.length : Nat) : Int).tmod 26 = (c : Int) := by rw [Int.tmod_eq_emod_of_nonneg (by omega)]; omega
                  have hm2 : ((A.length : Nat) : Int) % 26 = (c : Int) := by omega
                  have hw8 : IntKind.u8.wrap (97 + (c : Int)) = 97 + (c : Int) := by rw [IntKind.wrap_u8]; omega
                  have HC := Lib.hid hc
                  clear hc
                  obtain ⟨u1, hu1⟩ : ∃ u1, UInt8.ofNat (97 + c) = u1 := ⟨_, rfl⟩
                  have e0 : ((u1.toNat : Nat) : Int) = 97 + (c : Int) := by rw [← hu1, UInt8.toNat_ofNat']; omega
                  have hzs : Value.string (om c) = Value.string (((⟨#[111, 110, 101, 47, 109, 111, 114, 101, 47]⟩ : ByteArray) ++ ⟨#[u1]⟩) ++ ⟨#[47, 33, 63]⟩) := by unfold om; rw [hu1]
                  have hcv : ∀ W : World, (convert 52 9 (.slice (some ⟨W.heap.size, 0, none⟩) 1 1)).run Tryd.prog (W.alloc (.cells #[.int .u8 (97 + (c : Int))] 5)) = .ok (.string ⟨#[u1]⟩) (W.alloc (.cells #[.int .u8 (97 + (c : Int))] 5)) := fun W =>
                    Lib.run_convert_whole _ _ 5 _ Tryd.underlying52 Tryd.underlying5 Tryd.underlying9 _ 0 (⟨#[u1]⟩ : ByteArray) (by
                      intro i hi
                      obtain rfl : i = 0 := by have hi2 : i < 1 := hi; omega
                      show _ = some (Value.int .u8 ((u1.toNat : Nat) : Int)); rw [e0]; simp [go_sem]) 1
                  obtain ⟨t, ht⟩ : ∃ t, thB B (om c) = t := ⟨_, rfl⟩
                  have hANY : t = true → B.any hitB = true := fun h => by
                    rw [h] at ht
                    unfold thB thereB at ht
                    split at ht
                    · rename_i y hy
                      have hyf := of_decide_eq_true ht
                      refine List.any_eq_true.2 ⟨y, List.mem_of_getElem? hy, ?_⟩
                      unfold hitB
                      rw [hyf, (om_hit c).1, (om_hit c).2]; rfl
                    · cases ht
                  have HANY := Lib.hid hANY
                  have C4 := Lib.hid (fun W v (hb : Below w.heap.size w W) (ho : SlOf W 2 EWish.At v B) => (show Calls Tryd.prog 23 #[v, .agg #[.string (((⟨#[111, 110, 101, 47, 109, 111, 114, 101, 47]⟩ : ByteArray) ++ ⟨#[u1]⟩) ++ ⟨#[47, 33, 63]⟩), .int .i64 0]] W fun e w' => ∃ v', e = .returned (.tuple #[v', .int .i64 (if t = true then 0 else 5)]) ∧ Below W.heap.size W w' from by
                    have := add_any v B ⟨om c, 0⟩ W (HE.out.below hb) ho (fun y hy => by have := wish_sz (subs_all HBS2.out y hy); omega) (by show 13 < 1000000; decide) (by omega)
                    have he : (addR B ⟨om c, 0⟩).2 = if t = true then 0 else 5 := by
                      unfold addR
                      rw [HBS2.out, om_wish c hc26]
                      simp only [Bool.and_self, if_true]
                      rw [ht]
                      cases t <;> simp [HLEN.out]
                    rw [he, hzs] at this
                    exact this.mono fun e w' ⟨v', h1, _, h3⟩ => ⟨v', h1, h3⟩))
                  clear hANY ht hu1 e0 hzs
                  obtain ⟨-, p0, p1, plt⟩ := id HSc.out
                  go_wp2_with fail
                  refine calls_gen (fun W => Sc w W w.heap.size (.slice aS S.length cS) (.slice aA A.length cA) ∧ WsOwn W w.heap.size (.slice aoB B.length capB) B) ⟨HSc.out.below ((Below.refl _ _).alloc (Nat.le_refl _) _), HO.out.below ((Below.refl _ _).alloc (Nat.le_refl _) _)⟩ ?_
                  rintro W1 ⟨hsc1, ho1⟩
                  (with_reducible refine (C4.out W1 _ hsc1.low ho1.of).mono ?_)
                  rintro e W2 ⟨v2, rfl, hb2⟩
                  have HSc2 := Lib.hid (hsc1.below hb2)
                  have HO2 := Lib.hid (ho1.below hb2).of
                  clear hsc1 ho1 hb2 C4 hcv hw8 hm1 hm2 HSc HO p0 p1 plt
                  obtain ⟨E, hE5⟩ : ∃ E : Int, E = (if t = true then 0 else 5) := ⟨_, rfl⟩
                  rw [← hE5]
                  have HE5 := Lib.hid hE5
                  clear hE5
                  go_wp2
                  go_loopw [22, 23] (fun vb vi wr => ∃ (k : Nat) (b : Bool), k ≤ B.length ∧ vi = .int .i64 k ∧ vb = .bool b ∧ b = (B.take k).any hitB ∧ Sc w wr w.heap.size (.slice aS S.length cS) (.slice aA A.length cA) ∧ SlOf wr 2 EWish.At (.slice aoB B.length capB) B) (fun _ i _ => B.length - (RowKit.intOf i).toNat)
                  case atStart => exact ⟨0, false, by omega, rfl, rfl, rfl, HSc2.out, HO2.out⟩
                  case round =>
                    obtain ⟨k, b, hk, rfl, rfl, hbt, hsc, ho⟩ := hrel
                    clear HSc2 HO2
                    have HSc := Lib.hid hsc
                    have HO := Lib.hid ho
                    have HBT := Lib.hid hbt
                    clear hsc ho hbt
                    by_cases hkl : k < B.length
                    · have hkz : (k : Int) < (B.length : Int) := by omega
                      obtain ⟨x, hq⟩ : ∃ x, B[k]? = some x := ⟨_, List.getElem?_eq_getElem hkl⟩
                      obtain ⟨_, _, hv, -, -, -, hBB⟩ := id HO.out
                      injection hv with hv1 hv2 hv3
                      subst hv1 hv3
                      obtain ⟨b1, off1, rfl, hb1, hBB1⟩ := hBB (by intro h; simp [h] at hkl)
                      obtain ⟨c0, -⟩ := hBB1 _ x hq
                      have htk : (B.take (k + 1)).any hitB = ((B.take k).any hitB || hitB x) := by
                        rw [List.take_add_one, hq, Option.toList_some, List.any_append]; simp
                      rw [← HBT.out] at htk
                      have HTK := Lib.hid htk
                      clear htk hq hBB hBB1 hv2
                      cases b with
                      | true =>
                        go_wp2
                        go_roundw
                        case rel => exact ⟨k + 1, true, by omega, by go_num, rfl, by rw [HTK.out]; rfl, HSc.out, HO.out⟩
                        case measure => simp [RowKit.intOf]; omega
                      | false =>
                        by_cases h9 : 9 < x.f.size
                        · have h9z : (9 : Int) < (x.f.size : Int) := by omega
                          have hd9 : decide (9 < x.f.size) = true := decide_eq_true h9
                          have HH := Lib.hid (show hitB x = ((x.f.extract 0 9).toList == [111, 110, 101, 47, 109, 111, 114, 101, 47]) by
                            unfold hitB preB
                            rw [hd9, Lib.toList_data ⟨#[111, 110, 101, 47, 109, 111, 114, 101, 47]⟩]; rfl)
                          clear hd9
                          go_wp2
                          go_roundw
                          case rel => exact ⟨k + 1, _, by omega, by go_num, rfl, by rw [HTK.out, HH.out]; simp, HSc.out, HO.out⟩
                          case measure => simp [RowKit.intOf]; omega
                        · have h9z : ¬ (9 : Int) < (x.f.size : Int) := by omega
                          have h9d : decide ((9 : Int) < (x.f.size : Int)) = false := decide_eq_false h9z
                          have HH := Lib.hid (show hitB x = false by unfold hitB; rw [decide_eq_false h9]; rfl)
                          go_wp2
                          go_roundw
                          case rel => exact ⟨k + 1, false, by omega, by go_num, rfl, by rw [HTK.out, HH.out]; rfl, HSc.out, HO.out⟩
                          case measure => simp [RowKit.intOf]; omega
                    · have hkz : ¬ (k : Int) < (B.length : Int) := by omega
                      have hke : k = B.length := by omega
                      have hbt := HBT.out
                      rw [hke, List.take_length] at hbt
                      have HB2 := Lib.hid (show b = true ∨ E = 5 by
                        cases t with
                        | true => left; rw [hbt]; exact HANY.out rfl
                        | false => right; rw [HE5.out]; rfl)
                      have hEr : 0 ≤ E ∧ E ≤ 5 := by rw [HE5.out]; split <;> omega
                      clear hbt hke hkl hk
                      have CNE := Lib.hid (fun W => num21_any E W hEr.1 hEr.2)
                      have CWk := Lib.hid (wakes21_any wr (HE.out.below HSc.out.low))
                      cases b with
                      | true =>
                        go_wp2_with (with_reducible first | (refine (CNE.out _).mono ?_; rintro e w6 ⟨rfl, rfl⟩) | (refine CWk.out.mono ?_; rintro e w9 ⟨rfl, hb9⟩))
                        go_ret
                        exact ⟨rfl, HSc.out.low.trans (hb9.mono HSc.out.low.size)⟩
                      | false =>
                        obtain rfl : E = 5 := by rcases HB2.out with h | h; · cases h
                                                 · exact h
                        go_wp2_with (with_reducible first | (refine (CNE.out _).mono ?_; rintro e w6 ⟨rfl, rfl⟩) | (refine CWk.out.mono ?_; rintro e w9 ⟨rfl, hb9⟩))
                        go_ret
                        exact ⟨rfl, HSc.out.low.trans (hb9.mono HSc.out.low.size)⟩



theorem subsOrders_walk (W : World) (hL : laidMetH Tryd.prog laid1 W) (hsh : W.ShapedOpen Tryd.prog) (cs : List Value) (h : RdZ Tryd.prog W 25 cs) :
    Calls Tryd.prog 4 #[.agg cs.toArray] W fun e W' => e = .returned (.bool true) ∧ Below W.heap.size W W' := by
      obtain ⟨vS, vL, S, A, rfl, hS, hA, h1, h2, h3, h4⟩ := script_of W cs h
      exact subsOrders_any vS vL S A W ⟨tabs_of_laid hL, mx_of_shape hsh⟩ hS hA h1 h2 h3 h4
namespace subsOrders
open Go.ChangeShapes Go.WideShapes Go.ChangeAt
theorem own : ownKnob Tryd.prog.godebug = none := by kernel_rfl
theorem laidOut : laidOutB Tryd.prog = true := by kernel_rfl
set_option maxRecDepth 100000 in
theorem lifted (os : Os) (started : os.Started) (H : Type) (enc : TypeId × Value → H) :
    ReturnsInHanded {} Tryd.checked os 4 .any (fun w args => (Rows.subsOrdersSpec.pre enc Tryd.prog Tryd.f4 [] false w args ∧ laidMetH Tryd.prog laid1 w) ∧ sizedMet enc Tryd.prog Tryd.f4 (OpenSpec.ofChange Rows.subsOrdersSpec) false w args)
      (Rows.subsOrdersSpec.post enc Tryd.prog Tryd.f4 false true false false) := by
  refine handed_shaped_sized (C := Tryd.checked) (X := fun w _ => laidMetH Tryd.prog laid1 w) (fun _ _ _ hh h => h.of_heap hh) own started (by kernel_rfl) Tryd.func4
    (ChangeSpec.witness_shaped (enc := enc) (C := Tryd.checked) (os := os) (X := fun w _ => laidMetH Tryd.prog laid1 w) false (World.laidAll Tryd.prog os laid1) #[.agg #[.slice none 0 0, .slice none 0 0]] 12 (World.laidAll_os _ _ _) (World.shaped_of_ZipB (by kernel_rfl) (by kernel_rfl)) (by kernel_rfl) (by kernel_rfl) (by kernel_rfl) (by rw [MakeChecks.laidMetH_plain _ _ _ (by kernel_rfl)]; exact laidMet_laidAll _ (by kernel_rfl) (by kernel_rfl))) ?_
  intro W base args ds gs before hval0 hW hsz0 hL hsh
  have hsz : (DataW.weightsEach Tryd.prog (Tryd.f4.params.toList ++ Rows.subsOrdersSpec.plain.varTypes Tryd.prog) (ds ++ gs)).all (· ≤ reachBytes) = true := hsz0
  clear hsz0
  have hval : ∀ (j : Nat) t v, Tryd.f4.params[j]? = some t → args[j]? = some v → Value.okWide Tryd.prog W .any base t v := hval0
  have hW' := hW
  obtain ⟨p, q, hA0, hV, rfl, hfz, hnd⟩ := hW
  have hA : DataW.TrodAll enc Tryd.prog W 0 (fun _ => true) true Tryd.f4.params.toList args.toList ds p := hA0
  rw [Tryd.params4] at hA hval
  obtain ⟨v0, vs0, d0, ds0, p0, q0, hargs, rfl, rfl, h0, r0⟩ := trodAll_cons hA
  obtain ⟨rfl, rfl, rfl⟩ := trodAll_nil r0
  obtain rfl : args = #[v0] := by cases args; simp_all
  obtain ⟨rfl, rfl⟩ := trodVars_none hV
  obtain ⟨cs0, rfl⟩ : ∃ cs0 : Array Value, v0 = .agg cs0 := by
    have h := hval 0 25 v0 rfl rfl
    unfold Value.okWide at h
    rw [Tryd.underlying25] at h
    exact ⟨h.choose, h.choose_spec.1⟩
  have k0 := h0
  have lt0 : ∀ x ∈ p0, x.block < W.heap.size := by obtain ⟨m, hm⟩ := k0; exact DataW.trod_lt m _ _ _ hm
  have hrd : RdZ Tryd.prog W 25 cs0.toList := by obtain ⟨fuel, hf⟩ := h0; exact ⟨H, enc, 0, _, true, fuel, _, hf, by simp only [List.all_eq_true]; intro n hn; exact List.all_eq_true.1 hsz n (DataW.weights_mem_each (j := 0) rfl rfl n hn)⟩
  clear hA0 hval0
  refine (show Calls Tryd.prog 4 _ W (fun e W' => e = .returned (.bool true) ∧ Below W.heap.size W W') from by have := subsOrders_walk W hL hsh _ hrd; rwa [Array.toArray_toList] at this).mono fun e W' ⟨he, bel⟩ => ?_
  subst he
  exact ⟨_, rfl, _, _, _, [], _, [], hW', trodAll_mk1 (shut_bool Tryd.underlying4 _), (trodAll_cons_mk (Below.trod laidOut (by kernel_rfl) (of_decide_eq_true (by kernel_rfl)) k0 bel lt0) trodAll_mk0), rfl, bel.frame _, fun h => by cases h⟩
theorem over : Rows.subsOrdersRow.holds Tryd.pinned (OpenSpec.ofChange Rows.subsOrdersSpec) :=
  OpenClaim.holds_of_wide 4 Tryd.f4 rfl rfl rfl rfl rfl rfl rfl ⟨rfl, rfl, rfl, rfl, rfl⟩ rfl rfl rfl rfl rfl (by kernel_rfl) Tryd.func4 (by kernel_rfl)
    (of_decide_eq_true (by kernel_rfl)) (by unfold Func.isWrapper; first | (rw [if_pos (by decide +kernel)]; kernel_rfl) | (rw [if_neg (by decide +kernel)]; exact ⟨rfl, rfl⟩))
    (fun os started H enc _ => lifted os started H enc)
/-- THE STATEMENT: the card, its listed variables tied to the program's text. -/
theorem proved : Rows.SubsOrdersCardSaid :=
  Claim7.holds_tied_plain_at .later [] [.data, .pinned] true _ false
    over (fun _ h => by cases h) (by kernel_rfl) (fun _ h => by cases h) subsOrders_row_tie rfl ⟨rfl, rfl⟩ (by kernel_rfl) rfl
    (fun f fn hf hfn => by
      obtain rfl : f = 4 := Option.some.inj ((show Tryd.prog.funcNamed "kiosk/kiosklaw21.SubsOrders" = some 4 by kernel_rfl).symm.trans hf) |>.symm
      obtain rfl : fn = Tryd.f4 := (Option.some.inj (Tryd.func4.symm.trans hfn)).symm
      exact ⟨by kernel_rfl, fun j t ht => by
        rw [Tryd.params4] at ht
        have hm : t ∈ [25] := by simpa using Array.mem_of_getElem? ht
        have hall : ([25].all fun u => !Tryd.prog.wantsStandIn u) = true := by kernel_rfl
        exact (show Tryd.prog.wantsStandIn t = false by simpa using List.all_eq_true.1 hall t hm)⟩)
    (by kernel_rfl)
end subsOrders
-- CLAIM: SubsOrdersCardSaid subsOrders.proved
end Go.Proofs.YtoibdhncfdjdoaaDoor
