/-
  Neighbours: what the laws ask besides: copies, comparing, spoiling; they wake.
-/
import Derived.Test.YtcomaacfhfnipaaArpI
import Derived.Test.YtcomaacfhfnipaaArpF
import Derived.Test.YtcomaacfhfnipaaWithin
namespace Go.Proofs.Ytcomaacfhfnipaa
open Go.RowKit
theorem num9_any (n : Int) (w : World) : Calls Try.prog 18 #[.int .i64 n] w fun e w' => e = .returned (.int .i64 n) ∧ w = w' := by
  go_enter Try.func18, Try.ntmps18
  go_wp2
  go_ret
  exact ⟨rfl, rfl⟩
theorem eqNb_same (v1 v2 : Value) (L : List Nb) (w : World) (hl : L.length ≤ 1000000) (h1 : SlR w 3 v1 (L.map rowNeighbour)) (h2 : SlR w 3 v2 (L.map rowNeighbour)) :
    Calls Try.prog 30 #[v1, v2] w fun e w' => e = .returned (.bool true) ∧ Below w.heap.size w w' := by
  refine (eqNeighbours_any v1 v2 L L w hl hl h1 h2).mono ?_
  rintro e w' ⟨rfl, m, rfl⟩
  exact ⟨by simp, bdrew (Below.refl _ _) m⟩
theorem copyNb_any (v : Value) (L : List Nb) (w : World) (hl : L.length ≤ 1000000) (h : SlR w 3 v (L.map rowNeighbour)) :
    Calls Try.prog 25 #[v] w fun e w' => ∃ v', e = .returned v' ∧ NbOwn w' w.heap.size v' L ∧ Below w.heap.size w w' := by
  refine (copyNeighbours_any v L w hl h).mono ?_
  rintro e w' ⟨v', rfl, hb, ho⟩
  exact ⟨v', rfl, ho, hb⟩
theorem SlR.nilNb (w : World) : SlR w 3 (.slice none 0 0) (([] : List Nb).map rowNeighbour) := SlR.nil w 3
set_option maxRecDepth 100000 in
set_option maxHeartbeats 2000000 in
theorem spoilNb_any (base : Nat) (v : Value) (L : List Nb) (w : World) (hown : NbOwn w base v L) (hbase : base ≤ w.heap.size) (hl : L.length ≤ 1000) :
    Calls Try.prog 37 #[v] w fun e w' => e = .returned (.tuple #[]) ∧ Below base w w' := by
  obtain ⟨i0, hi, hz0, hz1, hz2⟩ := info_parts infoNeighbour
  obtain ⟨ao, cap, rfl⟩ := own_slice hown
  go_enter Try.func37, Try.ntmps37
  go_wp2
  go_loopw [2] (fun i wr => ∃ (k : Nat) (X : List Nb), k ≤ L.length ∧ i = .int .i64 k ∧ Below base w wr ∧ X.length = L.length ∧ NbOwn wr base (.slice ao L.length cap) X) (fun i _ => L.length - (intOf i).toNat)
  case atStart => exact ⟨0, L, by omega, rfl, Below.refl _ _, rfl, hown⟩
  case round =>
    obtain ⟨k, X, hk, rfl, hbl, hX, ho⟩ := hrel
    have HO := Lib.hid ho
    have HX := Lib.hid hX
    have hsz := hbl.size
    clear hown hX
    by_cases hlt : k < L.length
    · obtain ⟨-, ⟨hv, -⟩ | ⟨g, cap2, cur, hv, hbg, hg, hnc, hcm, hcs, htake⟩⟩ := id ho
      · injection hv with h1 h2; omega
      · injection hv with h1 h2 h3
        subst h1 h3
        have HX' := HX.out
        have hin : ∀ j, j < 3 → ∃ u, wr.cell? ⟨g, k * 3 + j, none⟩ = some u := fun j hj => by
          rw [cell_of_row wr g (k * 3 + j) cur _ _ hg]
          exact ⟨_, Array.getElem?_eq_getElem (by omega)⟩
        obtain ⟨u0, d0⟩ := hin 0 (by decide)
        obtain ⟨u1, d1⟩ := hin 1 (by decide)
        obtain ⟨u2, d2⟩ := hin 2 (by decide)
        have f0 : ∀ k, wr.frozen? ⟨g, k, none⟩ = false := fun k => by simp [World.frozen?, hg]
        have e0 := f0 (k * 3)
        have e1 := f0 (k * 3 + 1)
        have e2 := f0 (k * 3 + 2)
        have hkX : k < X.length := by omega
        have HS := Lib.hid (HO.out.set HX.out.symm k hkX ⟨-9, 0, 0⟩)
        clear hin htake hg f0 ho HX'
        simp only [Nat.add_zero] at d0
        go_wp2
        go_roundw
        case rel => exact ⟨k + 1, X.set k ⟨-9, 0, 0⟩, by omega, by go_num, (((hbl.setCell (p := ⟨g, _, none⟩) hbg _).setCell (p := ⟨g, _, none⟩) hbg _).setCell (p := ⟨g, _, none⟩) hbg _), by rw [List.length_set, HX.out], HS.out⟩
        case measure => simp [intOf]; omega
    · unfold NbOwn at ho
      rw [HX.out] at ho
      go_wp2_with (at_builtin; refine wpList_append_at _ rfl _ _ 48 rfl base 61 i0 (.agg #[.int .i64 0, .int .i64 0, .int .i64 0]) 3 24 Try.underlying48 hi hz0 hz1 hz2 rfl (by decide) _ _ _ rfl (World.ownsRow.alloc ho _) ⟨wr.heap.size, 0, none⟩ 1 1 (rowNeighbour ⟨0, 0, 0⟩) rfl rfl (app_c1 _ _) (app_c2 _) (by unfold maxLen; omega) (by omega) (by simp; omega) ?_)
      intro v' w1 hown' hgrow hat
      go_wp2
      refine bodyPost_end (v := .tuple #[]) (by simp [results, Try.results37]) rfl ⟨rfl, ?_⟩
      have hgr : Grew wr w1 (.slice ao L.length cap) v' := (Grew.refl _ _).app hgrow hat
      exact hbl.trans (grew_below hgr (Nat.le_trans hbase hsz) (fun k hk => (World.ownsRow.lt ho k hk).1))
theorem wakes9_learn : tabB [] = true ∧ learnL [] 7 9 = [⟨7, 9, 0⟩] ∧ findR [⟨7, 9, 0⟩] 7 = (9, 0) := by decide +kernel
set_option maxRecDepth 100000 in
theorem wakes9_any (w : World) : Calls Try.prog 24 #[] w fun e w' => e = .returned (.bool true) ∧ Below w.heap.size w w' := by
  have C1 := Lib.hid (learn_ok (.slice none 0 0) [] 7 9 w (SlR.nilNb w).toNb wakes9_learn.1 (by decide) (by decide))
  rw [wakes9_learn.2.1] at C1
  have N1 := Lib.hid (fun w => num9_any 0 w)
  go_enter Try.func24, Try.ntmps24
  go_wp2_with fail
  (with_reducible refine C1.out.mono ?_)
  rintro e w1 ⟨v1, rfl, ho1, hb1⟩
  have C2 := Lib.hid (find_any v1 [⟨7, 9, 0⟩] 7 w1 ho1.of (by simp))
  rw [wakes9_learn.2.2] at C2
  clear ho1
  go_wp2_with fail
  (with_reducible refine C2.out.mono ?_)
  rintro e w2 ⟨rfl, hb2⟩
  have HB := Lib.hid (hb1.trans (hb2.mono hb1.size))
  clear hb1 hb2
  go_wp2_with (go_at_call 18; refine (N1.out _).mono ?_; rintro e w' ⟨rfl, rfl⟩)
  go_ret
  exact ⟨rfl, HB.out⟩
end Go.Proofs.Ytcomaacfhfnipaa
