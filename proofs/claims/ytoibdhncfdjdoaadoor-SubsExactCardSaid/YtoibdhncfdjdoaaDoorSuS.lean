/-
  Who wants what: the reference's Drop and Best.
-/
import Derived.Test.YtoibdhncfdjdoaaDoorSuR
namespace Go.Proofs.YtoibdhncfdjdoaaDoor
open Go.RowKit Go.Lib
theorem wish_q {x : EWish} (h : wishB x = true) : 0 ≤ x.q ∧ x.q ≤ 2 := by
  unfold wishB at h
  rw [Bool.and_eq_true, Bool.and_eq_true, decide_eq_true_eq, decide_eq_true_eq] at h
  exact h.2
/-- The greatest of the first k; below nought: none. -/
def fold2 (S : List EWish) (t : ByteArray) (k : Nat) : Int × Bool := (S.take k).foldl (bestS t) (0, false)
def bvF (S : List EWish) (t : ByteArray) (k : Nat) : Int := if (fold2 S t k).2 = true then (fold2 S t k).1 else -1
theorem fold2_succ {S : List EWish} {t : ByteArray} {k : Nat} {x : EWish} (hx : S[k]? = some x) : fold2 S t (k + 1) = bestS t (fold2 S t k) x := by
  unfold fold2
  rw [List.take_add_one, hx, Option.toList_some, List.foldl_append]; rfl
theorem fold2_inv {S : List EWish} {t : ByteArray} (h : ∀ x ∈ S, wishB x = true) : ∀ k, k ≤ S.length → 0 ≤ (fold2 S t k).1 ∧ (fold2 S t k).1 ≤ 2 ∧ ((fold2 S t k).2 = false → (fold2 S t k).1 = 0) := by
  intro k
  induction k with
  | zero => intro _; exact ⟨by show (0 : Int) ≤ 0; decide, by show (0 : Int) ≤ 2; decide, fun _ => rfl⟩
  | succ k ih =>
    intro hk
    obtain ⟨h1, h2, h3⟩ := ih (by omega)
    obtain ⟨x, hx⟩ : ∃ x, S[k]? = some x := ⟨_, List.getElem?_eq_getElem (by omega)⟩
    have hq := wish_q (h x (List.mem_of_getElem? hx))
    rw [fold2_succ hx]
    unfold bestS
    split
    · exact ⟨by show 0 ≤ max _ _; omega, by show max _ _ ≤ 2; omega, fun h => by cases h⟩
    · exact ⟨h1, h2, h3⟩
theorem bv_match {S : List EWish} {t : ByteArray} {k : Nat} {x : EWish} (h : ∀ x ∈ S, wishB x = true) (hx : S[k]? = some x) (hm : matchB x.f.data.toList t.data.toList = true) : max (bvF S t k) x.q = bvF S t (k + 1) := by
  have hk := (List.getElem?_eq_some_iff.1 hx).1
  obtain ⟨h1, h2, h3⟩ := fold2_inv (t := t) h k (by omega)
  have hq := wish_q (h x (List.mem_of_getElem? hx))
  unfold bvF
  rw [fold2_succ hx]
  unfold bestS
  rw [if_pos hm, if_pos rfl]
  cases hb : (fold2 S t k).2 with
  | true => rw [if_pos rfl]
  | false => rw [if_neg Bool.false_ne_true, h3 hb]; show max (-1) _ = max 0 _; omega
theorem bv_none {S : List EWish} {t : ByteArray} {k : Nat} {x : EWish} (hx : S[k]? = some x) (hm : matchB x.f.data.toList t.data.toList = false) : bvF S t (k + 1) = bvF S t k := by
  unfold bvF
  rw [fold2_succ hx, show bestS t (fold2 S t k) x = fold2 S t k by unfold bestS; rw [if_neg (by rw [hm]; exact Bool.false_ne_true)]]
theorem bv_all (S : List EWish) (t : ByteArray) : fold2 S t S.length = bestL S t := by
  unfold fold2 bestL; rw [List.take_length]
theorem wsown_snoc {w : World} {base n : Nat} {v : Value} {A : List EWish} {x : EWish} (hn : n = A.length + 1) (h : w.ownsRow base 29 2 v n ((A.map rowWish).flatten ++ [Value.string x.f, Value.int .i64 x.q])) : WsOwn w base v (A ++ [x]) := by
  subst hn
  unfold WsOwn
  have e : ((A ++ [x]).map rowWish).flatten = (A.map rowWish).flatten ++ rowWish x := by rw [List.map_append, List.map_cons, List.map_nil, List.flatten_append, List.flatten_cons, List.flatten_nil, List.append_nil]
  rw [e, List.length_append]
  exact h
/-- The reference's list with a wish less. -/
def rdropL (L : List EWish) (t : ByteArray) : List EWish := L.filter (fun x => !(x.f.toList == t.toList))
theorem rdrop_step {L : List EWish} {t : ByteArray} {i : Nat} {y : EWish} (hy : L[i]? = some y) : rdropL (L.take (i + 1)) t = rdropL (L.take i) t ++ if (y.f.toList == t.toList) = true then [] else [y] := by
  unfold rdropL
  rw [List.take_add_one, hy, Option.toList_some, List.filter_append]
  cases h : (y.f.toList == t.toList) <;> simp [h]
set_option maxRecDepth 100000 in
set_option maxHeartbeats 4000000 in
theorem rdrop_any (v : Value) (L : List EWish) (t : ByteArray) (w : World) (hv : SlOf w 2 EWish.At v L) (hl : L.length ≤ 1000) :
    Calls Tryd.prog 15 #[v, .string t] w fun e w' => ∃ v', e = .returned (.tuple #[v', .bool (decide ((rdropL L t).length < L.length))]) ∧ WsOwn w' w.heap.size v' (rdropL L t) ∧ Below w.heap.size w w' := by
  obtain ⟨i0, hi0, hz0, hz1, hz2⟩ := info_parts infoWish
  obtain ⟨ao, cap, rfl, hlc, hlm, hnone, hB⟩ := hv
  have HB := Lib.hid hB
  clear hB hnone
  go_enter Tryd.func15, Tryd.ntmps15
  go_wp2
  go_loopw [6, 7] (fun vm vi wr => ∃ (i : Nat) (A : List EWish), i ≤ L.length ∧ vi = .int .i64 i ∧ A = rdropL (L.take i) t ∧ WsOwn wr w.heap.size vm A ∧ Below w.heap.size w wr) (fun _ i _ => L.length - (RowKit.intOf i).toNat)
  case atStart => exact ⟨0, [], by omega, rfl, rfl, WsOwn.nil _ _, Below.refl _ _⟩
  case round =>
    obtain ⟨i, A, hi, rfl, hA, hO, hb⟩ := hrel
    have hAl : A.length ≤ i := by rw [hA]; unfold rdropL; exact Nat.le_trans (List.length_filter_le _ _) (by rw [List.length_take]; omega)
    have HW := Lib.hid hb
    have HA := Lib.hid hA
    have HO := Lib.hid hO
    obtain ⟨am, cm, rfl⟩ := own_slice hO
    clear hb hA hO
    by_cases hlt : i < L.length
    · have hltz : (i : Int) < (L.length : Int) := by omega
      obtain ⟨b, off, rfl, hbk, hBB⟩ := HB.out (by intro h; simp [h] at hlt)
      obtain ⟨y, hy⟩ : ∃ y, L[i]? = some y := ⟨_, List.getElem?_eq_getElem hlt⟩
      obtain ⟨c0, c1⟩ := hBB _ y hy
      have d0 := (HW.out.cell (p := ⟨b, off + i * 2, none⟩) hbk).trans c0
      have d1 := (HW.out.cell (p := ⟨b, off + i * 2 + 1, none⟩) hbk).trans c1
      have hst := rdrop_step (t := t) hy
      clear hBB c0 c1 hy
      cases hey : (y.f.toList == t.toList) with
      | true =>
        rw [hey, if_pos rfl, List.append_nil, ← HA.out] at hst
        have HST := Lib.hid hst
        clear hst
        go_wp2
        go_roundw
        case rel => exact ⟨i + 1, A, by omega, by go_num, HST.out.symm, HO.out, HW.out⟩
        case measure => simp [RowKit.intOf]; omega
      | false =>
        rw [hey, if_neg Bool.false_ne_true, ← HA.out] at hst
        have HST := Lib.hid hst
        have hrow1 : ∀ u ∈ rowWish y, u.oneCell' = true := by intro u hu; simp at hu; rcases hu with rfl | rfl <;> rfl
        have HR1 := Lib.hid hrow1
        have HNA := Lib.hid (news_alloc wr y)
        have HOA := Lib.hid (World.ownsRow.alloc HO.out (Obj.cells #[.string y.f, .int .i64 y.q] 29))
        have HBA := Lib.hid (HW.out.alloc HW.out.size (Obj.cells #[.string y.f, .int .i64 y.q] 29))
        clear hst hrow1
        go_wp2_with (first | (at_builtin; refine wpList_append_at _ rfl _ _ 22 rfl w.heap.size 29 i0 (.agg #[.string ByteArray.empty, .int .i64 0]) 2 24 Tryd.underlying22 hi0 hz0 hz1 hz2 rfl (by decide) _ _ _ rfl HOA.out ⟨wr.heap.size, 0, none⟩ 1 1 (rowWish y) rfl rfl HNA.out HR1.out (by unfold maxLen; omega) (by omega) HBA.out.size ?_))
        intro v' w1 hown' hgrow hat
        have HB11 := Lib.hid (HBA.out.grown hgrow HBA.out.size (by intro k hk; exact (HOA.out.lt k hk).1))
        have HO11 := Lib.hid hown'
        clear hown' hgrow hat
        go_wp2
        go_roundw
        case rel => exact ⟨i + 1, A ++ [y], by omega, by go_num, HST.out.symm, wsown_snoc rfl HO11.out, HB11.out⟩
        case measure => simp [RowKit.intOf]; omega
    · have hltz : ¬ (i : Int) < (L.length : Int) := by omega
      have HIL := Lib.hid (show i = L.length by omega)
      have HAe := Lib.hid (show rdropL L t = A by rw [HA.out, HIL.out, List.take_length])
      have HDE := Lib.hid (show decide ((A.length : Int) < (L.length : Int)) = decide (A.length < L.length) by simp)
      go_wp2
      go_ret2
      exact ⟨_, by rw [HAe.out, ← HDE.out]; rfl, by rw [HAe.out]; exact HO.out, HW.out⟩
set_option maxRecDepth 100000 in
set_option maxHeartbeats 4000000 in
theorem rbest_any (v : Value) (L : List EWish) (t : ByteArray) (w : World) (hv : SlOf w 2 EWish.At v L) (hW : ∀ x ∈ L, wishB x = true) (hs : ∀ y ∈ L, y.f.size < 1000000) (ht : t.size < 1000000) (hN : nameB t.data.toList = true) (hl : L.length ≤ 1000) :
    Calls Tryd.prog 18 #[v, .string t] w fun e w' => e = .returned (.int .i64 (bvF L t L.length)) ∧ Below w.heap.size w w' := by
  obtain ⟨ao, cap, rfl, hlc, hlm, hnone, hB⟩ := hv
  have HB := Lib.hid hB
  have HWW := Lib.hid hW
  have HSZ := Lib.hid hs
  have HN := Lib.hid hN
  clear hB hnone hW hs hN
  go_enter Tryd.func18, Tryd.ntmps18
  go_wp2
  go_loopw [5, 6] (fun vq vi wr => ∃ i : Nat, i ≤ L.length ∧ vi = .int .i64 i ∧ vq = .int .i64 (bvF L t i) ∧ Below w.heap.size w wr) (fun _ i _ => L.length - (RowKit.intOf i).toNat)
  case atStart => exact ⟨0, by omega, rfl, rfl, Below.refl _ _⟩
  case round =>
    obtain ⟨i, hi, rfl, rfl, hb⟩ := hrel
    have HW := Lib.hid hb
    clear hb
    by_cases hlt : i < L.length
    · have hltz : (i : Int) < (L.length : Int) := by omega
      obtain ⟨b, off, rfl, hbk, hBB⟩ := HB.out (by intro h; simp [h] at hlt)
      obtain ⟨y, hy⟩ : ∃ y, L[i]? = some y := ⟨_, List.getElem?_eq_getElem hlt⟩
      have hm := List.mem_of_getElem? hy
      obtain ⟨c0, c1⟩ := hBB _ y hy
      have d0 := (HW.out.cell (p := ⟨b, off + i * 2, none⟩) hbk).trans c0
      have d1 := (HW.out.cell (p := ⟨b, off + i * 2 + 1, none⟩) hbk).trans c1
      have hF : filtB y.f.data.toList = true := by have := HWW.out y hm; unfold wishB at this; rw [Bool.and_eq_true] at this; exact this.1
      have CM := Lib.hid (fun W => rmatch_ok y.f t W (HSZ.out y hm) ht hF HN.out)
      have HY := Lib.hid hy
      clear hBB c0 c1 hy hF hm
      obtain ⟨bv, hbv⟩ : ∃ bv, bvF L t i = bv := ⟨_, rfl⟩
      cases hM : matchB y.f.data.toList t.data.toList with
      | true =>
        have HBV := Lib.hid (show max bv y.q = bvF L t (i + 1) by rw [← hbv]; exact bv_match HWW.out HY.out hM)
        rw [hM] at CM
        rw [hbv]
        clear hbv hM
        go_wp2_with fail
        (with_reducible refine (CM.out _).mono ?_)
        rintro e w4 ⟨rfl, hb4⟩
        have d1' := (hb4.cell (p := ⟨b, off + i * 2 + 1, none⟩) (Nat.lt_of_lt_of_le hbk HW.out.size)).trans d1
        have HW4 := Lib.hid (HW.out.trans (hb4.mono HW.out.size))
        clear hb4 d1 d0 CM
        go_wp2_with fail
        go_roundw
        case rel => exact ⟨i + 1, by omega, by go_num, by rw [← HBV.out], HW4.out⟩
        case measure => simp [RowKit.intOf]; omega
      | false =>
        have HBV := Lib.hid (show bvF L t (i + 1) = bv by rw [← hbv]; exact bv_none HY.out hM)
        rw [hM] at CM
        rw [hbv]
        clear hbv hM
        go_wp2_with fail
        (with_reducible refine (CM.out _).mono ?_)
        rintro e w4 ⟨rfl, hb4⟩
        have HW4 := Lib.hid (HW.out.trans (hb4.mono HW.out.size))
        clear hb4 d1 d0 CM
        go_wp2_with fail
        go_roundw
        case rel => exact ⟨i + 1, by omega, by go_num, by rw [HBV.out], HW4.out⟩
        case measure => simp [RowKit.intOf]; omega
    · have hltz : ¬ (i : Int) < (L.length : Int) := by omega
      obtain ⟨bv, hbv⟩ : ∃ bv, bvF L t i = bv := ⟨_, rfl⟩
      have HBV := Lib.hid (show bvF L t L.length = bv by rw [← hbv, show i = L.length by omega])
      rw [hbv]
      clear hbv
      go_wp2
      go_ret
      exact ⟨by rw [HBV.out]; rfl, HW.out⟩
end Go.Proofs.YtoibdhncfdjdoaaDoor
