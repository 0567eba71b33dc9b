/-
  Who wants what: SubsExact: mathematics.
-/
import Derived.Test.YtoibdhncfdjdoaaDoorSuT
import Derived.Test.YtoibdhncfdjdoaaDoorSuM
namespace Go.Proofs.YtoibdhncfdjdoaaDoor
open Go.RowKit Go.Lib
theorem rising_tl {a : EWish} {r : List EWish} (h : Rising (a :: r)) : Rising r := fun i j p q hi hj hlt => h (i + 1) (j + 1) p q (by simpa using hi) (by simpa using hj) (by omega)
theorem rising_hd {a : EWish} {r : List EWish} (h : Rising (a :: r)) : ∀ q ∈ r, sl a.f q.f = true := by
  intro q hq
  obtain ⟨j, hj⟩ := List.getElem?_of_mem hq
  exact h 0 (j + 1) a q rfl (by simpa using hj) (by omega)
theorem ne_beq {a b : ByteArray} (h : a ≠ b) : (a.toList == b.toList) = false := by
  cases hb : (a.toList == b.toList) with
  | false => rfl
  | true => exact (h (ba_inj _ _ (beq_iff_eq.1 hb))).elim
theorem rdrop_all {r : List EWish} {t : ByteArray} (h : ∀ q ∈ r, q.f ≠ t) : rdropL r t = r := by
  unfold rdropL
  rw [List.filter_eq_self]
  intro q hq
  rw [ne_beq (h q hq)]; rfl
theorem placeN_cons (a : EWish) (r : List EWish) (t : ByteArray) : placeN (a :: r) t = if sl a.f t = true then placeN r t + 1 else 0 := by
  unfold placeN
  rw [List.takeWhile_cons]
  split <;> rfl
theorem thB_cons (a : EWish) (r : List EWish) (t : ByteArray) : thB (a :: r) t = if sl a.f t = true then thB r t else decide (a.f = t) := by
  unfold thB thereB
  rw [placeN_cons]
  cases sl a.f t with
  | true => rfl
  | false => rfl
theorem rdrop_eq (t : ByteArray) : ∀ {L : List EWish}, Rising L → rdropL L t = if thB L t = true then L.eraseIdx (placeN L t) else L
  | [], _ => by simp [rdropL]
  | a :: r, h => by
    have hh := rising_hd h
    rw [thB_cons, placeN_cons]
    cases hs : sl a.f t with
    | true =>
      rw [if_pos rfl, if_pos rfl]
      have e : rdropL (a :: r) t = a :: rdropL r t := by
        unfold rdropL
        rw [List.filter_cons, ne_beq (sl_ne hs)]; rfl
      rw [e, rdrop_eq t (rising_tl h)]
      split <;> rfl
    | false =>
      rw [if_neg Bool.false_ne_true, if_neg Bool.false_ne_true]
      by_cases ht : a.f = t
      · rw [if_pos (decide_eq_true ht), List.eraseIdx_zero]
        have e : rdropL (a :: r) t = rdropL r t := by
          unfold rdropL
          rw [List.filter_cons, ht]; simp
        rw [e]
        exact rdrop_all fun q hq he => by have := sl_ne (hh q hq); rw [he, ht] at this; exact this rfl
      · rw [if_neg (by simpa using ht)]
        rcases sl_tri a.f t with h1 | h1 | h1
        · rw [hs] at h1; cases h1
        · exact (ht h1).elim
        · refine rdrop_all fun q hq he => ?_
          rcases List.mem_cons.1 hq with rfl | hq
          · exact ht he
          · have := sl_ne (sl_trans h1 (hh q hq)); rw [he] at this; exact this rfl
/-- What the reference's Drop says, of what may be. -/
theorem drop_word {L : List EWish} {t : ByteArray} (h : subsB L = true) : (decide ((rdropL L t).length < L.length) = true ∧ dropR L t = (rdropL L t, 0)) ∨ (decide ((rdropL L t).length < L.length) = false ∧ dropR L t = ([], 3)) := by
  have he := rdrop_eq t (subs_rising h)
  unfold dropR
  rw [if_pos h]
  by_cases ht : thB L t = true
  · rw [if_pos ht] at he ⊢
    have hl := thB_lt ht
    refine .inl ⟨?_, by rw [he]⟩
    rw [he, List.length_eraseIdx, if_pos hl]
    exact decide_eq_true (by omega)
  · rw [if_neg ht] at he ⊢
    refine .inr ⟨?_, rfl⟩
    rw [he]; simp
theorem drop_len (L : List EWish) (t : ByteArray) : (rdropL L t).length ≤ L.length := List.length_filter_le _ _
theorem drop_mem {L : List EWish} {t : ByteArray} {x : EWish} (h : x ∈ rdropL L t) : x ∈ L := (List.mem_filter.1 h).1
theorem addL_mem {L : List EWish} {x y : EWish} (h : y ∈ addL L x) : y ∈ L ∨ y = x := by
  unfold addL at h
  split at h
  · rcases List.mem_or_eq_of_mem_set h with h | h
    · exact .inl h
    · exact .inr h
  · rw [List.mem_append, List.mem_cons] at h
    rcases h with h | h | h
    · exact .inl (List.mem_of_mem_take h)
    · exact .inr h
    · exact .inl (List.mem_of_mem_drop h)
theorem addL_len (L : List EWish) (x : EWish) : (addL L x).length ≤ L.length + 1 := by
  unfold addL
  split
  · rw [List.length_set]; omega
  · rw [List.length_append, List.length_cons, List.length_take, List.length_drop]; omega
/-- What Add says: the list more, or none. -/
theorem addR_word (L : List EWish) (x : EWish) : (addR L x = (addL L x, 0) ∧ subsB L = true ∧ wishB x = true) ∨ (∃ e : Int, addR L x = ([], e) ∧ e ≠ 0 ∧ 0 ≤ e ∧ e ≤ 5) := by
  unfold addR
  split
  · rename_i h
    rw [Bool.and_eq_true] at h
    split
    · exact .inl ⟨rfl, h.1, h.2⟩
    · split
      · exact .inr ⟨5, rfl, by decide, by decide, by decide⟩
      · exact .inl ⟨rfl, h.1, h.2⟩
  · exact .inr ⟨1, rfl, by decide, by decide, by decide⟩
/-- What Match says beside the reference's Best. -/
theorem best_word {L : List EWish} {t : ByteArray} (h : subsB L = true) (ht : nameB t.data.toList = true) : (matchR L t = (bvF L t L.length, 0) ∧ 0 ≤ bvF L t L.length ∧ bvF L t L.length ≤ 2) ∨ (matchR L t = (0, 3) ∧ bvF L t L.length = -1) := by
  obtain ⟨h1, h2, h3⟩ := fold2_inv (t := t) (subs_all h) L.length (Nat.le_refl _)
  rw [bv_all] at h1 h2 h3
  unfold matchR bvF
  rw [h, ht, bv_all, Bool.and_self, if_pos rfl]
  cases hb : (bestL L t).2 with
  | true => exact .inl ⟨by simp, by simpa using h1, by simpa using h2⟩
  | false => exact .inr ⟨by rw [h3 hb]; simp, by simp⟩
end Go.Proofs.YtoibdhncfdjdoaaDoor
