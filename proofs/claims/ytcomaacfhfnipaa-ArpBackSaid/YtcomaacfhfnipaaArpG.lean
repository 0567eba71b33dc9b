/-
  Neighbours: what is learned: the program's way and the reference's are one (no walks).
-/
import Derived.Test.YtcomaacfhfnipaaArpE
namespace Go.Proofs.Ytcomaacfhfnipaa
open Go.RowKit
abbrev newNb (t m : Int) : Nb := ⟨t, m, 0⟩
/-- Who stays when one is heard of. -/
def dropd (L : List Nb) (t : Int) : List Nb := if 0 ≤ whereN L t then L.eraseIdx (whereN L t).toNat else if 16 ≤ L.length then L.eraseIdx (oldN L L.length) else L
def lessL (L : List Nb) (t : Int) : List Nb := L.filter fun q => decide (q.ip < t)
def moreL (L : List Nb) (t : Int) : List Nb := L.filter fun q => decide (t ≤ q.ip)
/-- Who is known behind it. -/
def learnL (L : List Nb) (t m : Int) : List Nb := lessL (dropd L t) t ++ newNb t m :: moreL (dropd L t) t
theorem lessL_all {L : List Nb} {t : Int} (h : ∀ q ∈ L, q.ip < t) : lessL L t = L ∧ moreL L t = [] := by
  unfold lessL moreL
  exact ⟨List.filter_eq_self.2 fun q hq => by simpa using h q hq, List.filter_eq_nil_iff.2 fun q hq => by have := h q hq; simp; omega⟩
theorem moreL_all {L : List Nb} {t : Int} (h : ∀ q ∈ L, t ≤ q.ip) : lessL L t = [] ∧ moreL L t = L := by
  unfold lessL moreL
  exact ⟨List.filter_eq_nil_iff.2 fun q hq => by have := h q hq; simp; omega, List.filter_eq_self.2 fun q hq => by simpa using h q hq⟩
theorem less_app (A B : List Nb) (t : Int) : lessL (A ++ B) t = lessL A t ++ lessL B t := List.filter_append _ _
theorem more_app (A B : List Nb) (t : Int) : moreL (A ++ B) t = moreL A t ++ moreL B t := List.filter_append _ _
theorem place_take {L : List Nb} {t : Int} {i : Nat} {f : Bool} (h : Place L t i f) : ∀ q ∈ L.take i, q.ip < t := by
  intro q hq
  obtain ⟨j, hj⟩ := List.getElem?_of_mem hq
  rw [List.getElem?_take] at hj
  split at hj
  · rename_i hlt; exact h.2.1 j q hj hlt
  · cases hj
theorem place_drop {L : List Nb} {t : Int} {i : Nat} {f : Bool} (h : Place L t i f) : ∀ q ∈ L.drop i, t ≤ q.ip := by
  intro q hq
  obtain ⟨j, hj⟩ := List.getElem?_of_mem hq
  rw [List.getElem?_drop] at hj
  exact h.2.2.1 _ q hj (by omega)
theorem place_split {L : List Nb} {t : Int} {i : Nat} {f : Bool} (h : Place L t i f) : L.take i = lessL L t ∧ L.drop i = moreL L t := by
  have h1 := lessL_all (place_take h)
  have h2 := moreL_all (place_drop h)
  have e : L = L.take i ++ L.drop i := (List.take_append_drop i L).symm
  constructor
  · conv => rhs; rw [e, less_app, h1.1, h2.1, List.append_nil]
  · conv => rhs; rw [e, more_app, h1.2, h2.2, List.nil_append]
theorem place_known {L : List Nb} {t : Int} {i : Nat} (h : Place L t i true) : whereN L t = i := by
  obtain ⟨q, hq, he⟩ := h.2.2.2.1 rfl
  exact whereN_at hq he fun j p hj hp => by have := h.2.1 j p hp hj; omega
theorem place_unknown {L : List Nb} {t : Int} {i : Nat} (hr : Rising L) (h : Place L t i false) : whereN L t = -1 := by
  refine whereN_none fun j p hp he => ?_
  rcases Nat.lt_or_ge j i with h1 | h1
  · have := h.2.1 j p hp h1; omega
  · by_cases hji : j = i
    · subst hji; exact (by simpa using h.2.2.2.2 ⟨p, hp, he⟩)
    · obtain ⟨q, hq⟩ : ∃ q, L[i]? = some q := ⟨_, List.getElem?_eq_getElem (by have := (List.getElem?_eq_some_iff.1 hp).1; omega)⟩
      have h2 := h.2.2.1 i q hq (Nat.le_refl _)
      have h3 := hr i j q p hq hp (by omega)
      omega
theorem learn_known {L : List Nb} {t m : Int} {i : Nat} (h : Place L t i true) : L.set i (newNb t m) = learnL L t m := by
  have hw := place_known h
  obtain ⟨q, hq, he⟩ := h.2.2.2.1 rfl
  have hi : i < L.length := (List.getElem?_eq_some_iff.1 hq).1
  have hd : dropd L t = L.take i ++ L.drop (i + 1) := by
    unfold dropd; rw [hw, if_pos (by omega), Int.toNat_natCast, List.eraseIdx_eq_take_drop_succ]
  have h1 := lessL_all (place_take h)
  have h2 := moreL_all (L := L.drop (i + 1)) (t := t) fun q hq => place_drop h q (by
    rw [show L.drop (i + 1) = (L.drop i).drop 1 by rw [List.drop_drop]] at hq
    exact List.mem_of_mem_drop hq)
  unfold learnL
  rw [hd, less_app, more_app, h1.1, h1.2, h2.1, h2.2, List.append_nil, List.nil_append, List.set_eq_take_append_cons_drop, if_pos hi]
theorem learn_new {L : List Nb} {t m : Int} {i : Nat} (hr : Rising L) (h : Place L t i false) (hl : L.length < 16) : L.take i ++ newNb t m :: L.drop i = learnL L t m := by
  have hw := place_unknown hr h
  have hd : dropd L t = L := by unfold dropd; rw [hw, if_neg (by omega), if_neg (by omega)]
  unfold learnL
  rw [hd, (place_split h).1, (place_split h).2]
theorem learn_full {L : List Nb} {t m : Int} {i j : Nat} {f : Bool} (hr : Rising L) (h : Place L t i false) (hl : L.length = 16) (h2 : Place (L.eraseIdx (oldN L L.length)) t j f) :
    (L.eraseIdx (oldN L L.length)).take j ++ newNb t m :: (L.eraseIdx (oldN L L.length)).drop j = learnL L t m := by
  have hw := place_unknown hr h
  have hd : dropd L t = L.eraseIdx (oldN L L.length) := by unfold dropd; rw [hw, if_neg (by omega), if_pos (by omega)]
  unfold learnL
  rw [hd, (place_split h2).1, (place_split h2).2]
theorem rising_erase {L : List Nb} (hr : Rising L) (k : Nat) : Rising (L.eraseIdx k) := by
  intro i j p q hp hq hij
  rw [List.getElem?_eraseIdx] at hp hq
  split at hp <;> split at hq
  · exact hr i j p q hp hq hij
  · exact hr i (j + 1) p q hp hq (by omega)
  · omega
  · exact hr (i + 1) (j + 1) p q hp hq (by omega)
theorem rising_tail {q : Nb} {r : List Nb} (h : Rising (q :: r)) : Rising r ∧ ∀ p ∈ r, q.ip < p.ip := by
  refine ⟨fun i j p p' hp hp' hij => h (i + 1) (j + 1) p p' (by simpa using hp) (by simpa using hp') (by omega), fun p hp => ?_⟩
  obtain ⟨j, hj⟩ := List.getElem?_of_mem hp
  exact h 0 (j + 1) q p rfl (by simpa using hj) (by omega)
/-! the reference's loop -/
def minusI (o : Int) : Nat → List Nb → List Nb
  | _, [] => []
  | k, q :: r => if (k : Int) = o then minusI o (k + 1) r else q :: minusI o (k + 1) r
def learnGo (t m o : Int) : Nat → Bool → List Nb → List Nb
  | _, b, [] => if b then [] else [newNb t m]
  | k, b, q :: r => (if (!b && decide (t ≤ q.ip)) = true then [newNb t m] else []) ++ ((if (k : Int) = o then [] else [q]) ++ learnGo t m o (k + 1) (b || decide (t ≤ q.ip)) r)
theorem minusI_cons (o : Int) (k : Nat) (q : Nb) (r : List Nb) : minusI o k (q :: r) = if (k : Int) = o then minusI o (k + 1) r else q :: minusI o (k + 1) r := rfl
theorem learnGo_cons (t m o : Int) (k : Nat) (b : Bool) (q : Nb) (r : List Nb) : learnGo t m o k b (q :: r) = (if (!b && decide (t ≤ q.ip)) = true then [newNb t m] else []) ++ ((if (k : Int) = o then [] else [q]) ++ learnGo t m o (k + 1) (b || decide (t ≤ q.ip)) r) := rfl
theorem minusI_low (o : Int) : ∀ (L : List Nb) (k : Nat), o < k → minusI o k L = L := by
  intro L
  induction L with
  | nil => intro k _; rfl
  | cons q r ih => intro k h; unfold minusI; rw [if_neg (by omega), ih _ (by omega)]
theorem minusI_at : ∀ (L : List Nb) (k i : Nat), minusI ((k + i : Nat) : Int) k L = L.eraseIdx i := by
  intro L
  induction L with
  | nil => intro k i; simp [minusI]
  | cons q r ih =>
    intro k i
    unfold minusI
    cases i with
    | zero => rw [if_pos (by omega), minusI_low _ _ _ (by omega)]; rfl
    | succ i =>
      rw [if_neg (by omega), List.eraseIdx_cons_succ, ← ih (k + 1) i]
      congr 2; omega
theorem minusI_mem (o : Int) : ∀ (L : List Nb) (k : Nat), ∀ q ∈ minusI o k L, q ∈ L := by
  intro L
  induction L with
  | nil => intro k q hq; exact hq
  | cons x r ih =>
    intro k q hq
    unfold minusI at hq
    split at hq
    · exact List.mem_cons_of_mem _ (ih _ q hq)
    · rcases List.mem_cons.1 hq with rfl | hq
      · simp
      · exact List.mem_cons_of_mem _ (ih _ q hq)
theorem learnGo_in (t m o : Int) : ∀ (L : List Nb) (k : Nat), learnGo t m o k true L = minusI o k L := by
  intro L
  induction L with
  | nil => intro k; rfl
  | cons q r ih =>
    intro k
    rw [learnGo_cons, minusI_cons]
    rw [Bool.true_or, ih]
    by_cases h : (k : Int) = o <;> simp [h]
theorem learnGo_out (t m o : Int) : ∀ (L : List Nb) (k : Nat), Rising L → learnGo t m o k false L = lessL (minusI o k L) t ++ newNb t m :: moreL (minusI o k L) t := by
  intro L
  induction L with
  | nil => intro k _; rfl
  | cons q r ih =>
    intro k hr
    obtain ⟨hr2, hq⟩ := rising_tail hr
    rw [learnGo_cons]
    by_cases h : t ≤ q.ip
    · have hall := moreL_all (L := minusI o k (q :: r)) (t := t) fun p hp => by
        rcases List.mem_cons.1 (minusI_mem o _ _ p hp) with rfl | hp
        · exact h
        · have := hq p hp; omega
      rw [hall.1, hall.2, show (false || decide (t ≤ q.ip)) = true by simp [h], learnGo_in, show (!false && decide (t ≤ q.ip)) = true by simp [h]]
      rw [minusI_cons]
      by_cases h2 : (k : Int) = o <;> simp [h2]
    · have hlt : q.ip < t := by omega
      rw [show (false || decide (t ≤ q.ip)) = false by simp [h], ih _ hr2, show (!false && decide (t ≤ q.ip)) = false by simp [h]]
      rw [minusI_cons]
      by_cases h2 : (k : Int) = o
      · simp [h2]
      · simp [h2, lessL, moreL, hlt, h]
/-- What the reference leaves out. -/
def oldI (L : List Nb) (t : Int) : Int := if 0 ≤ whereN L t then whereN L t else if 16 ≤ L.length then (oldN L L.length : Int) else -1
theorem whereN_range (L : List Nb) (t : Int) : whereN L t = -1 ∨ ∃ i : Nat, whereN L t = i ∧ i < L.length := by
  unfold whereN
  split
  · rename_i i h; right; exact ⟨i, rfl, (List.findIdx?_eq_some_iff_getElem.1 h).1⟩
  · exact .inl rfl
theorem learnGo_all {L : List Nb} (t m : Int) (hr : Rising L) : learnGo t m (oldI L t) 0 false L = learnL L t m := by
  rw [learnGo_out _ _ _ _ _ hr]
  have : minusI (oldI L t) 0 L = dropd L t := by
    unfold oldI dropd
    rcases whereN_range L t with h | ⟨i, h, -⟩
    · rw [h]
      simp only [show ¬ (0 : Int) ≤ -1 by decide, if_false]
      split
      · have := minusI_at L 0 (oldN L L.length); rw [Nat.zero_add] at this; exact this
      · exact minusI_low _ _ _ (by omega)
    · rw [h]
      simp only [show (0 : Int) ≤ (i : Int) by omega, if_true, Int.toNat_natCast]
      have := minusI_at L 0 i; rw [Nat.zero_add] at this; exact this
  unfold learnL
  rw [this]
end Go.Proofs.Ytcomaacfhfnipaa
