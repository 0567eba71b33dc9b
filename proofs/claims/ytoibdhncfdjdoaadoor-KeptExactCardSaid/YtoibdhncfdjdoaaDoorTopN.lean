/-
  Topics: the mathematics of a name as a filter.
-/
import Derived.Test.YtoibdhncfdjdoaaDoorTopF
import Derived.Lib.ValidLaws
namespace Go.Proofs.YtoibdhncfdjdoaaDoor
open Go.RowKit Go.Lib
theorem getD_app (l m : Bs) (i : Nat) (h : i < l.length) : (l ++ m).getD i 0 = l.getD i 0 := by
  simp [List.getD, List.getElem?_append_left h]
theorem checkN_app (l m : Bs) (sz lo hi k : Nat) (h : checkN l.length (l.getD 1 0).toNat (l.getD 2 0).toNat (l.getD 3 0).toNat sz lo hi = some k) :
    1 ≤ k ∧ k ≤ l.length ∧ checkN (l ++ m).length ((l ++ m).getD 1 0).toNat ((l ++ m).getD 2 0).toNat ((l ++ m).getD 3 0).toNat sz lo hi = some k := by
  unfold checkN at h ⊢
  rw [List.length_append]
  by_cases h2 : sz = 2
  · rw [if_pos h2] at h ⊢
    split at h
    · cases h
    · rename_i hn
      obtain rfl := Option.some.inj h
      have hl : 2 ≤ l.length := by omega
      rw [getD_app l m 1 (by omega), if_neg (by omega)]
      exact ⟨by omega, hl, rfl⟩
  · rw [if_neg h2] at h ⊢
    by_cases h3 : sz = 3
    · rw [if_pos h3] at h ⊢
      split at h
      · cases h
      · rename_i hn
        obtain rfl := Option.some.inj h
        have hl : 3 ≤ l.length := by omega
        rw [getD_app l m 1 (by omega), getD_app l m 2 (by omega), if_neg (by omega)]
        exact ⟨by omega, hl, rfl⟩
    · rw [if_neg h3] at h ⊢
      by_cases h4 : sz = 4
      · rw [if_pos h4] at h ⊢
        split at h
        · cases h
        · rename_i hn
          obtain rfl := Option.some.inj h
          have hl : 4 ≤ l.length := by omega
          rw [getD_app l m 1 (by omega), getD_app l m 2 (by omega), getD_app l m 3 (by omega), if_neg (by omega)]
          exact ⟨by omega, hl, rfl⟩
      · rw [if_neg h4] at h
        cases h
theorem validD_app (m : Bs) : ∀ (n : Nat) (l : Bs), l.length ≤ n → validD l = true → validD (l ++ m) = validD m
  | 0, l, hn, _ => by
    have : l = [] := List.eq_nil_of_length_eq_zero (by omega)
    subst this; rfl
  | n + 1, l, hn, hv => by
    cases l with
    | nil => rfl
    | cons b t =>
      by_cases hb : b.toNat < 128
      · rw [validD_cons b t hb] at hv
        rw [List.cons_append, validD_cons b _ hb]
        exact validD_app m n t (by simp at hn; omega) hv
      · have h1 := validD_lead (b :: t) (by simp) (by simp; omega)
        rw [hv] at h1
        have h2 := validD_lead (b :: t ++ m) (by simp) (by simp; omega)
        rw [h2]
        have e0 : (b :: t ++ m).getD 0 0 = (b :: t).getD 0 0 := rfl
        rw [e0]
        cases hc : checkN (b :: t).length ((b :: t).getD 1 0).toNat ((b :: t).getD 2 0).toNat ((b :: t).getD 3 0).toNat (firstT ((b :: t).getD 0 0).toNat % 8) (accLo (firstT ((b :: t).getD 0 0).toNat / 16)) (accHi (firstT ((b :: t).getD 0 0).toNat / 16)) with
        | none => rw [hc] at h1; exact absurd h1 (by simp)
        | some k =>
          rw [hc] at h1
          obtain ⟨k1, k2, k3⟩ := checkN_app (b :: t) m _ _ _ k hc
          rw [k3]
          show validD ((b :: t ++ m).drop k) = validD m
          rw [List.drop_append_of_le_length k2]
          exact validD_app m n _ (by rw [List.length_drop]; simp at hn ⊢; omega) h1.symm
theorem textB_parts {l : Bs} : textB l = true ↔ 1 ≤ l.length ∧ l.length ≤ 64 ∧ validD l = true ∧ l.contains 0 = false := by
  unfold textB
  rw [contains_ix]
  simp only [Bool.and_eq_true, decide_eq_true_eq, Bool.not_eq_true']
/-- Two bytes more of plain ASCII. -/
theorem textB_more (l : Bs) (a b : UInt8) (h : textB l = true) (hl : l.length ≤ 62) (ha : a.toNat < 128 ∧ a ≠ 0) (hb : b.toNat < 128 ∧ b ≠ 0) : textB (l ++ [a, b]) = true := by
  obtain ⟨h1, h2, h3, h4⟩ := textB_parts.1 h
  refine textB_parts.2 ⟨by simp, by simp; omega, ?_, ?_⟩
  · rw [validD_app [a, b] l.length l (Nat.le_refl _) h3, validD_cons a _ ha.1, validD_cons b _ hb.1]; rfl
  · rw [List.contains_eq_mem] at h4 ⊢
    simp only [decide_eq_false_iff_not, List.mem_append, List.mem_cons, List.not_mem_nil, or_false, not_or] at h4 ⊢
    exact ⟨h4, fun h => ha.2 h.symm, fun h => hb.2 h.symm⟩
theorem hasP_app (l m : Bs) : hasP (l ++ m) = (hasP l || hasP m) := by
  unfold hasP
  rw [List.contains_append, List.contains_append]
  cases l.contains 43 <;> cases l.contains 35 <;> cases m.contains 43 <;> cases m.contains 35 <;> rfl
/-- A byte put in front of the first level. -/
def glueH (b : UInt8) : List Bs → List Bs
  | [] => [[b]]
  | h :: t => (b :: h) :: t
theorem levels_cons (b : UInt8) (l : Bs) (h : ¬ b = 47) : levels (b :: l) = glueH b (levels l) := by
  rw [levels, if_neg h]
  cases levels l <;> rfl
theorem levels_47 (l : Bs) : levels (47 :: l) = [] :: levels l := by
  rw [levels, if_pos rfl]
theorem levels_slash (m : Bs) : ∀ l : Bs, levels (l ++ 47 :: m) = levels l ++ levels m
  | [] => by rw [List.nil_append, levels_47]; rfl
  | b :: l => by
    have ih := levels_slash m l
    by_cases h : b = 47
    · subst h
      rw [List.cons_append, levels_47, ih, levels_47]; rfl
    · rw [List.cons_append, levels_cons b _ h, levels_cons b _ h, ih]
      cases hl : levels l with
      | nil => exact absurd hl (levels_ne l)
      | cons a t => rfl
theorem levels_inj : ∀ (l m : Bs), levels l = levels m → l = m
  | [], [], _ => rfl
  | [], c :: m, h => by
    by_cases hc : c = 47
    · subst hc
      rw [levels_47] at h
      have := levels_ne m
      simp [levels] at h
      exact absurd h this
    · rw [levels_cons c m hc] at h
      cases hm : levels m with
      | nil => exact absurd hm (levels_ne m)
      | cons a t => rw [hm] at h; simp [levels, glueH] at h
  | b :: l, [], h => by
    by_cases hc : b = 47
    · subst hc
      rw [levels_47] at h
      have := levels_ne l
      simp [levels] at h
      exact absurd h this
    · rw [levels_cons b l hc] at h
      cases hm : levels l with
      | nil => exact absurd hm (levels_ne l)
      | cons a t => rw [hm] at h; simp [levels, glueH] at h
  | b :: l, c :: m, h => by
    by_cases hb : b = 47
    · subst hb
      by_cases hc : c = 47
      · subst hc
        rw [levels_47, levels_47] at h
        rw [levels_inj l m (List.cons.inj h).2]
      · rw [levels_47, levels_cons c m hc] at h
        cases hm : levels m with
        | nil => exact absurd hm (levels_ne m)
        | cons a t => rw [hm] at h; simp [glueH] at h
    · rw [levels_cons b l hb] at h
      by_cases hc : c = 47
      · subst hc
        rw [levels_47] at h
        cases hm : levels l with
        | nil => exact absurd hm (levels_ne l)
        | cons a t => rw [hm] at h; simp [glueH] at h
      · rw [levels_cons c m hc] at h
        cases hl : levels l with
        | nil => exact absurd hl (levels_ne l)
        | cons a t =>
          cases hm : levels m with
          | nil => exact absurd hm (levels_ne m)
          | cons a' t' =>
            rw [hl, hm] at h
            simp [glueH] at h
            obtain ⟨⟨h1, h2⟩, h3⟩ := h
            rw [h1, levels_inj l m (by rw [hl, hm, h2, h3])]
theorem hasP_cons (b : UInt8) (l : Bs) : hasP (b :: l) = false ↔ (b ≠ 43 ∧ b ≠ 35) ∧ hasP l = false := by
  unfold hasP
  rw [List.contains_cons, List.contains_cons]
  simp only [Bool.or_eq_false_iff, beq_eq_false_iff_ne]
  constructor
  · rintro ⟨⟨h1, h2⟩, h3, h4⟩
    exact ⟨⟨fun e => h1 e.symm, fun e => h3 e.symm⟩, h2, h4⟩
  · rintro ⟨⟨h1, h2⟩, h3, h4⟩
    exact ⟨⟨fun e => h1 e.symm, h3⟩, fun e => h2 e.symm, h4⟩
theorem plain_levels : ∀ l : Bs, hasP l = false → ∀ x ∈ levels l, hasP x = false
  | [], _, x, hx => by simp [levels] at hx; subst hx; rfl
  | b :: l, h, x, hx => by
    obtain ⟨hb, hl⟩ := (hasP_cons b l).1 h
    have ih := plain_levels l hl
    by_cases h47 : b = 47
    · subst h47
      rw [levels_47] at hx
      rcases List.mem_cons.1 hx with rfl | hx
      · rfl
      · exact ih x hx
    · rw [levels_cons b l h47] at hx
      cases hm : levels l with
      | nil => exact absurd hm (levels_ne l)
      | cons a t =>
        rw [hm] at hx ih
        rcases List.mem_cons.1 hx with rfl | hx
        · exact (hasP_cons b a).2 ⟨hb, ih a (by simp)⟩
        · exact ih x (by simp [hx])
theorem plain_ne {x : Bs} (h : hasP x = false) : ¬ x = [43] ∧ ¬ x = [35] := by
  constructor
  · rintro rfl; exact absurd h (by decide)
  · rintro rfl; exact absurd h (by decide)
theorem lvOk_plain {x : Bs} (m : Bool) (h : hasP x = false) : lvOk x m = true := by
  unfold hasP at h
  rw [Bool.or_eq_false_iff] at h
  unfold lvOk
  rw [h.1, h.2]; rfl
theorem fOk_more (y : Bs) : ∀ L : List Bs, (∀ x ∈ L, hasP x = false) → fOk (L ++ [y]) = lvOk y false
  | [], _ => by simp [fOk]
  | x :: L, h => by
    rw [List.cons_append, fOk, lvOk_plain _ (h x (by simp)), Bool.true_and]
    exact fOk_more y L (fun z hz => h z (by simp [hz]))
theorem fOk_plain : ∀ L : List Bs, (∀ x ∈ L, hasP x = false) → fOk L = true
  | [], _ => rfl
  | x :: L, h => by
    rw [fOk, lvOk_plain _ (h x (by simp)), Bool.true_and]
    exact fOk_plain L (fun z hz => h z (by simp [hz]))
theorem mOk_plain : ∀ (L T : List Bs), (∀ x ∈ L, hasP x = false) → mOk L T = decide (L = T)
  | [], [], _ => by simp [mOk]
  | [], t :: T, _ => by simp [mOk]
  | x :: L, [], h => by rw [mOk_none _ _ (plain_ne (h x (by simp))).2]; simp
  | x :: L, t :: T, h => by
    have hp := plain_ne (h x (by simp))
    rw [mOk_cons _ _ _ _ hp.2]
    by_cases hx : x = t
    · rw [if_neg (fun q => q.2 hx), mOk_plain L T (fun z hz => h z (by simp [hz]))]
      subst hx
      simp
    · rw [if_pos ⟨hp.1, hx⟩, decide_eq_false (fun e => hx (List.cons.inj e).1)]
theorem mOk_through (F T : List Bs) : ∀ L : List Bs, (∀ x ∈ L, hasP x = false) → mOk (L ++ F) (L ++ T) = mOk F T
  | [], _ => rfl
  | x :: L, h => by
    have hp := plain_ne (h x (by simp))
    rw [List.cons_append, List.cons_append, mOk_cons _ _ _ _ hp.2, if_neg (fun q => q.2 rfl)]
    exact mOk_through F T L (fun z hz => h z (by simp [hz]))
theorem doll_plain (b : UInt8) (t u s : Bs) (h : hasP (b :: t) = false) : doll (b :: t ++ s) u = false := by
  obtain ⟨hb, -⟩ := (hasP_cons b t).1 h
  unfold doll
  simp [hb.1, hb.2]
section
variable {t : Bs} (ht : nameB t = true)
include ht
theorem self_parts : textB t = true ∧ hasP t = false ∧ ∃ b t', t = b :: t' := by
  unfold nameB at ht
  rw [Bool.and_eq_true, Bool.not_eq_true'] at ht
  obtain ⟨b, t', h, -⟩ := textB_ne ht.1
  exact ⟨ht.1, ht.2, b, t', h⟩
theorem self_filt : filtB t = true := by
  obtain ⟨h1, h2, -⟩ := self_parts ht
  unfold filtB
  rw [h1, fOk_plain _ (plain_levels t h2)]; rfl
theorem self_match (u : Bs) (hu : nameB u = true) : matchB t u = decide (t = u) := by
  obtain ⟨h1, h2, b, t', rfl⟩ := self_parts ht
  have hd := doll_plain b t' u [] h2
  rw [List.append_nil] at hd
  unfold matchB
  rw [self_filt ht, hu, hd, mOk_plain _ _ (plain_levels _ h2)]
  by_cases h : b :: t' = u
  · subst h; simp
  · rw [decide_eq_false h, decide_eq_false (fun e => h (levels_inj _ _ e))]; rfl
theorem self_hash : filtB [35] = true ∧ matchB [35] t = !(t.head? == some 36) := by
  have hf : filtB [35] = true := by decide +kernel
  refine ⟨hf, ?_⟩
  unfold matchB
  rw [hf, ht]
  have hm : mOk (levels [35]) (levels t) = true := mOk_hash _ _ _ rfl
  rw [hm]
  unfold doll
  cases (t.head? == some 36) <;> rfl
variable (hl : t.length ≤ 62)
include hl
theorem self_filt_hash : filtB (t ++ [47, 35]) = true := by
  obtain ⟨h1, h2, -⟩ := self_parts ht
  unfold filtB
  rw [textB_more t 47 35 h1 hl (by decide) (by decide), levels_slash [35] t]
  show (true && fOk (levels t ++ [[35]])) = true
  rw [fOk_more _ _ (plain_levels t h2)]; rfl
theorem self_filt_plus : filtB (t ++ [47, 43]) = true := by
  obtain ⟨h1, h2, -⟩ := self_parts ht
  unfold filtB
  rw [textB_more t 47 43 h1 hl (by decide) (by decide), levels_slash [43] t]
  show (true && fOk (levels t ++ [[43]])) = true
  rw [fOk_more _ _ (plain_levels t h2)]; rfl
theorem self_name_x : nameB (t ++ [47, 120]) = true := by
  obtain ⟨h1, h2, -⟩ := self_parts ht
  unfold nameB
  rw [textB_more t 47 120 h1 hl (by decide) (by decide), hasP_app, h2]; rfl
theorem self_c : matchB (t ++ [47, 35]) t = true := by
  obtain ⟨h1, h2, b, t', rfl⟩ := self_parts ht
  unfold matchB
  rw [self_filt_hash ht hl, ht, doll_plain b t' _ [47, 35] h2, levels_slash [35]]
  have := mOk_through [[35]] [] (levels (b :: t')) (plain_levels _ h2)
  rw [List.append_nil] at this
  show (true && true && !false && mOk (levels (b :: t') ++ [[35]]) (levels (b :: t'))) = true
  rw [this, mOk_hash _ _ _ rfl]; rfl
theorem self_d : matchB (t ++ [47, 43]) (t ++ [47, 120]) = true := by
  obtain ⟨h1, h2, b, t', rfl⟩ := self_parts ht
  unfold matchB
  rw [self_filt_plus ht hl, self_name_x ht hl, doll_plain b t' _ [47, 43] h2, levels_slash [43], levels_slash [120]]
  show (true && true && !false && mOk (levels (b :: t') ++ [[43]]) (levels (b :: t') ++ [[120]])) = true
  rw [mOk_through _ _ _ (plain_levels _ h2)]; decide
theorem self_x : matchB (t ++ [47, 43]) t = false := by
  obtain ⟨h1, h2, b, t', rfl⟩ := self_parts ht
  unfold matchB
  rw [self_filt_plus ht hl, ht, doll_plain b t' _ [47, 43] h2, levels_slash [43]]
  have := mOk_through [[43]] [] (levels (b :: t')) (plain_levels _ h2)
  rw [List.append_nil] at this
  show (true && true && !false && mOk (levels (b :: t') ++ [[43]]) (levels (b :: t'))) = false
  rw [this]; decide
theorem self_y : matchB (t ++ [47, 35]) (t ++ [47, 120]) = true := by
  obtain ⟨h1, h2, b, t', rfl⟩ := self_parts ht
  unfold matchB
  rw [self_filt_hash ht hl, self_name_x ht hl, doll_plain b t' _ [47, 35] h2, levels_slash [35], levels_slash [120]]
  show (true && true && !false && mOk (levels (b :: t') ++ [[35]]) (levels (b :: t') ++ [[120]])) = true
  rw [mOk_through _ _ _ (plain_levels _ h2), mOk_hash _ _ _ rfl]; rfl
end
end Go.Proofs.YtoibdhncfdjdoaaDoor
