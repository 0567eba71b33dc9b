/-
  Pieces of a stream: what lies in the window is the stream's own: the mathematics of ReasmStream.
-/
import Derived.Test.YtjgbiffgmafhmaaGreatReK
namespace Go.Proofs.YtjgbiffgmafhmaaGreat
/-- What is there is what the stream has there. -/
def Con (W : Win) (S : List UInt8) : Prop := ∀ (k : Nat) (x : UInt8), W[k]? = some (some x) → S[k]? = some x
theorem lay1_con {W : Win} {S : List UInt8} {p : Int} {x : UInt8} (h : Con W S) (hx : 0 ≤ p → S[p.toNat]? = some x) : Con (lay1 W p x) S := by
  intro k y hk
  unfold lay1 at hk
  split at hk
  · rename_i hp
    split at hk
    · by_cases e : p.toNat = k
      · subst e
        rw [List.getElem?_set_self (by omega)] at hk
        injection hk with hk
        injection hk with hk
        rw [← hk]
        exact hx hp.1
      · rw [List.getElem?_set_ne e] at hk
        exact h k y hk
    · exact h k y hk
  · exact h k y hk
theorem layW_con {S : List UInt8} : ∀ (D : List UInt8) (W : Win) (o : Int), Con W S → (∀ (j : Nat) (x : UInt8), D[j]? = some x → 0 ≤ o + j → S[(o + j).toNat]? = some x) → Con (layW W o D) S
  | [], _, _, h, _ => h
  | x :: D, W, o, h, hd => layW_con D (lay1 W o x) (o + 1) (lay1_con h (fun h0 => by have := hd 0 x rfl (by omega); rwa [show o + ((0 : Nat) : Int) = o by omega] at this)) (fun j y hj h0 => by
      have := hd (j + 1) y hj (by omega)
      rwa [show o + ((j + 1 : Nat) : Int) = o + 1 + j by omega] at this)
/-- A run that is the stream's. -/
def FitQ (S : List UInt8) (q : Nat × List UInt8) : Prop := ∀ (j : Nat) (x : UInt8), q.2[j]? = some x → S[q.1 + j]? = some x
theorem fitQ_snoc {S : List UInt8} {n : Nat} {d : List UInt8} {x : UInt8} (h : FitQ S (n, d)) (hx : S[n + d.length]? = some x) : FitQ S (n, d ++ [x]) := by
  intro j y hj
  rcases Nat.lt_trichotomy j d.length with hl | hl | hl
  · exact h j y (by rwa [List.getElem?_append_left hl] at hj)
  · subst hl
    have : x = y := by simpa using hj
    rw [← this]; exact hx
  · rw [List.getElem?_eq_none (by rw [List.length_append, List.length_singleton]; omega)] at hj
    cases hj
theorem scan_fit {S : List UInt8} : ∀ (r : Win) (i : Nat) (c : Option (Nat × List UInt8)), (∀ (k : Nat) (x : UInt8), r[k]? = some (some x) → S[i + k]? = some x) → (∀ q, c = some q → FitQ S q ∧ q.1 + q.2.length = i) → ∀ q ∈ scanP i c r, FitQ S q
  | [], _, none, _, _, q, hq => by simp [scanP] at hq
  | [], _, some c, _, hc, q, hq => by
    obtain rfl : q = c := by simpa [scanP] using hq
    exact (hc q rfl).1
  | none :: r, i, none, h, _, q, hq => by
    refine scan_fit r (i + 1) none (fun k x hk => ?_) (fun _ e => by cases e) q hq
    rw [Nat.add_right_comm]; exact h (k + 1) x hk
  | none :: r, i, some c, h, hc, q, hq => by
    rcases List.mem_cons.1 hq with rfl | hq
    · exact (hc q rfl).1
    · refine scan_fit r (i + 1) none (fun k x hk => ?_) (fun _ e => by cases e) q hq
      rw [Nat.add_right_comm]; exact h (k + 1) x hk
  | some x :: r, i, none, h, _, q, hq => by
    refine scan_fit r (i + 1) (some (i, [x])) (fun k y hk => ?_) ?_ q hq
    · rw [Nat.add_right_comm]; exact h (k + 1) y hk
    · intro q e
      injection e with e
      subst e
      refine ⟨fun j y hj => ?_, rfl⟩
      cases j with
      | zero => injection hj with hj; subst hj; exact h 0 x rfl
      | succ j => cases hj
  | some x :: r, i, some (n, d), h, hc, q, hq => by
    obtain ⟨h1, h2⟩ := hc (n, d) rfl
    refine scan_fit r (i + 1) (some (n, d ++ [x])) (fun k y hk => ?_) ?_ q hq
    · rw [Nat.add_right_comm]; exact h (k + 1) y hk
    · intro q e
      injection e with e
      subst e
      have h2 : n + d.length = i := h2
      exact ⟨fitQ_snoc h1 (by rw [h2]; exact h 0 x rfl), by show n + (d ++ [x]).length = i + 1; rw [List.length_append, List.length_singleton]; omega⟩
/-- Runs stand in their order. -/
theorem scan_ok : ∀ (r : Win) (i : Nat) (c : Option (Nat × List UInt8)) (last : Nat), i + r.length = 2048 → (c = none → last ≤ i ∧ (last < i ∨ ∀ x, r[0]? ≠ some (some x))) → (∀ q, c = some q → last < q.1 ∧ 0 < q.2.length ∧ q.1 + q.2.length = i) → okR last (scanP i c r) = true
  | [], _, none, _, _, _, _ => rfl
  | [], i, some c, last, hi, _, hc => by
    obtain ⟨h1, h2, h3⟩ := hc c rfl
    have hi : i + 0 = 2048 := hi
    show (decide _ && true) = true
    rw [Bool.and_true, decide_eq_true_eq]
    omega
  | none :: r, i, none, last, hi, hn, _ => by
    refine scan_ok r (i + 1) none last (by rw [List.length_cons] at hi; omega) (fun _ => ⟨by have := (hn rfl).1; omega, .inl (by have := (hn rfl).1; omega)⟩) (fun _ e => by cases e)
  | none :: r, i, some c, last, hi, _, hc => by
    obtain ⟨h1, h2, h3⟩ := hc c rfl
    rw [List.length_cons] at hi
    show (decide _ && okR (c.1 + c.2.length) (scanP (i + 1) none r)) = true
    rw [scan_ok r (i + 1) none (c.1 + c.2.length) (by omega) (fun _ => ⟨by omega, .inl (by omega)⟩) (fun _ e => by cases e), Bool.and_true, decide_eq_true_eq]
    omega
  | some x :: r, i, none, last, hi, hn, _ => by
    rw [List.length_cons] at hi
    have hl : last < i := (hn rfl).2.resolve_right (fun h => h x rfl)
    refine scan_ok r (i + 1) (some (i, [x])) last (by omega) (fun e => by cases e) ?_
    intro q e
    injection e with e
    subst e
    exact ⟨hl, Nat.one_pos, rfl⟩
  | some x :: r, i, some (n, d), last, hi, _, hc => by
    obtain ⟨h1, h2, h3⟩ := hc (n, d) rfl
    rw [List.length_cons] at hi
    have h1 : last < n := h1
    have h3 : n + d.length = i := h3
    refine scan_ok r (i + 1) (some (n, d ++ [x])) last (by omega) (fun e => by cases e) ?_
    intro q e
    injection e with e
    subst e
    exact ⟨h1, by show 0 < (d ++ [x]).length; rw [List.length_append, List.length_singleton]; omega, by show n + (d ++ [x]).length = i + 1; rw [List.length_append, List.length_singleton]; omega⟩
theorem foldl_con {S : List UInt8} : ∀ (R : List (Nat × List UInt8)) (W : Win), Con W S → (∀ q ∈ R, FitQ S q) → Con (R.foldl (fun W q => layW W q.1 q.2) W) S
  | [], _, h, _ => h
  | q :: r, W, h, hq => foldl_con r _ (layW_con q.2 W q.1 h (fun j x hj _ => by have := hq q (List.mem_cons_self ..) j x hj; rwa [show ((q.1 : Int) + (j : Int)).toNat = q.1 + j by omega])) (fun p hp => hq p (List.mem_cons_of_mem _ hp))
theorem relW_con {S D : List UInt8} {R : List (Nat × List UInt8)} {o : Int} (hR : ∀ q ∈ R, FitQ S q) (hD : ∀ (j : Nat) (x : UInt8), D[j]? = some x → 0 ≤ o + j → S[(o + j).toNat]? = some x) : Con (relW R o D) S := by
  refine layW_con D _ o (foldl_con R win0 (fun k x hk => ?_) hR) hD
  have : (win0[k]?) = if k < 2048 then some none else none := List.getElem?_replicate
  rw [this] at hk
  split at hk
  · injection hk with hk; cases hk
  · cases hk
theorem con_told {W : Win} {S : List UInt8} (h : Con W S) : (W.take (toldN W)).map byt = S.take (toldN W) ∧ toldN W ≤ S.length := by
  have hall : ∀ i, i < toldN W → ∃ x, W[i]? = some (some x) ∧ S[i]? = some x := by
    intro i hi
    have hl : i < W.length := Nat.lt_of_lt_of_le hi (toldN_le W)
    have hg : W[i]? = some W[i] := List.getElem?_eq_getElem hl
    have hs := told_is hi hg
    cases hx : W[i] with
    | none => rw [hx] at hs; cases hs
    | some x => rw [hx] at hg; exact ⟨x, hg, h i x hg⟩
  refine ⟨List.ext_getElem? fun i => ?_, ?_⟩
  · rw [List.getElem?_map, List.getElem?_take, List.getElem?_take]
    by_cases hi : i < toldN W
    · obtain ⟨x, h1, h2⟩ := hall i hi
      rw [if_pos hi, if_pos hi, h1, h2]; rfl
    · rw [if_neg hi, if_neg hi]; rfl
  · rcases Nat.eq_zero_or_pos (toldN W) with h0 | h0
    · omega
    · obtain ⟨x, -, h2⟩ := hall (toldN W - 1) (by omega)
      have := (List.getElem?_eq_some_iff.1 h2).1
      omega
def shiftR (t : Nat) (R : List (Nat × List UInt8)) : List (Nat × List UInt8) := R.map fun q => (q.1 - t, q.2)
theorem shift_ok (t : Nat) : ∀ (R : List (Nat × List UInt8)) (last : Nat), t ≤ last → okR last R = true → okR (last - t) (shiftR t R) = true
  | [], _, _, _ => rfl
  | q :: r, last, ht, h => by
    unfold okR at h
    rw [Bool.and_eq_true, decide_eq_true_eq] at h
    obtain ⟨⟨h1, h2, h3, h4, h5⟩, h6⟩ := h
    have ih := shift_ok t r (q.1 + q.2.length) (by omega) h6
    show (decide (0 < q.2.length ∧ q.2.length ≤ 2048 ∧ last - t < q.1 - t ∧ q.1 - t < 2048 ∧ q.1 - t + q.2.length ≤ 2048) && okR (q.1 - t + q.2.length) (shiftR t r)) = true
    rw [show q.1 - t + q.2.length = q.1 + q.2.length - t by omega, ih, Bool.and_true, decide_eq_true_eq]
    omega
theorem okR_ge : ∀ (R : List (Nat × List UInt8)) (last : Nat), okR last R = true → ∀ q ∈ R, last < q.1
  | [], _, _, q, hq => by simp at hq
  | p :: r, last, h, q, hq => by
    unfold okR at h
    rw [Bool.and_eq_true, decide_eq_true_eq] at h
    rcases List.mem_cons.1 hq with rfl | hq
    · omega
    · have := okR_ge r _ h.2 q hq; omega
theorem shift_fit {S : List UInt8} {t : Nat} {R : List (Nat × List UInt8)} (h : ∀ q ∈ R, FitQ S q) (ht : ∀ q ∈ R, t < q.1) : ∀ q ∈ shiftR t R, FitQ (S.drop t) q := by
  intro q hq j x hj
  obtain ⟨p, hp, rfl⟩ := List.mem_map.1 hq
  rw [List.getElem?_drop, show t + (p.1 - t + j) = p.1 + j by have := ht p hp; omega]
  exact h p hp j x hj
theorem shift_toP {next : Int} {t : Nat} {R : List (Nat × List UInt8)} (ht : ∀ q ∈ R, t < q.1) : (shiftR t R).map (toP (addv next t)) = R.map (toP next) := by
  unfold shiftR
  rw [List.map_map]
  refine List.map_congr_left fun q hq => ?_
  show (⟨addv (addv next t) ((q.1 - t : Nat) : Int), q.2⟩ : EP) = ⟨addv next q.1, q.2⟩
  rw [addv_addv, show (t : Int) + ((q.1 - t : Nat) : Int) = (q.1 : Int) by have := ht q hq; omega]
/-- One piece of the stream. -/
theorem strm_step {next o : Int} {S D : List UInt8} {R : List (Nat × List UInt8)} (hn : 0 ≤ next ∧ next < 4294967296) (ho : -2147483648 ≤ o ∧ o < 2147483648) (hR : okR 0 R = true) (hl : R.length ≤ 8) (hf : ∀ q ∈ R, FitQ S q) (hD : ∀ (j : Nat) (x : UInt8), D[j]? = some x → 0 ≤ o + j → S[(o + j).toNat]? = some x) :
    ∃ t R', addNext next (R.map (toP next)) (addv next o) D = addv next (t : Nat) ∧ addTold next (R.map (toP next)) (addv next o) D = S.take t ∧ t ≤ S.length ∧ addParts next (R.map (toP next)) (addv next o) D = R'.map (toP (addv next (t : Nat))) ∧ okR 0 R' = true ∧ R'.length ≤ 8 ∧ (∀ q ∈ R', FitQ (S.drop t) q) ∧ (addFits next (R.map (toP next)) (addv next o) D = true → t = toldN (relW R o D)) := by
  have hW := rel_add (D := D) hn ho (okR_lt R 0 hR)
  have hlen := relW_len R o D
  have hcon := relW_con (D := D) hf hD
  cases hfit : addFits next (R.map (toP next)) (addv next o) D with
  | false =>
    refine ⟨0, R, ?_, ?_, Nat.zero_le _, ?_, hR, hl, by simpa using hf, fun e => by cases e⟩
    · unfold addNext; rw [hfit]; exact (addv_zero hn).symm
    · unfold addTold; rw [hfit]; rfl
    · unfold addParts; rw [hfit, show addv next ((0 : Nat) : Int) = next from addv_zero hn]; rfl
  | true =>
    obtain ⟨ht1, ht2⟩ := con_told hcon
    have hp : partsL (relW R o D) 2048 = scanP (toldN (relW R o D)) none ((relW R o D).drop (toldN (relW R o D))) := by rw [← hlen, parts_scan]
    have hle := toldN_le (relW R o D)
    have hfitL : (partsL (relW R o D) 2048).length ≤ 8 := by unfold addFits at hfit; rw [hW, decide_eq_true_eq] at hfit; exact hfit
    have hok : okR (toldN (relW R o D)) (partsL (relW R o D) 2048) = true := by
      rw [hp]
      refine scan_ok _ _ _ _ (by rw [List.length_drop]; omega) (fun _ => ⟨Nat.le_refl _, .inr fun x hx => ?_⟩) (fun _ e => by cases e)
      rw [List.getElem?_drop, Nat.add_zero] at hx
      have := told_end hx
      cases this
    have hfq : ∀ q ∈ partsL (relW R o D) 2048, FitQ S q := by
      rw [hp]
      refine scan_fit _ _ _ (fun k x hk => ?_) (fun _ e => by cases e)
      rw [List.getElem?_drop] at hk
      exact hcon _ x hk
    have hge := okR_ge _ _ hok
    refine ⟨toldN (relW R o D), shiftR (toldN (relW R o D)) (partsL (relW R o D) 2048), ?_, ?_, ht2, ?_, ?_, ?_, shift_fit hfq hge, fun _ => rfl⟩
    · unfold addNext; rw [hfit, hW]; rfl
    · unfold addTold; rw [hfit, hW]; exact ht1
    · unfold addParts addP; rw [hfit, hW, shift_toP hge]; rfl
    · have := shift_ok (toldN (relW R o D)) _ _ (Nat.le_refl _) hok
      rwa [Nat.sub_self] at this
    · unfold shiftR; rw [List.length_map]; exact hfitL
theorem lay1_keep {W : Win} {p : Int} {x : UInt8} {k : Nat} {y : UInt8} (h : W[k]? = some (some y)) : (lay1 W p x)[k]? = some (some y) := by
  unfold lay1
  split
  · split
    · rename_i hp _ hn
      by_cases e : p.toNat = k
      · rw [e, h] at hn; cases hn
      · rw [List.getElem?_set_ne e]; exact h
    · exact h
  · exact h
theorem lay1_here {W : Win} {x : UInt8} {k : Nat} (hk : k < W.length) : ∃ y, (lay1 W k x)[k]? = some (some y) := by
  rw [lay1_at hk]
  have hg : W[k]? = some W[k] := List.getElem?_eq_getElem hk
  cases hx : W[k] with
  | none => exact ⟨x, by rw [if_neg (by simp [isS]), List.getElem?_set_self hk]⟩
  | some y => rw [hx] at hg; exact ⟨y, by rw [if_pos (show isS (some y) = true from rfl)]; exact hg⟩
theorem lay1_off {W : Win} {p : Int} {x : UInt8} {k : Nat} (h : p ≠ k) : (lay1 W p x)[k]? = W[k]? := by
  unfold lay1
  split
  · split
    · rename_i hp _ hn
      rw [List.getElem?_set_ne (by omega)]
    · rfl
  · rfl
theorem layW_keep {k : Nat} {y : UInt8} : ∀ (D : List UInt8) (W : Win) (o : Int), W[k]? = some (some y) → (layW W o D)[k]? = some (some y)
  | [], _, _, h => h
  | x :: D, W, o, h => layW_keep D (lay1 W o x) (o + 1) (lay1_keep h)
theorem layW_cover {k : Nat} : ∀ (D : List UInt8) (W : Win) (o : Int), k < W.length → o ≤ k → k < o + D.length → ∃ y, (layW W o D)[k]? = some (some y)
  | [], _, _, _, h1, h2 => by simp at h2; omega
  | x :: D, W, o, hk, h1, h2 => by
    rw [List.length_cons] at h2
    by_cases e : o = k
    · subst e
      obtain ⟨y, hy⟩ := lay1_here (x := x) hk
      exact ⟨y, layW_keep D _ _ hy⟩
    · exact layW_cover D (lay1 W o x) (o + 1) (by rw [lay1_len]; exact hk) (by omega) (by omega)
theorem layW_off {k : Nat} : ∀ (D : List UInt8) (W : Win) (o : Int), (k < o ∨ o + D.length ≤ k) → (layW W o D)[k]? = W[k]?
  | [], _, _, _ => rfl
  | x :: D, W, o, h => by
    rw [List.length_cons] at h
    show (layW (lay1 W o x) (o + 1) D)[k]? = _
    rw [layW_off D _ _ (by omega), lay1_off (by omega)]
theorem foldl_len : ∀ (R : List (Nat × List UInt8)) (W : Win), (R.foldl (fun W q => layW W q.1 q.2) W).length = W.length
  | [], _ => rfl
  | q :: r, W => by rw [List.foldl_cons, foldl_len r, layW_len]
theorem foldl_keep {k : Nat} {y : UInt8} : ∀ (R : List (Nat × List UInt8)) (W : Win), W[k]? = some (some y) → (R.foldl (fun W q => layW W q.1 q.2) W)[k]? = some (some y)
  | [], _, h => h
  | q :: r, W, h => foldl_keep r _ (layW_keep q.2 W q.1 h)
theorem foldl_src {k : Nat} {y : UInt8} : ∀ (R : List (Nat × List UInt8)) (W : Win), (R.foldl (fun W q => layW W q.1 q.2) W)[k]? = some (some y) → W[k]? = some (some y) ∨ ∃ q ∈ R, q.1 ≤ k ∧ k < q.1 + q.2.length
  | [], _, h => .inl h
  | q :: r, W, h => by
    rcases foldl_src r _ h with h | ⟨p, hp, h⟩
    · by_cases hc : q.1 ≤ k ∧ k < q.1 + q.2.length
      · exact .inr ⟨q, List.mem_cons_self .., hc⟩
      · rw [layW_off q.2 W q.1 (by omega)] at h; exact .inl h
    · exact .inr ⟨p, List.mem_cons_of_mem _ hp, h⟩
theorem foldl_cover {k : Nat} : ∀ (R : List (Nat × List UInt8)) (W : Win), k < W.length → (∃ q ∈ R, q.1 ≤ k ∧ k < q.1 + q.2.length) → ∃ y, (R.foldl (fun W q => layW W q.1 q.2) W)[k]? = some (some y)
  | [], _, _, ⟨_, h, _⟩ => by simp at h
  | q :: r, W, hk, ⟨p, hp, h1, h2⟩ => by
    rcases List.mem_cons.1 hp with rfl | hp
    · obtain ⟨y, hy⟩ := layW_cover p.2 W p.1 hk (by omega) (by omega)
      exact ⟨y, foldl_keep r _ hy⟩
    · exact foldl_cover r _ (by rw [layW_len]; exact hk) ⟨p, hp, h1, h2⟩
/-- Where a run begins. -/
theorem scan_start {W : Win} : ∀ (r : Win) (i : Nat) (c : Option (Nat × List UInt8)), (∀ k, r[k]? = W[i + k]?) → (c = none → (0 < i ∧ W[i - 1]? = some none) ∨ ∀ x, r[0]? ≠ some (some x)) → (∀ q, c = some q → 0 < q.1 ∧ W[q.1 - 1]? = some none ∧ ∃ x, W[q.1]? = some (some x)) → ∀ q ∈ scanP i c r, 0 < q.1 ∧ W[q.1 - 1]? = some none ∧ ∃ x, W[q.1]? = some (some x)
  | [], _, none, _, _, _, q, hq => by simp [scanP] at hq
  | [], _, some c, _, _, hc, q, hq => by
    obtain rfl : q = c := by simpa [scanP] using hq
    exact hc q rfl
  | none :: r, i, none, h, _, _, q, hq =>
    scan_start r (i + 1) none (fun k => by rw [Nat.add_right_comm]; exact h (k + 1)) (fun _ => .inl ⟨Nat.succ_pos i, (h 0).symm⟩) (fun _ e => by cases e) q hq
  | none :: r, i, some c, h, _, hc, q, hq => by
    rcases List.mem_cons.1 hq with rfl | hq
    · exact hc q rfl
    · exact scan_start r (i + 1) none (fun k => by rw [Nat.add_right_comm]; exact h (k + 1)) (fun _ => .inl ⟨Nat.succ_pos i, (h 0).symm⟩) (fun _ e => by cases e) q hq
  | some x :: r, i, none, h, hn, _, q, hq => by
    obtain ⟨h0, h1⟩ := (hn rfl).resolve_right (fun h => h x rfl)
    refine scan_start r (i + 1) (some (i, [x])) (fun k => by rw [Nat.add_right_comm]; exact h (k + 1)) (fun e => by cases e) ?_ q hq
    intro q e
    injection e with e
    subst e
    exact ⟨h0, h1, x, (h 0).symm⟩
  | some x :: r, i, some (n, d), h, _, hc, q, hq => by
    refine scan_start r (i + 1) (some (n, d ++ [x])) (fun k => by rw [Nat.add_right_comm]; exact h (k + 1)) (fun e => by cases e) ?_ q hq
    intro q e
    injection e with e
    subst e
    exact hc (n, d) rfl
theorem ok_sub : ∀ (R P : List (Nat × List UInt8)) (a b : Nat), okR a P = true → okR b R = true → (∀ p ∈ P, ∃ q ∈ R, q.1 = p.1) → P.length ≤ R.length
  | [], [], _, _, _, _, _ => Nat.le_refl _
  | [], p :: P, _, _, _, _, h => by obtain ⟨_, h, _⟩ := h p (List.mem_cons_self ..); simp at h
  | q :: r, [], _, _, _, _, _ => Nat.zero_le _
  | q :: r, p :: P, a, b, hP, hR, h => by
    have hP' := hP
    have hR' := hR
    unfold okR at hP hR
    rw [Bool.and_eq_true, decide_eq_true_eq] at hP hR
    have gP := okR_ge P _ hP.2
    have gR := okR_ge r _ hR.2
    by_cases e : p.1 = q.1
    · refine Nat.succ_le_succ (ok_sub r P _ _ hP.2 hR.2 fun p' hp' => ?_)
      obtain ⟨q', hq', e'⟩ := h p' (List.mem_cons_of_mem _ hp')
      rcases List.mem_cons.1 hq' with rfl | hq'
      · have := gP p' hp'; omega
      · exact ⟨q', hq', e'⟩
    · have hgt : q.1 < p.1 := by
        obtain ⟨q', hq', e'⟩ := h p (List.mem_cons_self ..)
        rcases List.mem_cons.1 hq' with rfl | hq'
        · exact absurd e'.symm e
        · have := gR q' hq'; omega
      refine Nat.le_succ_of_le (ok_sub r (p :: P) a _ hP' hR.2 fun p' hp' => ?_)
      obtain ⟨q', hq', e'⟩ := h p' hp'
      rcases List.mem_cons.1 hq' with rfl | hq'
      · rcases List.mem_cons.1 hp' with rfl | hp'
        · omega
        · have := gP p' hp'; omega
      · exact ⟨q', hq', e'⟩
/-- A piece that begins at what is waited for, or ahead of it, always has room, and is told. -/
theorem rel_front {R : List (Nat × List UInt8)} {o : Int} {D : List UInt8} (hR : okR 0 R = true) (ho : o ≤ 0) :
    (partsL (relW R o D) 2048).length ≤ R.length ∧ min (o + D.length) 2048 ≤ toldN (relW R o D) := by
  have hlen := relW_len R o D
  have hw0 : (R.foldl (fun W q => layW W q.1 q.2) win0).length = 2048 := by rw [foldl_len, win0_len]
  have htold : min (o + D.length) 2048 ≤ toldN (relW R o D) := by
    rcases Int.lt_or_le (toldN (relW R o D) : Int) (min (o + D.length) 2048) with hlt | hge
    · obtain ⟨y, hy⟩ := layW_cover (k := toldN (relW R o D)) D (R.foldl (fun W q => layW W q.1 q.2) win0) o (by rw [hw0]; omega) (by omega) (by omega)
      have := told_end (W := relW R o D) hy
      cases this
    · exact hge
  refine ⟨?_, htold⟩
  have hp : partsL (relW R o D) 2048 = scanP (toldN (relW R o D)) none ((relW R o D).drop (toldN (relW R o D))) := by rw [← hlen, parts_scan]
  have hle := toldN_le (relW R o D)
  have hend : ∀ x, ((relW R o D).drop (toldN (relW R o D)))[0]? ≠ some (some x) := fun x hx => by
    rw [List.getElem?_drop, Nat.add_zero] at hx
    have := told_end hx
    cases this
  have hok : okR (toldN (relW R o D)) (partsL (relW R o D) 2048) = true := by
    rw [hp]
    exact scan_ok _ _ _ _ (by rw [List.length_drop]; omega) (fun _ => ⟨Nat.le_refl _, .inr hend⟩) (fun _ e => by cases e)
  refine ok_sub R _ _ 0 hok hR fun p hpm => ?_
  have hgt := okR_ge _ _ hok p hpm
  rw [hp] at hpm
  obtain ⟨h0, h1, x, h2⟩ := scan_start (W := relW R o D) _ _ none (fun k => List.getElem?_drop) (fun _ => .inr hend) (fun _ e => by cases e) p hpm
  have hpl : p.1 < 2048 := by have := (List.getElem?_eq_some_iff.1 h2).1; omega
  have hm : o + D.length ≤ ((p.1 - 1 : Nat) : Int) := by omega
  have e1 : (R.foldl (fun W q => layW W q.1 q.2) win0)[p.1 - 1]? = some none := by rw [← h1]; exact (layW_off D _ o (.inr hm)).symm
  have e2 : (R.foldl (fun W q => layW W q.1 q.2) win0)[p.1]? = some (some x) := by rw [← h2]; exact (layW_off D _ o (.inr (by omega))).symm
  rcases foldl_src R win0 e2 with h | ⟨q, hq, hq1, hq2⟩
  · have : (win0[p.1]?) = if p.1 < 2048 then some none else none := List.getElem?_replicate
    rw [this] at h
    split at h
    · injection h with h; cases h
    · cases h
  · refine ⟨q, hq, ?_⟩
    rcases Nat.lt_or_ge q.1 p.1 with hlt | hge
    · obtain ⟨y, hy⟩ := foldl_cover (k := p.1 - 1) R win0 (by rw [win0_len]; omega) ⟨q, hq, by omega, by omega⟩
      rw [hy] at e1
      injection e1 with e1
      cases e1
    · omega
end Go.Proofs.YtjgbiffgmafhmaaGreat
