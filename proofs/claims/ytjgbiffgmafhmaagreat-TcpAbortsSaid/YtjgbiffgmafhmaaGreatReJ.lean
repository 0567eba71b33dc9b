/-
  Pieces of a stream: a window's runs, reckoned; places counted from what is waited for.
-/
import Derived.Test.YtjgbiffgmafhmaaGreatReI
namespace Go.Proofs.YtjgbiffgmafhmaaGreat
/-- The runs, in one go. -/
def scanP : Nat → Option (Nat × List UInt8) → Win → List (Nat × List UInt8)
  | _, none, [] => []
  | _, some c, [] => [c]
  | i, none, none :: r => scanP (i + 1) none r
  | i, some c, none :: r => c :: scanP (i + 1) none r
  | i, none, some x :: r => scanP (i + 1) (some (i, [x])) r
  | i, some (n, d), some x :: r => scanP (i + 1) (some (n, d ++ [x])) r
theorem scan_eq {W : Win} : ∀ (m i : Nat), i + m = W.length → toldN W ≤ i →
    ((i = toldN W ∨ W[i - 1]? = some none) → partsL W W.length = partsL W i ++ scanP i none (W.drop i)) ∧
    (∀ A c y, toldN W < i → W[i - 1]? = some (some y) → partsL W i = A ++ [c] → partsL W W.length = A ++ scanP i (some c) (W.drop i))
  | 0, i, h, ht => by
    have hi : i = W.length := by omega
    rw [List.drop_of_length_le (by omega), hi]
    exact ⟨fun _ => by show _ = _ ++ []; rw [List.append_nil], fun A c y _ _ h => by show _ = A ++ [c]; rw [← h]⟩
  | m + 1, i, h, ht => by
    have hl : i < W.length := by omega
    obtain ⟨ih1, ih2⟩ := scan_eq (W := W) m (i + 1) (by omega) (by omega)
    have hd : W.drop i = W[i] :: W.drop (i + 1) := List.drop_eq_getElem_cons hl
    rw [hd]
    have hg : W[i]? = some W[i] := List.getElem?_eq_getElem hl
    cases hx : W[i] with
    | none =>
      rw [hx] at hg
      have hp := parts_none hg
      have h2 := ih1 (.inr (by rw [Nat.add_sub_cancel]; exact hg))
      rw [hp] at h2
      exact ⟨fun _ => h2, fun A c y _ _ hA => by rw [h2, hA, List.append_assoc]; rfl⟩
    | some x =>
      rw [hx] at hg
      have hne : i ≠ toldN W := fun e => by
        have := told_end (W := W) (x := some x) (by rw [← e]; exact hg)
        cases this
      have hlt : toldN W < i := by omega
      constructor
      · intro hc
        have hc' : W[i - 1]? = some none := by
          rcases hc with hc | hc
          · exact absurd hc hne
          · exact hc
        exact ih2 (partsL W i) (i, [x]) x (by omega) (by rw [Nat.add_sub_cancel]; exact hg) (parts_first ht hg (.inr hc'))
      · rintro A ⟨n, d⟩ y _ hy hA
        refine ih2 A (n, d ++ [x]) x (by omega) (by rw [Nat.add_sub_cancel]; exact hg) ?_
        rw [parts_next ht hg (by omega) hy, hA, snocLast_snoc]
theorem parts_scan (W : Win) : partsL W W.length = scanP (toldN W) none (W.drop (toldN W)) := by
  have hle := toldN_le W
  have := (scan_eq (W := W) (W.length - toldN W) (toldN W) (by omega) (Nat.le_refl _)).1 (.inl rfl)
  rw [this, parts_told (Nat.le_refl _)]; rfl
theorem diff_add {next o : Int} (_hn : 0 ≤ next ∧ next < 4294967296) (h : -2147483648 ≤ o ∧ o < 2147483648) : diffv (addv next o) next = o := by unfold diffv addv; omega
theorem addv_addv (n a b : Int) : addv (addv n a) b = addv n (a + b) := by unfold addv; omega
theorem addv_zero {n : Int} (h : 0 ≤ n ∧ n < 4294967296) : addv n 0 = n := by unfold addv; omega
/-- What comes of pieces, counted from what is waited for. -/
def relW (R : List (Nat × List UInt8)) (o : Int) (D : List UInt8) : Win := layW (R.foldl (fun W q => layW W q.1 q.2) win0) o D
def relP (R : List (Nat × List UInt8)) (o : Int) (D : List UInt8) : List (Nat × List UInt8) := let W := relW R o D; scanP (toldN W) none (W.drop (toldN W))
def relT (R : List (Nat × List UInt8)) (o : Int) (D : List UInt8) : List UInt8 := let W := relW R o D; (W.take (toldN W)).map byt
theorem relW_len (R : List (Nat × List UInt8)) (o : Int) (D : List UInt8) : (relW R o D).length = 2048 := by
  unfold relW
  rw [layW_len]
  have : ∀ (R : List (Nat × List UInt8)) (W : Win), (R.foldl (fun W q => layW W q.1 q.2) W).length = W.length := by
    intro R
    induction R with
    | nil => intro W; rfl
    | cons q r ih => intro W; rw [List.foldl_cons, ih, layW_len]
  rw [this, win0_len]
theorem rel_add {next o : Int} {R : List (Nat × List UInt8)} {D : List UInt8} (hn : 0 ≤ next ∧ next < 4294967296) (ho : -2147483648 ≤ o ∧ o < 2147483648) (hR : ∀ q ∈ R, q.1 < 2147483648) : addW next (R.map (toP next)) (addv next o) D = relW R o D := by
  unfold addW relW
  rw [diff_add hn ho]
  congr 1
  have : ∀ (R : List (Nat × List UInt8)) (W : Win), (∀ q ∈ R, q.1 < 2147483648) → fillW next W (R.map (toP next)) = R.foldl (fun W q => layW W q.1 q.2) W := by
    intro R
    induction R with
    | nil => intro W _; rfl
    | cons q r ih =>
      intro W h
      show fillW next (layW W (diffv (addv next q.1) next) q.2) (r.map (toP next)) = _
      rw [diff_add hn (by have := h q (List.mem_cons_self ..); omega), ih _ (fun x hx => h x (List.mem_cons_of_mem _ hx))]; rfl
  exact this R win0 hR
/-- What an Add tells, where there is room. -/
theorem rel_facts {next o : Int} {R R' : List (Nat × List UInt8)} {D T : List UInt8} (hn : 0 ≤ next ∧ next < 4294967296) (ho : -2147483648 ≤ o ∧ o < 2147483648) (hR : ∀ q ∈ R, q.1 < 2147483648) (h1 : relP R o D = R') (h2 : relT R o D = T) (h3 : R'.length ≤ 8) :
    addNext next (R.map (toP next)) (addv next o) D = addv next T.length ∧ addParts next (R.map (toP next)) (addv next o) D = R'.map (toP next) ∧ addTold next (R.map (toP next)) (addv next o) D = T := by
  have hW := rel_add (D := D) hn ho hR
  have hl := relW_len R o D
  have hp : partsL (relW R o D) 2048 = R' := by rw [← h1, ← hl, parts_scan]; rfl
  have ht : toldN (relW R o D) = T.length := by
    rw [← h2]
    show _ = (((relW R o D).take (toldN (relW R o D))).map byt).length
    rw [List.length_map, List.length_take]; have := toldN_le (relW R o D); omega
  have hfit : addFits next (R.map (toP next)) (addv next o) D = true := by unfold addFits; rw [hW, hp, decide_eq_true_eq]; exact h3
  unfold addNext addParts addTold addP
  rw [hfit, hW, hp, ht]
  refine ⟨rfl, rfl, ?_⟩
  rw [if_pos rfl, ← ht]; exact h2
theorem ev1 : relP [] 2 [67, 68] = [(2, [67, 68])] ∧ relT [] 2 [67, 68] = [] := by decide +kernel
end Go.Proofs.YtjgbiffgmafhmaaGreat
