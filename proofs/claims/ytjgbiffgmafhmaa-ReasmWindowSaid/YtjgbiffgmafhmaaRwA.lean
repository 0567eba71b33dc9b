/-
  Pieces of a stream: ReasmWindow: what comes of each piece.
-/
import Derived.Test.YtjgbiffgmafhmaaReT
import Derived.Test.YtjgbiffgmafhmaaReK
import Derived.Test.YtjgbiffgmafhmaaReW
namespace Go.Proofs.Ytjgbiffgmafhmaa
open Go.RowKit Go.Lib
def fillB (k : Nat) : List UInt8 := (List.range 2148).map (fun i => if i < k then UInt8.ofNat i else 0)
def bigL : List UInt8 := (List.range 2148).map (fun i => UInt8.ofNat i)
theorem fillB_len (k : Nat) : (fillB k).length = 2148 := by unfold fillB; rw [List.length_map, List.length_range]
theorem bigL_len : bigL.length = 2148 := by unfold bigL; rw [List.length_map, List.length_range]
theorem fillB_all : fillB 2148 = bigL := by
  unfold fillB bigL
  refine List.map_congr_left fun i hi => ?_
  rw [if_pos (List.mem_range.1 hi)]
theorem fillB_zero : fillB 0 = List.replicate 2148 0 := by
  unfold fillB
  rw [show (fun i => if i < 0 then UInt8.ofNat i else 0) = (fun _ : Nat => (0 : UInt8)) from funext fun i => if_neg (Nat.not_lt_zero i), List.map_const', List.length_range]
theorem bigL_get {i : Nat} (h : i < 2148) : bigL[i]? = some (UInt8.ofNat i) := by
  unfold bigL
  rw [List.getElem?_map, List.getElem?_range h]; rfl
theorem fillB_set {k : Nat} (h : k < 2148) : (fillB k).set k (UInt8.ofNat k) = fillB (k + 1) := by
  unfold fillB
  apply List.ext_getElem?
  intro i
  rw [List.getElem?_set, List.getElem?_map, List.getElem?_map, List.length_map, List.length_range]
  by_cases hi : i < 2148
  · rw [List.getElem?_range hi]
    by_cases e : k = i
    · subst e
      rw [if_pos rfl, if_pos h]; simp
    · rw [if_neg e]
      simp only [Option.map_some]
      by_cases h1 : i < k
      · rw [if_pos h1, if_pos (by omega)]
      · rw [if_neg h1, if_neg (by omega)]
  · rw [List.getElem?_eq_none (by simpa using hi)]
    rw [if_neg (by omega)]; rfl
theorem okR_nil : okR 0 [] = true := rfl
/-- All of the window, from the front. -/
theorem big_front {F o : Int} {S D : List UInt8} (hF : 0 ≤ F ∧ F < 4294967296) (ho : -2147483648 ≤ o ∧ o ≤ 0) (hl : 2048 ≤ o + D.length) (hD : ∀ (j : Nat) (x : UInt8), D[j]? = some x → 0 ≤ o + j → S[(o + j).toNat]? = some x) :
    addNext F [] (addv F o) D = addv F 2048 ∧ addParts F [] (addv F o) D = [] ∧ addTold F [] (addv F o) D = S.take 2048 := by
  have hW : addW F [] (addv F o) D = relW [] o D := rel_add (R := []) hF (by omega) (fun q hq => by simp at hq)
  have hlen := relW_len [] o D
  have h1 := (rel_front (R := []) (D := D) okR_nil ho.2).2
  have h2 := toldN_le (relW [] o D)
  have ht : toldN (relW [] o D) = 2048 := by omega
  have hp : partsL (relW [] o D) 2048 = [] := parts_told (by omega)
  have hc := (con_told (relW_con (R := []) (S := S) (D := D) (fun q hq => by simp at hq) hD)).1
  have hfit : addFits F [] (addv F o) D = true := by unfold addFits; rw [hW, hp]; rfl
  refine ⟨by unfold addNext; rw [if_pos hfit, hW, ht]; rfl, by unfold addParts addP; rw [if_pos hfit, hW, hp]; rfl, ?_⟩
  unfold addTold
  rw [if_pos hfit, hW, hc, ht]
theorem parts_win0 : ∀ i, i ≤ 2048 → partsL win0 i = []
  | 0, _ => rfl
  | i + 1, h => by
    have e : win0[i]? = some none := by
      have : (win0[i]?) = if i < 2048 then some none else none := List.getElem?_replicate
      rw [this, if_pos (by omega)]
    rw [parts_none e, parts_win0 i (by omega)]
theorem told_win0 : toldN win0 = 0 := by
  refine toldN_eq (Nat.zero_le _) (fun i x h => by omega) (fun x hx => ?_)
  have : (win0[0]?) = if 0 < 2048 then some none else none := List.getElem?_replicate
  rw [this, if_pos (by decide)] at hx
  injection hx with hx; subst hx; rfl
theorem big_far {F : Int} {D : List UInt8} (hF : 0 ≤ F ∧ F < 4294967296) : addNext F [] (addv F 2048) D = F ∧ addParts F [] (addv F 2048) D = [] ∧ addTold F [] (addv F 2048) D = [] := by
  have hW : addW F [] (addv F 2048) D = win0 := by
    refine (rel_add (R := []) (o := 2048) hF (by omega) (fun q hq => by simp at hq)).trans ?_
    exact layW_none D win0 2048 (.inr (by rw [win0_len]; decide))
  have hp := parts_win0 2048 (Nat.le_refl _)
  have hfit : addFits F [] (addv F 2048) D = true := by unfold addFits; rw [hW, hp]; rfl
  refine ⟨by unfold addNext; rw [if_pos hfit, hW, told_win0]; exact addv_zero hF, by unfold addParts addP; rw [if_pos hfit, hW, hp]; rfl, ?_⟩
  unfold addTold
  rw [if_pos hfit, hW, told_win0]; rfl
def Ri (i : Nat) : List (Nat × List UInt8) := (List.range i).map (fun k => (2 * k + 1, [UInt8.ofNat k]))
theorem Ri_len (i : Nat) : (Ri i).length = i := by unfold Ri; rw [List.length_map, List.length_range]
theorem Ri_ok : ∀ i : Fin 9, okR 0 (Ri i.val) = true := by decide +kernel
theorem Ri_step : ∀ i : Fin 8, relP (Ri i.val) (2 * i.val + 1) [UInt8.ofNat i.val] = Ri (i.val + 1) ∧ relT (Ri i.val) (2 * i.val + 1) [UInt8.ofNat i.val] = [] := by decide +kernel
theorem Ri_full : ∀ i : Fin 2, (relP (Ri 8) (2 * (8 + i.val) + 1) [UInt8.ofNat (8 + i.val)]).length = 9 := by decide +kernel
theorem Ri_last : relP (Ri 8) 0 [0] = (Ri 8).drop 1 ∧ relT (Ri 8) 0 [0] = [0, 0] := by decide +kernel
/-- A piece that lies apart. -/
theorem Ri_add {F : Int} (hF : 0 ≤ F ∧ F < 4294967296) {i : Nat} (hi : i < 10) :
    addNext F ((Ri (min i 8)).map (toP F)) (addv F ((2 * i + 1 : Nat) : Int)) [UInt8.ofNat i] = F ∧ addParts F ((Ri (min i 8)).map (toP F)) (addv F ((2 * i + 1 : Nat) : Int)) [UInt8.ofNat i] = (Ri (min (i + 1) 8)).map (toP F) ∧ addTold F ((Ri (min i 8)).map (toP F)) (addv F ((2 * i + 1 : Nat) : Int)) [UInt8.ofNat i] = [] := by
  have hlt : ∀ j : Nat, j < 9 → ∀ q ∈ Ri j, q.1 < 2147483648 := fun j hj => okR_lt _ _ (Ri_ok ⟨j, hj⟩)
  rcases Nat.lt_or_ge i 8 with h8 | h8
  · rw [show min i 8 = i by omega, show min (i + 1) 8 = i + 1 by omega]
    obtain ⟨s1, s2⟩ := Ri_step ⟨i, h8⟩
    have e : (2 * (i : Int) + 1) = ((2 * i + 1 : Nat) : Int) := by omega
    simp only [e] at s1 s2
    have := rel_facts (next := F) (o := ((2 * i + 1 : Nat) : Int)) (D := [UInt8.ofNat i]) hF (by omega) (hlt i (by omega)) s1 s2 (by rw [Ri_len]; omega)
    exact ⟨by rw [this.1]; exact addv_zero hF, this.2.1, this.2.2⟩
  · have hfit : addFits F ((Ri 8).map (toP F)) (addv F ((2 * i + 1 : Nat) : Int)) [UInt8.ofNat i] = false := by
      unfold addFits
      rw [rel_add (R := Ri 8) hF (by omega) (hlt 8 (by decide)), decide_eq_false_iff_not]
      have h := Ri_full ⟨i - 8, by omega⟩
      have e : (2 * (8 + ((i - 8 : Nat) : Int)) + 1) = ((2 * i + 1 : Nat) : Int) := by omega
      have e2 : 8 + (i - 8) = i := by omega
      simp only [e, e2] at h
      have h2 := parts_scan (relW (Ri 8) ((2 * i + 1 : Nat) : Int) [UInt8.ofNat i])
      rw [relW_len] at h2
      rw [h2]
      unfold relP at h
      simp only at h
      omega
    rw [show min i 8 = 8 by omega, show min (i + 1) 8 = 8 by omega]
    exact ⟨by unfold addNext; rw [hfit]; rfl, by unfold addParts; rw [hfit]; rfl, by unfold addTold; rw [hfit]; rfl⟩
end Go.Proofs.Ytjgbiffgmafhmaa
