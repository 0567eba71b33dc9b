/-
  A disk: what a crash leaves: the model.
-/
import Derived.Test.YtcglmkcefenjcaaDkL
import Derived.Test.YtcglmkcefenjcaaList
namespace Go.Proofs.Ytcglmkcefenjcaa
open Go.RowKit Go.Lib
/-- What is kept, and the picks that are left, behind the first k sectors. -/
def crK (d : ED) (P : List Int) : Nat → List UInt8 × List Int
  | 0 => (d.dur, P)
  | k + 1 => if d.dy[k]? = some true then (splice (crK d P k).1 (k * 64) ((secD d.now k).take (keptI ((crK d P k).2.headD 0)).toNat), (crK d P k).2.tail) else crK d P k
def crashD (d : ED) (P : List Int) : List UInt8 := (crK d P d.dy.length).1
theorem keptI_bd (p : Int) : 0 ≤ keptI p ∧ keptI p ≤ 64 := by
  unfold keptI
  split
  · omega
  · split <;> omega
theorem crK_len {d : ED} (hI : Dinv d) (P : List Int) : ∀ k, k ≤ d.dy.length → (crK d P k).1.length = d.dur.length
  | 0, _ => rfl
  | k + 1, h => by
    have h0 := crK_len hI P k (by omega)
    have h1 := hI.hd
    have h2 := hI.hn
    have h3 := keptI_bd ((crK d P k).2.headD 0)
    unfold crK
    split
    · refine (length_splice _ _ _ ?_).trans h0
      simp only [secD, List.length_take, List.length_drop]
      omega
    · exact h0
def intR (x : Int) : List Value := [.int .i64 x]
theorem picks_tail {W : World} {a : Addr} {n cap : Nat} {x : Int} {l : List Int} (h : SlR W 1 (.slice (some a) (n + 1) cap) ((x :: l).map intR)) : SlR W 1 (.slice (some (if cap = 1 then a else a.add (1 * 1))) n (cap - 1)) (l.map intR) := by
  obtain ⟨ao, cap', e, h1, h2, h3, h4⟩ := h
  injection e with e1 e2 e3
  subst e3
  simp only [List.length_map, List.length_cons] at h1 e2
  obtain ⟨b, off, e4, hlt, hc⟩ := h4 (by simp)
  rw [← e1] at e4
  injection e4 with e4
  subst e4
  refine ⟨some (if cap = 1 then (⟨b, off, none⟩ : Addr) else (⟨b, off, none⟩ : Addr).add (1 * 1)), cap - 1, by rw [List.length_map, show n = l.length by omega], by rw [List.length_map]; omega, by omega, fun e => (nomatch e), fun hne => ?_⟩
  have hl : 0 < l.length := by
    cases l with
    | nil => exact (hne rfl).elim
    | cons _ _ => simp
  rw [if_neg (by omega)]
  refine ⟨b, off + 1, by simp [Addr.add], hlt, fun i q hi j u hj => ?_⟩
  have := hc (i + 1) q (by simpa using hi) j u hj
  rw [show off + 1 + i * 1 + j = off + (i + 1) * 1 + j by omega]; exact this
end Go.Proofs.Ytcglmkcefenjcaa
