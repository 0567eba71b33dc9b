/-
  Connections: mathematics of what comes of a segment.
-/
import Derived.Test.YtjgbiffgmafhmaaLtOTcA
namespace Go.Proofs.Ytjgbiffgmafhmaa
theorem okC_parts {c : EC} (h : okC c = true) : (0 ≤ c.st ∧ c.st ≤ 8) ∧ (0 ≤ c.una ∧ c.una < 4294967296) ∧ (0 ≤ c.nxt ∧ c.nxt < 4294967296) ∧ (0 ≤ c.win ∧ c.win < 65536) ∧ c.out.length ≤ 8192 ∧ bufB c.rn c.ps = true ∧ tv c.tm = true ∧ okSt c = true := by
  unfold okC okNum at h
  rw [Bool.and_eq_true, Bool.and_eq_true, Bool.and_eq_true, decide_eq_true_eq] at h
  obtain ⟨⟨h1, h2, h3⟩, h4⟩ := h
  exact ⟨by omega, by omega, by omega, by omega, by omega, h2, h3, h4⟩
theorem okSt_sent {c : EC} (h : okSt c = true) : (c.st = 1 → sentv c = 1) ∧ (c.st = 2 ∨ c.st = 5 → 0 ≤ sentv c ∧ sentv c ≤ c.out.length) ∧ (c.st = 3 ∨ c.st = 6 ∨ c.st = 7 → sentv c = c.out.length + 1) ∧ (c.st = 4 ∨ c.st = 8 → sentv c = 0 ∧ c.out.length = 0) := by
  unfold okSt at h
  by_cases h0 : c.st = 0
  · refine ⟨fun e => by omega, fun e => by omega, fun e => by omega, fun e => by omega⟩
  · rw [if_neg h0] at h
    by_cases h1 : c.st = 1
    · rw [if_pos h1, decide_eq_true_eq] at h
      exact ⟨fun _ => h, fun e => by omega, fun e => by omega, fun e => by omega⟩
    · rw [if_neg h1] at h
      by_cases h2 : c.st = 2 ∨ c.st = 5
      · rw [if_pos h2, decide_eq_true_eq] at h
        exact ⟨fun e => by omega, fun _ => h, fun e => by omega, fun e => by omega⟩
      · rw [if_neg h2] at h
        by_cases h3 : c.st = 3 ∨ c.st = 6 ∨ c.st = 7
        · rw [if_pos h3, Bool.and_eq_true, decide_eq_true_eq] at h
          exact ⟨fun e => by omega, fun e => by omega, fun _ => h.2, fun e => by omega⟩
        · rw [if_neg h3, Bool.and_eq_true, decide_eq_true_eq] at h
          exact ⟨fun e => by omega, fun e => by omega, fun e => by omega, fun _ => h.2⟩
theorem bufB_nil {r : Int} (h0 : 0 ≤ r) (h1 : r < 4294967296) : bufB r [] = true := by
  unfold bufB
  rw [decide_eq_true (by refine ⟨h0, h1, by decide⟩)]; rfl
theorem finA_st (c : EC) : ((finA c).st = 2 ∨ (finA c).st = 5 → finA c = c) ∧ (finA c).out.length ≤ c.out.length ∧ (finA c).win = c.win ∧ (finA c).rn = c.rn ∧ (bufB c.rn c.ps = true → bufB (finA c).rn (finA c).ps = true) := by
  unfold finA
  by_cases h3 : c.st = 3
  · rw [if_pos h3]; exact ⟨fun h => by simp at h, Nat.le_refl _, rfl, rfl, fun h => h⟩
  · rw [if_neg h3]
    by_cases h6 : c.st = 6
    · rw [if_pos h6]; exact ⟨fun h => by simp at h, Nat.le_refl _, rfl, rfl, fun h => h⟩
    · rw [if_neg h6]
      by_cases h7 : c.st = 7
      · rw [if_pos h7]
        refine ⟨fun h => by simp [shutC] at h, Nat.zero_le _, rfl, rfl, fun h => ?_⟩
        unfold bufB at h
        rw [Bool.and_eq_true, decide_eq_true_eq] at h
        exact bufB_nil h.1.1 h.1.2.1
      · rw [if_neg h7]; exact ⟨fun _ => rfl, Nat.le_refl _, rfl, rfl, fun h => h⟩
/-- What was acknowledged leaves a connection whose numbers fit. -/
theorem ackC_fits {c : EC} {s : ES} (h : okC c = true) (hb : ackB c s = true) : (ackC c s).out.length ≤ 8192 ∧ (ackC c s).win = c.win ∧ bufB (ackC c s).rn (ackC c s).ps = true ∧ ((ackC c s).st = 2 ∨ (ackC c s).st = 5 → 0 ≤ sentv (ackC c s) ∧ sentv (ackC c s) ≤ (ackC c s).out.length) := by
  obtain ⟨-, p2, p3, -, p5, p6, -, p8⟩ := okC_parts h
  obtain ⟨-, q2, q3, q4⟩ := okSt_sent p8
  unfold ackB at hb
  unfold ackC
  by_cases h1 : c.st = 1
  · rw [if_pos h1] at hb ⊢
    rw [hb, if_pos rfl]
    refine ⟨p5, rfl, p6, fun _ => ?_⟩
    unfold sentv diffv
    simp only
    omega
  · rw [if_neg h1] at hb ⊢
    have hd : ¬ 0 < diffv s.ak c.nxt := by simpa using hb
    rw [if_neg hd]
    have key : (ackU c s).out.length ≤ c.out.length ∧ (ackU c s).win = c.win ∧ (ackU c s).rn = c.rn ∧ (ackU c s).ps = c.ps ∧ (ackU c s).st = c.st ∧ (c.st = 2 ∨ c.st = 5 → 0 ≤ sentv (ackU c s) ∧ sentv (ackU c s) ≤ (ackU c s).out.length) := by
      unfold ackU
      by_cases h0 : 0 < diffv s.ak c.una
      · rw [if_pos h0]
        refine ⟨by simp only [List.length_drop]; omega, rfl, rfl, rfl, rfl, fun e => ?_⟩
        have := q2 e
        unfold sentv diffv at *
        simp only [List.length_drop] at *
        omega
      · rw [if_neg h0]
        exact ⟨Nat.le_refl _, rfl, rfl, rfl, rfl, q2⟩
    obtain ⟨k1, k2, k3, k4, k5, k6⟩ := key
    have kb : bufB (ackU c s).rn (ackU c s).ps = true := by rw [k3, k4]; exact p6
    unfold ackF
    by_cases hz : sentv (ackU c s) = 0
    · rw [if_pos hz]
      obtain ⟨f1, f2, f3, -, f5⟩ := finA_st (ackU c s)
      refine ⟨by omega, by rw [f3, k2], f5 kb, fun e => ?_⟩
      have e1 := f1 e
      rw [e1] at e ⊢
      exact k6 (by rw [← k5]; exact e)
    · rw [if_neg hz]
      exact ⟨by omega, k2, kb, fun e => k6 (by rw [← k5]; exact e)⟩
theorem finS_st (c : EC) (s : ES) : (finS c s).out = c.out ∧ (finS c s).win = c.win ∧ (finS c s).nxt = c.nxt ∧ (finS c s).una = c.una ∧ ((finS c s).st = 2 ∨ (finS c s).st = 5 → c.st = 2 ∨ c.st = 5) := by
  unfold finS
  split
  · split
    · exact ⟨rfl, rfl, rfl, rfl, fun _ => .inl (by assumption)⟩
    · split
      · exact ⟨rfl, rfl, rfl, rfl, fun h => by simp at h⟩
      · split
        · exact ⟨rfl, rfl, rfl, rfl, fun h => by simp at h⟩
        · exact ⟨rfl, rfl, rfl, rfl, fun h => h⟩
  · exact ⟨rfl, rfl, rfl, rfl, fun h => h⟩
theorem hearC_st (c : EC) (s : ES) : (hearC c s).out = c.out ∧ (hearC c s).win = c.win ∧ sentv (hearC c s) = sentv c ∧ ((hearC c s).st = 2 ∨ (hearC c s).st = 5 → c.st = 2 ∨ c.st = 5) := by
  unfold hearC
  split
  · obtain ⟨h1, h2, h3, h4, h5⟩ := finS_st { c with rn := addNext c.rn c.ps s.sq s.d, ps := addParts c.rn c.ps s.sq s.d } s
    exact ⟨h1, h2, by unfold sentv; rw [h3, h4], h5⟩
  · exact ⟨rfl, rfl, rfl, fun h => h⟩
end Go.Proofs.Ytjgbiffgmafhmaa
