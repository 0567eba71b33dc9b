/-
  A disk: what holds at any time is kept.
-/
import Derived.Test.YtcglmkcefenjcaaDkN
namespace Go.Proofs.Ytcglmkcefenjcaa
open Go.RowKit Go.Lib
theorem Dinv.congr {d d' : ED} (h : Dinv d) (e1 : d'.now = d.now) (e2 : d'.dur = d.dur) (e3 : d'.dy = d.dy) (e4 : d'.wr = d.wr) : Dinv d' :=
  ⟨by rw [e3]; exact h.n1, by rw [e3]; exact h.n2, by rw [e1, e3]; exact h.hn, by rw [e2, e3]; exact h.hd, by intro i; rw [e3, e4]; exact h.hw i, by rw [e4]; exact h.nd⟩
theorem Dinv.powD {d : ED} (h : Dinv d) : Dinv (powD d) := h.congr (powD_same d).1 (powD_same d).2.1 (powD_same d).2.2.1 (powD_same d).2.2.2.1
theorem Dinv.askD {d : ED} (h : Dinv d) (k n : Int) (b : List UInt8) : Dinv (askD d k n b) := by
  unfold Go.Proofs.Ytcglmkcefenjcaa.askD
  split
  · exact h.powD.congr rfl rfl rfl rfl
  · exact h.powD
theorem Dinv.offD {d : ED} (h : Dinv d) (n : Int) : Dinv (offD d n) := h.congr rfl rfl rfl rfl
theorem flushL_dy (now : List UInt8) : ∀ (l : List Nat) (p : List UInt8 × List Bool) (i : Nat), (flushL now l p).2[i]? = some true ↔ p.2[i]? = some true ∧ i ∉ l
  | [], p, i => by simp [flushL]
  | a :: l, p, i => by
    unfold flushL
    rw [flushL_dy now l _ i]
    by_cases e : a = i
    · subst e
      simp [List.getElem?_set]
    · simp [List.getElem?_set_ne e, Ne.symm e]
theorem Dinv.perf {d : ED} {r : Rq} (h : Dinv d) (hr : rqOK d r) : Dinv (perfD d r) := by
  have h1 := h.hn
  have h2 := h.hd
  unfold perfD
  split
  · exact h
  · split
    · rename_i hk1 hk
      obtain ⟨hn1, hn2⟩ := hr.n (by omega)
      have hb := hr.b hk
      have hl : (splice d.now (r.n.toNat * 64) r.b).length = d.now.length := length_splice _ _ _ (by omega)
      split
      · exact ⟨h.n1, h.n2, hl.trans h1, h2, h.hw, h.nd⟩
      · rename_i hy
        refine ⟨by simpa using h.n1, by simpa using h.n2, by simpa using hl.trans h1, by simpa using h2, fun i => ?_, ?_⟩
        · have hi := h.hw i
          by_cases e : r.n.toNat = i
          · subst e
            have hlt : r.n.toNat < d.dy.length := by omega
            simp [hlt]
          · simp [List.getElem?_set_ne e, hi, Ne.symm e]
        · refine List.nodup_append.2 ⟨h.nd, by simp, fun a ha b hb2 e => ?_⟩
          rw [List.mem_singleton.1 hb2] at e
          exact hy ((h.hw _).1 (e ▸ ha))
    · split
      · have hf := flK_len (d := d) (fun i hi => by have := h.lt i hi; omega) (by omega) d.wr.length (Nat.le_refl _)
        unfold flK at hf
        rw [List.take_length] at hf
        refine ⟨by rw [hf.2]; exact h.n1, by rw [hf.2]; exact h.n2, by rw [hf.2]; exact h1, by rw [hf.1, hf.2]; exact h2, fun i => ?_, List.nodup_nil⟩
        rw [flushL_dy]
        constructor
        · intro hi; cases hi
        · rintro ⟨h3, h4⟩; exact absurd ((h.hw i).2 h3) h4
      · exact h
end Go.Proofs.Ytcglmkcefenjcaa
