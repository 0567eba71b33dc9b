/-
  A disk: its requests are right at any time.
-/
import Derived.Test.YtcglmkcefenjcaaDkO
namespace Go.Proofs.Ytcglmkcefenjcaa
open Go.RowKit Go.Lib
theorem rqOK.congr {d d' : ED} {r : Rq} (h : rqOK d r) (e : d'.dy.length = d.dy.length) : rqOK d' r := ⟨h.k, by rw [e]; exact h.n, h.n2, h.b⟩
theorem flushL_len (now : List UInt8) : ∀ (l : List Nat) (p : List UInt8 × List Bool), (flushL now l p).2.length = p.2.length
  | [], _ => rfl
  | a :: l, p => by unfold flushL; rw [flushL_len now l]; simp
theorem perfD_len (d : ED) (r : Rq) : (perfD d r).dy.length = d.dy.length ∧ (perfD d r).ps = d.ps := by
  unfold perfD
  split
  · exact ⟨rfl, rfl⟩
  · split
    · split
      · exact ⟨rfl, rfl⟩
      · exact ⟨by simp, rfl⟩
    · split
      · exact ⟨flushL_len _ _ _, rfl⟩
      · exact ⟨rfl, rfl⟩
structure DOK (d : ED) : Prop where
  inv : Dinv d
  rq : ∀ r ∈ d.ps, rqOK d r
theorem DOK.powD {d : ED} (h : DOK d) : DOK (powD d) := ⟨h.inv.powD, fun r hr => (h.rq r (by rw [← (powD_same d).2.2.2.2.1]; exact hr)).congr (by rw [(powD_same d).2.2.1])⟩
theorem DOK.compD {d : ED} (h : DOK d) (n : Int) : DOK (compD d n) := by
  unfold Go.Proofs.Ytcglmkcefenjcaa.compD
  split
  · rename_i he
    have hn : n.toNat < d.ps.length := by
      unfold compE at he
      split at he
      · cases he
      · split at he
        · cases he
        · omega
    have hm : compR d n ∈ d.ps := by
      unfold compR
      rw [List.getD_eq_getElem?_getD, List.getElem?_eq_getElem hn]
      exact List.getElem_mem hn
    have hp := h.inv.pow (d.ps.eraseIdx n.toNat)
    have hr := (h.rq _ hm).pow (d.ps.eraseIdx n.toNat)
    refine ⟨hp.perf hr, fun r hr2 => ?_⟩
    rw [(perfD_len _ _).2] at hr2
    exact ((h.rq r (List.mem_of_mem_eraseIdx hr2)).pow (d.ps.eraseIdx n.toNat)).congr (perfD_len _ _).1
  · exact h.powD
theorem DOK.askD {d : ED} (h : DOK d) (k n : Int) (b : List UInt8) (hk : k = 0 ∨ k = 1 ∨ k = 2) (hn : k = 2 → n = 0) : DOK (askD d k n b) := by
  refine ⟨h.inv.askD k n b, fun r hr => ?_⟩
  unfold Go.Proofs.Ytcglmkcefenjcaa.askD at hr ⊢
  split at hr
  · rename_i he
    rw [if_pos he]
    have hl : ({ Go.Proofs.Ytcglmkcefenjcaa.powD d with last := d.last + 1, ps := d.ps ++ [⟨d.last + 1, k, n, b⟩] } : ED).dy.length = d.dy.length := by rw [(powD_same d).2.2.1]
    rcases List.mem_append.1 hr with hr | hr
    · exact (h.rq r hr).congr hl
    · rw [List.mem_singleton.1 hr]
      have hm : mayK d k n b.length = true := by
        unfold askE at he
        split at he
        · cases he
        · split at he
          · cases he
          · rename_i h2; simpa using h2
      unfold mayK at hm
      simp at hm
      refine ⟨hk, fun h2 => ?_, hn, fun h2 => ?_⟩
      · rw [hl]; exact hm.1.resolve_left h2
      · have h3 := hm.2.resolve_left (fun h4 => h4 h2); show b.length = 64; omega
  · rename_i he
    rw [if_neg he]
    exact h.powD.rq r hr
end Go.Proofs.Ytcglmkcefenjcaa
