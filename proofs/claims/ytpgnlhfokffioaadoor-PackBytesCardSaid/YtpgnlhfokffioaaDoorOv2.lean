/-
  Rows of our own and slices, for walks over letters.
-/
import Derived.Test.YtpgnlhfokffioaaDoorOv
import Derived.Test.YtpgnlhfokffioaaDoorDp
import Derived.Test.YtpgnlhfokffioaaDoorRowOps
import Derived.Test.YtpgnlhfokffioaaDoorReI
namespace Go.Proofs.YtpgnlhfokffioaaDoor
open Go.RowKit
theorem dblk_lt {α : Type} {K : DK α} {t base k : Nat} {w : World} {v : Value} {L : List (α × Value)} (h : DOwn K t w base v L) (hk : DBlk v L k) : base ≤ k ∧ k < w.heap.size := by
  rcases hk with hk | ⟨q, hq, hk⟩
  · exact blk_lt h.row hk
  · exact blk_lt (h.dat q hq) hk
theorem DOwn.stay {α : Type} {K : DK α} {t base : Nat} {w w' : World} {v : Value} {L : List (α × Value)} {r : Option Nat} (h : DOwn K t w base v L) (hg : w.grownBy w' r) (hn : ∀ k, DBlk v L k → some k ≠ r) : DOwn K t w' base v L :=
  ⟨own_stay h.row hg (fun k hk => hn k (.inl hk)), fun q hq => own_stay (h.dat q hq) hg (fun k hk => hn k (.inr ⟨q, hq, hk⟩)), h.ne, h.two⟩
theorem own_setlt {W : World} {B x j n e sz : Nat} {v u : Value} {xs : List Value} (hx : ∀ k, v.ownBlock = some k → k < x) (h : W.ownsRow B e sz v n xs) : (W.setCell ⟨x, j, none⟩ u).ownsRow B e sz v n xs :=
  own_stay h (grown_set1 W x j u) (fun k hk e => by have := hx k hk; injection e with e; omega)
theorem down_setl {α : Type} {K : DK α} {t B x j : Nat} {W : World} {v u : Value} {L : List (α × Value)} (hx : x < B) (h : DOwn K t W B v L) : DOwn K t (W.setCell ⟨x, j, none⟩ u) B v L :=
  h.stay (grown_set1 W x j u) (fun k hk e => by have := (dblk_lt h hk).1; injection e with e; omega)
theorem down_setlt {α : Type} {K : DK α} {t B x j : Nat} {W : World} {v u : Value} {L : List (α × Value)} (hx : ∀ k, DBlk v L k → k < x) (h : DOwn K t W B v L) : DOwn K t (W.setCell ⟨x, j, none⟩ u) B v L :=
  h.stay (grown_set1 W x j u) (fun k hk e => by have := hx k hk; injection e with e; omega)
theorem slice_to {w : World} {v : Value} {l : List UInt8} (h : Sl w v l) (j : Nat) (hj : j ≤ l.length) :
    ∃ v', (∀ W, (Instr.sliceAt 31 v none (some (.int .i64 (j : Int))) none).run Tryd.prog W = .ok v' W) ∧ Sl w v' (l.take j) := by
  obtain ⟨ao, cap, rfl, h1, h2, h3, h4⟩ := id h
  have hlen : (l.take j).length = j := by rw [List.length_take]; omega
  cases ao with
  | none =>
    obtain rfl : cap = 0 := h3 rfl
    obtain rfl : l = [] := List.length_eq_zero_iff.1 (by omega)
    obtain rfl : j = 0 := by simpa using hj
    refine ⟨.slice none 0 0, fun W => ?_, ⟨none, 0, rfl, Nat.le_refl _, Nat.zero_le _, fun _ => rfl, fun h => (h rfl).elim⟩⟩
    simp [go_sem, Instr.sliceAt, Instr.slice, Instr.sliceBounds, Instr.sliceBound, asIntOf, run_underlying Tryd.underlying31]
  | some a =>
    obtain ⟨i0, hi, -⟩ := info_parts infoU8
    refine ⟨_, fun W => ro_slice_to W 31 5 Tryd.underlying31 hi a l.length cap j (by omega), ⟨some a, cap, by rw [hlen], by rw [hlen]; omega, h2, fun e => (nomatch e), fun hne => ?_⟩⟩
    have hl : l ≠ [] := fun e => hne (by rw [e]; simp)
    obtain ⟨b, off, e, hb, hc⟩ := h4 hl
    refine ⟨b, off, e, hb, fun k x hx => hc k x ?_⟩
    rw [List.getElem?_take] at hx
    split at hx
    · exact hx
    · cases hx
end Go.Proofs.YtpgnlhfokffioaaDoor
