/-
  Neighbours: what the row says of the laws' argument; each act of one kind on the same neighbours.
-/
import Derived.Test.YtcomaacfhfnipaaArpK
namespace Go.Proofs.Ytcomaacfhfnipaa
open Go.RowKit
theorem c9I : Try.prog.cellsOf 3 = 1 := by kernel_rfl
theorem c9N : Try.prog.cellsOf 48 = 1 := by kernel_rfl
theorem c9A : Try.prog.cellsOf 49 = 1 := by kernel_rfl
theorem nbs_of (W : World) (v : Value) (h : Rd Try.prog W 48 [v]) : ∃ L, SlOf W 3 Nb.At v L := by
  obtain ⟨v', L, hv, hs⟩ := h.slOf (p := fun w b off q => Nb.At w b off q) (size := 3) Try.underlying48 (by kernel_rfl) (by decide) (by
    intro b off cs' hb hc hr
    obtain ⟨hlen, hf⟩ := hr.struct Try.underlying61
    match cs', hc.1 with
    | [c0, c1, c2], _ =>
      obtain ⟨d, hd, -, -⟩ := (hf 0 _ rfl).i64 Try.underlying3
      obtain ⟨s, hs, -, -⟩ := (hf 1 _ rfl).i64 Try.underlying3
      obtain ⟨t, ht, -, -⟩ := (hf 2 _ rfl).i64 Try.underlying3
      have e0 : c0 = .int .i64 d := by simpa [c9I] using hd
      have e1 : c1 = .int .i64 s := by simpa [c9I] using hs
      have e2 : c2 = .int .i64 t := by simpa [c9I] using ht
      subst e0 e1 e2
      exact ⟨⟨d, s, t⟩, hc.2 0 (by omega), hc.2 1 (by omega), hc.2 2 (by omega)⟩)
  obtain rfl : v = _ := by simpa using hv
  exact ⟨L, hs⟩
theorem acts9_of (W : World) (v : Value) (h : Rd Try.prog W 49 [v]) : ∃ L, SlOf W 3 Nb.At v L := by
  obtain ⟨v', L, hv, hs⟩ := h.slOf (p := fun w b off q => Nb.At w b off q) (size := 3) Try.underlying49 (by kernel_rfl) (by decide) (by
    intro b off cs' hb hc hr
    obtain ⟨hlen, hf⟩ := hr.struct Try.underlying54
    match cs', hc.1 with
    | [c0, c1, c2], _ =>
      obtain ⟨d, hd, -, -⟩ := (hf 0 _ rfl).i64 Try.underlying3
      obtain ⟨s, hs, -, -⟩ := (hf 1 _ rfl).i64 Try.underlying3
      obtain ⟨t, ht, -, -⟩ := (hf 2 _ rfl).i64 Try.underlying3
      have e0 : c0 = .int .i64 d := by simpa [c9I] using hd
      have e1 : c1 = .int .i64 s := by simpa [c9I] using hs
      have e2 : c2 = .int .i64 t := by simpa [c9I] using ht
      subst e0 e1 e2
      exact ⟨⟨d, s, t⟩, hc.2 0 (by omega), hc.2 1 (by omega), hc.2 2 (by omega)⟩)
  obtain rfl : v = _ := by simpa using hv
  exact ⟨L, hs⟩
theorem script9 (W : World) (cs : List Value) (h : Rd Try.prog W 51 cs) : ∃ sN sL N A, cs = [sN, sL] ∧ SlOf W 3 Nb.At sN N ∧ SlOf W 3 Nb.At sL A := by
  obtain ⟨hlen, hf⟩ := h.struct Try.underlying51
  have h2 : Try.prog.cellsOf 51 = 2 := by kernel_rfl
  rw [h2] at hlen
  match cs, hlen with
  | [c0, c1], _ =>
    have r0 : Rd Try.prog W 48 [c0] := by have := hf 0 _ rfl; simpa [c9N] using this
    have r1 : Rd Try.prog W 49 [c1] := by have := hf 1 _ rfl; simpa [c9A] using this
    obtain ⟨N, hN⟩ := nbs_of W _ r0
    obtain ⟨A, hA⟩ := acts9_of W _ r1
    exact ⟨_, _, N, A, rfl, hN, hA⟩
theorem slOf_below {w W : World} {v : Value} {L : List Nb} (h : SlOf w 3 Nb.At v L) (hb : Below w.heap.size w W) : SlOf W 3 Nb.At v L := nbs_below h hb
theorem one_act (w : World) (q : Nb) (g : Nat) (hg : g = w.heap.size) : SlOf (w.alloc (.cells (rowNeighbour q).toArray 54)) 3 Nb.At (.slice (some ⟨g, 0, none⟩) 1 1) [q] := by
  subst hg
  refine ⟨_, 1, rfl, Nat.le_refl _, by unfold maxLen; omega, by simp, fun _ => ⟨w.heap.size, 0, rfl, by simp, fun i x hx => ?_⟩⟩
  match i, hx with
  | 0, hx => simp at hx; subst hx; exact ⟨by simp [go_sem], by simp [go_sem], by simp [go_sem]⟩
set_option maxRecDepth 100000 in
set_option maxHeartbeats 4000000 in
theorem one_any (sN sL : Value) (N A : List Nb) (D : Int) (w : World) (hN : SlOf w 3 Nb.At sN N) (hA : SlOf w 3 Nb.At sL A) :
    Calls Try.prog 38 #[.agg #[sN, sL], .int .i64 D] w fun e w' => e = .returned (.bool true) ∧ Below w.heap.size w w' := by
  have HN := Lib.hid hN
  obtain ⟨aN, cN, rfl, -⟩ := id hN
  obtain ⟨aA, cA, rfl, -, -, -, hB⟩ := hA
  have HB := Lib.hid hB
  clear hN hB
  by_cases hbig : N.length ≤ 100 ∧ A.length ≤ 200
  · obtain ⟨hN1, hA1⟩ := hbig
    obtain ⟨W0, hW0⟩ : ∃ W0, W0 = w.alloc (.cells #[.slice aN N.length cN, .slice aA A.length cA] 51) := ⟨_, rfl⟩
    have hE0 : Ex9 w W0 w.heap.size (.slice aN N.length cN) (.slice aA A.length cA) := by
      rw [hW0]
      exact ⟨(Below.refl _ w).alloc (Nat.le_refl _) _, by simp [go_sem], by simp [go_sem], by simp⟩
    have HE0 := Lib.hid hE0
    clear hE0
    go_enter Try.func38, Try.ntmps38
    go_wp2
    rw [← hW0]
    clear hW0
    go_loopw [5] (fun i wr => ∃ (k : Nat), k ≤ A.length ∧ i = .int .i64 k ∧ Ex9 w wr w.heap.size (.slice aN N.length cN) (.slice aA A.length cA)) (fun i _ => A.length - (intOf i).toNat)
    case atStart => exact ⟨0, by omega, rfl, HE0.out⟩
    case round =>
      obtain ⟨k, hk, rfl, hE⟩ := hrel
      clear HE0
      have HE := Lib.hid hE
      obtain ⟨-, p0, p1, plt⟩ := id hE
      by_cases hgo : k < A.length ∧ k < 40
      · obtain ⟨hlt, h40⟩ := hgo
        obtain ⟨b, off, rfl, hbw, hBB⟩ := HB.out (by intro h; simp [h] at hlt)
        obtain ⟨⟨d, t, m⟩, hq⟩ : ∃ x, A[k]? = some x := ⟨_, List.getElem?_eq_getElem hlt⟩
        obtain ⟨c0, c1, c2⟩ := hBB k _ hq
        have d0 := (hE.low.cell (p := ⟨b, off + k * 3, none⟩) hbw).trans c0
        have d1 := (hE.low.cell (p := ⟨b, off + k * 3 + 1, none⟩) hbw).trans c1
        have d2 := (hE.low.cell (p := ⟨b, off + k * 3 + 2, none⟩) hbw).trans c2
        clear hBB hq c0 c1 c2 hE
        dsimp only at d0 d1 d2
        have hz := HE.out.low.size
        have hbx : Below wr.heap.size wr ((wr.alloc (.cells #[.int .i64 D, .int .i64 t, .int .i64 m] 54)).alloc (.cells #[.int .i64 D, .int .i64 t, .int .i64 m] 54)) := ((Below.refl _ wr).alloc (Nat.le_refl _) _).alloc (by simp) _
        have HE2 := Lib.hid (HE.out.below hbx)
        have C := Lib.hid (arpExact_any _ _ N [⟨D, t, m⟩] _ ((slOf_below HN.out HE2.out.low) : SlOf _ 3 Nb.At (.slice aN N.length cN) N) (one_act (wr.alloc (.cells #[.int .i64 D, .int .i64 t, .int .i64 m] 54)) ⟨D, t, m⟩ (wr.heap.size + 1) (by simp)))
        clear hbx
        go_wp2_with fail
        (with_reducible refine C.out.mono ?_)
        rintro e w2 ⟨rfl, hb2⟩
        have HE3 := Lib.hid (HE2.out.below hb2)
        clear p0 p1 plt d0 d1 d2 hb2 C
        go_wp2
        go_roundw
        case rel => exact ⟨k + 1, by omega, by go_num, HE3.out⟩
        case measure => simp [intOf]; omega
      · clear HB
        by_cases hlt : k < A.length
        · have h40 : ¬ k < 40 := by omega
          clear hgo
          go_wp2_with fail
          refine (wakes9_any _).mono ?_
          rintro e w2 ⟨rfl, hb2⟩
          go_wp2
          go_ret
          exact ⟨rfl, (HE.out.below hb2).low⟩
        · clear hgo
          go_wp2_with fail
          refine (wakes9_any _).mono ?_
          rintro e w2 ⟨rfl, hb2⟩
          go_wp2
          go_ret
          exact ⟨rfl, (HE.out.below hb2).low⟩
  · by_cases h1 : N.length ≤ 100
    · have h2 : ¬ A.length ≤ 200 := by omega
      clear hbig
      go_enter Try.func38, Try.ntmps38
      go_wp2
      go_ret
      exact ⟨rfl, (Below.refl _ w).alloc (Nat.le_refl _) _⟩
    · clear hbig
      go_enter Try.func38, Try.ntmps38
      go_wp2
      go_ret
      exact ⟨rfl, (Below.refl _ w).alloc (Nat.le_refl _) _⟩
end Go.Proofs.Ytcomaacfhfnipaa
