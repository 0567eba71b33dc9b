/-
  Neighbours: where one stands, which address one has.
-/
import Derived.Test.YtcomaacfhfnipaaArpC
namespace Go.Proofs.Ytcomaacfhfnipaa
open Go.RowKit
theorem okB_rising : ∀ (L : List Nb) (last : Int), okB last L = true → (∀ q ∈ L, last < q.ip) ∧ Rising L := by
  intro L
  induction L with
  | nil => intro last _; exact ⟨by simp, fun i j p q h => by simp at h⟩
  | cons x r ih =>
    intro last h
    simp only [okB, Bool.and_eq_true, decide_eq_true_eq] at h
    obtain ⟨⟨⟨⟨⟨h1, -⟩, -⟩, -⟩, -⟩, h6⟩ := h
    obtain ⟨g1, g2⟩ := ih x.ip h6
    refine ⟨fun q hq => ?_, fun i j p q hp hq hij => ?_⟩
    · rcases List.mem_cons.1 hq with rfl | hq
      · exact h1
      · have := g1 q hq; omega
    · match i, j, hp, hq with
      | 0, 0, _, _ => omega
      | 0, j + 1, hp, hq =>
        simp at hp; subst hp
        exact g1 q (List.mem_of_getElem? (by simpa using hq))
      | i + 1, 0, _, _ => omega
      | i + 1, j + 1, hp, hq => exact g2 i j p q (by simpa using hp) (by simpa using hq) (by omega)
theorem tab_rising {L : List Nb} (h : tabB L = true) : Rising L ∧ L.length ≤ 16 := by
  simp only [tabB, Bool.and_eq_true, decide_eq_true_eq] at h
  exact ⟨(okB_rising L _ h.2).2, h.1⟩
/-- The place of one, or where it belongs. -/
def Place (L : List Nb) (t : Int) (i : Nat) (f : Bool) : Prop := i ≤ L.length ∧ (∀ k q, L[k]? = some q → k < i → q.ip < t) ∧ (∀ k q, L[k]? = some q → i ≤ k → t ≤ q.ip) ∧ (f = true ↔ ∃ q, L[i]? = some q ∧ q.ip = t)
set_option maxHeartbeats 1000000 in
theorem place_any (v : Value) (L : List Nb) (t : Int) (w : World) (hv : SlOf w 3 Nb.At v L) (hr : Rising L) (hl : L.length ≤ 1000) :
    Calls Try.prog 50 #[v, .int .i64 t] w fun e w' => ∃ (i : Nat) (f : Bool), e = .returned (.tuple #[.int .i64 i, .bool f]) ∧ Place L t i f ∧ Below w.heap.size w w' := by
  have C := Lib.hid (bsearch_any v L t w hv hr hl)
  obtain ⟨ao, cap, rfl, -⟩ := id hv
  clear hv hr hl
  go_enter Try.func50, Try.ntmps50
  go_wp2_with fail
  go_at_call 54
  refine C.out.mono ?_
  rintro e w1 ⟨i, hi, h1, h2, ⟨f, rfl, hf⟩, hb⟩
  have HP := Lib.hid (show Place L t i f from ⟨hi, h1, h2, hf⟩)
  clear hi h1 h2 hf
  go_wp2
  go_ret2
  exact ⟨i, f, rfl, HP.out, hb⟩
/-- Which address one has. -/
def findV (L : List Nb) (t : Int) : Option Int := (L.find? (fun q => q.ip == t)).map Nb.mac
theorem place_find {L : List Nb} {t : Int} {i : Nat} {q : Nb} (hr : Rising L) (hi : L[i]? = some q) (hq : q.ip = t) : findV L t = some q.mac := by
  unfold findV
  have hm : q ∈ L := List.mem_of_getElem? hi
  cases h : L.find? (fun q => q.ip == t) with
  | none => have := List.find?_eq_none.1 h q hm; simp [hq] at this
  | some p =>
    have hp := List.find?_some h
    have hpm := List.mem_of_find?_eq_some h
    obtain ⟨j, hj⟩ := List.getElem?_of_mem hpm
    have hpt : p.ip = t := by simpa using hp
    rcases Nat.lt_trichotomy i j with h1 | h1 | h1
    · have := hr i j q p hi hj h1; omega
    · subst h1; rw [hi] at hj; injection hj with hj; subst hj; rfl
    · have := hr j i p q hj hi h1; omega
theorem place_none {L : List Nb} {t : Int} {i : Nat} (hr : Rising L) (hp : Place L t i false) : findV L t = none := by
  obtain ⟨h0, h1, h2, h3⟩ := hp
  unfold findV
  rw [List.find?_eq_none.2, Option.map_none]
  intro q hq he
  obtain ⟨j, hj⟩ := List.getElem?_of_mem hq
  have hqt : q.ip = t := by simpa using he
  rcases Nat.lt_or_ge j i with h | h
  · have := h1 j q hj h; omega
  · rcases Nat.lt_or_ge i j with hij | hij
    · have hjl : j < L.length := (List.getElem?_eq_some_iff.1 hj).1
      have hi : L[i]? = some L[i] := List.getElem?_eq_getElem (by omega)
      have g1 := h2 i _ hi (Nat.le_refl _)
      have g2 := hr i j _ q hi hj hij
      omega
    · obtain rfl : i = j := by omega
      exact (by simpa using h3.2 ⟨q, hj, hqt⟩)
theorem nbs_below {w W : World} {v : Value} {L : List Nb} (h : SlOf w 3 Nb.At v L) (hb : Below w.heap.size w W) : SlOf W 3 Nb.At v L := by
  obtain ⟨ao, cap, rfl, h1, h2, h3, h4⟩ := h
  refine ⟨ao, cap, rfl, h1, h2, h3, fun hne => ?_⟩
  obtain ⟨b, off, rfl, hlt, hq⟩ := h4 hne
  refine ⟨b, off, rfl, Nat.lt_of_lt_of_le hlt hb.size, fun i q hi => ?_⟩
  obtain ⟨c0, c1, c2⟩ := hq i q hi
  exact ⟨(hb.cell (p := ⟨b, off + i * 3, none⟩) hlt).trans c0, (hb.cell (p := ⟨b, off + i * 3 + 1, none⟩) hlt).trans c1, (hb.cell (p := ⟨b, off + i * 3 + 2, none⟩) hlt).trans c2⟩
/-- What Find answers. -/
def findR (L : List Nb) (t : Int) : Int × Int := if tabB L = true then (match findV L t with | some m => (m, 0) | none => (0, 3)) else (0, 1)
set_option maxHeartbeats 1000000 in
theorem find_any (v : Value) (L : List Nb) (t : Int) (w : World) (hv : SlOf w 3 Nb.At v L) (hl : L.length ≤ 140737488351232) :
    Calls Try.prog 28 #[v, .int .i64 t] w fun e w' => e = .returned (.tuple #[.int .i64 (findR L t).1, .int .i64 (findR L t).2]) ∧ Below w.heap.size w w' := by
  have C1 := Lib.hid (isTable_any v L w hv hl)
  have HV := Lib.hid hv
  obtain ⟨ao, cap, rfl, -⟩ := id hv
  clear hv
  by_cases ht : tabB L = true
  · have hf : findR L t = (match findV L t with | some m => (m, 0) | none => (0, 3)) := by unfold findR; rw [if_pos ht]
    obtain ⟨hr, h16⟩ := tab_rising ht
    rw [ht] at C1
    have HR := Lib.hid hr
    have HF := Lib.hid hf
    clear hr hf ht
    go_enter Try.func28, Try.ntmps28
    go_wp2_with fail
    go_at_call 49
    refine C1.out.mono ?_
    rintro e w1 ⟨rfl, hb⟩
    have C2 := Lib.hid (place_any _ L t w1 (nbs_below HV.out hb) HR.out (by omega))
    go_wp2_with fail
    go_at_call 50
    refine C2.out.mono ?_
    rintro e w2 ⟨i, f, rfl, hp, hb2⟩
    have HP := Lib.hid hp; clear hp
    cases f with
    | false =>
      have HN := Lib.hid (place_none HR.out HP.out)
      go_wp2
      go_ret2
      exact ⟨by rw [HF.out, HN.out]; rfl, hb.trans (hb2.mono hb.size)⟩
    | true =>
      obtain ⟨q, hq, hqt⟩ := HP.out.2.2.2.1 rfl
      have HN := Lib.hid (place_find HR.out hq hqt)
      have hil : i < L.length := (List.getElem?_eq_some_iff.1 hq).1
      obtain ⟨ao2, cap2, hv2, -, -, -, hB⟩ := HV.out
      simp only [Value.slice.injEq, true_and] at hv2
      obtain ⟨rfl, rfl⟩ := hv2
      obtain ⟨blk, off, rfl, hbk, hBB⟩ := hB (by intro h; simp [h] at hil)
      obtain ⟨-, c1, -⟩ := hBB i q hq
      have hbb := hb.trans (hb2.mono hb.size)
      have d1 := (hbb.cell (p := ⟨blk, off + i * 3 + 1, none⟩) hbk).trans c1
      clear hBB hq hqt c1 hB
      go_wp2
      go_ret2
      exact ⟨by rw [HF.out, HN.out]; rfl, hbb⟩
  · have hf : findR L t = (0, 1) := by unfold findR; rw [if_neg ht]
    have ht' : tabB L = false := by simpa using ht
    rw [ht'] at C1
    have HF := Lib.hid hf
    clear hf ht ht'
    go_enter Try.func28, Try.ntmps28
    go_wp2_with fail
    go_at_call 49
    refine C1.out.mono ?_
    rintro e w1 ⟨rfl, hb⟩
    go_wp2
    go_ret2
    exact ⟨by rw [HF.out]; rfl, hb⟩
end Go.Proofs.Ytcomaacfhfnipaa
