/-
  Pieces of a stream: a buffer's window filled.
-/
import Derived.Test.YtjgbiffgmafhmaaLtOReE
namespace Go.Proofs.Ytjgbiffgmafhmaa
open Go.RowKit
def winCells (next : Int) : Array Value := (winRow next win0).toArray
theorem win_cells (next : Int) : Try.zeroCells121.setIfInBounds 0 (.int .i64 next) = winCells next := by kernel_rfl
theorem bufB_parts {next : Int} {L : List EP} (h : bufB next L = true) : (0 ≤ next ∧ next < 4294967296) ∧ L.length ≤ 8 ∧ okP next 0 L = true := by
  unfold bufB at h
  rw [Bool.and_eq_true, decide_eq_true_eq] at h
  exact ⟨⟨h.1.1, h.1.2.1⟩, h.1.2.2, h.2⟩
theorem okP_all {next : Int} : ∀ {L : List EP} {last : Int}, okP next last L = true → ∀ p ∈ L, (0 ≤ p.s ∧ p.s < 4294967296) ∧ 0 < p.d.length ∧ p.d.length ≤ 2048
  | [], _, _, p, hp => by simp at hp
  | q :: r, last, h, p, hp => by
    obtain ⟨h1, h2, h3, h4, -, -, -, h5⟩ := okP_head h
    rcases List.mem_cons.1 hp with rfl | hp
    · exact ⟨⟨h1, h2⟩, h3, h4⟩
    · exact okP_all h5 p hp
theorem rowAt_win (W : World) (next : Int) : RowAt (W.alloc (.cells (winCells next) 121)) W.heap.size (winRow next win0) := rowAt_alloc W _ _
set_option maxRecDepth 100000 in
set_option maxHeartbeats 4000000 in
theorem fill_any (v : Value) (next : Int) (L : List EP) (w : World) (hb : bufB next L = true) (hv : KPart.Sl w v L) :
    Calls Try.prog 50 #[.agg #[.int .i64 next, v]] w fun e w' => ∃ q, e = .returned (.pointer (some ⟨q, 0, none⟩)) ∧ w.heap.size ≤ q ∧ RowAt w' q (winRow next (fillW next win0 L)) ∧ Below w.heap.size w w' := by
  obtain ⟨hn, hl8, hok⟩ := bufB_parts hb
  have HALL := Lib.hid (okP_all hok)
  obtain ⟨ao, cap, rfl, -, -, -, hB⟩ := hv
  have HB := Lib.hid hB; clear hB hb hok
  go_enter Try.func50, Try.ntmps50
  go_wp2
  rw [win_cells]
  refine wp_gen (fun W => Below w.heap.size w W ∧ RowAt W (w.heap.size + 1) (winRow next win0)) ⟨((Below.refl _ w).alloc (Nat.le_refl _) _).alloc (by simp) _, by have := rowAt_win (w.alloc (.cells #[.int .i64 next, .slice ao L.length cap] 24)) next; simpa using this⟩ ?_
  rintro W0 ⟨hb0, hr0⟩
  obtain ⟨q, hq⟩ : ∃ q, q = w.heap.size + 1 := ⟨_, rfl⟩
  have hqle : w.heap.size ≤ q := by omega
  rw [← hq] at hr0 ⊢
  have HB0 := Lib.hid hb0
  have HR0 := Lib.hid hr0
  generalize winCells next = WC at *
  clear hq hb0 hr0
  go_loopw [13] (fun i wr => ∃ k : Nat, k ≤ L.length ∧ i = .int .i64 k ∧ Below w.heap.size w wr ∧ RowAt wr q (winRow next (fillW next win0 (L.take k)))) (fun i _ => L.length - (intOf i).toNat)
  case atStart => exact ⟨0, by omega, rfl, HB0.out, HR0.out⟩
  case round =>
    obtain ⟨k, hk, rfl, hb, hr⟩ := hrel
    clear HB0 HR0
    have HBk := Lib.hid hb
    have HRk := Lib.hid hr
    clear hb hr
    by_cases hlt : k < L.length
    · have hltz : (k : Int) < (L.length : Int) := by omega
      obtain ⟨b, off, rfl, hbk, hBB⟩ := HB.out (by intro h; simp [h] at hlt)
      obtain ⟨p, hp⟩ : ∃ p, L[k]? = some p := ⟨_, List.getElem?_eq_getElem hlt⟩
      obtain ⟨vd, hsd, hcd⟩ := hBB k p hp
      obtain ⟨hps, hp0, hpl⟩ := HALL.out p (List.mem_of_getElem? hp)
      have d0 := (HBk.out.cell (p := ⟨b, off + k * 2, none⟩) hbk).trans (hcd 0 _ rfl)
      have d1 := (HBk.out.cell (p := ⟨b, off + k * 2 + 1, none⟩) hbk).trans (hcd 1 _ rfl)
      have HST := Lib.hid (show fillW next win0 (L.take (k + 1)) = layW (fillW next win0 (L.take k)) (diffv p.s next) p.d by rw [List.take_add_one, hp, Option.toList_some, fillW_append]; rfl)
      have hvq : ∀ b off n c, vd = .slice (some ⟨b, off, none⟩) n c → p.d ≠ [] → b ≠ q := by
        intro b' off' n' c' he hne
        obtain ⟨ao', c2, hv', -, -, -, h4⟩ := hsd
        obtain ⟨b2, o2, rfl, hlt2, -⟩ := h4 hne
        rw [he] at hv'
        simp at hv'
        omega
      have LC := Lib.hid (fun W (h1 : Below w.heap.size w W) (h2 : RowAt W q (winRow next (fillW next win0 (L.take k)))) => lay_any q next p.s _ vd p.d W (by rw [fillW_len, win0_len]) hn hps (by omega) h2 (hsd.below h1) hvq)
      obtain ⟨av, cv, rfl, -⟩ := id hsd
      clear hp hBB hsd hcd hvq
      go_wp2_with fail
      refine calls_gen (fun W => Below w.heap.size w W ∧ RowAt W q (winRow next (fillW next win0 (L.take k)))) ⟨HBk.out.alloc HBk.out.size _, HRk.out.below ((Below.refl _ _).alloc (Nat.le_refl _) _)⟩ ?_
      rintro W1 ⟨hb1, hr1⟩
      (with_reducible refine (LC.out W1 hb1 hr1).mono ?_)
      rintro e W2 ⟨rfl, hr2, hg2⟩
      have HB2 := Lib.hid (hb1.grown hg2 hb1.size (fun k hk => by injection hk with hk; omega))
      have HR2 := Lib.hid hr2
      clear hb1 hr1 hr2 hg2 d0 d1 LC
      go_wp2
      go_roundw
      case rel => exact ⟨k + 1, by omega, by go_num, HB2.out, by rw [HST.out]; exact HR2.out⟩
      case measure => simp [intOf]; omega
    · have hltz : ¬ (k : Int) < (L.length : Int) := by omega
      have HRE := Lib.hid (show RowAt wr q (winRow next (fillW next win0 L)) by have h := HRk.out; rw [List.take_of_length_le (by omega)] at h; exact h)
      go_wp2
      go_ret
      exact ⟨q, rfl, hqle, HRE.out, HBk.out⟩
end Go.Proofs.Ytjgbiffgmafhmaa
