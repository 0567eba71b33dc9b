/-
  Neighbours: the library's binary search over them.
-/
import Derived.Test.YtcomaacfhfnipaaArpA
namespace Go.Proofs.Ytcomaacfhfnipaa
open Go.RowKit
set_option maxRecDepth 100000 in
set_option maxHeartbeats 2000000 in
theorem bsearch_any (v : Value) (L : List Nb) (t : Int) (w : World) (hv : SlOf w 3 Nb.At v L) (hr : Rising L) (hl : L.length ≤ 1000) :
    Calls Try.prog 54 #[v, .int .i64 t, .func (.func 55) #[] #[]] w fun e w' => ∃ i : Nat, i ≤ L.length ∧ (∀ k q, L[k]? = some q → k < i → q.ip < t) ∧ (∀ k q, L[k]? = some q → i ≤ k → t ≤ q.ip) ∧
      (∃ f : Bool, e = .returned (.tuple #[.int .i64 i, .bool f]) ∧ (f = true ↔ ∃ q, L[i]? = some q ∧ q.ip = t)) ∧ Below w.heap.size w w' := by
  obtain ⟨ao, cap, rfl, hlc, hlm, -, hB⟩ := hv
  have HB := Lib.hid hB; clear hB
  have HR := Lib.hid hr
  clear hlm hlc hr
  go_enter Try.func54, Try.ntmps54
  go_wp2
  go_loopw [9, 10] (fun i j wr => ∃ (a b : Nat), a ≤ b ∧ b ≤ L.length ∧ i = .int .i64 a ∧ j = .int .i64 b ∧ Below w.heap.size w wr ∧ (∀ k q, L[k]? = some q → k < a → q.ip < t) ∧ (∀ k q, L[k]? = some q → b ≤ k → t ≤ q.ip)) (fun i j _ => (intOf j - intOf i).toNat)
  case atStart => exact ⟨0, L.length, by omega, by omega, rfl, rfl, Below.refl _ _, fun k q _ h => by omega, fun k q h h2 => by rw [List.getElem?_eq_none h2] at h; cases h⟩
  case round =>
    obtain ⟨a, b, hab, hbl, rfl, rfl, hbw, h1, h2⟩ := hrel
    have H1 := Lib.hid h1; have H2 := Lib.hid h2; clear h1 h2
    by_cases hlt : a < b
    · obtain ⟨blk, off, rfl, hbk, hBB⟩ := HB.out (by intro h; simp [h] at hbl; omega)
      obtain ⟨q, hq⟩ : ∃ q, L[(a + b) / 2]? = some q := ⟨_, List.getElem?_eq_getElem (by omega)⟩
      obtain ⟨c0, c1, c2⟩ := hBB _ q hq
      have d0 := (hbw.cell (p := ⟨blk, off + (a + b) / 2 * 3, none⟩) hbk).trans c0
      have d1 := (hbw.cell (p := ⟨blk, off + (a + b) / 2 * 3 + 1, none⟩) hbk).trans c1
      have d2 := (hbw.cell (p := ⟨blk, off + (a + b) / 2 * 3 + 2, none⟩) hbk).trans c2
      have HQ := Lib.hid hq
      clear hBB hq c0 c1 c2
      by_cases hc : q.ip < t
      · have hcm : cmpI q.ip t = -1 := if_pos hc
        have C := Lib.hid (closure_any q.ip q.mac q.age t)
        rw [hcm] at C
        clear hcm
        go_wp2_with (go_at_call 55; refine (C.out _).mono ?_; rintro e w1 ⟨rfl, hb1⟩)
        go_roundw
        case rel =>
          refine ⟨(a + b) / 2 + 1, b, by omega, hbl, by first | go_num | (congr 1; omega), rfl, hbw.trans (hb1.mono hbw.size), fun k p hk hlt2 => ?_, H2.out⟩
          rcases Nat.lt_or_ge k ((a + b) / 2) with h | h
          · have := HR.out k _ p q hk HQ.out h; omega
          · obtain rfl : k = (a + b) / 2 := by omega
            rw [HQ.out] at hk; injection hk with hk; subst hk; exact hc
        case measure => simp [intOf]; omega
      · have hcm : cmpI q.ip t = 0 ∨ cmpI q.ip t = 1 := by unfold cmpI; rw [if_neg hc]; split <;> simp
        have C := Lib.hid (closure_any q.ip q.mac q.age t)
        rcases hcm with hcm | hcm
        all_goals
          rw [hcm] at C
          clear hcm
          go_wp2_with (go_at_call 55; refine (C.out _).mono ?_; rintro e w1 ⟨rfl, hb1⟩)
          go_roundw
          case rel =>
            refine ⟨a, (a + b) / 2, by omega, by omega, rfl, by first | go_num | (congr 1; omega), hbw.trans (hb1.mono hbw.size), H1.out, fun k p hk hle => ?_⟩
            rcases Nat.lt_or_ge ((a + b) / 2) k with h | h
            · have := HR.out _ k q p HQ.out hk h; omega
            · obtain rfl : k = (a + b) / 2 := by omega
              rw [HQ.out] at hk; injection hk with hk; subst hk; omega
          case measure => simp [intOf]; omega
    · obtain rfl : a = b := by omega
      by_cases hal : a < L.length
      · obtain ⟨blk, off, rfl, hbk, hBB⟩ := HB.out (by intro h; simp [h] at hal)
        obtain ⟨q, hq⟩ : ∃ q, L[a]? = some q := ⟨_, List.getElem?_eq_getElem hal⟩
        obtain ⟨c0, c1, c2⟩ := hBB _ q hq
        have d0 := (hbw.cell (p := ⟨blk, off + a * 3, none⟩) hbk).trans c0
        have d1 := (hbw.cell (p := ⟨blk, off + a * 3 + 1, none⟩) hbk).trans c1
        have d2 := (hbw.cell (p := ⟨blk, off + a * 3 + 2, none⟩) hbk).trans c2
        have HQ := Lib.hid hq
        clear hBB hq c0 c1 c2
        have C := Lib.hid (closure_any q.ip q.mac q.age t)
        by_cases he : q.ip = t
        · have hcm : cmpI q.ip t = 0 := by unfold cmpI; rw [if_neg (by omega), if_pos he]
          rw [hcm] at C
          have HE := Lib.hid he
          clear hcm he
          go_wp2_with (go_at_call 55; refine (C.out _).mono ?_; rintro e w1 ⟨rfl, hb1⟩)
          go_ret2
          exact ⟨a, hbl, H1.out, H2.out, ⟨true, rfl, fun _ => ⟨q, HQ.out, HE.out⟩, fun _ => rfl⟩, hbw.trans (hb1.mono hbw.size)⟩
        · have hge := H2.out a q HQ.out (Nat.le_refl _)
          have hcm : cmpI q.ip t = 1 := by unfold cmpI; rw [if_neg (by omega), if_neg he]
          rw [hcm] at C
          have HE := Lib.hid he
          clear hcm he hge
          go_wp2_with (go_at_call 55; refine (C.out _).mono ?_; rintro e w1 ⟨rfl, hb1⟩)
          go_ret2
          exact ⟨a, hbl, H1.out, H2.out, ⟨false, rfl, (fun h => by cases h), fun ⟨p, hp, hpe⟩ => by rw [HQ.out] at hp; injection hp with hp; subst hp; exact (HE.out hpe).elim⟩, hbw.trans (hb1.mono hbw.size)⟩
      · have HN := Lib.hid (List.getElem?_eq_none (l := L) (i := a) (by omega))
        go_wp2
        go_ret2
        exact ⟨a, hbl, H1.out, H2.out, ⟨false, rfl, (fun h => by cases h), fun ⟨p, hp, _⟩ => by rw [HN.out] at hp; cases hp⟩, hbw⟩
end Go.Proofs.Ytcomaacfhfnipaa
