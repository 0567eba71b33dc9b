/-
  Lists of Message: the closure of place, the library's binary search over them, place.
-/
import Derived.Test.YtoibdhncfdjdoaaDoorSuA
import Derived.Test.YtoibdhncfdjdoaaDoorMsK
namespace Go.Proofs.YtoibdhncfdjdoaaDoor
open Go.RowKit
theorem closure_any (xt : ByteArray) (xp : ByteArray) (xq : Int) (xr : Bool) (t : ByteArray) (w : World) : Calls Tryd.prog 71 #[.agg #[.string xt, .string xp, .int .i64 xq, .bool xr], .string t] w fun e w' => e = .returned (.int .i64 (cmpB xt t)) ∧ Below w.heap.size w w' := by
  have C := Lib.hid (fun w => compare_any xt t w)
  go_enter Tryd.func71, Tryd.ntmps71
  go_wp2_with (go_at_call 61; refine (C.out _).mono ?_; rintro e w' ⟨rfl, rfl⟩)
  go_ret
  exact ⟨rfl, (Below.refl _ _).alloc (Nat.le_refl _) _⟩
/-- By rising texts. -/
def Rising (L : List EMessage) : Prop := ∀ (i j : Nat) (p q : EMessage), L[i]? = some p → L[j]? = some q → i < j → sl p.t q.t = true
/-- The place of a text: how many stand ahead of it. -/
structure Place (L : List EMessage) (t : ByteArray) (i : Nat) : Prop where
  le : i ≤ L.length
  low : ∀ k q, L[k]? = some q → k < i → sl q.t t = true
  high : ∀ k q, L[k]? = some q → i ≤ k → sl q.t t = false
/-- Is it there? -/
def thereB (L : List EMessage) (t : ByteArray) (i : Nat) : Bool := match L[i]? with | some q => decide (q.t = t) | none => false
set_option maxRecDepth 100000 in
set_option maxHeartbeats 2000000 in
theorem bsearch_any (v : Value) (L : List EMessage) (t : ByteArray) (w : World) (hv : SlOf w 4 EMessage.At v L) (hr : Rising L) (hl : L.length ≤ 1000) :
    Calls Tryd.prog 70 #[v, .string t, .func (.func 71) #[] #[]] w fun e w' => ∃ i : Nat, Place L t i ∧ e = .returned (.tuple #[.int .i64 i, .bool (thereB L t i)]) ∧ Below w.heap.size w w' := by
  obtain ⟨ao, cap, rfl, hlc, hlm, -, hB⟩ := hv
  have HB := Lib.hid hB; clear hB
  have HR := Lib.hid hr
  clear hlm hlc hr
  go_enter Tryd.func70, Tryd.ntmps70
  go_wp2
  go_loopw [9, 10] (fun i j wr => ∃ (a b : Nat), a ≤ b ∧ b ≤ L.length ∧ i = .int .i64 a ∧ j = .int .i64 b ∧ Below w.heap.size w wr ∧ (∀ k q, L[k]? = some q → k < a → sl q.t t = true) ∧ (∀ k q, L[k]? = some q → b ≤ k → sl q.t t = false)) (fun i j _ => (intOf j - intOf i).toNat)
  case atStart => exact ⟨0, L.length, by omega, by omega, rfl, rfl, Below.refl _ _, fun k q _ h => by omega, fun k q h h2 => by rw [List.getElem?_eq_none h2] at h; cases h⟩
  case round =>
    obtain ⟨a, b, hab, hbl, rfl, rfl, hbw, h1, h2⟩ := hrel
    have H1 := Lib.hid h1; have H2 := Lib.hid h2; clear h1 h2
    by_cases hlt : a < b
    · obtain ⟨blk, off, rfl, hbk, hBB⟩ := HB.out (by intro h; simp [h] at hbl; omega)
      obtain ⟨q, hq⟩ : ∃ q, L[(a + b) / 2]? = some q := ⟨_, List.getElem?_eq_getElem (by omega)⟩
      obtain ⟨c0, c1, c2, c3⟩ := hBB _ q hq
      have d0 := (hbw.cell (p := ⟨blk, off + (a + b) / 2 * 4, none⟩) hbk).trans c0
      have d1 := (hbw.cell (p := ⟨blk, off + (a + b) / 2 * 4 + 1, none⟩) hbk).trans c1
      have d2 := (hbw.cell (p := ⟨blk, off + (a + b) / 2 * 4 + 2, none⟩) hbk).trans c2
      have d3 := (hbw.cell (p := ⟨blk, off + (a + b) / 2 * 4 + 3, none⟩) hbk).trans c3
      have HQ := Lib.hid hq
      clear hBB hq c0 c1 c2 c3
      have C := Lib.hid (closure_any q.t q.p q.q q.r t)
      cases hc : sl q.t t with
      | true =>
        have hcm : cmpB q.t t = -1 := by unfold cmpB; rw [hc]; rfl
        rw [hcm] at C
        have HC := Lib.hid hc
        clear hcm hc
        go_wp2_with (go_at_call 71; refine (C.out _).mono ?_; rintro e w1 ⟨rfl, hb1⟩)
        go_roundw
        case rel =>
          refine ⟨(a + b) / 2 + 1, b, by omega, hbl, by first | go_num | (congr 1; omega), rfl, hbw.trans (hb1.mono hbw.size), fun k p hk hlt2 => ?_, H2.out⟩
          rcases Nat.lt_or_ge k ((a + b) / 2) with h | h
          · exact sl_trans (HR.out k _ p q hk HQ.out h) HC.out
          · obtain rfl : k = (a + b) / 2 := by omega
            rw [HQ.out] at hk; injection hk with hk; subst hk; exact HC.out
        case measure => simp [intOf]; omega
      | false =>
        have hcm : cmpB q.t t = 0 ∨ cmpB q.t t = 1 := by unfold cmpB; rw [hc]; by_cases h : q.t = t <;> simp [h]
        have HC := Lib.hid hc
        clear hc
        rcases hcm with hcm | hcm
        all_goals
          rw [hcm] at C
          clear hcm
          go_wp2_with (go_at_call 71; refine (C.out _).mono ?_; rintro e w1 ⟨rfl, hb1⟩)
          go_roundw
          case rel =>
            refine ⟨a, (a + b) / 2, by omega, by omega, rfl, by first | go_num | (congr 1; omega), hbw.trans (hb1.mono hbw.size), H1.out, fun k p hk hle => ?_⟩
            rcases Nat.lt_or_ge ((a + b) / 2) k with h | h
            · cases hs : sl p.t t with
              | false => rfl
              | true => have := sl_trans (HR.out _ k q p HQ.out hk h) hs; rw [HC.out] at this; cases this
            · obtain rfl : k = (a + b) / 2 := by omega
              rw [HQ.out] at hk; injection hk with hk; subst hk; exact HC.out
          case measure => simp [intOf]; omega
    · obtain rfl : a = b := by omega
      by_cases hal : a < L.length
      · obtain ⟨blk, off, rfl, hbk, hBB⟩ := HB.out (by intro h; simp [h] at hal)
        obtain ⟨q, hq⟩ : ∃ q, L[a]? = some q := ⟨_, List.getElem?_eq_getElem hal⟩
        obtain ⟨c0, c1, c2, c3⟩ := hBB _ q hq
        have d0 := (hbw.cell (p := ⟨blk, off + a * 4, none⟩) hbk).trans c0
        have d1 := (hbw.cell (p := ⟨blk, off + a * 4 + 1, none⟩) hbk).trans c1
        have d2 := (hbw.cell (p := ⟨blk, off + a * 4 + 2, none⟩) hbk).trans c2
        have d3 := (hbw.cell (p := ⟨blk, off + a * 4 + 3, none⟩) hbk).trans c3
        have HQ := Lib.hid hq
        clear hBB hq c0 c1 c2 c3
        have C := Lib.hid (closure_any q.t q.p q.q q.r t)
        by_cases he : q.t = t
        · have hcm : cmpB q.t t = 0 := by unfold cmpB; rw [he, sl_irr]; simp
          rw [hcm] at C
          have HF := Lib.hid (show thereB L t a = true by unfold thereB; rw [HQ.out]; exact decide_eq_true he)
          clear hcm he
          go_wp2_with (go_at_call 71; refine (C.out _).mono ?_; rintro e w1 ⟨rfl, hb1⟩)
          go_ret2
          exact ⟨a, ⟨hbl, H1.out, H2.out⟩, by rw [HF.out]; rfl, hbw.trans (hb1.mono hbw.size)⟩
        · have hge := H2.out a q HQ.out (Nat.le_refl _)
          have hcm : cmpB q.t t = 1 := by unfold cmpB; rw [hge]; simp [he]
          rw [hcm] at C
          have HF := Lib.hid (show thereB L t a = false by unfold thereB; rw [HQ.out]; exact decide_eq_false he)
          clear hcm he hge
          go_wp2_with (go_at_call 71; refine (C.out _).mono ?_; rintro e w1 ⟨rfl, hb1⟩)
          go_ret2
          exact ⟨a, ⟨hbl, H1.out, H2.out⟩, by rw [HF.out]; rfl, hbw.trans (hb1.mono hbw.size)⟩
      · have HF := Lib.hid (show thereB L t a = false by unfold thereB; rw [List.getElem?_eq_none (by omega)])
        go_wp2
        go_ret2
        exact ⟨a, ⟨hbl, H1.out, H2.out⟩, by rw [HF.out]; rfl, hbw⟩
set_option maxRecDepth 100000 in
set_option maxHeartbeats 1000000 in
theorem place_any (v : Value) (L : List EMessage) (t : ByteArray) (w : World) (hv : SlOf w 4 EMessage.At v L) (hr : Rising L) (hl : L.length ≤ 1000) :
    Calls Tryd.prog 55 #[v, .string t] w fun e w' => ∃ i : Nat, Place L t i ∧ e = .returned (.tuple #[.int .i64 i, .bool (thereB L t i)]) ∧ Below w.heap.size w w' := by
  have C := Lib.hid (bsearch_any v L t w hv hr hl)
  go_enter Tryd.func55, Tryd.ntmps55
  go_wp2_with (with_reducible refine C.out.mono ?_; rintro e w' ⟨i, hp, rfl, hb⟩)
  go_ret2
  exact ⟨i, hp, rfl, hb⟩
end Go.Proofs.YtoibdhncfdjdoaaDoor
