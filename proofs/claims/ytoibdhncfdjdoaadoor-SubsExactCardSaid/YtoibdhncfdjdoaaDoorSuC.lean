/-
  Who wants what: valid, Check.
-/
import Derived.Test.YtoibdhncfdjdoaaDoorSuB
import Derived.Test.YtoibdhncfdjdoaaDoorTopI
import Derived.Test.YtoibdhncfdjdoaaDoorTopK
namespace Go.Proofs.YtoibdhncfdjdoaaDoor
open Go.RowKit Go.Lib
/-- A wish that may be. -/
def wishB (x : EWish) : Bool := filtB x.f.data.toList && (decide (0 ≤ x.q) && decide (x.q ≤ 2))
/-- An element that stands where it may. -/
def okAt (L : List EWish) (k : Nat) : Bool :=
  match L[k]? with
  | none => true
  | some x => wishB x && (match k with | 0 => true | j + 1 => match L[j]? with | some p => sl p.f x.f | none => true)
/-- A list that may be. -/
def subsB (L : List EWish) : Bool := decide (L.length ≤ 16) && (List.range L.length).all (okAt L)
theorem subs_parts {L : List EWish} (h : subsB L = true) : L.length ≤ 16 ∧ ∀ k, k < L.length → okAt L k = true := by
  unfold subsB at h
  rw [Bool.and_eq_true] at h
  exact ⟨of_decide_eq_true h.1, fun k hk => List.all_eq_true.1 h.2 k (List.mem_range.2 hk)⟩
theorem subs_bad {L : List EWish} {k : Nat} (hk : k < L.length) (h : okAt L k = false) : subsB L = false := by
  cases hs : subsB L with
  | false => rfl
  | true => have := (subs_parts hs).2 k hk; rw [h] at this; cases this
theorem subs_good {L : List EWish} (h1 : L.length ≤ 16) (h : ∀ k, k < L.length → okAt L k = true) : subsB L = true := by
  unfold subsB
  rw [Bool.and_eq_true]
  exact ⟨decide_eq_true h1, List.all_eq_true.2 fun k hk => h k (List.mem_range.1 hk)⟩
theorem subs_wish {L : List EWish} (h : subsB L = true) {k : Nat} {x : EWish} (hx : L[k]? = some x) : wishB x = true := by
  have hk := (List.getElem?_eq_some_iff.1 hx).1
  have := (subs_parts h).2 k hk
  unfold okAt at this
  rw [hx] at this
  exact (Bool.and_eq_true _ _ ▸ this).1
theorem subs_next {L : List EWish} (h : subsB L = true) {k : Nat} {p x : EWish} (hp : L[k]? = some p) (hx : L[k + 1]? = some x) : sl p.f x.f = true := by
  have hk := (List.getElem?_eq_some_iff.1 hx).1
  have := (subs_parts h).2 (k + 1) hk
  unfold okAt at this
  rw [hx] at this
  have h2 := (Bool.and_eq_true _ _ ▸ this).2
  simp only [hp] at h2
  exact h2
theorem rising_of_next {L : List EWish} (h : ∀ k p x, L[k]? = some p → L[k + 1]? = some x → sl p.f x.f = true) : Rising L := by
  intro i j
  induction j with
  | zero => intro p q _ _ hij; omega
  | succ j ih =>
    intro p q hp hq hij
    have hj : j < L.length := by have := (List.getElem?_eq_some_iff.1 hq).1; omega
    have hm := List.getElem?_eq_getElem hj
    have hn := h j _ q hm hq
    rcases Nat.lt_or_ge i j with hlt | hge
    · exact sl_trans (ih p _ hp hm hlt) hn
    · obtain rfl : i = j := by omega
      rw [hm] at hp
      injection hp with hp
      rw [← hp]; exact hn
theorem subs_rising {L : List EWish} (h : subsB L = true) : Rising L := rising_of_next fun _ _ _ hp hx => subs_next h hp hx
theorem okAt_zero {L : List EWish} {x : EWish} (hx : L[0]? = some x) : okAt L 0 = wishB x := by
  unfold okAt; rw [hx]; simp
theorem okAt_succ {L : List EWish} {k : Nat} {p x : EWish} (hp : L[k]? = some p) (hx : L[k + 1]? = some x) : okAt L (k + 1) = (wishB x && sl p.f x.f) := by
  unfold okAt; rw [hx]; simp [hp]
theorem okAt_wish {L : List EWish} {k : Nat} {x : EWish} (hx : L[k]? = some x) (h : wishB x = false) : okAt L k = false := by
  unfold okAt; rw [hx]; simp [h]
theorem filtV (f : ByteArray) (w : World) (hf : f.size < 1000000) (hE : Env w) :
    Calls Tryd.prog 54 #[.string f] w fun e w' => e = .returned (errN (filtB f.data.toList)) ∧ Below w.heap.size w w' := by
  have := filter_any f.data.toList w (by rw [← Lib.size_eq]; exact hf) hE.1 hE.2
  rw [Lib.mk_data] at this
  exact this
set_option maxRecDepth 100000 in
set_option maxHeartbeats 1000000 in
theorem valid_any (x : EWish) (w : World) (hf : x.f.size < 1000000) (hE : Env w) :
    Calls Tryd.prog 40 #[.agg #[.string x.f, .int .i64 x.q]] w fun e w' => e = .returned (.bool (wishB x)) ∧ Below w.heap.size w w' := by
  obtain ⟨f, q⟩ := x
  dsimp only at hf ⊢
  have CF := Lib.hid (fun W (hb : Below w.heap.size w W) => filtV f W hf (hE.below hb))
  unfold wishB
  dsimp only
  cases hX : filtB f.data.toList with
  | false =>
    have C1 := Lib.hid (show ∀ W (hb : Below w.heap.size w W), Calls Tryd.prog 54 #[.string f] W fun e w' => e = .returned (.int .i64 1) ∧ Below W.heap.size W w' from fun W hb => by have := CF.out W hb; rw [hX] at this; exact this)
    clear CF hX
    go_enter Tryd.func40, Tryd.ntmps40
    go_wp2_with fail
    refine calls_gen (fun W => Below w.heap.size w W) ((Below.refl _ _).alloc (Nat.le_refl _) _) ?_
    intro W1 hb1
    (with_reducible refine (C1.out W1 hb1).mono ?_)
    rintro e W2 ⟨rfl, hb2⟩
    go_wp2
    go_ret
    exact ⟨rfl, hb1.trans (hb2.mono hb1.size)⟩
  | true =>
    have C1 := Lib.hid (show ∀ W (hb : Below w.heap.size w W), Calls Tryd.prog 54 #[.string f] W fun e w' => e = .returned (.int .i64 0) ∧ Below W.heap.size W w' from fun W hb => by have := CF.out W hb; rw [hX] at this; exact this)
    clear CF hX
    by_cases h0 : 0 ≤ q
    · rw [decide_eq_true h0]
      by_cases h2 : q ≤ 2
      · rw [decide_eq_true h2]
        go_enter Tryd.func40, Tryd.ntmps40
        go_wp2_with fail
        refine calls_gen (fun W => Below w.heap.size w W ∧ W.cell? ⟨w.heap.size, 1, none⟩ = some (.int .i64 q) ∧ w.heap.size < W.heap.size) ⟨(Below.refl _ _).alloc (Nat.le_refl _) _, by simp [go_sem], by simp⟩ ?_
        rintro W1 ⟨hb1, c1, hlt⟩
        (with_reducible refine (C1.out W1 hb1).mono ?_)
        rintro e W2 ⟨rfl, hb2⟩
        have d1 := (hb2.cell (p := ⟨w.heap.size, 1, none⟩) hlt).trans c1
        clear c1
        go_wp2
        go_ret
        exact ⟨rfl, hb1.trans (hb2.mono hb1.size)⟩
      · rw [decide_eq_false h2]
        go_enter Tryd.func40, Tryd.ntmps40
        go_wp2_with fail
        refine calls_gen (fun W => Below w.heap.size w W ∧ W.cell? ⟨w.heap.size, 1, none⟩ = some (.int .i64 q) ∧ w.heap.size < W.heap.size) ⟨(Below.refl _ _).alloc (Nat.le_refl _) _, by simp [go_sem], by simp⟩ ?_
        rintro W1 ⟨hb1, c1, hlt⟩
        (with_reducible refine (C1.out W1 hb1).mono ?_)
        rintro e W2 ⟨rfl, hb2⟩
        have d1 := (hb2.cell (p := ⟨w.heap.size, 1, none⟩) hlt).trans c1
        clear c1
        go_wp2
        go_ret
        exact ⟨by show Ending.returned (Value.bool (decide (q ≤ 2))) = _; rw [decide_eq_false (show ¬ q ≤ 2 by omega)]; rfl, hb1.trans (hb2.mono hb1.size)⟩
    · rw [decide_eq_false h0]
      go_enter Tryd.func40, Tryd.ntmps40
      go_wp2_with fail
      refine calls_gen (fun W => Below w.heap.size w W ∧ W.cell? ⟨w.heap.size, 1, none⟩ = some (.int .i64 q) ∧ w.heap.size < W.heap.size) ⟨(Below.refl _ _).alloc (Nat.le_refl _) _, by simp [go_sem], by simp⟩ ?_
      rintro W1 ⟨hb1, c1, hlt⟩
      (with_reducible refine (C1.out W1 hb1).mono ?_)
      rintro e W2 ⟨rfl, hb2⟩
      have d1 := (hb2.cell (p := ⟨w.heap.size, 1, none⟩) hlt).trans c1
      clear c1
      go_wp2
      go_ret
      exact ⟨rfl, hb1.trans (hb2.mono hb1.size)⟩
end Go.Proofs.YtoibdhncfdjdoaaDoor
