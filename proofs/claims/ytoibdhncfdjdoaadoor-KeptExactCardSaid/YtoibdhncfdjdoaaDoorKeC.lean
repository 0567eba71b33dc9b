/-
  What was said last: valid.
-/
import Derived.Test.YtoibdhncfdjdoaaDoorKeB
import Derived.Test.YtoibdhncfdjdoaaDoorTopI
import Derived.Test.YtoibdhncfdjdoaaDoorTopK
import Derived.Test.YtoibdhncfdjdoaaDoorGq
namespace Go.Proofs.YtoibdhncfdjdoaaDoor
open Go.RowKit Go.Lib
/-- A message that may be put. -/
def msgB (x : EMessage) : Bool := nameB x.t.data.toList && (decide (x.p.size ≤ 128) && (decide (0 ≤ x.q) && (decide (x.q ≤ 2) && x.r)))
/-- Without payload. -/
def noneB (x : EMessage) : Bool := x.p.toList == (⟨#[]⟩ : ByteArray).toList
def okAt (L : List EMessage) (k : Nat) : Bool :=
  match L[k]? with
  | none => true
  | some x => msgB x && !noneB x && (match k with | 0 => true | j + 1 => match L[j]? with | some p => sl p.t x.t | none => true)
def keptB (L : List EMessage) : Bool := decide (L.length ≤ 16) && (List.range L.length).all (okAt L)
theorem kept_parts {L : List EMessage} (h : keptB L = true) : L.length ≤ 16 ∧ ∀ k, k < L.length → okAt L k = true := by
  unfold keptB at h
  rw [Bool.and_eq_true] at h
  exact ⟨of_decide_eq_true h.1, fun k hk => List.all_eq_true.1 h.2 k (List.mem_range.2 hk)⟩
theorem kept_bad {L : List EMessage} {k : Nat} (hk : k < L.length) (h : okAt L k = false) : keptB L = false := by
  cases hs : keptB L with
  | false => rfl
  | true => have := (kept_parts hs).2 k hk; rw [h] at this; cases this
theorem kept_good {L : List EMessage} (h1 : L.length ≤ 16) (h : ∀ k, k < L.length → okAt L k = true) : keptB L = true := by
  unfold keptB
  rw [Bool.and_eq_true]
  exact ⟨decide_eq_true h1, List.all_eq_true.2 fun k hk => h k (List.mem_range.1 hk)⟩
theorem kept_msg {L : List EMessage} (h : keptB L = true) {k : Nat} {x : EMessage} (hx : L[k]? = some x) : msgB x = true ∧ noneB x = false := by
  have hk := (List.getElem?_eq_some_iff.1 hx).1
  have := (kept_parts h).2 k hk
  unfold okAt at this
  rw [hx] at this
  simp only [Bool.and_eq_true, Bool.not_eq_true'] at this
  exact this.1
theorem kept_next {L : List EMessage} (h : keptB L = true) {k : Nat} {p x : EMessage} (hp : L[k]? = some p) (hx : L[k + 1]? = some x) : sl p.t x.t = true := by
  have hk := (List.getElem?_eq_some_iff.1 hx).1
  have := (kept_parts h).2 (k + 1) hk
  unfold okAt at this
  rw [hx] at this
  have h2 := (Bool.and_eq_true _ _ ▸ this).2
  simp only [hp] at h2
  exact h2
theorem rising_of_next {L : List EMessage} (h : ∀ k p x, L[k]? = some p → L[k + 1]? = some x → sl p.t x.t = true) : Rising L := by
  intro i j
  induction j with
  | zero => intro p q _ _ hij; omega
  | succ j ih =>
    intro p q hp hq hij
    have hj : j < L.length := by have := (List.getElem?_eq_some_iff.1 hq).1; omega
    have hm := List.getElem?_eq_getElem hj
    have hn := h j _ q hm hq
    rcases Nat.lt_or_ge i j with hlt | hge
    · exact sl_trans (ih p _ hp hm hlt) hn
    · obtain rfl : i = j := by omega
      rw [hm] at hp
      injection hp with hp
      rw [← hp]; exact hn
theorem kept_rising {L : List EMessage} (h : keptB L = true) : Rising L := rising_of_next fun _ _ _ hp hx => kept_next h hp hx
theorem okAt_zero {L : List EMessage} {x : EMessage} (hx : L[0]? = some x) : okAt L 0 = (msgB x && !noneB x) := by
  unfold okAt; rw [hx]; simp
theorem okAt_succ {L : List EMessage} {k : Nat} {p x : EMessage} (hp : L[k]? = some p) (hx : L[k + 1]? = some x) : okAt L (k + 1) = (msgB x && !noneB x && sl p.t x.t) := by
  unfold okAt; rw [hx]; simp [hp]
theorem okAt_msg {L : List EMessage} {k : Nat} {x : EMessage} (hx : L[k]? = some x) (h : msgB x = false) : okAt L k = false := by
  unfold okAt; rw [hx]; simp [h]
theorem okAt_none {L : List EMessage} {k : Nat} {x : EMessage} (hx : L[k]? = some x) (h : noneB x = true) : okAt L k = false := by
  unfold okAt; rw [hx]; simp [h]
theorem filtV (f : ByteArray) (w : World) (hf : f.size < 1000000) (hE : Env w) :
    Calls Tryd.prog 54 #[.string f] w fun e w' => e = .returned (errN (filtB f.data.toList)) ∧ Below w.heap.size w w' := by
  have := filter_any f.data.toList w (by rw [← Lib.size_eq]; exact hf) hE.1 hE.2
  rw [Lib.mk_data] at this
  exact this
/-- A message in a block. -/
structure MxAt (W : World) (q : Nat) (x : EMessage) : Prop where
  c0 : W.cell? ⟨q, 0, none⟩ = some (.string x.t)
  c1 : W.cell? ⟨q, 1, none⟩ = some (.string x.p)
  c2 : W.cell? ⟨q, 2, none⟩ = some (.int .i64 x.q)
  c3 : W.cell? ⟨q, 3, none⟩ = some (.bool x.r)
  lt : q < W.heap.size
theorem MxAt.below {W W' : World} {q : Nat} {x : EMessage} (h : MxAt W q x) (hb : Below W.heap.size W W') : MxAt W' q x :=
  ⟨(hb.cell (p := ⟨q, 0, none⟩) h.lt).trans h.c0, (hb.cell (p := ⟨q, 1, none⟩) h.lt).trans h.c1, (hb.cell (p := ⟨q, 2, none⟩) h.lt).trans h.c2, (hb.cell (p := ⟨q, 3, none⟩) h.lt).trans h.c3, Nat.lt_of_lt_of_le h.lt hb.size⟩
set_option maxRecDepth 100000 in
set_option maxHeartbeats 2000000 in
theorem valid_any (x : EMessage) (w : World) (hf : x.t.size < 1000000) (hE : Env w) :
    Calls Tryd.prog 52 #[.agg #[.string x.t, .string x.p, .int .i64 x.q, .bool x.r]] w fun e w' => e = .returned (.bool (msgB x)) ∧ Below w.heap.size w w' := by
  have CF := Lib.hid (fun W (hb : Below w.heap.size w W) => name_any x.t W (by omega) (hE.below hb).1)
  unfold msgB
  cases hX : nameB x.t.data.toList with
  | false =>
    have C1 := Lib.hid (show ∀ W (hb : Below w.heap.size w W), Calls Tryd.prog 47 #[.string x.t] W fun e w' => e = .returned (.int .i64 1) ∧ Below W.heap.size W w' from fun W hb => by have := CF.out W hb; rw [hX] at this; exact this)
    clear CF hX
    go_enter Tryd.func52, Tryd.ntmps52
    go_wp2_with fail
    refine calls_gen (fun W => Below w.heap.size w W) ((Below.refl _ _).alloc (Nat.le_refl _) _) ?_
    intro W1 hb1
    (with_reducible refine (C1.out W1 hb1).mono ?_)
    rintro e W2 ⟨rfl, hb2⟩
    go_wp2
    go_ret
    exact ⟨rfl, hb1.trans (hb2.mono hb1.size)⟩
  | true =>
    have C1 := Lib.hid (show ∀ W (hb : Below w.heap.size w W), Calls Tryd.prog 47 #[.string x.t] W fun e w' => e = .returned (.int .i64 0) ∧ Below W.heap.size W w' from fun W hb => by have := CF.out W hb; rw [hX] at this; exact this)
    clear CF hX
    rw [Bool.true_and]
    obtain ⟨ANS, hANS⟩ : ∃ ANS, (decide (x.p.size ≤ 128) && (decide (0 ≤ x.q) && (decide (x.q ≤ 2) && x.r))) = ANS := ⟨_, rfl⟩
    rw [hANS]
    have HANS := Lib.hid hANS
    clear hANS
    go_enter Tryd.func52, Tryd.ntmps52
    go_wp2_with fail
    refine calls_gen (fun W => Below w.heap.size w W ∧ MxAt W w.heap.size x) ⟨(Below.refl _ _).alloc (Nat.le_refl _) _, by simp [go_sem], by simp [go_sem], by simp [go_sem], by simp [go_sem], by simp⟩ ?_
    rintro W1 ⟨hb1, hx1⟩
    (with_reducible refine (C1.out W1 hb1).mono ?_)
    rintro e W2 ⟨rfl, hb2⟩
    obtain ⟨d0, d1, d2, d3, -⟩ := hx1.below hb2
    have HB := Lib.hid (hb1.trans (hb2.mono hb1.size))
    clear hb1 hb2 hx1
    by_cases h1 : x.p.size ≤ 128
    · have h1z : (x.p.size : Int) ≤ 128 := by omega
      by_cases h2 : 0 ≤ x.q
      · by_cases h3 : x.q ≤ 2
        · go_wp2
          go_ret
          exact ⟨by rw [← HANS.out]; first | (simp [h1, h2, h3]; done) | (simp; omega), HB.out⟩
        · go_wp2
          go_ret
          exact ⟨by rw [← HANS.out]; first | rfl | (simp [*]; done) | (simp; omega), HB.out⟩
      · go_wp2
        go_ret
        exact ⟨by rw [← HANS.out]; first | rfl | (simp [*]; done) | (simp; omega), HB.out⟩
    · have h1z : ¬ (x.p.size : Int) ≤ 128 := by omega
      go_wp2
      go_ret
      exact ⟨by rw [← HANS.out]; first | rfl | (simp [*]; done) | (simp; omega), HB.out⟩
end Go.Proofs.YtoibdhncfdjdoaaDoor
