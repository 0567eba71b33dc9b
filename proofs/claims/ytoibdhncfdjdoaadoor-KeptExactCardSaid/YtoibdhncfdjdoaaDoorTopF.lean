/-
  Topics: the program's Match.
-/
import Derived.Test.YtoibdhncfdjdoaaDoorTopE
namespace Go.Proofs.YtoibdhncfdjdoaaDoor
open Go.RowKit Go.Shelf Go.Lib
/-- A name that begins with "$", a filter that begins with a sign for any. -/
def doll (f t : Bs) : Bool := (t.head? == some 36) && (f.head? == some 43 || f.head? == some 35)
def matchB (f t : Bs) : Bool := filtB f && nameB t && !doll f t && mOk (levels f) (levels t)
theorem textB_ne {l : Bs} (h : textB l = true) : ∃ a t, l = a :: t ∧ l.length ≤ 64 := by
  unfold textB at h
  rw [Bool.and_eq_true, Bool.and_eq_true] at h
  obtain ⟨h1, h2, -⟩ := h
  have h1 := of_decide_eq_true h1
  have h2 := of_decide_eq_true h2
  cases l with
  | nil => simp at h1
  | cons a t => exact ⟨a, t, rfl, h2⟩
set_option maxHeartbeats 4000000 in
set_option maxRecDepth 100000 in
theorem match_any (f t : Bs) (w : World) (hf : f.length < 1000000) (ht : t.length < 1000000) (hT : Tabs w) (hM : Mx w) :
    Calls Tryd.prog 48 #[.string ⟨f.toArray⟩, .string ⟨t.toArray⟩] w fun e w' => e = .returned (.tuple #[.bool (matchB f t), errN (filtB f && nameB t)]) ∧ Below w.heap.size w w' := by
  have C1 := Lib.hid (filter_any f w hf hT hM)
  have C2 := Lib.hid (fun W (hb : Below w.heap.size w W) => (show Calls Tryd.prog 47 #[.string ⟨t.toArray⟩] W fun e w' => e = .returned (errN (nameB t)) ∧ Below W.heap.size W w' from name_any ⟨t.toArray⟩ W (by show t.length < _; omega) (hT.below hb)))
  have C3 := Lib.hid (fun W (hb : Below w.heap.size w W) => matches_any f t W hf ht (hM.below hb))
  unfold matchB
  cases hX : filtB f with
  | false =>
    rw [hX] at C1
    clear hX
    have C1 := Lib.hid (show Calls Tryd.prog 54 #[.string ⟨f.toArray⟩] w fun e w' => e = .returned (.int .i64 1) ∧ Below w.heap.size w w' from C1.out)
    go_enter Tryd.func48, Tryd.ntmps48
    go_wp2_with (first | ((with_reducible refine C1.out.mono ?_); rintro e' w1 ⟨rfl, hb1⟩))
    go_ret2
    exact ⟨rfl, hb1⟩
  | true =>
    rw [hX] at C1
    have C1 := Lib.hid (show Calls Tryd.prog 54 #[.string ⟨f.toArray⟩] w fun e w' => e = .returned (.int .i64 0) ∧ Below w.heap.size w w' from C1.out)
    cases hY : nameB t with
    | false =>
      rw [hY] at C2
      clear hX hY
      have C2 := Lib.hid (show ∀ W (hb : Below w.heap.size w W), Calls Tryd.prog 47 #[.string ⟨t.toArray⟩] W fun e w' => e = .returned (.int .i64 1) ∧ Below W.heap.size W w' from C2.out)
      go_enter Tryd.func48, Tryd.ntmps48
      go_wp2_with (first | ((with_reducible refine C1.out.mono ?_); rintro e' w1 ⟨rfl, hb1⟩) | ((with_reducible refine (C2.out _ (by assumption)).mono ?_); rintro e' w2 ⟨rfl, hb2⟩))
      go_ret2
      exact ⟨rfl, hb1.trans (hb2.mono hb1.size)⟩
    | true =>
      rw [hY] at C2
      have C2 := Lib.hid (show ∀ W (hb : Below w.heap.size w W), Calls Tryd.prog 47 #[.string ⟨t.toArray⟩] W fun e w' => e = .returned (.int .i64 0) ∧ Below W.heap.size W w' from C2.out)
      obtain ⟨a, f', rfl, -⟩ := textB_ne (by unfold filtB at hX; exact (Bool.and_eq_true _ _ ▸ hX).1)
      obtain ⟨b, t', rfl, -⟩ := textB_ne (by unfold nameB at hY; exact (Bool.and_eq_true _ _ ▸ hY).1)
      clear hX hY
      have hb0 : ∀ h, (⟨(b :: t').toArray⟩ : ByteArray)[0]'h = b := fun _ => rfl
      have ha0 : ((⟨(a :: f').toArray⟩ : ByteArray).extract 0 1).toList = [a] := by rw [Lib.toList_data]; simp
      by_cases hd : b = 36
      · subst hd
        have hdi : (((36 : UInt8).toNat : Nat) : Int) = 36 := rfl
        by_cases h3 : a = 43
        · subst h3
          have hD : doll (43 :: f') (36 :: t') = true := rfl
          go_enter Tryd.func48, Tryd.ntmps48
          go_wp2_with (first | ((with_reducible refine C1.out.mono ?_); rintro e' w1 ⟨rfl, hb1⟩) | ((with_reducible refine (C2.out _ (by assumption)).mono ?_); rintro e' w2 ⟨rfl, hb2⟩) | ((with_reducible refine (C3.out _ (hb1.trans (hb2.mono hb1.size))).mono ?_); rintro e' w3 ⟨rfl, hb3⟩))
          go_ret2
          exact ⟨by rw [hD]; rfl, hb1.trans (hb2.mono hb1.size)⟩
        · by_cases h5 : a = 35
          · subst h5
            have hD : doll (35 :: f') (36 :: t') = true := rfl
            go_enter Tryd.func48, Tryd.ntmps48
            go_wp2_with (first | ((with_reducible refine C1.out.mono ?_); rintro e' w1 ⟨rfl, hb1⟩) | ((with_reducible refine (C2.out _ (by assumption)).mono ?_); rintro e' w2 ⟨rfl, hb2⟩) | ((with_reducible refine (C3.out _ (hb1.trans (hb2.mono hb1.size))).mono ?_); rintro e' w3 ⟨rfl, hb3⟩))
            go_ret2
            exact ⟨by rw [hD]; rfl, hb1.trans (hb2.mono hb1.size)⟩
          · have hD : doll (a :: f') (36 :: t') = false := by
              unfold doll
              simp [h3, h5]
            have q3 : (a == 43) = false := beq_eq_false_iff_ne.2 h3
            have q5 : (a == 35) = false := beq_eq_false_iff_ne.2 h5
            have p3 : ([a] == [43]) = false := by simp [h3]
            have p5 : ([a] == [35]) = false := by simp [h5]
            go_enter Tryd.func48, Tryd.ntmps48
            go_wp2_with (first | ((with_reducible refine C1.out.mono ?_); rintro e' w1 ⟨rfl, hb1⟩) | ((with_reducible refine (C2.out _ (by assumption)).mono ?_); rintro e' w2 ⟨rfl, hb2⟩) | ((with_reducible refine (C3.out _ (hb1.trans (hb2.mono hb1.size))).mono ?_); rintro e' w3 ⟨rfl, hb3⟩))
            go_ret2
            exact ⟨by rw [hD]; rfl, (hb1.trans (hb2.mono hb1.size)).trans (hb3.mono (Nat.le_trans hb1.size hb2.size))⟩
      · have hdi : ¬ ((b.toNat : Nat) : Int) = 36 := fun h => hd (UInt8.toNat_inj.1 (by show b.toNat = 36; omega))
        have hD : doll (a :: f') (b :: t') = false := by
          unfold doll
          simp [hd]
        go_enter Tryd.func48, Tryd.ntmps48
        go_wp2_with (first | ((with_reducible refine C1.out.mono ?_); rintro e' w1 ⟨rfl, hb1⟩) | ((with_reducible refine (C2.out _ (by assumption)).mono ?_); rintro e' w2 ⟨rfl, hb2⟩) | ((with_reducible refine (C3.out _ (hb1.trans (hb2.mono hb1.size))).mono ?_); rintro e' w3 ⟨rfl, hb3⟩))
        go_ret2
        exact ⟨by rw [hD]; rfl, (hb1.trans (hb2.mono hb1.size)).trans (hb3.mono (Nat.le_trans hb1.size hb2.size))⟩
end Go.Proofs.YtoibdhncfdjdoaaDoor
