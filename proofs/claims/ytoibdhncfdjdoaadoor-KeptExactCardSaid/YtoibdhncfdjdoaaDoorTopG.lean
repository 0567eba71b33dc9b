/-
  Topics: the page's own: texts, signs, levels.
-/
import Derived.Test.YtoibdhncfdjdoaaDoorTopF
import Derived.Laws.AppendOwn
namespace Go.Proofs.YtoibdhncfdjdoaaDoor
open Go.RowKit Go.Shelf Go.Lib
theorem drop_at {α : Type} [BEq α] {l : List α} {k : Nat} {x : α} (h : l[k]? = some x) : l.drop k = x :: l.drop (k + 1) := by
  have hk : k < l.length := by
    rcases Nat.lt_or_ge k l.length with h1 | h1
    · exact h1
    · rw [List.getElem?_eq_none h1] at h; exact absurd h (by simp)
  rw [List.drop_eq_getElem_cons hk]
  rw [List.getElem?_eq_getElem hk] at h
  rw [Option.some.inj h]
set_option maxHeartbeats 4000000 in
set_option maxRecDepth 100000 in
theorem text_any (s : ByteArray) (w : World) (hs : s.size < 1000000) (hT : Tabs w) :
    Calls Tryd.prog 44 #[.string s, .int .i64 1, .int .i64 64] w fun e w' => e = .returned (.bool (textB s.data.toList)) ∧ Below w.heap.size w w' := by
  have cV : Calls Tryd.prog 62 #[.string s] w _ := Any.utf8_ValidString Tryd.laysValid s w (by omega) hT
  unfold textB
  rw [← Lib.size_eq, contains_ix]
  generalize Lib.validD s.data.toList = V at cV ⊢
  have CV := Lib.hid cV
  clear cV
  by_cases h1 : 1 ≤ s.size
  · have h1z : ¬ (s.size : Int) < 1 := by omega
    rw [decide_eq_true h1, Bool.true_and]
    by_cases h2 : s.size ≤ 64
    · have h2z : ¬ (64 : Int) < (s.size : Int) := by omega
      rw [decide_eq_true h2, Bool.true_and]
      cases V with
      | true =>
        rw [Bool.true_and]
        obtain ⟨ANS, hANS⟩ : ∃ ANS, s.data.toList.contains 0 = ANS := ⟨_, rfl⟩
        rw [hANS]
        go_enter Tryd.func44, Tryd.ntmps44
        go_wp2_with (first | ((with_reducible refine CV.out.mono ?_); rintro e w1 ⟨rfl, hb⟩))
        clear h1 h1z h2 h2z
        go_loopw [7] (fun i wr => ∃ (k : Nat), k ≤ s.size ∧ i = .int .i64 k ∧ Below w.heap.size w wr ∧ (s.data.toList.drop k).contains 0 = ANS) (fun i _ => s.size - (RowKit.intOf i).toNat)
        case atStart => exact ⟨0, by omega, rfl, hb, hANS⟩
        case round =>
          obtain ⟨k, hk, rfl, hbw, hc⟩ := hrel
          have HB := Lib.hid hbw
          clear hbw hb
          clear hANS
          by_cases hlt : k < s.size
          · obtain ⟨x, hx⟩ : ∃ x : UInt8, s[k]'hlt = x := ⟨_, rfl⟩
            have hxl : s.data.toList[k]? = some x := by rw [← hx]; exact Lib.data_getElem? s k hlt
            rw [drop_at hxl, List.contains_cons] at hc
            clear hxl
            have hltz : (k : Int) < (s.size : Int) := by omega
            by_cases h0 : x = 0
            · subst h0
              have hANS : ANS = true := by rw [← hc]; rfl
              have HA := Lib.hid hANS
              clear hc hANS
              have hx0 : ((s[k]'hlt).toNat : Int) = 0 := by rw [hx]; rfl
              go_wp2
              go_ret
              exact ⟨by rw [HA.out]; rfl, HB.out⟩
            · have hx0 : ¬ ((s[k]'hlt).toNat : Int) = 0 := by
                rw [hx]; intro h; exact h0 (UInt8.toNat_inj.1 (by show x.toNat = 0; omega))
              have hc2 : (s.data.toList.drop (k + 1)).contains 0 = ANS := by
                rw [← hc]
                have : ((0 : UInt8) == x) = false := beq_eq_false_iff_ne.2 (fun h => h0 h.symm)
                rw [this, Bool.false_or]
              have HC := Lib.hid hc2
              clear hc hc2 h0 hx
              go_wp2
              go_roundw
              case rel => exact ⟨k + 1, by omega, by go_num, HB.out, HC.out⟩
              case measure => simp [RowKit.intOf]; omega
          · obtain rfl : k = s.size := by omega
            have hANS : ANS = false := by
              rw [← hc, List.drop_eq_nil_of_le (by rw [← Lib.size_eq]; exact Nat.le_refl _)]; rfl
            have HA := Lib.hid hANS
            clear hc hANS
            go_wp2
            go_ret
            exact ⟨by rw [HA.out]; rfl, HB.out⟩
      | false =>
        go_enter Tryd.func44, Tryd.ntmps44
        go_wp2_with (first | ((with_reducible refine CV.out.mono ?_); rintro e w1 ⟨rfl, hb⟩))
        go_ret
        exact ⟨rfl, hb⟩
    · have h2z : (64 : Int) < (s.size : Int) := by omega
      rw [decide_eq_false h2, Bool.false_and]
      go_enter Tryd.func44, Tryd.ntmps44
      go_wp2
      go_ret
      exact ⟨rfl, Below.refl _ _⟩
  · have h1z : (s.size : Int) < 1 := by omega
    rw [decide_eq_false h1, Bool.false_and]
    go_enter Tryd.func44, Tryd.ntmps44
    go_wp2
    go_ret
    exact ⟨rfl, Below.refl _ _⟩
set_option maxHeartbeats 4000000 in
set_option maxRecDepth 100000 in
theorem has_any (s : ByteArray) (w : World) (hs : s.size < 1000000) :
    Calls Tryd.prog 45 #[.string s] w fun e w' => e = .returned (.bool (hasP s.data.toList)) ∧ w = w' := by
  obtain ⟨ANS, hANS⟩ : ∃ ANS, hasP s.data.toList = ANS := ⟨_, rfl⟩
  rw [hANS]
  go_enter Tryd.func45, Tryd.ntmps45
  go_wp2
  go_loopw [3] (fun i wr => ∃ (k : Nat), k ≤ s.size ∧ i = .int .i64 k ∧ w = wr ∧ hasP (s.data.toList.drop k) = ANS) (fun i _ => s.size - (RowKit.intOf i).toNat)
  case atStart => exact ⟨0, by omega, rfl, rfl, hANS⟩
  case round =>
    obtain ⟨k, hk, rfl, rfl, hc⟩ := hrel
    clear hANS
    by_cases hlt : k < s.size
    · obtain ⟨x, hx⟩ : ∃ x : UInt8, s[k]'hlt = x := ⟨_, rfl⟩
      have hxl : s.data.toList[k]? = some x := by rw [← hx]; exact Lib.data_getElem? s k hlt
      have hltz : (k : Int) < (s.size : Int) := by omega
      unfold hasP at hc
      rw [drop_at hxl, List.contains_cons, List.contains_cons] at hc
      clear hxl
      by_cases h3 : x = 43
      · subst h3
        have hANS : ANS = true := by rw [← hc]; rfl
        have HA := Lib.hid hANS
        clear hc hANS
        have hx0 : ((s[k]'hlt).toNat : Int) = 43 := by rw [hx]; rfl
        clear hx
        go_wp2
        go_ret
        exact ⟨by rw [HA.out]; rfl, rfl⟩
      · have hx3 : ¬ ((s[k]'hlt).toNat : Int) = 43 := by
          rw [hx]; intro h; exact h3 (UInt8.toNat_inj.1 (by show x.toNat = 43; omega))
        have q3 : ((43 : UInt8) == x) = false := beq_eq_false_iff_ne.2 (fun h => h3 h.symm)
        by_cases h5 : x = 35
        · subst h5
          have hANS : ANS = true := by rw [← hc]; simp
          have HA := Lib.hid hANS
          clear hc hANS
          have hx5 : ((s[k]'hlt).toNat : Int) = 35 := by rw [hx]; rfl
          clear hx
          go_wp2
          go_ret
          exact ⟨by rw [HA.out]; rfl, rfl⟩
        · have hx5 : ¬ ((s[k]'hlt).toNat : Int) = 35 := by
            rw [hx]; intro h; exact h5 (UInt8.toNat_inj.1 (by show x.toNat = 35; omega))
          have q5 : ((35 : UInt8) == x) = false := beq_eq_false_iff_ne.2 (fun h => h5 h.symm)
          have hc2 : hasP (s.data.toList.drop (k + 1)) = ANS := by
            rw [← hc, q3, q5]; rfl
          have HC := Lib.hid hc2
          have b3 : (((s[k]'hlt).toNat : Int) == 43) = false := beq_eq_false_iff_ne.2 hx3
          have b5 : (((s[k]'hlt).toNat : Int) == 35) = false := beq_eq_false_iff_ne.2 hx5
          clear hc hc2 h3 h5 hx q3 q5
          go_wp2
          go_roundw
          case rel => exact ⟨k + 1, by omega, by go_num, trivial, HC.out⟩
          case measure => simp [RowKit.intOf]; omega
    · obtain rfl : k = s.size := by omega
      have hANS : ANS = false := by
        rw [← hc, List.drop_eq_nil_of_le (by rw [← Lib.size_eq]; exact Nat.le_refl _)]; rfl
      have HA := Lib.hid hANS
      clear hc hANS
      go_wp2
      go_ret
      exact ⟨by rw [HA.out]; rfl, rfl⟩
set_option maxHeartbeats 1000000 in
set_option maxRecDepth 100000 in
theorem rname_any (s : ByteArray) (w : World) (hs : s.size < 1000000) (hT : Tabs w) :
    Calls Tryd.prog 17 #[.string s] w fun e w' => e = .returned (.bool (nameB s.data.toList)) ∧ Below w.heap.size w w' := by
  have C1 := Lib.hid (text_any s w hs hT)
  have C2 := Lib.hid (fun W => has_any s W hs)
  unfold nameB
  generalize hX : textB s.data.toList = X at C1 ⊢
  clear hX
  cases X with
  | false =>
    go_enter Tryd.func17, Tryd.ntmps17
    go_wp2_with (first | ((with_reducible refine C1.out.mono ?_); rintro e w1 ⟨rfl, hb⟩))
    go_ret
    exact ⟨rfl, hb⟩
  | true =>
    go_enter Tryd.func17, Tryd.ntmps17
    go_wp2_with (first | ((with_reducible refine C1.out.mono ?_); rintro e w1 ⟨rfl, hb⟩) | ((with_reducible refine (C2.out _).mono ?_); rintro e w2 ⟨rfl, rfl⟩))
    go_ret
    exact ⟨rfl, hb⟩
end Go.Proofs.YtoibdhncfdjdoaaDoor
