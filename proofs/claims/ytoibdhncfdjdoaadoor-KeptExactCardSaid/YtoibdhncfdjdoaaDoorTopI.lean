/-
  Topics: the page's own Filter and Match.
-/
import Derived.Test.YtoibdhncfdjdoaaDoorTopH
namespace Go.Proofs.YtoibdhncfdjdoaaDoor
open Go.RowKit Go.Shelf Go.Lib
theorem levels_len : ∀ l : Bs, (levels l).length ≤ l.length + 1
  | [] => by simp [levels]
  | b :: l => by
    have ih := levels_len l
    by_cases h : b = 47
    · rw [levels, if_pos h]; simp; omega
    · have e : levels (b :: l) = glue [b] (levels l) := by
        rw [levels, if_neg h]
        cases levels l <;> rfl
      rw [e]
      cases hl : levels l with
      | nil => simp [glue]
      | cons a t => rw [hl] at ih; simp [glue] at ih ⊢; omega
theorem levels_mem : ∀ (l : Bs), ∀ x ∈ levels l, x.length ≤ l.length
  | [] => by simp [levels]
  | b :: l => by
    have ih := levels_mem l
    by_cases h : b = 47
    · rw [levels, if_pos h]
      intro x hx
      rcases List.mem_cons.1 hx with rfl | hx
      · simp
      · have := ih x hx
        rw [List.length_cons]; omega
    · have e : levels (b :: l) = glue [b] (levels l) := by
        rw [levels, if_neg h]
        cases levels l <;> rfl
      rw [e]
      intro x hx
      cases hl : levels l with
      | nil => exact absurd hl (levels_ne l)
      | cons a t =>
        rw [hl] at ih hx
        rcases List.mem_cons.1 hx with rfl | hx
        · have := ih a (by simp)
          simp; omega
        · have := ih x (by simp [hx])
          rw [List.length_cons]; omega
set_option maxHeartbeats 4000000 in
set_option maxRecDepth 100000 in
theorem rfilter_any (s : ByteArray) (w : World) (hs : s.size < 1000000) (hT : Tabs w) :
    Calls Tryd.prog 31 #[.string s] w fun e w' => e = .returned (.bool (filtB s.data.toList)) ∧ Below w.heap.size w w' := by
  have C1 := Lib.hid (text_any s w hs hT)
  have C2 := Lib.hid (fun W => levels_any s W hs)
  unfold filtB
  have hll := levels_len s.data.toList
  have hmem := levels_mem s.data.toList
  rw [← Lib.size_eq] at hll hmem
  obtain ⟨L, hL⟩ : ∃ L, levels s.data.toList = L := ⟨_, rfl⟩
  rw [hL] at C2 hll hmem ⊢
  clear hL
  have HME := Lib.hid hmem
  clear hmem
  generalize hX : textB s.data.toList = X at C1 ⊢
  clear hX
  cases X with
  | false =>
    go_enter Tryd.func31, Tryd.ntmps31
    go_wp2_with (first | ((with_reducible refine C1.out.mono ?_); rintro e w1 ⟨rfl, hb⟩))
    go_ret
    exact ⟨rfl, hb⟩
  | true =>
    obtain ⟨ANS, hANS⟩ : ∃ ANS, fOk L = ANS := ⟨_, rfl⟩
    rw [hANS]
    go_enter Tryd.func31, Tryd.ntmps31
    go_wp2_with (first | ((with_reducible refine C1.out.mono ?_); rintro e w1 ⟨rfl, hb1⟩) | ((with_reducible refine (C2.out _).mono ?_); rintro e w2 ⟨v, rfl, hb2, hat⟩))
    have HB := Lib.hid (hb1.trans (hb2.mono hb1.size))
    clear hb1 hb2 C1 C2
    obtain ⟨g, cap, rfl, hg, hle, hcap, hcell⟩ := hat
    have HC := Lib.hid hcell
    clear hcell
    go_loopw [4] (fun i wr => ∃ (k : Nat), k ≤ L.length ∧ i = .int .i64 k ∧ w2 = wr ∧ fOk (L.drop k) = ANS) (fun i _ => L.length - (RowKit.intOf i).toNat)
    case atStart => exact ⟨0, by omega, rfl, rfl, hANS⟩
    case round =>
      obtain ⟨k, hk, rfl, rfl, hc⟩ := hrel
      clear hANS
      by_cases hlt : k < L.length
      · have hltz : (k : Int) < (L.length : Int) := by omega
        obtain ⟨x, hx⟩ : ∃ x, L[k]? = some x := ⟨L[k], List.getElem?_eq_getElem hlt⟩
        have hcx : w2.cell? ⟨g, k, none⟩ = some (.string ⟨x.toArray⟩) := HC.out k x hx
        rw [drop_at hx, fOk, lvOk_ref] at hc
        have hmo : (!(L.drop (k + 1)).isEmpty) = decide (k + 1 < L.length) := by
          by_cases h : k + 1 < L.length
          · rw [decide_eq_true h, List.drop_eq_getElem_cons h]; rfl
          · rw [decide_eq_false h, List.drop_eq_nil_of_le (by omega)]; rfl
        rw [hmo] at hc
        have hm : (!(hasP x && (!(x == [43]) && (!(x == [35]) || decide (k + 1 < L.length)))) && fOk (L.drop (k + 1))) = ANS := by
          rw [← hc, eqBs, eqBs]
          simp only [decide_not]
        have CH := Lib.hid (fun W => (show Calls Tryd.prog 45 #[.string ⟨x.toArray⟩] W fun e w' => e = .returned (.bool (hasP x)) ∧ W = w' from has_any ⟨x.toArray⟩ W (by
          show x.length < _
          have := HME.out x (List.mem_of_getElem? hx)
          omega)))
        clear hc hmo hx
        generalize hasP x = HH at hm CH
        generalize hE1 : (x == [43]) = E1 at hm
        generalize hE2 : (x == [35]) = E2 at hm
        generalize hM : decide (k + 1 < L.length) = M at hm
        cases HH with
        | false =>
          have HMM := Lib.hid (show fOk (L.drop (k + 1)) = ANS from hm)
          clear hm
          go_wp2_with (first | ((with_reducible refine (CH.out _).mono ?_); rintro e' w2 ⟨rfl, rfl⟩))
          go_roundw
          case rel => exact ⟨k + 1, by omega, by go_num, trivial, HMM.out⟩
          case measure => simp [RowKit.intOf]; omega
        | true =>
          cases E1 with
          | true =>
            have HMM := Lib.hid (show fOk (L.drop (k + 1)) = ANS from hm)
            clear hm
            go_wp2_with (first | ((with_reducible refine (CH.out _).mono ?_); rintro e' w2 ⟨rfl, rfl⟩))
            go_roundw
            case rel => exact ⟨k + 1, by omega, by go_num, trivial, HMM.out⟩
            case measure => simp [RowKit.intOf]; omega
          | false =>
            cases E2 with
            | false =>
              have HMM := Lib.hid (show false = ANS from hm)
              clear hm
              go_wp2_with (first | ((with_reducible refine (CH.out _).mono ?_); rintro e' w2 ⟨rfl, rfl⟩))
              go_ret
              exact ⟨by rw [← HMM.out]; rfl, HB.out⟩
            | true =>
              cases M with
              | true =>
                have HMM := Lib.hid (show false = ANS from hm)
                clear hm
                have hMz : (k : Int) < (L.length : Int) - 1 := by have := of_decide_eq_true hM; omega
                clear hM
                go_wp2_with (first | ((with_reducible refine (CH.out _).mono ?_); rintro e' w2 ⟨rfl, rfl⟩))
                go_ret
                exact ⟨by rw [← HMM.out]; rfl, HB.out⟩
              | false =>
                have HMM := Lib.hid (show fOk (L.drop (k + 1)) = ANS from hm)
                clear hm
                have hMz : ¬ (k : Int) < (L.length : Int) - 1 := by have := of_decide_eq_false hM; omega
                clear hM
                go_wp2_with (first | ((with_reducible refine (CH.out _).mono ?_); rintro e' w2 ⟨rfl, rfl⟩))
                go_roundw
                case rel => exact ⟨k + 1, by omega, by go_num, trivial, HMM.out⟩
                case measure => simp [RowKit.intOf]; omega
      · obtain rfl : k = L.length := by omega
        have hA : ANS = true := by
          rw [← hc, List.drop_eq_nil_of_le (Nat.le_refl _)]; rfl
        have HA := Lib.hid hA
        clear hA hc
        go_wp2
        go_ret
        exact ⟨by rw [HA.out]; rfl, HB.out⟩
theorem doll_eq (a b : UInt8) (f t : Bs) : doll (a :: f) (b :: t) = (b == 36 && (a == 43 || a == 35)) := by
  unfold doll; rfl
set_option maxHeartbeats 4000000 in
set_option maxRecDepth 100000 in
theorem rmatch_doll (a b : UInt8) (f t : Bs) (w : World) (hD : doll (a :: f) (b :: t) = true) :
    Calls Tryd.prog 46 #[.string ⟨(a :: f).toArray⟩, .string ⟨(b :: t).toArray⟩] w fun e w' => e = .returned (.bool false) ∧ Below w.heap.size w w' := by
  rw [doll_eq, Bool.and_eq_true, Bool.or_eq_true] at hD
  obtain ⟨hb, ha⟩ := hD
  have hb := eq_of_beq hb
  subst hb
  have hdi : (((36 : UInt8).toNat : Nat) : Int) = 36 := rfl
  have hb0 : ∀ h, (⟨(36 :: t).toArray⟩ : ByteArray)[0]'h = 36 := fun _ => rfl
  have ha0 : ∀ h, (⟨(a :: f).toArray⟩ : ByteArray)[0]'h = a := fun _ => rfl
  rcases ha with ha | ha
  · have ha := eq_of_beq ha
    subst ha
    have hai : (((43 : UInt8).toNat : Nat) : Int) = 43 := rfl
    go_enter Tryd.func46, Tryd.ntmps46
    go_wp2
    go_ret
    exact ⟨rfl, Below.refl _ _⟩
  · have ha := eq_of_beq ha
    subst ha
    have hai : (((35 : UInt8).toNat : Nat) : Int) = 35 := rfl
    go_enter Tryd.func46, Tryd.ntmps46
    go_wp2
    go_ret
    exact ⟨rfl, Below.refl _ _⟩
set_option maxHeartbeats 4000000 in
set_option maxRecDepth 100000 in
theorem rmatch_any (a b : UInt8) (f t : Bs) (w : World) (hf : (a :: f).length < 1000000) (ht : (b :: t).length < 1000000) (hD : doll (a :: f) (b :: t) = false) :
    Calls Tryd.prog 46 #[.string ⟨(a :: f).toArray⟩, .string ⟨(b :: t).toArray⟩] w fun e w' => e = .returned (.bool (mOk (levels (a :: f)) (levels (b :: t)))) ∧ Below w.heap.size w w' := by
  have C1 := Lib.hid (fun W => (show Calls Tryd.prog 53 #[.string ⟨(a :: f).toArray⟩] W fun e w' => ∃ v, e = .returned v ∧ Below W.heap.size W w' ∧ LvAt w' v (levels (a :: f)) from levels_any ⟨(a :: f).toArray⟩ W hf))
  have C2 := Lib.hid (fun W => (show Calls Tryd.prog 53 #[.string ⟨(b :: t).toArray⟩] W fun e w' => ∃ v, e = .returned v ∧ Below W.heap.size W w' ∧ LvAt w' v (levels (b :: t)) from levels_any ⟨(b :: t).toArray⟩ W ht))
  have hl1 := levels_len (a :: f)
  have hl2 := levels_len (b :: t)
  generalize levels (a :: f) = L at C1 hl1 ⊢
  generalize levels (b :: t) = T at C2 hl2 ⊢
  obtain ⟨ANS, hANS⟩ : ∃ ANS, mOk L T = ANS := ⟨_, rfl⟩
  rw [hANS]
  rw [doll_eq] at hD
  have hb0 : ∀ h, (⟨(b :: t).toArray⟩ : ByteArray)[0]'h = b := fun _ => rfl
  have ha0 : ∀ h, (⟨(a :: f).toArray⟩ : ByteArray)[0]'h = a := fun _ => rfl
  have hq : (b = 36 ∧ ¬ a = 43 ∧ ¬ a = 35) ∨ ¬ b = 36 := by
    by_cases h : b = 36
    · subst h
      left
      have h2 : (a == 43 || a == 35) = false := by simpa using hD
      rw [Bool.or_eq_false_iff] at h2
      exact ⟨rfl, beq_eq_false_iff_ne.1 h2.1, beq_eq_false_iff_ne.1 h2.2⟩
    · exact .inr h
  rcases hq with ⟨rfl, h3, h5⟩ | hd
  · have hdi : (((36 : UInt8).toNat : Nat) : Int) = 36 := rfl
    have h3i : ¬ ((a.toNat : Nat) : Int) = 43 := fun h => h3 (UInt8.toNat_inj.1 (by show a.toNat = 43; omega))
    have h5i : ¬ ((a.toNat : Nat) : Int) = 35 := fun h => h5 (UInt8.toNat_inj.1 (by show a.toNat = 35; omega))
    have h3b : (((a.toNat : Nat) : Int) == 43) = false := beq_eq_false_iff_ne.2 h3i
    have h5b : (((a.toNat : Nat) : Int) == 35) = false := beq_eq_false_iff_ne.2 h5i
    clear h3 h5 hD
    go_enter Tryd.func46, Tryd.ntmps46
    go_wp2_with (first | ((with_reducible refine (C1.out _).mono ?_); rintro e w1 ⟨v1, rfl, hb1, hat1⟩) | ((with_reducible refine (C2.out _).mono ?_); rintro e w2 ⟨v2, rfl, hb2, hat2⟩))
    have HB0 := Lib.hid (hb1.trans (hb2.mono hb1.size))
    have hat1' := hat1.below hb2
    clear hb1 hb2 C1 C2 hat1
    obtain ⟨g1, cap1, rfl, hg1, hle1, hcap1, hcell1⟩ := hat1'
    obtain ⟨g2, cap2, rfl, hg2, hle2, hcap2, hcell2⟩ := hat2
    have HC1 := Lib.hid hcell1
    have HC2 := Lib.hid hcell2
    clear hcell1 hcell2
    go_loopw [7] (fun i wr => ∃ (k : Nat), k ≤ L.length ∧ k ≤ T.length ∧ i = .int .i64 k ∧ Below w2.heap.size w2 wr ∧ mOk (L.drop k) (T.drop k) = ANS) (fun i _ => L.length - (RowKit.intOf i).toNat)
    case atStart => exact ⟨0, by omega, by omega, rfl, Below.refl _ _, hANS⟩
    case round =>
      obtain ⟨k, hk, hkT, rfl, hbw, hc⟩ := hrel
      have HB := Lib.hid hbw
      clear hANS hbw
      by_cases hlt : k < L.length
      · have hltz : (k : Int) < (L.length : Int) := by omega
        obtain ⟨x, hx⟩ : ∃ x, L[k]? = some x := ⟨L[k], List.getElem?_eq_getElem hlt⟩
        have hcx : wr.cell? ⟨g1, k, none⟩ = some (.string ⟨x.toArray⟩) := (HB.out.cell (p := ⟨g1, k, none⟩) hg1).trans (HC1.out k x hx)
        rw [drop_at hx] at hc
        clear hx
        by_cases h35 : x = [35]
        · rw [mOk_hash _ _ _ h35] at hc
          have q35 : (x == [35]) = true := beq_iff_eq.2 h35
          have HMM := Lib.hid hc
          clear hc h35
          go_wp2
          go_ret
          exact ⟨by rw [← HMM.out]; rfl, HB0.out.trans (HB.out.mono HB0.out.size)⟩
        · have q35 : (x == [35]) = false := beq_eq_false_iff_ne.2 h35
          by_cases hT : k < T.length
          · have hTz : ¬ ((T.length : Int) ≤ (k : Int)) := by omega
            have hTb : decide (T.length ≤ k) = false := decide_eq_false (by omega)
            obtain ⟨y, hy⟩ : ∃ y, T[k]? = some y := ⟨T[k], List.getElem?_eq_getElem hT⟩
            have hcy : wr.cell? ⟨g2, k, none⟩ = some (.string ⟨y.toArray⟩) := (HB.out.cell (p := ⟨g2, k, none⟩) hg2).trans (HC2.out k y hy)
            rw [drop_at hy, mOk_cons _ _ _ _ h35] at hc
            clear hy h35
            by_cases h43 : x = [43]
            · rw [if_neg (fun h => h.1 h43)] at hc
              have q43 : (x == [43]) = true := beq_iff_eq.2 h43
              have HMM := Lib.hid hc
              clear hc h43
              go_wp2_with (fail)
              go_region
              go_wp2
              go_roundw
              case rel => exact ⟨k + 1, by omega, by omega, by go_num, HB.out.drew, HMM.out⟩
              case measure => simp [RowKit.intOf]; omega
            · have q43 : (x == [43]) = false := beq_eq_false_iff_ne.2 h43
              by_cases hxy : x = y
              · rw [if_neg (fun h => h.2 hxy)] at hc
                have qxy : (x == y) = true := beq_iff_eq.2 hxy
                have HMM := Lib.hid hc
                clear hc h43 hxy
                go_wp2_with (fail)
                go_region
                go_wp2
                go_roundw
                case rel => exact ⟨k + 1, by omega, by omega, by go_num, HB.out.drew, HMM.out⟩
                case measure => simp [RowKit.intOf]; omega
              · rw [if_pos ⟨h43, hxy⟩] at hc
                have qxy : (x == y) = false := beq_eq_false_iff_ne.2 hxy
                have HMM := Lib.hid hc
                clear hc h43 hxy
                go_wp2_with (fail)
                go_region
                go_wp2
                go_ret
                exact ⟨by rw [← HMM.out]; rfl, HB0.out.trans ((HB.out.drew).mono HB0.out.size)⟩
          · have hTz : (T.length : Int) ≤ (k : Int) := by omega
            have hTb : decide (T.length ≤ k) = true := decide_eq_true (by omega)
            rw [show List.drop k T = [] from List.drop_eq_nil_of_le (by omega), mOk_none _ _ h35] at hc
            have HMM := Lib.hid hc
            clear hc h35
            go_wp2_with (fail)
            go_region
            go_wp2
            go_ret
            exact ⟨by rw [← HMM.out]; rfl, HB0.out.trans ((HB.out.drew).mono HB0.out.size)⟩
      · obtain rfl : k = L.length := by omega
        rw [List.drop_eq_nil_of_le (Nat.le_refl _)] at hc
        have hA : ANS = ((L.length : Int) == (T.length : Int)) := by
          rw [← hc]
          by_cases h : L.length = T.length
          · rw [h, List.drop_eq_nil_of_le (Nat.le_refl _)]; simp [mOk]
          · have h1 : L.length < T.length := by omega
            rw [List.drop_eq_getElem_cons h1]
            have h2 : ((L.length : Int) == (T.length : Int)) = false := beq_eq_false_iff_ne.2 (by omega)
            rw [h2]; rfl
        have HA := Lib.hid hA
        clear hA hc
        go_wp2
        go_ret
        exact ⟨by rw [HA.out]; rfl, HB0.out.trans (HB.out.mono HB0.out.size)⟩
  · have hdi : ¬ ((b.toNat : Nat) : Int) = 36 := fun h => hd (UInt8.toNat_inj.1 (by show b.toNat = 36; omega))
    clear hd hD
    go_enter Tryd.func46, Tryd.ntmps46
    go_wp2_with (first | ((with_reducible refine (C1.out _).mono ?_); rintro e w1 ⟨v1, rfl, hb1, hat1⟩) | ((with_reducible refine (C2.out _).mono ?_); rintro e w2 ⟨v2, rfl, hb2, hat2⟩))
    have HB0 := Lib.hid (hb1.trans (hb2.mono hb1.size))
    have hat1' := hat1.below hb2
    clear hb1 hb2 C1 C2 hat1
    obtain ⟨g1, cap1, rfl, hg1, hle1, hcap1, hcell1⟩ := hat1'
    obtain ⟨g2, cap2, rfl, hg2, hle2, hcap2, hcell2⟩ := hat2
    have HC1 := Lib.hid hcell1
    have HC2 := Lib.hid hcell2
    clear hcell1 hcell2
    go_loopw [7] (fun i wr => ∃ (k : Nat), k ≤ L.length ∧ k ≤ T.length ∧ i = .int .i64 k ∧ Below w2.heap.size w2 wr ∧ mOk (L.drop k) (T.drop k) = ANS) (fun i _ => L.length - (RowKit.intOf i).toNat)
    case atStart => exact ⟨0, by omega, by omega, rfl, Below.refl _ _, hANS⟩
    case round =>
      obtain ⟨k, hk, hkT, rfl, hbw, hc⟩ := hrel
      have HB := Lib.hid hbw
      clear hANS hbw
      by_cases hlt : k < L.length
      · have hltz : (k : Int) < (L.length : Int) := by omega
        obtain ⟨x, hx⟩ : ∃ x, L[k]? = some x := ⟨L[k], List.getElem?_eq_getElem hlt⟩
        have hcx : wr.cell? ⟨g1, k, none⟩ = some (.string ⟨x.toArray⟩) := (HB.out.cell (p := ⟨g1, k, none⟩) hg1).trans (HC1.out k x hx)
        rw [drop_at hx] at hc
        clear hx
        by_cases h35 : x = [35]
        · rw [mOk_hash _ _ _ h35] at hc
          have q35 : (x == [35]) = true := beq_iff_eq.2 h35
          have HMM := Lib.hid hc
          clear hc h35
          go_wp2
          go_ret
          exact ⟨by rw [← HMM.out]; rfl, HB0.out.trans (HB.out.mono HB0.out.size)⟩
        · have q35 : (x == [35]) = false := beq_eq_false_iff_ne.2 h35
          by_cases hT : k < T.length
          · have hTz : ¬ ((T.length : Int) ≤ (k : Int)) := by omega
            have hTb : decide (T.length ≤ k) = false := decide_eq_false (by omega)
            obtain ⟨y, hy⟩ : ∃ y, T[k]? = some y := ⟨T[k], List.getElem?_eq_getElem hT⟩
            have hcy : wr.cell? ⟨g2, k, none⟩ = some (.string ⟨y.toArray⟩) := (HB.out.cell (p := ⟨g2, k, none⟩) hg2).trans (HC2.out k y hy)
            rw [drop_at hy, mOk_cons _ _ _ _ h35] at hc
            clear hy h35
            by_cases h43 : x = [43]
            · rw [if_neg (fun h => h.1 h43)] at hc
              have q43 : (x == [43]) = true := beq_iff_eq.2 h43
              have HMM := Lib.hid hc
              clear hc h43
              go_wp2_with (fail)
              go_region
              go_wp2
              go_roundw
              case rel => exact ⟨k + 1, by omega, by omega, by go_num, HB.out.drew, HMM.out⟩
              case measure => simp [RowKit.intOf]; omega
            · have q43 : (x == [43]) = false := beq_eq_false_iff_ne.2 h43
              by_cases hxy : x = y
              · rw [if_neg (fun h => h.2 hxy)] at hc
                have qxy : (x == y) = true := beq_iff_eq.2 hxy
                have HMM := Lib.hid hc
                clear hc h43 hxy
                go_wp2_with (fail)
                go_region
                go_wp2
                go_roundw
                case rel => exact ⟨k + 1, by omega, by omega, by go_num, HB.out.drew, HMM.out⟩
                case measure => simp [RowKit.intOf]; omega
              · rw [if_pos ⟨h43, hxy⟩] at hc
                have qxy : (x == y) = false := beq_eq_false_iff_ne.2 hxy
                have HMM := Lib.hid hc
                clear hc h43 hxy
                go_wp2_with (fail)
                go_region
                go_wp2
                go_ret
                exact ⟨by rw [← HMM.out]; rfl, HB0.out.trans ((HB.out.drew).mono HB0.out.size)⟩
          · have hTz : (T.length : Int) ≤ (k : Int) := by omega
            have hTb : decide (T.length ≤ k) = true := decide_eq_true (by omega)
            rw [show List.drop k T = [] from List.drop_eq_nil_of_le (by omega), mOk_none _ _ h35] at hc
            have HMM := Lib.hid hc
            clear hc h35
            go_wp2_with (fail)
            go_region
            go_wp2
            go_ret
            exact ⟨by rw [← HMM.out]; rfl, HB0.out.trans ((HB.out.drew).mono HB0.out.size)⟩
      · obtain rfl : k = L.length := by omega
        rw [List.drop_eq_nil_of_le (Nat.le_refl _)] at hc
        have hA : ANS = ((L.length : Int) == (T.length : Int)) := by
          rw [← hc]
          by_cases h : L.length = T.length
          · rw [h, List.drop_eq_nil_of_le (Nat.le_refl _)]; simp [mOk]
          · have h1 : L.length < T.length := by omega
            rw [List.drop_eq_getElem_cons h1]
            have h2 : ((L.length : Int) == (T.length : Int)) = false := beq_eq_false_iff_ne.2 (by omega)
            rw [h2]; rfl
        have HA := Lib.hid hA
        clear hA hc
        go_wp2
        go_ret
        exact ⟨by rw [HA.out]; rfl, HB0.out.trans (HB.out.mono HB0.out.size)⟩
end Go.Proofs.YtoibdhncfdjdoaaDoor
