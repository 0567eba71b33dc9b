/-
  Lists of numbers and of strings, compared and copied: the statements' helpers.
-/
import Derived.Test.YtpgnlhfokffioaaDoorList
namespace Go.Proofs.YtpgnlhfokffioaaDoor
open Go.RowKit
abbrev cn (x : Int) : List Value := [.int .i64 x]
abbrev cs1 (x : ByteArray) : List Value := [.string x]
theorem ba_inj (x y : ByteArray) (h : x.toList = y.toList) : x = y := by
  rw [ByteArray.toList_eq, ByteArray.toList_eq] at h
  exact ByteArray.ext (Array.toList_inj.1 h)
theorem infoI64 : (Tryd.prog.info? 3).map (fun i => (i.zero, i.size, i.bytes)) = some (some (.int .i64 0), 1, 8) := by kernel_rfl
theorem infoStr : (Tryd.prog.info? 9).map (fun i => (i.zero, i.size, i.bytes)) = some (some (.string ByteArray.empty), 1, 16) := by kernel_rfl
set_option maxRecDepth 100000 in
set_option maxHeartbeats 1000000 in
theorem eqNumbers_any (v1 v2 : Value) (l1 l2 : List Int) (w : World) (hl : l1.length ≤ 1000000) (_hl2 : l2.length ≤ 1000000) (hv1 : SlR w 1 v1 (l1.map cn)) (hv2 : SlR w 1 v2 (l2.map cn)) :
    Calls Tryd.prog 41 #[v1, v2] w fun e w' => e = .returned (.bool (decide (l1 = l2))) ∧ ∃ m, w' = w.drewN m := by
  obtain ⟨ao1, cap1, rfl, -, -, -, hB1⟩ := hv1
  obtain ⟨ao2, cap2, rfl, -, -, -, hB2⟩ := hv2
  simp only [List.length_map] at hB1 hB2 ⊢
  have HB1 := Lib.hid hB1; clear hB1
  have HB2 := Lib.hid hB2; clear hB2
  by_cases hlen : l1.length = l2.length
  · have hne : ((l1.length : Int) != (l2.length : Int)) = false := by simp [hlen]
    have HL := Lib.hid hlen
    go_enter Tryd.func41, Tryd.ntmps41
    have h1 : l1.length ≤ l2.length := by omega
    have h2 : l2.length ≤ l1.length := by omega
    clear hlen
    go_wp2
    go_loopw [5] (fun i wr => ∃ (k m : Nat), k ≤ l1.length ∧ i = .int .i64 k ∧ wr = w.drewN m ∧ l1.take k = l2.take k) (fun i _ => l1.length - (intOf i).toNat)
    case atStart => exact ⟨0, 0, by omega, rfl, rfl, rfl⟩
    case round =>
      obtain ⟨k, m, hk, rfl, rfl, heq⟩ := hrel
      have HE := Lib.hid heq; clear heq
      by_cases hlt : k < l1.length
      · obtain ⟨b1, off1, rfl, hbw1, hBB1⟩ := HB1.out (by intro h; simp at h; simp [h] at hlt)
        obtain ⟨x, hx⟩ : ∃ x, l1[k]? = some x := ⟨_, List.getElem?_eq_getElem hlt⟩
        obtain ⟨b2, off2, rfl, hbw2, hBB2⟩ := HB2.out (by intro h; rw [List.map_eq_nil_iff] at h; have h5 : l2.length = 0 := (by rw [h]; rfl); omega)
        obtain ⟨y, hy⟩ : ∃ x, l2[k]? = some x := ⟨_, List.getElem?_eq_getElem (by omega)⟩
        have hcx : w.cell? ⟨b1, off1 + k, none⟩ = some (.int .i64 x) := by
          have := hBB1 k (cn x) (by rw [List.getElem?_map, hx]; rfl) 0 _ rfl
          simpa using this
        have hcy : w.cell? ⟨b2, off2 + k, none⟩ = some (.int .i64 y) := by
          have := hBB2 k (cn y) (by rw [List.getElem?_map, hy]; rfl) 0 _ rfl
          simpa using this
        have HX := Lib.hid hx; clear hx hBB1
        have HY := Lib.hid hy; clear hy hBB2
        have ht1 : l1.take (k+1) = l1.take k ++ [x] := by rw [List.take_add_one, HX.out]; rfl
        have ht2 : l2.take (k+1) = l2.take k ++ [y] := by rw [List.take_add_one, HY.out]; rfl
        have HT1 := Lib.hid ht1; have HT2 := Lib.hid ht2; clear ht1 ht2
        by_cases hxy : x = y
        · subst hxy
          have heq2 : ((x : Int) != (x : Int)) = false := by simp
          go_wp2
          go_quiet (fail)
          go_wp2
          go_roundw
          case rel => exact ⟨k + 1, m + nq, by omega, by go_num, rfl, by rw [HT1.out, HT2.out, HE.out]⟩
          case measure => simp [intOf]; omega
        · have hne2 : ((x : Int) != (y : Int)) = true := by simpa using hxy
          have hfin : decide (l1 = l2) = false := by
            simp only [decide_eq_false_iff_not]; intro h
            have := HX.out; rw [h, HY.out] at this; exact hxy (by simpa using this.symm)
          have HF := Lib.hid hfin; clear hfin hxy
          go_wp2
          go_quiet (fail)
          go_wp2
          go_ret
          exact ⟨by rw [HF.out]; rfl, _, by first | rfl | exact World.drewN_drewN _ _ _⟩
      · have : k = l1.length := by omega
        have hfin : decide (l1 = l2) = true := by
          simp only [decide_eq_true_eq]
          have := HE.out; rw [List.take_of_length_le (by omega), List.take_of_length_le (by omega)] at this; exact this
        have HF := Lib.hid hfin; clear hfin this HB1 HB2
        go_wp2
        go_ret
        exact ⟨by rw [HF.out]; rfl, _, rfl⟩
  · have hne : ((l1.length : Int) != (l2.length : Int)) = true := by
      simp only [bne_iff_ne, ne_eq]; omega
    have hfin : decide (l1 = l2) = false := by simp only [decide_eq_false_iff_not]; intro h; exact hlen (by rw [h])
    have HF := Lib.hid hfin; clear hfin hlen HB1 HB2
    go_enter Tryd.func41, Tryd.ntmps41
    go_wp2
    go_ret
    exact ⟨by rw [HF.out]; rfl, 0, rfl⟩
theorem flatNumbers (l : List Int) : (l.map cn).flatten = l.map (fun x => (.int .i64 x : Value)) := by induction l with | nil => rfl | cons x t ih => simp [ih]
set_option maxRecDepth 100000 in
set_option maxHeartbeats 1000000 in
theorem copyNumbers_any (v : Value) (l : List Int) (w : World) (hl : l.length ≤ 1000000) (hv : SlR w 1 v (l.map cn)) :
    Calls Tryd.prog 47 #[v] w fun e w' => ∃ v', e = .returned v' ∧ Below w.heap.size w w' ∧ w'.ownsRow w.heap.size 3 1 v' l.length (l.map (fun x => (.int .i64 x : Value))) := by
  obtain ⟨ao, cap, rfl, -, -, -, hB⟩ := hv
  simp only [List.length_map] at hB ⊢
  have HB := Lib.hid hB; clear hB
  obtain ⟨i0, hi, hz0, hz1, hz2⟩ := info_parts infoI64
  go_enter Tryd.func47, Tryd.ntmps47
  go_wp2
  go_loopw [3, 4] (fun m i wr => ∃ (k : Nat), k ≤ l.length ∧ i = .int .i64 k ∧ Below w.heap.size w wr ∧ wr.ownsRow w.heap.size 3 1 m k ((l.take k).map (fun x => (.int .i64 x : Value)))) (fun _ i _ => l.length - (intOf i).toNat)
  case atStart => exact ⟨0, by omega, rfl, Below.refl _ _, World.ownsRow_nil _ _ _ _⟩
  case round =>
    obtain ⟨k, hk, rfl, hbl, hown⟩ := hrel
    by_cases hlt : k < l.length
    · obtain ⟨b, off, rfl, hbw, hBB⟩ := HB.out (by intro h; simp at h; simp [h] at hlt)
      obtain ⟨x, hx⟩ : ∃ x, l[k]? = some x := ⟨_, List.getElem?_eq_getElem hlt⟩
      have hcx : w.cell? ⟨b, off + k, none⟩ = some (.int .i64 x) := by
        have := hBB k (cn x) (by rw [List.getElem?_map, hx]; rfl) 0 _ rfl
        simpa using this
      have hcx' := (hbl.cell (p := ⟨b, off + k, none⟩) hbw).trans hcx
      have HX := Lib.hid hx; clear hx hBB hcx
      have hsz := hbl.size
      go_wp2_with (first
        | (at_builtin; refine wpList_append_own _ rfl _ _ 26 rfl w.heap.size 3 i0 (.int .i64 0) 1 8 Tryd.underlying26 hi hz0 hz1 hz2 rfl (by decide) _ _ _ rfl (hown.alloc _) ⟨wr.heap.size, 0, none⟩ 1 1 [.int .i64 x] rfl rfl ?c1 ?c2 ?c3 ?c4 ?c5 ?_))
      case c1 =>
        intro j u hj
        match j, hj with
        | 0, hj => simp at hj; subst hj; simp [Addr.add]
      case c2 => intro u hu; simp at hu; subst hu; rfl
      case c3 => unfold maxLen; omega
      case c4 => omega
      case c5 => simp; omega
      intro v' w1 hown' hgrow _
      have hb2 : Below w.heap.size w w1 := (hbl.alloc hbl.size _).grown hgrow (by simp; omega) (by intro k hk; exact (hown.lt k hk).1)
      have ho2 : w1.ownsRow w.heap.size 3 1 v' (k + 1) ((l.take (k+1)).map (fun x => (.int .i64 x : Value))) := by
        rw [List.take_succ_eq_append_getElem (by omega), List.map_append]
        have : l[k] = x := by have := HX.out; rw [List.getElem?_eq_getElem hlt] at this; simpa using this
        rw [this, List.map_take]; exact hown'
      clear hown' hgrow hown HX
      go_wp2
      go_roundw
      case rel => exact ⟨k + 1, by omega, by go_num, hb2, ho2⟩
      case measure => simp [intOf]; omega
    · have : k = l.length := by omega
      subst this
      rw [List.take_length] at hown
      clear HB
      go_wp2
      go_ret
      exact ⟨_, rfl, hbl, hown⟩
set_option maxRecDepth 100000 in
set_option maxHeartbeats 1000000 in
theorem eqStrings_any (v1 v2 : Value) (l1 l2 : List ByteArray) (w : World) (hl : l1.length ≤ 1000000) (_hl2 : l2.length ≤ 1000000) (hv1 : SlR w 1 v1 (l1.map cs1)) (hv2 : SlR w 1 v2 (l2.map cs1)) :
    Calls Tryd.prog 43 #[v1, v2] w fun e w' => e = .returned (.bool (decide (l1 = l2))) ∧ ∃ m, w' = w.drewN m := by
  obtain ⟨ao1, cap1, rfl, -, -, -, hB1⟩ := hv1
  obtain ⟨ao2, cap2, rfl, -, -, -, hB2⟩ := hv2
  simp only [List.length_map] at hB1 hB2 ⊢
  have HB1 := Lib.hid hB1; clear hB1
  have HB2 := Lib.hid hB2; clear hB2
  by_cases hlen : l1.length = l2.length
  · have hne : ((l1.length : Int) != (l2.length : Int)) = false := by simp [hlen]
    have HL := Lib.hid hlen
    go_enter Tryd.func43, Tryd.ntmps43
    have h1 : l1.length ≤ l2.length := by omega
    have h2 : l2.length ≤ l1.length := by omega
    clear hlen
    go_wp2
    go_loopw [5] (fun i wr => ∃ (k m : Nat), k ≤ l1.length ∧ i = .int .i64 k ∧ wr = w.drewN m ∧ l1.take k = l2.take k) (fun i _ => l1.length - (intOf i).toNat)
    case atStart => exact ⟨0, 0, by omega, rfl, rfl, rfl⟩
    case round =>
      obtain ⟨k, m, hk, rfl, rfl, heq⟩ := hrel
      have HE := Lib.hid heq; clear heq
      by_cases hlt : k < l1.length
      · obtain ⟨b1, off1, rfl, hbw1, hBB1⟩ := HB1.out (by intro h; simp at h; simp [h] at hlt)
        obtain ⟨x, hx⟩ : ∃ x, l1[k]? = some x := ⟨_, List.getElem?_eq_getElem hlt⟩
        obtain ⟨b2, off2, rfl, hbw2, hBB2⟩ := HB2.out (by intro h; rw [List.map_eq_nil_iff] at h; have h5 : l2.length = 0 := (by rw [h]; rfl); omega)
        obtain ⟨y, hy⟩ : ∃ x, l2[k]? = some x := ⟨_, List.getElem?_eq_getElem (by omega)⟩
        have hcx : w.cell? ⟨b1, off1 + k, none⟩ = some (.string x) := by
          have := hBB1 k (cs1 x) (by rw [List.getElem?_map, hx]; rfl) 0 _ rfl
          simpa using this
        have hcy : w.cell? ⟨b2, off2 + k, none⟩ = some (.string y) := by
          have := hBB2 k (cs1 y) (by rw [List.getElem?_map, hy]; rfl) 0 _ rfl
          simpa using this
        have HX := Lib.hid hx; clear hx hBB1
        have HY := Lib.hid hy; clear hy hBB2
        have ht1 : l1.take (k+1) = l1.take k ++ [x] := by rw [List.take_add_one, HX.out]; rfl
        have ht2 : l2.take (k+1) = l2.take k ++ [y] := by rw [List.take_add_one, HY.out]; rfl
        have HT1 := Lib.hid ht1; have HT2 := Lib.hid ht2; clear ht1 ht2
        by_cases hxy : x = y
        · subst hxy
          have heq2 : (x.toList == x.toList) = true := by simp
          go_wp2
          go_quiet (fail)
          go_wp2
          go_roundw
          case rel => exact ⟨k + 1, m + nq, by omega, by go_num, rfl, by rw [HT1.out, HT2.out, HE.out]⟩
          case measure => simp [intOf]; omega
        · have hne2 : (x.toList == y.toList) = false := by rw [beq_eq_false_iff_ne]; exact fun h => hxy (ba_inj x y h)
          have hfin : decide (l1 = l2) = false := by
            simp only [decide_eq_false_iff_not]; intro h
            have := HX.out; rw [h, HY.out] at this; exact hxy (by simpa using this.symm)
          have HF := Lib.hid hfin; clear hfin hxy
          go_wp2
          go_quiet (fail)
          go_wp2
          go_ret
          exact ⟨by rw [HF.out]; rfl, _, by first | rfl | exact World.drewN_drewN _ _ _⟩
      · have : k = l1.length := by omega
        have hfin : decide (l1 = l2) = true := by
          simp only [decide_eq_true_eq]
          have := HE.out; rw [List.take_of_length_le (by omega), List.take_of_length_le (by omega)] at this; exact this
        have HF := Lib.hid hfin; clear hfin this HB1 HB2
        go_wp2
        go_ret
        exact ⟨by rw [HF.out]; rfl, _, rfl⟩
  · have hne : ((l1.length : Int) != (l2.length : Int)) = true := by
      simp only [bne_iff_ne, ne_eq]; omega
    have hfin : decide (l1 = l2) = false := by simp only [decide_eq_false_iff_not]; intro h; exact hlen (by rw [h])
    have HF := Lib.hid hfin; clear hfin hlen HB1 HB2
    go_enter Tryd.func43, Tryd.ntmps43
    go_wp2
    go_ret
    exact ⟨by rw [HF.out]; rfl, 0, rfl⟩
theorem flatStrings (l : List ByteArray) : (l.map cs1).flatten = l.map (fun x => (.string x : Value)) := by induction l with | nil => rfl | cons x t ih => simp [ih]
set_option maxRecDepth 100000 in
set_option maxHeartbeats 1000000 in
theorem copyStrings_any (v : Value) (l : List ByteArray) (w : World) (hl : l.length ≤ 1000000) (hv : SlR w 1 v (l.map cs1)) :
    Calls Tryd.prog 49 #[v] w fun e w' => ∃ v', e = .returned v' ∧ Below w.heap.size w w' ∧ w'.ownsRow w.heap.size 9 1 v' l.length (l.map (fun x => (.string x : Value))) := by
  obtain ⟨ao, cap, rfl, -, -, -, hB⟩ := hv
  simp only [List.length_map] at hB ⊢
  have HB := Lib.hid hB; clear hB
  obtain ⟨i0, hi, hz0, hz1, hz2⟩ := info_parts infoStr
  go_enter Tryd.func49, Tryd.ntmps49
  go_wp2
  go_loopw [3, 4] (fun m i wr => ∃ (k : Nat), k ≤ l.length ∧ i = .int .i64 k ∧ Below w.heap.size w wr ∧ wr.ownsRow w.heap.size 9 1 m k ((l.take k).map (fun x => (.string x : Value)))) (fun _ i _ => l.length - (intOf i).toNat)
  case atStart => exact ⟨0, by omega, rfl, Below.refl _ _, World.ownsRow_nil _ _ _ _⟩
  case round =>
    obtain ⟨k, hk, rfl, hbl, hown⟩ := hrel
    by_cases hlt : k < l.length
    · obtain ⟨b, off, rfl, hbw, hBB⟩ := HB.out (by intro h; simp at h; simp [h] at hlt)
      obtain ⟨x, hx⟩ : ∃ x, l[k]? = some x := ⟨_, List.getElem?_eq_getElem hlt⟩
      have hcx : w.cell? ⟨b, off + k, none⟩ = some (.string x) := by
        have := hBB k (cs1 x) (by rw [List.getElem?_map, hx]; rfl) 0 _ rfl
        simpa using this
      have hcx' := (hbl.cell (p := ⟨b, off + k, none⟩) hbw).trans hcx
      have HX := Lib.hid hx; clear hx hBB hcx
      have hsz := hbl.size
      go_wp2_with (first
        | (at_builtin; refine wpList_append_own _ rfl _ _ 28 rfl w.heap.size 9 i0 (.string ByteArray.empty) 1 16 Tryd.underlying28 hi hz0 hz1 hz2 rfl (by decide) _ _ _ rfl (hown.alloc _) ⟨wr.heap.size, 0, none⟩ 1 1 [.string x] rfl rfl ?c1 ?c2 ?c3 ?c4 ?c5 ?_))
      case c1 =>
        intro j u hj
        match j, hj with
        | 0, hj => simp at hj; subst hj; simp [Addr.add]
      case c2 => intro u hu; simp at hu; subst hu; rfl
      case c3 => unfold maxLen; omega
      case c4 => omega
      case c5 => simp; omega
      intro v' w1 hown' hgrow _
      have hb2 : Below w.heap.size w w1 := (hbl.alloc hbl.size _).grown hgrow (by simp; omega) (by intro k hk; exact (hown.lt k hk).1)
      have ho2 : w1.ownsRow w.heap.size 9 1 v' (k + 1) ((l.take (k+1)).map (fun x => (.string x : Value))) := by
        rw [List.take_succ_eq_append_getElem (by omega), List.map_append]
        have : l[k] = x := by have := HX.out; rw [List.getElem?_eq_getElem hlt] at this; simpa using this
        rw [this, List.map_take]; exact hown'
      clear hown' hgrow hown HX
      go_wp2
      go_roundw
      case rel => exact ⟨k + 1, by omega, by go_num, hb2, ho2⟩
      case measure => simp [intOf]; omega
    · have : k = l.length := by omega
      subst this
      rw [List.take_length] at hown
      clear HB
      go_wp2
      go_ret
      exact ⟨_, rfl, hbl, hown⟩
end Go.Proofs.YtpgnlhfokffioaaDoor
