/-
  Lists of plain structs, compared and copied: the statements' helpers.
-/
import Derived.Test.YtpgnlhfokffioaaDoorLists
import Derived.Laws.StructEq
namespace Go.Proofs.YtpgnlhfokffioaaDoor
open Go.RowKit
structure EWish where
  f : ByteArray
  q : Int
abbrev rowWish (x : EWish) : List Value := [.string x.f, .int .i64 x.q]
theorem wishesNe (f1 : ByteArray) (q1 : Int) (f2 : ByteArray) (q2 : Int) (w : World) : (binOp .neq 93 (.agg #[.string f1, .int .i64 q1]) (.agg #[.string f2, .int .i64 q2])).run Tryd.prog w = .ok (.bool (!((f1.toList == f2.toList) && (q1 == q2)))) w := by
  rw [run_neq_struct, show (10000 : Nat) = 9999 + 1 from rfl, run_equalIn_agg w 9999 _ _ _ (by kernel_rfl) (by kernel_rfl)]
  simp [go_sem, Program.fieldsOf, Tryd.underlying93, Op.eqFields, part, Tryd.underlying3, Tryd.underlying9]
  by_cases h0 : f1.toList = f2.toList <;> by_cases h1 : q1 = q2 <;> simp [*]
theorem infoWish : (Tryd.prog.info? 93).map (fun i => (i.zero, i.size, i.bytes)) = some (some (.agg #[.string ByteArray.empty, .int .i64 0]), 2, 24) := by kernel_rfl
theorem wishesGuard (x y : Operand) (xs ys : Array Value) (w : World) : (eqGuard .neq 93 x y (.agg xs) (.agg ys)).run Tryd.prog w = .ok () w := run_eqGuard_agg w .neq _ x y xs ys (by kernel_rfl)
theorem wishes_eq (x y : EWish) : ((x.f.toList == y.f.toList) && (x.q == y.q)) = true ↔ x = y := by
  obtain ⟨xf, xq⟩ := x; obtain ⟨yf, yq⟩ := y
  simp only [Bool.and_eq_true, beq_iff_eq, EWish.mk.injEq]
  constructor
  · intro h; exact ⟨ba_inj _ _ h.1, h.2⟩
  · intro h; obtain ⟨rfl, rfl⟩ := h; simp
instance : DecidableEq EWish := fun x y => decidable_of_iff _ (wishes_eq x y)
set_option maxRecDepth 100000 in
set_option maxHeartbeats 1000000 in
theorem eqWishes_any (v1 v2 : Value) (l1 l2 : List EWish) (w : World) (hl : l1.length ≤ 1000000) (_hl2 : l2.length ≤ 1000000) (hv1 : SlR w 2 v1 (l1.map rowWish)) (hv2 : SlR w 2 v2 (l2.map rowWish)) :
    Calls Tryd.prog 42 #[v1, v2] w fun e w' => e = .returned (.bool (decide (l1 = l2))) ∧ ∃ m, w' = w.drewN m := by
  obtain ⟨ao1, cap1, rfl, -, -, -, hB1⟩ := hv1
  obtain ⟨ao2, cap2, rfl, -, -, -, hB2⟩ := hv2
  simp only [List.length_map] at hB1 hB2 ⊢
  have HB1 := Lib.hid hB1; clear hB1
  have HB2 := Lib.hid hB2; clear hB2
  have hgu := wishesGuard
  by_cases hlen : l1.length = l2.length
  · have hne : ((l1.length : Int) != (l2.length : Int)) = false := by simp [hlen]
    go_enter Tryd.func42, Tryd.ntmps42
    have h1 : l1.length ≤ l2.length := by omega
    have h2 : l2.length ≤ l1.length := by omega
    clear hlen
    go_wp2
    go_loopw [5] (fun i wr => ∃ (k m : Nat), k ≤ l1.length ∧ i = .int .i64 k ∧ wr = w.drewN m ∧ l1.take k = l2.take k) (fun i _ => l1.length - (intOf i).toNat)
    case atStart => exact ⟨0, 0, by omega, rfl, rfl, rfl⟩
    case round =>
      obtain ⟨k, m, hk, rfl, rfl, heq⟩ := hrel
      have HE := Lib.hid heq; clear heq
      by_cases hlt : k < l1.length
      · obtain ⟨b1, off1, rfl, hbw1, hBB1⟩ := HB1.out (by intro h; simp at h; simp [h] at hlt)
        obtain ⟨x, hx⟩ : ∃ x, l1[k]? = some x := ⟨_, List.getElem?_eq_getElem hlt⟩
        obtain ⟨b2, off2, rfl, hbw2, hBB2⟩ := HB2.out (by intro h; rw [List.map_eq_nil_iff] at h; have h5 : l2.length = 0 := (by rw [h]; rfl); omega)
        obtain ⟨y, hy⟩ : ∃ x, l2[k]? = some x := ⟨_, List.getElem?_eq_getElem (by omega)⟩
        have cx0 : w.cell? ⟨b1, off1 + k * 2, none⟩ = some (.string x.f) := by
          have := hBB1 k (rowWish x) (by rw [List.getElem?_map, hx]; rfl) 0 _ rfl
          simpa using this
        have cx1 : w.cell? ⟨b1, off1 + k * 2 + 1, none⟩ = some (.int .i64 x.q) := by
          have := hBB1 k (rowWish x) (by rw [List.getElem?_map, hx]; rfl) 1 _ rfl
          simpa using this
        have cy0 : w.cell? ⟨b2, off2 + k * 2, none⟩ = some (.string y.f) := by
          have := hBB2 k (rowWish y) (by rw [List.getElem?_map, hy]; rfl) 0 _ rfl
          simpa using this
        have cy1 : w.cell? ⟨b2, off2 + k * 2 + 1, none⟩ = some (.int .i64 y.q) := by
          have := hBB2 k (rowWish y) (by rw [List.getElem?_map, hy]; rfl) 1 _ rfl
          simpa using this
        have HX := Lib.hid hx; clear hx hBB1
        have HY := Lib.hid hy; clear hy hBB2
        have ht1 : l1.take (k+1) = l1.take k ++ [x] := by rw [List.take_add_one, HX.out]; rfl
        have ht2 : l2.take (k+1) = l2.take k ++ [y] := by rw [List.take_add_one, HY.out]; rfl
        have HT1 := Lib.hid ht1; have HT2 := Lib.hid ht2; clear ht1 ht2
        have hb := wishesNe x.f x.q y.f y.q
        have hxyb := wishes_eq x y
        generalize ((x.f.toList == y.f.toList) && (x.q == y.q)) = B at hb hxyb
        by_cases hxy : x = y
        · obtain rfl : B = true := hxyb.2 hxy
          have HXY := Lib.hid hxy
          clear hxy hxyb
          simp only [Bool.not_true] at hb
          go_wp2
          go_quiet (fail)
          go_wp2
          go_roundw
          case rel => exact ⟨k + 1, m + nq, by omega, by go_num, rfl, by rw [HT1.out, HT2.out, HE.out, HXY.out]⟩
          case measure => simp [intOf]; omega
        · obtain rfl : B = false := by cases B with | false => rfl | true => exact (hxy (hxyb.1 rfl)).elim
          simp only [Bool.not_false] at hb
          have hfin : decide (l1 = l2) = false := by
            simp only [decide_eq_false_iff_not]; intro h
            have := HX.out; rw [h, HY.out] at this; exact hxy (by simpa using this.symm)
          have HF := Lib.hid hfin; clear hfin hxy hxyb
          go_wp2
          go_quiet (fail)
          go_wp2
          go_ret
          exact ⟨by rw [HF.out]; rfl, _, by first | rfl | exact World.drewN_drewN _ _ _⟩
      · have : k = l1.length := by omega
        have hfin : decide (l1 = l2) = true := by
          simp only [decide_eq_true_eq]
          have := HE.out; rw [List.take_of_length_le (by omega), List.take_of_length_le (by omega)] at this; exact this
        have HF := Lib.hid hfin; clear hfin this HB1 HB2
        go_wp2
        go_ret
        exact ⟨by rw [HF.out]; rfl, _, rfl⟩
  · have hne : ((l1.length : Int) != (l2.length : Int)) = true := by
      simp only [bne_iff_ne, ne_eq]; omega
    have hfin : decide (l1 = l2) = false := by simp only [decide_eq_false_iff_not]; intro h; exact hlen (by rw [h])
    have HF := Lib.hid hfin; clear hfin hlen HB1 HB2
    go_enter Tryd.func42, Tryd.ntmps42
    go_wp2
    go_ret
    exact ⟨by rw [HF.out]; rfl, 0, rfl⟩
set_option maxRecDepth 100000 in
set_option maxHeartbeats 1000000 in
theorem copyWishes_any (v : Value) (l : List EWish) (w : World) (hl : l.length ≤ 1000000) (hv : SlR w 2 v (l.map rowWish)) :
    Calls Tryd.prog 48 #[v] w fun e w' => ∃ v', e = .returned v' ∧ Below w.heap.size w w' ∧ w'.ownsRow w.heap.size 93 2 v' l.length (l.map rowWish).flatten := by
  obtain ⟨ao, cap, rfl, -, -, -, hB⟩ := hv
  simp only [List.length_map] at hB ⊢
  have HB := Lib.hid hB; clear hB
  obtain ⟨i0, hi, hz0, hz1, hz2⟩ := info_parts infoWish
  go_enter Tryd.func48, Tryd.ntmps48
  go_wp2
  go_loopw [3, 4] (fun m i wr => ∃ (k : Nat), k ≤ l.length ∧ i = .int .i64 k ∧ Below w.heap.size w wr ∧ wr.ownsRow w.heap.size 93 2 m k ((l.take k).map rowWish).flatten) (fun _ i _ => l.length - (intOf i).toNat)
  case atStart => exact ⟨0, by omega, rfl, Below.refl _ _, World.ownsRow_nil _ _ _ _⟩
  case round =>
    obtain ⟨k, hk, rfl, hbl, hown⟩ := hrel
    by_cases hlt : k < l.length
    · obtain ⟨b, off, rfl, hbw, hBB⟩ := HB.out (by intro h; simp at h; simp [h] at hlt)
      obtain ⟨x, hx⟩ : ∃ x, l[k]? = some x := ⟨_, List.getElem?_eq_getElem hlt⟩
      have cx0 : w.cell? ⟨b, off + k * 2, none⟩ = some (.string x.f) := by
        have := hBB k (rowWish x) (by rw [List.getElem?_map, hx]; rfl) 0 _ rfl
        simpa using this
      have dx0 := (hbl.cell (p := ⟨b, off + k * 2, none⟩) hbw).trans cx0
      have cx1 : w.cell? ⟨b, off + k * 2 + 1, none⟩ = some (.int .i64 x.q) := by
        have := hBB k (rowWish x) (by rw [List.getElem?_map, hx]; rfl) 1 _ rfl
        simpa using this
      have dx1 := (hbl.cell (p := ⟨b, off + k * 2 + 1, none⟩) hbw).trans cx1
      have HX := Lib.hid hx; clear hx hBB
      have hsz := hbl.size
      go_wp2_with (first
        | (at_builtin; refine wpList_append_own _ rfl _ _ 27 rfl w.heap.size 93 i0 (.agg #[.string ByteArray.empty, .int .i64 0]) 2 24 Tryd.underlying27 hi hz0 hz1 hz2 rfl (by decide) _ _ _ rfl (hown.alloc _) ⟨wr.heap.size, 0, none⟩ 1 1 (rowWish x) rfl rfl ?c1 ?c2 ?c3 ?c4 ?c5 ?_))
      case c1 =>
        intro j u hj
        match j, hj with
        | 0, hj => simp at hj; subst hj; simp [Addr.add]
        | 1, hj => simp at hj; subst hj; simp [Addr.add]
        | j + 2, hj => simp at hj
      case c2 => intro u hu; simp at hu; rcases hu with rfl | rfl <;> rfl
      case c3 => unfold maxLen; omega
      case c4 => omega
      case c5 => simp; omega
      intro v' w1 hown' hgrow _
      have hb2 : Below w.heap.size w w1 := (hbl.alloc hbl.size _).grown hgrow (by simp; omega) (by intro k hk; exact (hown.lt k hk).1)
      have ho2 : w1.ownsRow w.heap.size 93 2 v' (k + 1) ((l.take (k+1)).map rowWish).flatten := by
        rw [List.take_succ_eq_append_getElem (by omega), List.map_append, List.flatten_append]
        have : l[k] = x := by have := HX.out; rw [List.getElem?_eq_getElem hlt] at this; simpa using this
        rw [this]; simpa using hown'
      clear hown' hgrow hown HX
      go_wp2
      go_roundw
      case rel => exact ⟨k + 1, by omega, by go_num, hb2, ho2⟩
      case measure => simp [intOf]; omega
    · have : k = l.length := by omega
      subst this
      rw [List.take_length] at hown
      clear HB
      go_wp2
      go_ret
      exact ⟨_, rfl, hbl, hown⟩
end Go.Proofs.YtpgnlhfokffioaaDoor
