/-
  Neighbours: lists of them, compared and copied.
-/
import Derived.Test.YtcomaacfhfnipaaList
import Derived.Laws.StructEq
namespace Go.Proofs.Ytcomaacfhfnipaa
open Go.RowKit
structure Nb where
  ip : Int
  mac : Int
  age : Int
abbrev rowNeighbour (x : Nb) : List Value := [.int .i64 x.ip, .int .i64 x.mac, .int .i64 x.age]
theorem neighboursNe (ip1 : Int) (mac1 : Int) (age1 : Int) (ip2 : Int) (mac2 : Int) (age2 : Int) (w : World) : (binOp .neq 61 (.agg #[.int .i64 ip1, .int .i64 mac1, .int .i64 age1]) (.agg #[.int .i64 ip2, .int .i64 mac2, .int .i64 age2])).run Try.prog w = .ok (.bool (!((ip1 == ip2) && (mac1 == mac2) && (age1 == age2)))) w := by
  rw [run_neq_struct, show (10000 : Nat) = 9999 + 1 from rfl, run_equalIn_agg w 9999 _ _ _ (by kernel_rfl) (by kernel_rfl)]
  simp [go_sem, Program.fieldsOf, Try.underlying61, Op.eqFields, part, Try.underlying3]
  by_cases h0 : ip1 = ip2 <;> by_cases h1 : mac1 = mac2 <;> by_cases h2 : age1 = age2 <;> simp [*]
theorem infoNeighbour : (Try.prog.info? 61).map (fun i => (i.zero, i.size, i.bytes)) = some (some (.agg #[.int .i64 0, .int .i64 0, .int .i64 0]), 3, 24) := by kernel_rfl
theorem neighboursGuard (x y : Operand) (xs ys : Array Value) (w : World) : (eqGuard .neq 61 x y (.agg xs) (.agg ys)).run Try.prog w = .ok () w := run_eqGuard_agg w .neq _ x y xs ys (by kernel_rfl)
theorem neighbours_eq (x y : Nb) : ((x.ip == y.ip) && (x.mac == y.mac) && (x.age == y.age)) = true ↔ x = y := by
  obtain ⟨xip, xmac, xage⟩ := x; obtain ⟨yip, ymac, yage⟩ := y
  simp only [Bool.and_eq_true, beq_iff_eq, Nb.mk.injEq]
  constructor
  · intro h; exact ⟨h.1.1, h.1.2, h.2⟩
  · intro h; obtain ⟨rfl, rfl, rfl⟩ := h; simp
instance : DecidableEq Nb := fun x y => decidable_of_iff _ (neighbours_eq x y)
set_option maxRecDepth 100000 in
set_option maxHeartbeats 1000000 in
theorem eqNeighbours_any (v1 v2 : Value) (l1 l2 : List Nb) (w : World) (hl : l1.length ≤ 1000000) (_hl2 : l2.length ≤ 1000000) (hv1 : SlR w 3 v1 (l1.map rowNeighbour)) (hv2 : SlR w 3 v2 (l2.map rowNeighbour)) :
    Calls Try.prog 30 #[v1, v2] w fun e w' => e = .returned (.bool (decide (l1 = l2))) ∧ ∃ m, w' = w.drewN m := by
  obtain ⟨ao1, cap1, rfl, -, -, -, hB1⟩ := hv1
  obtain ⟨ao2, cap2, rfl, -, -, -, hB2⟩ := hv2
  simp only [List.length_map] at hB1 hB2 ⊢
  have HB1 := Lib.hid hB1; clear hB1
  have HB2 := Lib.hid hB2; clear hB2
  have hgu := neighboursGuard
  by_cases hlen : l1.length = l2.length
  · have hne : ((l1.length : Int) != (l2.length : Int)) = false := by simp [hlen]
    go_enter Try.func30, Try.ntmps30
    have h1 : l1.length ≤ l2.length := by omega
    have h2 : l2.length ≤ l1.length := by omega
    clear hlen
    go_wp2
    go_loopw [5] (fun i wr => ∃ (k m : Nat), k ≤ l1.length ∧ i = .int .i64 k ∧ wr = w.drewN m ∧ l1.take k = l2.take k) (fun i _ => l1.length - (intOf i).toNat)
    case atStart => exact ⟨0, 0, by omega, rfl, rfl, rfl⟩
    case round =>
      obtain ⟨k, m, hk, rfl, rfl, heq⟩ := hrel
      have HE := Lib.hid heq; clear heq
      by_cases hlt : k < l1.length
      · obtain ⟨b1, off1, rfl, hbw1, hBB1⟩ := HB1.out (by intro h; simp at h; simp [h] at hlt)
        obtain ⟨x, hx⟩ : ∃ x, l1[k]? = some x := ⟨_, List.getElem?_eq_getElem hlt⟩
        obtain ⟨b2, off2, rfl, hbw2, hBB2⟩ := HB2.out (by intro h; rw [List.map_eq_nil_iff] at h; have h5 : l2.length = 0 := (by rw [h]; rfl); omega)
        obtain ⟨y, hy⟩ : ∃ x, l2[k]? = some x := ⟨_, List.getElem?_eq_getElem (by omega)⟩
        have cx0 : w.cell? ⟨b1, off1 + k * 3, none⟩ = some (.int .i64 x.ip) := by
          have := hBB1 k (rowNeighbour x) (by rw [List.getElem?_map, hx]; rfl) 0 _ rfl
          simpa using this
        have cx1 : w.cell? ⟨b1, off1 + k * 3 + 1, none⟩ = some (.int .i64 x.mac) := by
          have := hBB1 k (rowNeighbour x) (by rw [List.getElem?_map, hx]; rfl) 1 _ rfl
          simpa using this
        have cx2 : w.cell? ⟨b1, off1 + k * 3 + 2, none⟩ = some (.int .i64 x.age) := by
          have := hBB1 k (rowNeighbour x) (by rw [List.getElem?_map, hx]; rfl) 2 _ rfl
          simpa using this
        have cy0 : w.cell? ⟨b2, off2 + k * 3, none⟩ = some (.int .i64 y.ip) := by
          have := hBB2 k (rowNeighbour y) (by rw [List.getElem?_map, hy]; rfl) 0 _ rfl
          simpa using this
        have cy1 : w.cell? ⟨b2, off2 + k * 3 + 1, none⟩ = some (.int .i64 y.mac) := by
          have := hBB2 k (rowNeighbour y) (by rw [List.getElem?_map, hy]; rfl) 1 _ rfl
          simpa using this
        have cy2 : w.cell? ⟨b2, off2 + k * 3 + 2, none⟩ = some (.int .i64 y.age) := by
          have := hBB2 k (rowNeighbour y) (by rw [List.getElem?_map, hy]; rfl) 2 _ rfl
          simpa using this
        have HX := Lib.hid hx; clear hx hBB1
        have HY := Lib.hid hy; clear hy hBB2
        have ht1 : l1.take (k+1) = l1.take k ++ [x] := by rw [List.take_add_one, HX.out]; rfl
        have ht2 : l2.take (k+1) = l2.take k ++ [y] := by rw [List.take_add_one, HY.out]; rfl
        have HT1 := Lib.hid ht1; have HT2 := Lib.hid ht2; clear ht1 ht2
        have hb := neighboursNe x.ip x.mac x.age y.ip y.mac y.age
        have hxyb := neighbours_eq x y
        generalize ((x.ip == y.ip) && (x.mac == y.mac) && (x.age == y.age)) = B at hb hxyb
        by_cases hxy : x = y
        · obtain rfl : B = true := hxyb.2 hxy
          have HXY := Lib.hid hxy
          clear hxy hxyb
          simp only [Bool.not_true] at hb
          go_wp2
          go_quiet (fail)
          go_wp2
          go_roundw
          case rel => exact ⟨k + 1, m + nq, by omega, by go_num, rfl, by rw [HT1.out, HT2.out, HE.out, HXY.out]⟩
          case measure => simp [intOf]; omega
        · obtain rfl : B = false := by cases B with | false => rfl | true => exact (hxy (hxyb.1 rfl)).elim
          simp only [Bool.not_false] at hb
          have hfin : decide (l1 = l2) = false := by
            simp only [decide_eq_false_iff_not]; intro h
            have := HX.out; rw [h, HY.out] at this; exact hxy (by simpa using this.symm)
          have HF := Lib.hid hfin; clear hfin hxy hxyb
          go_wp2
          go_quiet (fail)
          go_wp2
          go_ret
          exact ⟨by rw [HF.out]; rfl, _, by first | rfl | exact World.drewN_drewN _ _ _⟩
      · have : k = l1.length := by omega
        have hfin : decide (l1 = l2) = true := by
          simp only [decide_eq_true_eq]
          have := HE.out; rw [List.take_of_length_le (by omega), List.take_of_length_le (by omega)] at this; exact this
        have HF := Lib.hid hfin; clear hfin this HB1 HB2
        go_wp2
        go_ret
        exact ⟨by rw [HF.out]; rfl, _, rfl⟩
  · have hne : ((l1.length : Int) != (l2.length : Int)) = true := by
      simp only [bne_iff_ne, ne_eq]; omega
    have hfin : decide (l1 = l2) = false := by simp only [decide_eq_false_iff_not]; intro h; exact hlen (by rw [h])
    have HF := Lib.hid hfin; clear hfin hlen HB1 HB2
    go_enter Try.func30, Try.ntmps30
    go_wp2
    go_ret
    exact ⟨by rw [HF.out]; rfl, 0, rfl⟩
set_option maxRecDepth 100000 in
set_option maxHeartbeats 1000000 in
theorem copyNeighbours_any (v : Value) (l : List Nb) (w : World) (hl : l.length ≤ 1000000) (hv : SlR w 3 v (l.map rowNeighbour)) :
    Calls Try.prog 25 #[v] w fun e w' => ∃ v', e = .returned v' ∧ Below w.heap.size w w' ∧ w'.ownsRow w.heap.size 61 3 v' l.length (l.map rowNeighbour).flatten := by
  obtain ⟨ao, cap, rfl, -, -, -, hB⟩ := hv
  simp only [List.length_map] at hB ⊢
  have HB := Lib.hid hB; clear hB
  obtain ⟨i0, hi, hz0, hz1, hz2⟩ := info_parts infoNeighbour
  go_enter Try.func25, Try.ntmps25
  go_wp2
  go_loopw [3, 4] (fun m i wr => ∃ (k : Nat), k ≤ l.length ∧ i = .int .i64 k ∧ Below w.heap.size w wr ∧ wr.ownsRow w.heap.size 61 3 m k ((l.take k).map rowNeighbour).flatten) (fun _ i _ => l.length - (intOf i).toNat)
  case atStart => exact ⟨0, by omega, rfl, Below.refl _ _, World.ownsRow_nil _ _ _ _⟩
  case round =>
    obtain ⟨k, hk, rfl, hbl, hown⟩ := hrel
    by_cases hlt : k < l.length
    · obtain ⟨b, off, rfl, hbw, hBB⟩ := HB.out (by intro h; simp at h; simp [h] at hlt)
      obtain ⟨x, hx⟩ : ∃ x, l[k]? = some x := ⟨_, List.getElem?_eq_getElem hlt⟩
      have cx0 : w.cell? ⟨b, off + k * 3, none⟩ = some (.int .i64 x.ip) := by
        have := hBB k (rowNeighbour x) (by rw [List.getElem?_map, hx]; rfl) 0 _ rfl
        simpa using this
      have dx0 := (hbl.cell (p := ⟨b, off + k * 3, none⟩) hbw).trans cx0
      have cx1 : w.cell? ⟨b, off + k * 3 + 1, none⟩ = some (.int .i64 x.mac) := by
        have := hBB k (rowNeighbour x) (by rw [List.getElem?_map, hx]; rfl) 1 _ rfl
        simpa using this
      have dx1 := (hbl.cell (p := ⟨b, off + k * 3 + 1, none⟩) hbw).trans cx1
      have cx2 : w.cell? ⟨b, off + k * 3 + 2, none⟩ = some (.int .i64 x.age) := by
        have := hBB k (rowNeighbour x) (by rw [List.getElem?_map, hx]; rfl) 2 _ rfl
        simpa using this
      have dx2 := (hbl.cell (p := ⟨b, off + k * 3 + 2, none⟩) hbw).trans cx2
      have HX := Lib.hid hx; clear hx hBB
      have hsz := hbl.size
      go_wp2_with (first
        | (at_builtin; refine wpList_append_own _ rfl _ _ 48 rfl w.heap.size 61 i0 (.agg #[.int .i64 0, .int .i64 0, .int .i64 0]) 3 24 Try.underlying48 hi hz0 hz1 hz2 rfl (by decide) _ _ _ rfl (hown.alloc _) ⟨wr.heap.size, 0, none⟩ 1 1 (rowNeighbour x) rfl rfl ?c1 ?c2 ?c3 ?c4 ?c5 ?_))
      case c1 =>
        intro j u hj
        match j, hj with
        | 0, hj => simp at hj; subst hj; simp [Addr.add]
        | 1, hj => simp at hj; subst hj; simp [Addr.add]
        | 2, hj => simp at hj; subst hj; simp [Addr.add]
        | j + 3, hj => simp at hj
      case c2 => intro u hu; simp at hu; rcases hu with rfl | rfl | rfl <;> rfl
      case c3 => unfold maxLen; omega
      case c4 => omega
      case c5 => simp; omega
      intro v' w1 hown' hgrow _
      have hb2 : Below w.heap.size w w1 := (hbl.alloc hbl.size _).grown hgrow (by simp; omega) (by intro k hk; exact (hown.lt k hk).1)
      have ho2 : w1.ownsRow w.heap.size 61 3 v' (k + 1) ((l.take (k+1)).map rowNeighbour).flatten := by
        rw [List.take_succ_eq_append_getElem (by omega), List.map_append, List.flatten_append]
        have : l[k] = x := by have := HX.out; rw [List.getElem?_eq_getElem hlt] at this; simpa using this
        rw [this]; simpa using hown'
      clear hown' hgrow hown HX
      go_wp2
      go_roundw
      case rel => exact ⟨k + 1, by omega, by go_num, hb2, ho2⟩
      case measure => simp [intOf]; omega
    · have : k = l.length := by omega
      subst this
      rw [List.take_length] at hown
      clear HB
      go_wp2
      go_ret
      exact ⟨_, rfl, hbl, hown⟩
end Go.Proofs.Ytcomaacfhfnipaa
