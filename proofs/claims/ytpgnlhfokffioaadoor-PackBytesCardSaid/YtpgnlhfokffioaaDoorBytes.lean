/-
  Bytes that are copied and compared: CopyBytes and EqBytes of the statements' helpers; a row of bytes of one's own.
-/
import Derived.Test.YtpgnlhfokffioaaDoorBase
namespace Go.Proofs.YtpgnlhfokffioaaDoor
open Go.RowKit
theorem infoU8 : (Tryd.prog.info? 5).map (fun i => (i.zero, i.size, i.bytes)) = some (some (.int .u8 0), 1, 1) := by kernel_rfl
set_option maxRecDepth 100000 in
set_option maxHeartbeats 1000000 in
theorem copyBytes_any (v : Value) (l : List UInt8) (w : World) (hl : l.length ≤ 1000000) (hv : Sl w v l) :
    Calls Tryd.prog 15 #[v] w fun e w' => ∃ v', e = .returned v' ∧ Below w.heap.size w w' ∧ w'.ownsRow w.heap.size 5 1 v' l.length (l.map B8) := by
  obtain ⟨ao, cap, rfl, hcl, hcm, -, hB⟩ := hv
  have HB := Lib.hid hB; clear hB
  obtain ⟨i0, hi, hz0, hz1, hz2⟩ := info_parts infoU8
  go_enter Tryd.func15, Tryd.ntmps15
  go_wp2
  go_loopw [3, 4] (fun m i wr => ∃ (k : Nat), k ≤ l.length ∧ i = .int .i64 k ∧ Below w.heap.size w wr ∧ wr.ownsRow w.heap.size 5 1 m k ((l.take k).map B8)) (fun _ i _ => l.length - (intOf i).toNat)
  case atStart => exact ⟨0, by omega, rfl, Below.refl _ _, World.ownsRow_nil _ _ _ _⟩
  case round =>
    obtain ⟨k, hk, rfl, hbl, hown⟩ := hrel
    by_cases hlt : k < l.length
    · obtain ⟨b, off, rfl, hbw, hBB⟩ := HB.out (by intro h; simp [h] at hlt)
      obtain ⟨x, hx, hcx, hx1⟩ := hBB.get k hlt
      have hcx' := (hbl.cell (p := ⟨b, off + k, none⟩) hbw).trans hcx
      have HX := Lib.hid hx; clear hx hBB hcx
      have hsz := hbl.size
      go_wp2_with (first
        | (at_builtin; refine wpList_append_own _ rfl _ _ 31 rfl w.heap.size 5 i0 (.int .u8 0) 1 1 Tryd.underlying31 hi hz0 hz1 hz2 rfl (by decide) _ _ _ rfl (hown.alloc _) ⟨wr.heap.size, 0, none⟩ 1 1 [B8 x] rfl rfl ?c1 ?c2 ?c3 ?c4 ?c5 ?_))
      case c1 =>
        intro j u hj
        match j, hj with
        | 0, hj => simp at hj; subst hj; simp [Addr.add]
      case c2 => intro u hu; simp at hu; subst hu; rfl
      case c3 => unfold maxLen; omega
      case c4 => omega
      case c5 => simp; omega
      intro v' w1 hown' hgrow _
      have hb2 : Below w.heap.size w w1 := (hbl.alloc hbl.size _).grown hgrow (by simp; omega) (by intro k hk; exact (hown.lt k hk).1)
      have ho2 : w1.ownsRow w.heap.size 5 1 v' (k + 1) ((l.take (k+1)).map B8) := by
        rw [List.take_succ_eq_append_getElem (by omega), List.map_append]
        have : l[k] = x := by have := HX.out; rw [List.getElem?_eq_getElem hlt] at this; simpa using this
        rw [this, List.map_take]; exact hown'
      clear hown' hgrow hown HX
      go_wp2
      go_roundw
      case rel => exact ⟨k + 1, by omega, by go_num, hb2, ho2⟩
      case measure => simp [intOf]; omega
    · have : k = l.length := by omega
      subst this
      rw [List.take_length] at hown
      clear HB
      go_wp2
      go_ret
      exact ⟨_, rfl, hbl, hown⟩
set_option maxRecDepth 100000 in
set_option maxHeartbeats 1000000 in
theorem eqBytes_any (v1 v2 : Value) (l1 l2 : List UInt8) (w : World) (hl : l1.length ≤ 1000000) (_hl2 : l2.length ≤ 1000000) (hv1 : Sl w v1 l1) (hv2 : Sl w v2 l2) :
    Calls Tryd.prog 20 #[v1, v2] w fun e w' => e = .returned (.bool (decide (l1 = l2))) ∧ ∃ m, w' = w.drewN m := by
  obtain ⟨ao1, cap1, rfl, -, -, -, hB1⟩ := hv1
  obtain ⟨ao2, cap2, rfl, -, -, -, hB2⟩ := hv2
  have HB1 := Lib.hid hB1; clear hB1
  have HB2 := Lib.hid hB2; clear hB2
  by_cases hlen : l1.length = l2.length
  · have hne : ((l1.length : Int) != (l2.length : Int)) = false := by simp [hlen]
    have HL := Lib.hid hlen
    go_enter Tryd.func20, Tryd.ntmps20
    have h1 : l1.length ≤ l2.length := by omega
    have h2 : l2.length ≤ l1.length := by omega
    clear hlen
    go_wp2
    go_loopw [5] (fun i wr => ∃ (k m : Nat), k ≤ l1.length ∧ i = .int .i64 k ∧ wr = w.drewN m ∧ l1.take k = l2.take k) (fun i _ => l1.length - (intOf i).toNat)
    case atStart => exact ⟨0, 0, by omega, rfl, rfl, rfl⟩
    case round =>
      obtain ⟨k, m, hk, rfl, rfl, heq⟩ := hrel
      have HE := Lib.hid heq; clear heq
      by_cases hlt : k < l1.length
      · obtain ⟨b1, off1, rfl, hbw1, hBB1⟩ := HB1.out (by intro h; simp [h] at hlt)
        obtain ⟨x, hx, hcx, hx1⟩ := hBB1.get k hlt
        obtain ⟨b2, off2, rfl, hbw2, hBB2⟩ := HB2.out (by intro h; have h5 : l2.length = 0 := by rw [h]; rfl
                                                          omega)
        obtain ⟨y, hy, hcy, hy1⟩ := hBB2.get k (by omega)
        have HX := Lib.hid hx; clear hx hBB1
        have HY := Lib.hid hy; clear hy hBB2
        have ht1 : l1.take (k+1) = l1.take k ++ [x] := by rw [List.take_add_one, HX.out]; rfl
        have ht2 : l2.take (k+1) = l2.take k ++ [y] := by rw [List.take_add_one, HY.out]; rfl
        have HT1 := Lib.hid ht1; have HT2 := Lib.hid ht2; clear ht1 ht2
        by_cases hxy : x = y
        · subst hxy
          go_wp2
          go_quiet (fail)
          go_wp2
          go_roundw
          case rel => exact ⟨k + 1, m + nq, by omega, by go_num, rfl, by rw [HT1.out, HT2.out, HE.out]⟩
          case measure => simp [intOf]; omega
        · have hne2 : ((x.toNat : Int) != (y.toNat : Int)) = true := by
            simp only [bne_iff_ne, ne_eq]; intro h; exact hxy (UInt8.toNat_inj.1 (by omega))
          have hfin : decide (l1 = l2) = false := by
            simp only [decide_eq_false_iff_not]; intro h
            have := HX.out; rw [h, HY.out] at this; exact hxy (by simpa using this.symm)
          have HF := Lib.hid hfin; clear hfin hxy
          go_wp2
          go_quiet (fail)
          go_wp2
          go_ret
          exact ⟨by rw [HF.out]; rfl, _, by first | rfl | exact World.drewN_drewN _ _ _⟩
      · have : k = l1.length := by omega
        have hfin : decide (l1 = l2) = true := by
          simp only [decide_eq_true_eq]
          have := HE.out; rw [List.take_of_length_le (by omega), List.take_of_length_le (by omega)] at this; exact this
        have HF := Lib.hid hfin; clear hfin this HB1 HB2
        go_wp2
        go_ret
        exact ⟨by rw [HF.out]; rfl, _, rfl⟩
  · have hne : ((l1.length : Int) != (l2.length : Int)) = true := by
      simp only [bne_iff_ne, ne_eq]; omega
    have hfin : decide (l1 = l2) = false := by simp only [decide_eq_false_iff_not]; intro h; exact hlen (by rw [h])
    have HF := Lib.hid hfin; clear hfin hlen HB1 HB2
    go_enter Tryd.func20, Tryd.ntmps20
    go_wp2
    go_ret
    exact ⟨by rw [HF.out]; rfl, 0, rfl⟩
/-- A row of bytes of our own, whole. -/
def Own (w : World) (g : Nat) (l : List UInt8) : Prop := ∃ cur, w.heap[g]? = some (.cells cur 5 (0, 0)) ∧ l.length ≤ cur.size ∧ cur.toList.take l.length = l.map B8
theorem Own.get {w : World} {g : Nat} {l : List UInt8} (h : Own w g l) (k : Nat) (hk : k < l.length) :
    ∃ x, l[k]? = some x ∧ w.cell? ⟨g, k, none⟩ = some (.int .u8 (x.toNat : Int)) ∧ (x.toNat : Int) < 256 := by
  obtain ⟨cur, hh, hsz, ht⟩ := h
  refine ⟨l[k], List.getElem?_eq_getElem hk, ?_, by have := l[k].toNat_lt; omega⟩
  have : (cur.toList.take l.length)[k]? = some (B8 l[k]) := by rw [ht]; simp [hk]
  rw [List.getElem?_take] at this
  simp only [hk, if_true] at this
  simp only [World.cell?, hh, Option.isSome_none, Bool.false_eq_true, if_false]
  simpa using this
theorem Own.free {w : World} {g : Nat} {l : List UInt8} (h : Own w g l) (k : Nat) : w.frozen? ⟨g, k, none⟩ = false := by
  obtain ⟨cur, hh, _⟩ := h
  simp [World.frozen?, hh]
theorem Own.lt {w : World} {g : Nat} {l : List UInt8} (h : Own w g l) : g < w.heap.size := by
  obtain ⟨cur, hh, _⟩ := h
  rcases Nat.lt_or_ge g w.heap.size with h | h
  · exact h
  · rw [Array.getElem?_eq_none h] at hh; simp at hh
theorem Own.set {w : World} {g : Nat} {l : List UInt8} (h : Own w g l) (k : Nat) (x : UInt8) : Own (w.setCell ⟨g, k, none⟩ (.int .u8 (x.toNat : Int))) g (l.set k x) := by
  obtain ⟨cur, hh, hsz, ht⟩ := h
  refine ⟨cur.setIfInBounds k (B8 x), ?_, by simpa using hsz, ?_⟩
  · simp [World.setCell, Array.getElem?_modify, hh]
  · simp only [List.length_set, Array.toList_setIfInBounds, List.map_set]
    rw [← ht, List.take_set]
theorem Own.congr {w w' : World} {g : Nat} {l : List UInt8} (h : Own w g l) (he : w'.heap[g]? = w.heap[g]?) : Own w' g l := by
  obtain ⟨cur, hh, r⟩ := h
  exact ⟨cur, by rw [he]; exact hh, r⟩
theorem Own.sl {w : World} {g : Nat} {l : List UInt8} (h : Own w g l) (cap : Nat) (hc : l.length ≤ cap) (hm : cap ≤ maxLen) : Sl w (.slice (some ⟨g, 0, none⟩) l.length cap) l :=
  ⟨_, cap, rfl, hc, hm, by simp, fun _ => ⟨g, 0, rfl, h.lt, fun i x hx => by
    have hi : i < l.length := by
      rcases Nat.lt_or_ge i l.length with h | h
      · exact h
      · rw [List.getElem?_eq_none h] at hx; simp at hx
    obtain ⟨y, hy, hc, _⟩ := h.get i hi
    rw [hx] at hy; obtain rfl : x = y := by simpa using hy
    simpa using hc⟩⟩
/-- What was copied, where it is not empty: a row of our own. -/
theorem own_of {w : World} {v : Value} {l : List UInt8} {base n : Nat} (h : w.ownsRow base 5 1 v n (l.map B8)) (hne : l ≠ []) :
    ∃ g cap, v = .slice (some ⟨g, 0, none⟩) l.length cap ∧ base ≤ g ∧ l.length ≤ cap ∧ cap ≤ maxLen ∧ Own w g l := by
  have hn := (Sl.of_own h).2
  obtain ⟨h1, h2⟩ := h
  rcases h2 with ⟨rfl, h0⟩ | ⟨g, cap, cur, rfl, hb, hh, hle, hcap, hsz, htake⟩
  · exact (hne (List.eq_nil_of_length_eq_zero (by omega))).elim
  · subst hn
    exact ⟨g, cap, rfl, hb, hle, hcap, cur, hh, by omega, by simpa using htake⟩
theorem Own.drewN {w : World} {g : Nat} {l : List UInt8} (h : Own w g l) (n : Nat) : Own (w.drewN n) g l := h
theorem Own.drew {w : World} {g : Nat} {l : List UInt8} (h : Own w g l) : Own w.drew g l := h
/-- The bytes of a slice, where it leads: for an append of all of it. -/
theorem Sl.news {w : World} {ad : Addr} {cap : Nat} {l : List UInt8} (h : Sl w (.slice (some ad) l.length cap) l) : ∀ j u, (l.map B8)[j]? = some u → w.cell? (ad.add j) = some u := by
  obtain ⟨ao, c, hv, h1, h2, h3, h4⟩ := h
  simp only [Value.slice.injEq] at hv
  obtain ⟨rfl, -, rfl⟩ := hv
  intro j u hj
  simp only [List.getElem?_map, Option.map_eq_some_iff] at hj
  obtain ⟨x, hx, rfl⟩ := hj
  have hne : l ≠ [] := by intro h; subst h; simp at hx
  obtain ⟨b, off, he, hb, hB⟩ := h4 hne
  injection he with he
  subst he
  have := hB j x hx
  unfold Addr.add
  split
  · rename_i h0; subst h0; simpa using this
  · exact this
end Go.Proofs.YtpgnlhfokffioaaDoor
