/-
  What is kept: the reference's Put.
-/
import Derived.Test.YtoibdhncfdjdoaaDoorKeX
import Derived.Lib.ConvBytes
namespace Go.Proofs.YtoibdhncfdjdoaaDoor
open Go.RowKit Go.Lib
theorem msown_cat {w : World} {base n : Nat} {v : Value} {A D : List EMessage} (hn : n = A.length + D.length) (h : w.ownsRow base 60 4 v n ((A.map rowMessage).flatten ++ (D.map rowMessage).flatten)) : MsOwn w base v (A ++ D) := by
  subst hn
  unfold MsOwn
  rw [List.map_append, List.flatten_append, List.length_append]
  exact h
theorem takeM {w : World} {L : List EMessage} {ao : Option Addr} {cap : Nat} (hv : SlR w 4 (.slice ao L.length cap) (L.map rowMessage)) (i : Nat) (hi : i ≤ L.length) : SlR w 4 (.slice ao i cap) ((L.take i).map rowMessage) := by
  have hti : (L.take i).length = i := by rw [List.length_take]; omega
  obtain ⟨_, _, hv, q1, q2, q3, q4⟩ := hv
  injection hv with g1 g2 g3
  subst g1 g3
  refine ⟨_, _, by rw [List.length_map, hti], by rw [List.length_map, hti]; rw [List.length_map] at q1; omega, q2, q3, fun hne => ?_⟩
  obtain ⟨b', o', he, hlt', hB'⟩ := q4 (by rintro h; rw [List.map_eq_nil_iff] at h; subst h; simp at hne)
  refine ⟨b', o', he, hlt', fun k r hk => hB' k r ?_⟩
  rw [List.getElem?_map, List.getElem?_take] at hk
  rw [List.getElem?_map]
  split at hk
  · exact hk
  · cases hk
theorem newsM_drop {w : World} {L : List EMessage} {b off cap : Nat} (hv : SlR w 4 (.slice (some ⟨b, off, none⟩) L.length cap) (L.map rowMessage)) (k : Nat) : ∀ j u, (((L.drop k).map rowMessage).flatten)[j]? = some u → w.cell? ((if cap = k then (⟨b, off, none⟩ : Addr) else (⟨b, off, none⟩ : Addr).add (k * 4)).add j) = some u := by
  intro j u hj
  by_cases hc : cap = k
  · obtain ⟨_, _, hv, q1, -⟩ := hv
    injection hv with g1 g2 g3
    rw [List.length_map] at q1
    rw [List.drop_of_length_le (by omega)] at hj
    simp at hj
  · rw [if_neg hc]
    rw [List.map_drop, flatten_drop 4 _ (ms_n L), List.getElem?_drop] at hj
    have h := SlR.news (ad := ⟨b, off, none⟩) (cap := cap) (by decide) (ms_n L) (by rw [List.length_map]; exact hv) _ u hj
    rw [add_off] at h
    rw [add_off, add_off, Nat.add_assoc]
    exact h
/-- Where what stays begins. -/
def rputK (L : List EMessage) (t : ByteArray) : Nat := if thB L t = true then placeN L t + 1 else placeN L t
/-- The reference's list with a message said. -/
def rputL (L : List EMessage) (x : EMessage) : List EMessage := (if noneB x = true then L.take (placeN L x.t) else L.take (placeN L x.t) ++ [x]) ++ L.drop (rputK L x.t)
def rputR (L : List EMessage) (x : EMessage) : List EMessage × Int := if (!noneB x && !thB L x.t && decide (16 ≤ L.length)) = true then ([], 5) else (rputL L x, 0)
theorem rput_list {L : List EMessage} {x : EMessage} : rputL L x = putL L x := by
  unfold rputL putL outL rputK
  cases ht : thB L x.t with
  | true =>
    have hlt := thB_lt ht
    simp only [if_true]
    have e1 : (L.eraseIdx (placeN L x.t)).take (placeN L x.t) = L.take (placeN L x.t) := by
      rw [List.eraseIdx_eq_take_drop_succ, List.take_append_of_le_length (by rw [List.length_take]; omega), List.take_take, Nat.min_self]
    have e2 : (L.eraseIdx (placeN L x.t)).drop (placeN L x.t) = L.drop (placeN L x.t + 1) := by
      rw [List.eraseIdx_eq_take_drop_succ]
      exact List.drop_left' (by rw [List.length_take]; omega)
    cases hn : noneB x with
    | true => simp only [if_true]; rw [List.eraseIdx_eq_take_drop_succ]
    | false => simp only [Bool.false_eq_true, if_false]; rw [e1, e2, List.append_assoc]; rfl
  | false =>
    simp only [Bool.false_eq_true, if_false]
    cases hn : noneB x with
    | true => simp only [if_true]; exact List.take_append_drop _ _
    | false => simp only [Bool.false_eq_true, if_false]; rw [List.append_assoc]; rfl
theorem rput_eq {L : List EMessage} {x : EMessage} (h : keptB L = true) (hx : msgB x = true) : rputR L x = putR L x := by
  have h16 := (kept_parts h).1
  unfold rputR putR
  rw [h, hx, rput_list, show decide (16 ≤ L.length) = decide (L.length = 16) from decide_eq_decide.2 (by omega)]
  rfl
set_option maxRecDepth 100000 in
set_option maxHeartbeats 8000000 in
theorem rput_any (v : Value) (L : List EMessage) (x : EMessage) (w : World) (hv : SlOf w 4 EMessage.At v L) (hr : Rising L) (hl : L.length ≤ 1000) :
    Calls Tryd.prog 37 #[v, .agg #[.string x.t, .string x.p, .int .i64 x.q, .bool x.r]] w fun e w' => ∃ v', e = .returned (.tuple #[v', .int .i64 (rputR L x).2]) ∧ MsOwn w' w.heap.size v' (rputR L x).1 ∧ Below w.heap.size w w' := by
  obtain ⟨R, hR⟩ : ∃ R, rputR L x = R := ⟨_, rfl⟩
  rw [hR]
  have HV := Lib.hid hv
  have HRI := Lib.hid hr
  have HR := Lib.hid hR
  obtain ⟨i0, hi0, hz0, hz1, hz2⟩ := info_parts infoMessage
  obtain ⟨ao, cap, rfl, hlc, hlm, hnone, hB⟩ := hv
  have HB := Lib.hid hB
  have HNONE := Lib.hid hnone
  clear hB hr hR hnone
  have CP := Lib.hid (fun i (hi : i ≤ L.length) W (hb : Below w.heap.size w W) => copyMs_any (.slice ao i cap) (L.take i) W (by rw [List.length_take]; omega) (takeM (HV.out.msR.below hb) i hi))
  go_enter Tryd.func37, Tryd.ntmps37
  go_wp2
  go_loopw [6] (fun vi wr => ∃ i : Nat, i ≤ L.length ∧ vi = .int .i64 i ∧ Below w.heap.size w wr ∧ MxAt wr w.heap.size x ∧ (∀ k q, L[k]? = some q → k < i → sl q.t x.t = true)) (fun i _ => L.length - (RowKit.intOf i).toNat)
  case atStart => exact ⟨0, by omega, rfl, (Below.refl _ _).alloc (Nat.le_refl _) _, ⟨by simp [go_sem], by simp [go_sem], by simp [go_sem], by simp [go_sem], by simp⟩, fun k q _ h => by omega⟩
  case round =>
    obtain ⟨i, hi, rfl, hb, hx, hlow⟩ := hrel
    have HW := Lib.hid hb
    have HX := Lib.hid hx
    have HLO := Lib.hid hlow
    clear hb hx hlow
    by_cases hlt : i < L.length
    · have hltz : (i : Int) < (L.length : Int) := by omega
      obtain ⟨b, off, rfl, hbk, hBB⟩ := HB.out (by intro h; simp [h] at hlt)
      obtain ⟨y, hy⟩ : ∃ y, L[i]? = some y := ⟨_, List.getElem?_eq_getElem hlt⟩
      obtain ⟨c0, -, -, -⟩ := hBB _ y hy
      have d0 := (HW.out.cell (p := ⟨b, off + i * 4, none⟩) hbk).trans c0
      have HY := Lib.hid hy
      have HC0 := Lib.hid c0
      clear hBB c0 hy
      obtain ⟨e0, -, -, -, elt⟩ := id HX.out
      cases hs : sl y.t x.t with
      | true =>
        have HSL := Lib.hid hs
        have hbl : Op.bytesLess y.t.toList x.t.toList = true := hs
        clear hs
        go_wp2_with fail
        go_quiet (fail)
        have hbq := bdrew (Below.refl wr.heap.size wr) nq
        go_wp2
        go_roundw
        case rel => exact ⟨i + 1, by omega, by go_num, HW.out.trans (hbq.mono HW.out.size), HX.out.below hbq, fun k q hk hl => by
          rcases Nat.lt_or_ge k i with h | h
          · exact HLO.out k q hk h
          · obtain rfl : k = i := by omega
            rw [HY.out] at hk; injection hk with hk; rw [← hk]; exact HSL.out⟩
        case measure => simp [RowKit.intOf]; omega
      | false =>
        have hbl : Op.bytesLess y.t.toList x.t.toList = false := hs
        go_wp2_with fail
        go_quiet (fail)
        have HPL := Lib.hid (show placeN L x.t = i from place_eq ⟨hi, HLO.out, fun k q hk hl => by
          rcases Nat.eq_or_lt_of_le hl with he | hgt
          · subst he; rw [HY.out] at hk; injection hk with hk; rw [← hk]; exact hs
          · cases hq : sl q.t x.t with
            | false => rfl
            | true => have := sl_trans (HRI.out _ _ y q HY.out hk hgt) hq; rw [hs] at this; cases this⟩)
        clear hs d0
        have hsl : ∀ W, (Instr.sliceAt 53 (.slice (some ⟨b, off, none⟩) L.length cap) none (some (.int .i64 (i : Int))) none).run Tryd.prog W = .ok (.slice (some ⟨b, off, none⟩) i cap) W := fun W => by
          exact ro_slice_to W _ 60 Tryd.underlying53 hi0 _ _ _ _ (by omega)
        go_wp2_with fail
        refine calls_gen (fun W => Below w.heap.size w W ∧ MxAt W w.heap.size x) ⟨HW.out.trans ((bdrew (Below.refl _ _) nq).mono HW.out.size), HX.out.below (bdrew (Below.refl _ _) nq)⟩ ?_
        rintro W1 ⟨hb1, hx1⟩
        have HB1 := Lib.hid hb1
        obtain ⟨q0, hq0⟩ : ∃ q, q = w.heap.size := ⟨_, rfl⟩
        have hq0le : w.heap.size ≤ q0 := by omega
        rw [← hq0] at hx1 ⊢
        have HX1 := Lib.hid hx1
        clear hq0 hb1 hx1 nq e0 elt
        have C1 := Lib.hid (CP.out i hi W1 HB1.out)
        obtain ⟨A, hA⟩ : ∃ A, L.take i = A := ⟨_, rfl⟩
        have HA := Lib.hid hA
        rw [hA] at C1
        clear hA
        (with_reducible refine C1.out.mono ?_)
        rintro e W4 ⟨v4, rfl, ho4, hb4⟩
        have HX4 := Lib.hid (HX1.out.below hb4)
        have HB4 := Lib.hid (HB1.out.trans (hb4.mono HB1.out.size))
        have HO4 := Lib.hid (show MsOwn W4 w.heap.size v4 A from own_mono ho4 HB1.out.size)
        obtain ⟨ao4, cap4, rfl⟩ := own_slice HO4.out
        have HAL := Lib.hid (show A.length = i by rw [← HA.out, List.length_take]; omega)
        clear hb4 ho4 hsl C1 HX1 HB1
        cases hey : (y.t.toList == x.t.toList) with
        | true =>
          have d0' := (HB4.out.cell (p := ⟨b, off + i * 4, none⟩) hbk).trans HC0.out
          obtain ⟨e0, -, -, -, elt⟩ := id HX4.out
          go_wp2_with fail
          go_quiet (fail)
          have hq5 : Below w.heap.size w (W4.drewN nq) ∧ MxAt (W4.drewN nq) q0 x ∧ MsOwn (W4.drewN nq) w.heap.size (.slice ao4 A.length cap4) A := ⟨HB4.out.trans ((bdrew (Below.refl _ _) nq).mono HB4.out.size), HX4.out.below (bdrew (Below.refl _ _) nq), HO4.out.below (bdrew (Below.refl _ _) nq)⟩
          revert hq5
          generalize W4.drewN nq = W5
          rintro ⟨hb5, hx5, ho5⟩
          have HB5 := Lib.hid hb5
          have HX5 := Lib.hid hx5
          have HO5 := Lib.hid ho5
          clear hb5 hx5 ho5 HB4 HX4 HO4 nq e0 elt
          clear d0'
          have HTH := Lib.hid (show thB L x.t = true by unfold thB thereB; rw [HPL.out, HY.out]; exact decide_eq_true (ba_inj _ _ (beq_iff_eq.1 hey)))
          have HK := Lib.hid (show rputK L x.t = (i + 1) by unfold rputK; rw [HTH.out, HPL.out]; rw [if_pos rfl])
          obtain ⟨D, hD⟩ : ∃ D, L.drop (i + 1) = D := ⟨_, rfl⟩
          have HD := Lib.hid hD
          obtain ⟨m, hm⟩ : ∃ m, L.length - (i + 1) = m := ⟨_, rfl⟩
          have HM := Lib.hid (show A.length + 1 + m ≤ 1001 by have := HAL.out; omega)
          have HDL := Lib.hid (show D.length = m by rw [← hD, List.length_drop, hm])
          obtain ⟨ad9, had9⟩ : ∃ a : Addr, a = if cap = (i + 1) then (⟨b, off, none⟩ : Addr) else (⟨b, off, none⟩ : Addr).add ((i + 1) * 4) := ⟨_, rfl⟩
          obtain ⟨cm, hcm⟩ : ∃ cm, cap - (i + 1) = cm := ⟨_, rfl⟩
          have HNW := Lib.hid (show ∀ W, Below w.heap.size w W → ∀ j u, ((D.map rowMessage).flatten)[j]? = some u → W.cell? (ad9.add j) = some u by intro W hb; rw [had9, ← hD]; exact newsM_drop (HV.out.msR.below hb) (i + 1))
          have HF9 := Lib.hid (show ((D.map rowMessage).flatten).length = m * 4 by rw [flatten_len _ (ms_n _), List.length_map, HDL.out])
          have hsl6 : ∀ W, (Instr.sliceAt 53 (.slice (some ⟨b, off, none⟩) L.length cap) (some (.int .i64 (((i + 1) : Nat) : Int))) none none).run Tryd.prog W = .ok (.slice (some ad9) m cm) W := fun W => by
            rw [had9, ← hm, ← hcm]
            exact ro_slice_from W _ 60 4 Tryd.underlying53 size_message _ _ _ _ (by omega)
          have hsl7 : ∀ W, (Instr.sliceAt 53 (.slice (some ⟨b, off, none⟩) L.length cap) (some (.int .i64 ((i : Int) + 1))) none none).run Tryd.prog W = .ok (.slice (some ad9) m cm) W := fun W => hsl6 W
          clear had9 hcm
          clear hD hm
          cases hN : noneB x with
          | true =>
            have hp1 : (x.p.toList == (⟨#[]⟩ : ByteArray).toList) = true := hN
            have hp2 : (x.p.toList == []) = true := by rw [← hN]; unfold noneB; rw [show (⟨#[]⟩ : ByteArray).toList = [] by rw [Lib.toList_data]]
            have hp3 : x.p.toList.isEmpty = true := by rw [← hp2]; cases x.p.toList <;> rfl
            have HRE := Lib.hid (show R = (A ++ D, 0) by rw [← HR.out]; unfold rputR rputL; rw [hN, HPL.out, HK.out, HA.out, HD.out]; rfl)
            clear hN
            obtain ⟨c0, c1, c2, c3, clt⟩ := id HX5.out
            have HBZ := Lib.hid HB5.out
            have HOZ := Lib.hid HO5.out
            go_wp2_with (first | (at_builtin; refine wpList_append_at _ rfl _ _ 53 rfl w.heap.size 60 i0 (.agg #[.string ByteArray.empty, .string ByteArray.empty, .int .i64 0, .bool false]) 4 48 Tryd.underlying53 hi0 hz0 hz1 hz2 rfl (by decide) _ _ _ rfl HOZ.out ad9 m cm ((D.map rowMessage).flatten) rfl HF9.out (HNW.out _ HBZ.out) (ms_one _) (by have := HM.out; unfold maxLen; omega) (by have := HM.out; omega) HBZ.out.size ?_))
            intro v' w1 hown' hgrow hat
            have HB11 := Lib.hid (HBZ.out.grown hgrow HBZ.out.size (by intro k hk; exact (HOZ.out.lt k hk).1))
            have HO11 := Lib.hid hown'
            clear hown' hgrow hat
            go_wp2_with fail
            go_ret2
            exact ⟨v', by rw [HRE.out]; rfl, by rw [HRE.out]; exact msown_cat (by rw [HDL.out]) HO11.out, HB11.out⟩

          | false =>
            have hp1 : (x.p.toList == (⟨#[]⟩ : ByteArray).toList) = false := hN
            have hp2 : (x.p.toList == []) = false := by rw [← hN]; unfold noneB; rw [show (⟨#[]⟩ : ByteArray).toList = [] by rw [Lib.toList_data]]
            have hp3 : x.p.toList.isEmpty = false := by rw [← hp2]; cases x.p.toList <;> rfl
            have hNN := Lib.hid hN
            clear hN
            have HOA := Lib.hid (World.ownsRow.alloc HO5.out (Obj.cells #[.string x.t, .string x.p, .int .i64 x.q, .bool x.r] 60))
            have HBA := Lib.hid (HB5.out.alloc HB5.out.size (Obj.cells #[.string x.t, .string x.p, .int .i64 x.q, .bool x.r] 60))
            have HNA := Lib.hid (newsM_alloc W5 x)
            have HR1 := Lib.hid (show ∀ u ∈ rowMessage x, u.oneCell' = true by intro u hu; simp at hu; rcases hu with rfl | rfl | rfl | rfl <;> rfl)
            obtain ⟨c0, c1, c2, c3, clt⟩ := id HX5.out
            go_wp2_with (first | (at_builtin; refine wpList_append_at _ rfl _ _ 53 rfl w.heap.size 60 i0 (.agg #[.string ByteArray.empty, .string ByteArray.empty, .int .i64 0, .bool false]) 4 48 Tryd.underlying53 hi0 hz0 hz1 hz2 rfl (by decide) _ _ _ rfl HOA.out ⟨W5.heap.size, 0, none⟩ 1 1 (rowMessage x) rfl rfl HNA.out HR1.out (by have := HM.out; unfold maxLen; omega) (by have := HM.out; omega) HBA.out.size ?_))
            intro v6 W6 hown6 hgrow6 hat6
            have HB6 := Lib.hid (HBA.out.grown hgrow6 HBA.out.size (by intro k hk; exact (HOA.out.lt k hk).1))
            have HO6 := Lib.hid (msown_snoc rfl hown6)
            obtain ⟨A2, hA2⟩ : ∃ A2, A ++ [x] = A2 := ⟨_, rfl⟩
            have HA2 := Lib.hid hA2
            have HM2 := Lib.hid (show A2.length + m ≤ 1001 by rw [← hA2, List.length_append]; exact HM.out)
            rw [hA2] at HO6
            clear hown6 hgrow6 hat6 hA2 HNA HR1 HOA HBA HB5 HX5 HO5 c0 c1 c2 c3 clt
            obtain ⟨ao6, cap6, hv6⟩ := own_slice HO6.out
            subst hv6
            have HRE := Lib.hid (show R = (A2 ++ D, 0) by rw [← HR.out, ← HA2.out]; unfold rputR rputL; rw [hNN.out, HPL.out, HK.out, HA.out, HD.out, HTH.out]; rfl)
            have HBZ := Lib.hid HB6.out
            have HOZ := Lib.hid HO6.out
            go_wp2_with (first | (at_builtin; refine wpList_append_at _ rfl _ _ 53 rfl w.heap.size 60 i0 (.agg #[.string ByteArray.empty, .string ByteArray.empty, .int .i64 0, .bool false]) 4 48 Tryd.underlying53 hi0 hz0 hz1 hz2 rfl (by decide) _ _ _ rfl HOZ.out ad9 m cm ((D.map rowMessage).flatten) rfl HF9.out (HNW.out _ HBZ.out) (ms_one _) (by have := HM2.out; unfold maxLen; omega) (by have := HM2.out; omega) HBZ.out.size ?_))
            intro v' w1 hown' hgrow hat
            have HB11 := Lib.hid (HBZ.out.grown hgrow HBZ.out.size (by intro k hk; exact (HOZ.out.lt k hk).1))
            have HO11 := Lib.hid hown'
            clear hown' hgrow hat
            go_wp2_with fail
            go_ret2
            exact ⟨v', by rw [HRE.out]; rfl, by rw [HRE.out]; exact msown_cat (by rw [HDL.out]) HO11.out, HB11.out⟩

        | false =>
          have d0' := (HB4.out.cell (p := ⟨b, off + i * 4, none⟩) hbk).trans HC0.out
          obtain ⟨e0, -, -, -, elt⟩ := id HX4.out
          go_wp2_with fail
          go_quiet (fail)
          have hq5 : Below w.heap.size w (W4.drewN nq) ∧ MxAt (W4.drewN nq) q0 x ∧ MsOwn (W4.drewN nq) w.heap.size (.slice ao4 A.length cap4) A := ⟨HB4.out.trans ((bdrew (Below.refl _ _) nq).mono HB4.out.size), HX4.out.below (bdrew (Below.refl _ _) nq), HO4.out.below (bdrew (Below.refl _ _) nq)⟩
          revert hq5
          generalize W4.drewN nq = W5
          rintro ⟨hb5, hx5, ho5⟩
          have HB5 := Lib.hid hb5
          have HX5 := Lib.hid hx5
          have HO5 := Lib.hid ho5
          clear hb5 hx5 ho5 HB4 HX4 HO4 nq e0 elt
          clear d0'
          have HTH := Lib.hid (show thB L x.t = false by
            unfold thB thereB; rw [HPL.out, HY.out]
            refine decide_eq_false fun h => ?_
            rw [h] at hey; simp at hey)
          have HK := Lib.hid (show rputK L x.t = i by unfold rputK; rw [HTH.out, HPL.out]; rw [if_neg Bool.false_ne_true])
          obtain ⟨D, hD⟩ : ∃ D, L.drop i = D := ⟨_, rfl⟩
          have HD := Lib.hid hD
          obtain ⟨m, hm⟩ : ∃ m, L.length - i = m := ⟨_, rfl⟩
          have HM := Lib.hid (show A.length + 1 + m ≤ 1001 by have := HAL.out; omega)
          have HDL := Lib.hid (show D.length = m by rw [← hD, List.length_drop, hm])
          obtain ⟨ad9, had9⟩ : ∃ a : Addr, a = if cap = i then (⟨b, off, none⟩ : Addr) else (⟨b, off, none⟩ : Addr).add (i * 4) := ⟨_, rfl⟩
          obtain ⟨cm, hcm⟩ : ∃ cm, cap - i = cm := ⟨_, rfl⟩
          have HNW := Lib.hid (show ∀ W, Below w.heap.size w W → ∀ j u, ((D.map rowMessage).flatten)[j]? = some u → W.cell? (ad9.add j) = some u by intro W hb; rw [had9, ← hD]; exact newsM_drop (HV.out.msR.below hb) i)
          have HF9 := Lib.hid (show ((D.map rowMessage).flatten).length = m * 4 by rw [flatten_len _ (ms_n _), List.length_map, HDL.out])
          have hsl6 : ∀ W, (Instr.sliceAt 53 (.slice (some ⟨b, off, none⟩) L.length cap) (some (.int .i64 ((i : Nat) : Int))) none none).run Tryd.prog W = .ok (.slice (some ad9) m cm) W := fun W => by
            rw [had9, ← hm, ← hcm]
            exact ro_slice_from W _ 60 4 Tryd.underlying53 size_message _ _ _ _ (by omega)
          clear had9 hcm
          clear hD hm
          cases hN : noneB x with
          | true =>
            have hp1 : (x.p.toList == (⟨#[]⟩ : ByteArray).toList) = true := hN
            have hp2 : (x.p.toList == []) = true := by rw [← hN]; unfold noneB; rw [show (⟨#[]⟩ : ByteArray).toList = [] by rw [Lib.toList_data]]
            have hp3 : x.p.toList.isEmpty = true := by rw [← hp2]; cases x.p.toList <;> rfl
            have HRE := Lib.hid (show R = (A ++ D, 0) by rw [← HR.out]; unfold rputR rputL; rw [hN, HPL.out, HK.out, HA.out, HD.out]; rfl)
            clear hN
            obtain ⟨c0, c1, c2, c3, clt⟩ := id HX5.out
            have HBZ := Lib.hid HB5.out
            have HOZ := Lib.hid HO5.out
            go_wp2_with (first | (at_builtin; refine wpList_append_at _ rfl _ _ 53 rfl w.heap.size 60 i0 (.agg #[.string ByteArray.empty, .string ByteArray.empty, .int .i64 0, .bool false]) 4 48 Tryd.underlying53 hi0 hz0 hz1 hz2 rfl (by decide) _ _ _ rfl HOZ.out ad9 m cm ((D.map rowMessage).flatten) rfl HF9.out (HNW.out _ HBZ.out) (ms_one _) (by have := HM.out; unfold maxLen; omega) (by have := HM.out; omega) HBZ.out.size ?_))
            intro v' w1 hown' hgrow hat
            have HB11 := Lib.hid (HBZ.out.grown hgrow HBZ.out.size (by intro k hk; exact (HOZ.out.lt k hk).1))
            have HO11 := Lib.hid hown'
            clear hown' hgrow hat
            go_wp2_with fail
            go_ret2
            exact ⟨v', by rw [HRE.out]; rfl, by rw [HRE.out]; exact msown_cat (by rw [HDL.out]) HO11.out, HB11.out⟩

          | false =>
            have hp1 : (x.p.toList == (⟨#[]⟩ : ByteArray).toList) = false := hN
            have hp2 : (x.p.toList == []) = false := by rw [← hN]; unfold noneB; rw [show (⟨#[]⟩ : ByteArray).toList = [] by rw [Lib.toList_data]]
            have hp3 : x.p.toList.isEmpty = false := by rw [← hp2]; cases x.p.toList <;> rfl
            have hNN := Lib.hid hN
            clear hN
            by_cases h16 : 16 ≤ L.length
            · have h16z : (16 : Int) ≤ (L.length : Int) := by omega
              have HRE := Lib.hid (show R = ([], 5) by rw [← HR.out]; unfold rputR; rw [hNN.out, HTH.out, decide_eq_true h16]; rfl)
              obtain ⟨c0, c1, c2, c3, clt⟩ := id HX5.out
              go_wp2_with fail
              go_ret2
              exact ⟨_, by rw [HRE.out]; rfl, by rw [HRE.out]; exact MsOwn.nil _ _, HB5.out⟩

            · have h16z : ¬ (16 : Int) ≤ (L.length : Int) := by omega
              have HFF := Lib.hid (decide_eq_false h16)
              have HOA := Lib.hid (World.ownsRow.alloc HO5.out (Obj.cells #[.string x.t, .string x.p, .int .i64 x.q, .bool x.r] 60))
              have HBA := Lib.hid (HB5.out.alloc HB5.out.size (Obj.cells #[.string x.t, .string x.p, .int .i64 x.q, .bool x.r] 60))
              have HNA := Lib.hid (newsM_alloc W5 x)
              have HR1 := Lib.hid (show ∀ u ∈ rowMessage x, u.oneCell' = true by intro u hu; simp at hu; rcases hu with rfl | rfl | rfl | rfl <;> rfl)
              obtain ⟨c0, c1, c2, c3, clt⟩ := id HX5.out
              go_wp2_with (first | (at_builtin; refine wpList_append_at _ rfl _ _ 53 rfl w.heap.size 60 i0 (.agg #[.string ByteArray.empty, .string ByteArray.empty, .int .i64 0, .bool false]) 4 48 Tryd.underlying53 hi0 hz0 hz1 hz2 rfl (by decide) _ _ _ rfl HOA.out ⟨W5.heap.size, 0, none⟩ 1 1 (rowMessage x) rfl rfl HNA.out HR1.out (by have := HM.out; unfold maxLen; omega) (by have := HM.out; omega) HBA.out.size ?_))
              intro v6 W6 hown6 hgrow6 hat6
              have HB6 := Lib.hid (HBA.out.grown hgrow6 HBA.out.size (by intro k hk; exact (HOA.out.lt k hk).1))
              have HO6 := Lib.hid (msown_snoc rfl hown6)
              obtain ⟨A2, hA2⟩ : ∃ A2, A ++ [x] = A2 := ⟨_, rfl⟩
              have HA2 := Lib.hid hA2
              have HM2 := Lib.hid (show A2.length + m ≤ 1001 by rw [← hA2, List.length_append]; exact HM.out)
              rw [hA2] at HO6
              clear hown6 hgrow6 hat6 hA2 HNA HR1 HOA HBA HB5 HX5 HO5 c0 c1 c2 c3 clt
              obtain ⟨ao6, cap6, hv6⟩ := own_slice HO6.out
              subst hv6
              have HRE := Lib.hid (show R = (A2 ++ D, 0) by rw [← HR.out, ← HA2.out]; unfold rputR rputL; rw [hNN.out, HPL.out, HK.out, HA.out, HD.out, HTH.out, HFF.out]; rfl)
              have HBZ := Lib.hid HB6.out
              have HOZ := Lib.hid HO6.out
              go_wp2_with (first | (at_builtin; refine wpList_append_at _ rfl _ _ 53 rfl w.heap.size 60 i0 (.agg #[.string ByteArray.empty, .string ByteArray.empty, .int .i64 0, .bool false]) 4 48 Tryd.underlying53 hi0 hz0 hz1 hz2 rfl (by decide) _ _ _ rfl HOZ.out ad9 m cm ((D.map rowMessage).flatten) rfl HF9.out (HNW.out _ HBZ.out) (ms_one _) (by have := HM2.out; unfold maxLen; omega) (by have := HM2.out; omega) HBZ.out.size ?_))
              intro v' w1 hown' hgrow hat
              have HB11 := Lib.hid (HBZ.out.grown hgrow HBZ.out.size (by intro k hk; exact (HOZ.out.lt k hk).1))
              have HO11 := Lib.hid hown'
              clear hown' hgrow hat
              go_wp2_with fail
              go_ret2
              exact ⟨v', by rw [HRE.out]; rfl, by rw [HRE.out]; exact msown_cat (by rw [HDL.out]) HO11.out, HB11.out⟩

    · have hltz : ¬ (i : Int) < (L.length : Int) := by omega
      have hltd : decide ((i : Int) < (L.length : Int)) = false := decide_eq_false hltz
      obtain ⟨e0, -, -, -, elt⟩ := id HX.out
      go_wp2_with fail
      go_quiet (fail)
      have HIL := Lib.hid (show i = L.length by omega)
      have HPL := Lib.hid (show placeN L x.t = i from place_eq ⟨hi, HLO.out, fun k q hk hl => by
        have := (List.getElem?_eq_some_iff.1 hk).1; omega⟩)
      cases ao with
      | none =>
        have HC0 := Lib.hid (HNONE.out rfl)
        have HL0 := Lib.hid (show L.length = 0 by have := HC0.out; omega)
        have HIZ := Lib.hid (show i = 0 by have := HL0.out; omega)
        have hsl : ∀ W, (Instr.sliceAt 53 (.slice none L.length cap) none (some (.int .i64 (i : Int))) none).run Tryd.prog W = .ok (.slice none i cap) W := fun W => by
          rw [HIZ.out, HL0.out, HC0.out]
          simp [go_sem, Instr.sliceAt, Instr.slice, Instr.sliceBounds, Instr.sliceBound, asIntOf, run_underlying Tryd.underlying53]
        go_wp2_with fail
        refine calls_gen (fun W => Below w.heap.size w W ∧ MxAt W w.heap.size x) ⟨HW.out.trans ((bdrew (Below.refl _ _) nq).mono HW.out.size), HX.out.below (bdrew (Below.refl _ _) nq)⟩ ?_
        rintro W1 ⟨hb1, hx1⟩
        have HB1 := Lib.hid hb1
        obtain ⟨q0, hq0⟩ : ∃ q, q = w.heap.size := ⟨_, rfl⟩
        have hq0le : w.heap.size ≤ q0 := by omega
        rw [← hq0] at hx1 ⊢
        have HX1 := Lib.hid hx1
        clear hq0 hb1 hx1 nq e0 elt
        have C1 := Lib.hid (CP.out i hi W1 HB1.out)
        obtain ⟨A, hA⟩ : ∃ A, L.take i = A := ⟨_, rfl⟩
        have HA := Lib.hid hA
        rw [hA] at C1
        clear hA
        (with_reducible refine C1.out.mono ?_)
        rintro e W4 ⟨v4, rfl, ho4, hb4⟩
        have HX4 := Lib.hid (HX1.out.below hb4)
        have HB4 := Lib.hid (HB1.out.trans (hb4.mono HB1.out.size))
        have HO4 := Lib.hid (show MsOwn W4 w.heap.size v4 A from own_mono ho4 HB1.out.size)
        obtain ⟨ao4, cap4, rfl⟩ := own_slice HO4.out
        have HAL := Lib.hid (show A.length = i by rw [← HA.out, List.length_take]; omega)
        clear hb4 ho4 hsl C1 HX1 HB1
        obtain ⟨e0, -, -, -, elt⟩ := id HX4.out
        go_wp2_with fail
        go_quiet (fail)
        have hq5 : Below w.heap.size w (W4.drewN nq) ∧ MxAt (W4.drewN nq) q0 x ∧ MsOwn (W4.drewN nq) w.heap.size (.slice ao4 A.length cap4) A := ⟨HB4.out.trans ((bdrew (Below.refl _ _) nq).mono HB4.out.size), HX4.out.below (bdrew (Below.refl _ _) nq), HO4.out.below (bdrew (Below.refl _ _) nq)⟩
        revert hq5
        generalize W4.drewN nq = W5
        rintro ⟨hb5, hx5, ho5⟩
        have HB5 := Lib.hid hb5
        have HX5 := Lib.hid hx5
        have HO5 := Lib.hid ho5
        clear hb5 hx5 ho5 HB4 HX4 HO4 nq e0 elt
        have HTH := Lib.hid (show thB L x.t = false by cases h : thB L x.t with | false => rfl | true => have := thB_lt h; rw [HPL.out] at this; omega)
        have HK := Lib.hid (show rputK L x.t = i by unfold rputK; rw [HTH.out, HPL.out]; rw [if_neg Bool.false_ne_true])
        obtain ⟨D, hD⟩ : ∃ D, L.drop i = D := ⟨_, rfl⟩
        have HD := Lib.hid hD
        obtain ⟨m, hm⟩ : ∃ m, L.length - i = m := ⟨_, rfl⟩
        have HM := Lib.hid (show A.length + 1 + m ≤ 1001 by have := HAL.out; omega)
        have HDL := Lib.hid (show D.length = m by rw [← hD, List.length_drop, hm])
        have hsl6 : ∀ W, (Instr.sliceAt 53 (.slice none L.length cap) (some (.int .i64 (i : Int))) none none).run Tryd.prog W = .ok (.slice none 0 0) W := fun W => by
          rw [HIZ.out, HL0.out, HC0.out]
          simp [go_sem, Instr.sliceAt, Instr.slice, Instr.sliceBounds, Instr.sliceBound, asIntOf, run_underlying Tryd.underlying53]
        clear hD hm
        cases hN : noneB x with
        | true =>
          have hp1 : (x.p.toList == (⟨#[]⟩ : ByteArray).toList) = true := hN
          have hp2 : (x.p.toList == []) = true := by rw [← hN]; unfold noneB; rw [show (⟨#[]⟩ : ByteArray).toList = [] by rw [Lib.toList_data]]
          have hp3 : x.p.toList.isEmpty = true := by rw [← hp2]; cases x.p.toList <;> rfl
          have HRE := Lib.hid (show R = (A ++ D, 0) by rw [← HR.out]; unfold rputR rputL; rw [hN, HPL.out, HK.out, HA.out, HD.out]; rfl)
          clear hN
          obtain ⟨c0, c1, c2, c3, clt⟩ := id HX5.out
          have HBZ := Lib.hid HB5.out
          have HOZ := Lib.hid HO5.out
          go_wp2_with (first | (at_builtin; refine wpList_append_own_none rfl _ _ 53 rfl w.heap.size 60 i0 4 Tryd.underlying53 hi0 _ _ _ rfl HOZ.out rfl ?_))
          go_ret2
          exact ⟨_, by rw [HRE.out]; rfl, by rw [HRE.out, show D = [] from List.length_eq_zero_iff.1 (by rw [HDL.out]; have := HL0.out; have := HM.out; rw [← HDL.out, ← HD.out, List.length_drop]; omega), List.append_nil]; exact HOZ.out, HBZ.out⟩

        | false =>
          have hp1 : (x.p.toList == (⟨#[]⟩ : ByteArray).toList) = false := hN
          have hp2 : (x.p.toList == []) = false := by rw [← hN]; unfold noneB; rw [show (⟨#[]⟩ : ByteArray).toList = [] by rw [Lib.toList_data]]
          have hp3 : x.p.toList.isEmpty = false := by rw [← hp2]; cases x.p.toList <;> rfl
          have hNN := Lib.hid hN
          clear hN
          by_cases h16 : 16 ≤ L.length
          · have h16z : (16 : Int) ≤ (L.length : Int) := by omega
            have HRE := Lib.hid (show R = ([], 5) by rw [← HR.out]; unfold rputR; rw [hNN.out, HTH.out, decide_eq_true h16]; rfl)
            obtain ⟨c0, c1, c2, c3, clt⟩ := id HX5.out
            go_wp2_with fail
            go_ret2
            exact ⟨_, by rw [HRE.out]; rfl, by rw [HRE.out]; exact MsOwn.nil _ _, HB5.out⟩

          · have h16z : ¬ (16 : Int) ≤ (L.length : Int) := by omega
            have HFF := Lib.hid (decide_eq_false h16)
            have HOA := Lib.hid (World.ownsRow.alloc HO5.out (Obj.cells #[.string x.t, .string x.p, .int .i64 x.q, .bool x.r] 60))
            have HBA := Lib.hid (HB5.out.alloc HB5.out.size (Obj.cells #[.string x.t, .string x.p, .int .i64 x.q, .bool x.r] 60))
            have HNA := Lib.hid (newsM_alloc W5 x)
            have HR1 := Lib.hid (show ∀ u ∈ rowMessage x, u.oneCell' = true by intro u hu; simp at hu; rcases hu with rfl | rfl | rfl | rfl <;> rfl)
            obtain ⟨c0, c1, c2, c3, clt⟩ := id HX5.out
            go_wp2_with (first | (at_builtin; refine wpList_append_at _ rfl _ _ 53 rfl w.heap.size 60 i0 (.agg #[.string ByteArray.empty, .string ByteArray.empty, .int .i64 0, .bool false]) 4 48 Tryd.underlying53 hi0 hz0 hz1 hz2 rfl (by decide) _ _ _ rfl HOA.out ⟨W5.heap.size, 0, none⟩ 1 1 (rowMessage x) rfl rfl HNA.out HR1.out (by have := HM.out; unfold maxLen; omega) (by have := HM.out; omega) HBA.out.size ?_))
            intro v6 W6 hown6 hgrow6 hat6
            have HB6 := Lib.hid (HBA.out.grown hgrow6 HBA.out.size (by intro k hk; exact (HOA.out.lt k hk).1))
            have HO6 := Lib.hid (msown_snoc rfl hown6)
            obtain ⟨A2, hA2⟩ : ∃ A2, A ++ [x] = A2 := ⟨_, rfl⟩
            have HA2 := Lib.hid hA2
            have HM2 := Lib.hid (show A2.length + m ≤ 1001 by rw [← hA2, List.length_append]; exact HM.out)
            rw [hA2] at HO6
            clear hown6 hgrow6 hat6 hA2 HNA HR1 HOA HBA HB5 HX5 HO5 c0 c1 c2 c3 clt
            obtain ⟨ao6, cap6, hv6⟩ := own_slice HO6.out
            subst hv6
            have HRE := Lib.hid (show R = (A2 ++ D, 0) by rw [← HR.out, ← HA2.out]; unfold rputR rputL; rw [hNN.out, HPL.out, HK.out, HA.out, HD.out, HTH.out, HFF.out]; rfl)
            have HBZ := Lib.hid HB6.out
            have HOZ := Lib.hid HO6.out
            go_wp2_with (first | (at_builtin; refine wpList_append_own_none rfl _ _ 53 rfl w.heap.size 60 i0 4 Tryd.underlying53 hi0 _ _ _ rfl HOZ.out rfl ?_))
            go_ret2
            exact ⟨_, by rw [HRE.out]; rfl, by rw [HRE.out, show D = [] from List.length_eq_zero_iff.1 (by rw [HDL.out]; have := HL0.out; have := HM2.out; rw [← HDL.out, ← HD.out, List.length_drop]; omega), List.append_nil]; exact HOZ.out, HBZ.out⟩

      | some b =>
        have hsl : ∀ W, (Instr.sliceAt 53 (.slice (some b) L.length cap) none (some (.int .i64 (i : Int))) none).run Tryd.prog W = .ok (.slice (some b) i cap) W := fun W => by
          exact ro_slice_to W _ 60 Tryd.underlying53 hi0 _ _ _ _ (by omega)
        go_wp2_with fail
        refine calls_gen (fun W => Below w.heap.size w W ∧ MxAt W w.heap.size x) ⟨HW.out.trans ((bdrew (Below.refl _ _) nq).mono HW.out.size), HX.out.below (bdrew (Below.refl _ _) nq)⟩ ?_
        rintro W1 ⟨hb1, hx1⟩
        have HB1 := Lib.hid hb1
        obtain ⟨q0, hq0⟩ : ∃ q, q = w.heap.size := ⟨_, rfl⟩
        have hq0le : w.heap.size ≤ q0 := by omega
        rw [← hq0] at hx1 ⊢
        have HX1 := Lib.hid hx1
        clear hq0 hb1 hx1 nq e0 elt
        have C1 := Lib.hid (CP.out i hi W1 HB1.out)
        obtain ⟨A, hA⟩ : ∃ A, L.take i = A := ⟨_, rfl⟩
        have HA := Lib.hid hA
        rw [hA] at C1
        clear hA
        (with_reducible refine C1.out.mono ?_)
        rintro e W4 ⟨v4, rfl, ho4, hb4⟩
        have HX4 := Lib.hid (HX1.out.below hb4)
        have HB4 := Lib.hid (HB1.out.trans (hb4.mono HB1.out.size))
        have HO4 := Lib.hid (show MsOwn W4 w.heap.size v4 A from own_mono ho4 HB1.out.size)
        obtain ⟨ao4, cap4, rfl⟩ := own_slice HO4.out
        have HAL := Lib.hid (show A.length = i by rw [← HA.out, List.length_take]; omega)
        clear hb4 ho4 hsl C1 HX1 HB1
        obtain ⟨e0, -, -, -, elt⟩ := id HX4.out
        go_wp2_with fail
        go_quiet (fail)
        have hq5 : Below w.heap.size w (W4.drewN nq) ∧ MxAt (W4.drewN nq) q0 x ∧ MsOwn (W4.drewN nq) w.heap.size (.slice ao4 A.length cap4) A := ⟨HB4.out.trans ((bdrew (Below.refl _ _) nq).mono HB4.out.size), HX4.out.below (bdrew (Below.refl _ _) nq), HO4.out.below (bdrew (Below.refl _ _) nq)⟩
        revert hq5
        generalize W4.drewN nq = W5
        rintro ⟨hb5, hx5, ho5⟩
        have HB5 := Lib.hid hb5
        have HX5 := Lib.hid hx5
        have HO5 := Lib.hid ho5
        clear hb5 hx5 ho5 HB4 HX4 HO4 nq e0 elt
        have HTH := Lib.hid (show thB L x.t = false by cases h : thB L x.t with | false => rfl | true => have := thB_lt h; rw [HPL.out] at this; omega)
        have HK := Lib.hid (show rputK L x.t = i by unfold rputK; rw [HTH.out, HPL.out]; rw [if_neg Bool.false_ne_true])
        obtain ⟨D, hD⟩ : ∃ D, L.drop i = D := ⟨_, rfl⟩
        have HD := Lib.hid hD
        obtain ⟨m, hm⟩ : ∃ m, L.length - i = m := ⟨_, rfl⟩
        have HM := Lib.hid (show A.length + 1 + m ≤ 1001 by have := HAL.out; omega)
        have HDL := Lib.hid (show D.length = m by rw [← hD, List.length_drop, hm])
        obtain ⟨ad9, had9⟩ : ∃ a : Addr, a = if cap = i then b else b.add (i * 4) := ⟨_, rfl⟩
        obtain ⟨cm, hcm⟩ : ∃ cm, cap - i = cm := ⟨_, rfl⟩
        have HNW := Lib.hid (show ∀ W, Below w.heap.size w W → ∀ j u, ((D.map rowMessage).flatten)[j]? = some u → W.cell? (ad9.add j) = some u by intro W hb j u hj; rw [← hD, List.drop_of_length_le (by omega)] at hj; simp at hj)
        have HF9 := Lib.hid (show ((D.map rowMessage).flatten).length = m * 4 by rw [flatten_len _ (ms_n _), List.length_map, HDL.out])
        have hsl6 : ∀ W, (Instr.sliceAt 53 (.slice (some b) L.length cap) (some (.int .i64 ((i : Nat) : Int))) none none).run Tryd.prog W = .ok (.slice (some ad9) m cm) W := fun W => by
          rw [had9, ← hm, ← hcm]
          exact ro_slice_from W _ 60 4 Tryd.underlying53 size_message _ _ _ _ (by omega)
        clear had9 hcm
        clear hD hm
        cases hN : noneB x with
        | true =>
          have hp1 : (x.p.toList == (⟨#[]⟩ : ByteArray).toList) = true := hN
          have hp2 : (x.p.toList == []) = true := by rw [← hN]; unfold noneB; rw [show (⟨#[]⟩ : ByteArray).toList = [] by rw [Lib.toList_data]]
          have hp3 : x.p.toList.isEmpty = true := by rw [← hp2]; cases x.p.toList <;> rfl
          have HRE := Lib.hid (show R = (A ++ D, 0) by rw [← HR.out]; unfold rputR rputL; rw [hN, HPL.out, HK.out, HA.out, HD.out]; rfl)
          clear hN
          obtain ⟨c0, c1, c2, c3, clt⟩ := id HX5.out
          have HBZ := Lib.hid HB5.out
          have HOZ := Lib.hid HO5.out
          go_wp2_with (first | (at_builtin; refine wpList_append_at _ rfl _ _ 53 rfl w.heap.size 60 i0 (.agg #[.string ByteArray.empty, .string ByteArray.empty, .int .i64 0, .bool false]) 4 48 Tryd.underlying53 hi0 hz0 hz1 hz2 rfl (by decide) _ _ _ rfl HOZ.out ad9 m cm ((D.map rowMessage).flatten) rfl HF9.out (HNW.out _ HBZ.out) (ms_one _) (by have := HM.out; unfold maxLen; omega) (by have := HM.out; omega) HBZ.out.size ?_))
          intro v' w1 hown' hgrow hat
          have HB11 := Lib.hid (HBZ.out.grown hgrow HBZ.out.size (by intro k hk; exact (HOZ.out.lt k hk).1))
          have HO11 := Lib.hid hown'
          clear hown' hgrow hat
          go_wp2_with fail
          go_ret2
          exact ⟨v', by rw [HRE.out]; rfl, by rw [HRE.out]; exact msown_cat (by rw [HDL.out]) HO11.out, HB11.out⟩

        | false =>
          have hp1 : (x.p.toList == (⟨#[]⟩ : ByteArray).toList) = false := hN
          have hp2 : (x.p.toList == []) = false := by rw [← hN]; unfold noneB; rw [show (⟨#[]⟩ : ByteArray).toList = [] by rw [Lib.toList_data]]
          have hp3 : x.p.toList.isEmpty = false := by rw [← hp2]; cases x.p.toList <;> rfl
          have hNN := Lib.hid hN
          clear hN
          by_cases h16 : 16 ≤ L.length
          · have h16z : (16 : Int) ≤ (L.length : Int) := by omega
            have HRE := Lib.hid (show R = ([], 5) by rw [← HR.out]; unfold rputR; rw [hNN.out, HTH.out, decide_eq_true h16]; rfl)
            obtain ⟨c0, c1, c2, c3, clt⟩ := id HX5.out
            go_wp2_with fail
            go_ret2
            exact ⟨_, by rw [HRE.out]; rfl, by rw [HRE.out]; exact MsOwn.nil _ _, HB5.out⟩

          · have h16z : ¬ (16 : Int) ≤ (L.length : Int) := by omega
            have HFF := Lib.hid (decide_eq_false h16)
            have HOA := Lib.hid (World.ownsRow.alloc HO5.out (Obj.cells #[.string x.t, .string x.p, .int .i64 x.q, .bool x.r] 60))
            have HBA := Lib.hid (HB5.out.alloc HB5.out.size (Obj.cells #[.string x.t, .string x.p, .int .i64 x.q, .bool x.r] 60))
            have HNA := Lib.hid (newsM_alloc W5 x)
            have HR1 := Lib.hid (show ∀ u ∈ rowMessage x, u.oneCell' = true by intro u hu; simp at hu; rcases hu with rfl | rfl | rfl | rfl <;> rfl)
            obtain ⟨c0, c1, c2, c3, clt⟩ := id HX5.out
            go_wp2_with (first | (at_builtin; refine wpList_append_at _ rfl _ _ 53 rfl w.heap.size 60 i0 (.agg #[.string ByteArray.empty, .string ByteArray.empty, .int .i64 0, .bool false]) 4 48 Tryd.underlying53 hi0 hz0 hz1 hz2 rfl (by decide) _ _ _ rfl HOA.out ⟨W5.heap.size, 0, none⟩ 1 1 (rowMessage x) rfl rfl HNA.out HR1.out (by have := HM.out; unfold maxLen; omega) (by have := HM.out; omega) HBA.out.size ?_))
            intro v6 W6 hown6 hgrow6 hat6
            have HB6 := Lib.hid (HBA.out.grown hgrow6 HBA.out.size (by intro k hk; exact (HOA.out.lt k hk).1))
            have HO6 := Lib.hid (msown_snoc rfl hown6)
            obtain ⟨A2, hA2⟩ : ∃ A2, A ++ [x] = A2 := ⟨_, rfl⟩
            have HA2 := Lib.hid hA2
            have HM2 := Lib.hid (show A2.length + m ≤ 1001 by rw [← hA2, List.length_append]; exact HM.out)
            rw [hA2] at HO6
            clear hown6 hgrow6 hat6 hA2 HNA HR1 HOA HBA HB5 HX5 HO5 c0 c1 c2 c3 clt
            obtain ⟨ao6, cap6, hv6⟩ := own_slice HO6.out
            subst hv6
            have HRE := Lib.hid (show R = (A2 ++ D, 0) by rw [← HR.out, ← HA2.out]; unfold rputR rputL; rw [hNN.out, HPL.out, HK.out, HA.out, HD.out, HTH.out, HFF.out]; rfl)
            have HBZ := Lib.hid HB6.out
            have HOZ := Lib.hid HO6.out
            go_wp2_with (first | (at_builtin; refine wpList_append_at _ rfl _ _ 53 rfl w.heap.size 60 i0 (.agg #[.string ByteArray.empty, .string ByteArray.empty, .int .i64 0, .bool false]) 4 48 Tryd.underlying53 hi0 hz0 hz1 hz2 rfl (by decide) _ _ _ rfl HOZ.out ad9 m cm ((D.map rowMessage).flatten) rfl HF9.out (HNW.out _ HBZ.out) (ms_one _) (by have := HM2.out; unfold maxLen; omega) (by have := HM2.out; omega) HBZ.out.size ?_))
            intro v' w1 hown' hgrow hat
            have HB11 := Lib.hid (HBZ.out.grown hgrow HBZ.out.size (by intro k hk; exact (HOZ.out.lt k hk).1))
            have HO11 := Lib.hid hown'
            clear hown' hgrow hat
            go_wp2_with fail
            go_ret2
            exact ⟨v', by rw [HRE.out]; rfl, by rw [HRE.out]; exact msown_cat (by rw [HDL.out]) HO11.out, HB11.out⟩

end Go.Proofs.YtoibdhncfdjdoaaDoor
