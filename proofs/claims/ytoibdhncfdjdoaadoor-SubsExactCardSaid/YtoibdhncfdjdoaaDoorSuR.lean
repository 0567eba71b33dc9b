/-
  Who wants what: the reference's Add.
-/
import Derived.Test.YtoibdhncfdjdoaaDoorSuM
import Derived.Lib.ConvBytes
namespace Go.Proofs.YtoibdhncfdjdoaaDoor
open Go.RowKit Go.Lib
theorem stepAppendRow {P : Program} {ops : Array Oper} {o : Oper} {a : Act} {w : World} {K : Act → World → Prop} {Q : Exit → Act → World → Prop} {E : Prop} (hgd : o.guard = none) (s x : Operand) (t e : TypeId)
    (ho : o.op = .call { callee := .builtin .append, args := #[s, x], argTypes := #[t, t] }) (base : Nat) (i : TypeInfo) (z : Value) (size bytes : Nat) (ht : P.underlying t = some (.slice e)) (hi : P.info? e = some i) (hz : i.zero = some z)
    (hsize : i.size = size) (hby : i.bytes = bytes) (hzs : z.cells.size = size) (hpos : 0 < size) (v : Value) (n : Nat) (xs : List Value) (hs : a.eval s = v) (hown : w.ownsRow base e size v n xs) (ad : Addr) (m cap : Nat) (news : List Value) (hx : a.eval x = .slice (some ad) m cap) (hlen : news.length = m * size)
    (hnews : ∀ j u, news[j]? = some u → w.cell? (ad.add j) = some u) (h1 : ∀ u ∈ news, u.oneCell' = true) (hn : n + m ≤ maxLen) (hb : (n + m) * bytes ≤ 140737488355328) (hbase : base ≤ w.heap.size)
    (h : ∀ v' w', w'.ownsRow base e size v' (n + m) (xs ++ news) → Grew w w' v v' → K (a.put o.dst v') w') : if Region.wanted o (yielded ops a.tmps) = true then Oper.wp P o a w K Q else E := by
  have hw : Region.wanted o (yielded ops a.tmps) = true := by simp [Region.wanted, hgd]
  rw [if_pos hw]
  obtain ⟨v', w', hr, h2, h3, h4⟩ := run_append_at (P := P) w base t o.type e i z size bytes ht hi hz hsize hby hzs hpos v n xs hown ad m cap news hlen hnews h1 hn hb hbase
  unfold Oper.wp execOp
  simp only [ho, resolve, invoke, builtin, Sem.run_bind, Sem.run_pure, Result.andThen_ok, List.map_toArray, List.map_cons, List.map_nil, hs, hx, hr]
  exact h v' w' h2 ((Grew.refl w v).app0 h3 h4)
theorem news_alloc (W : World) (x : EWish) : ∀ j u, (rowWish x)[j]? = some u → (W.alloc (.cells #[.string x.f, .int .i64 x.q] 29)).cell? ((⟨W.heap.size, 0, none⟩ : Addr).add j) = some u := by
  intro j u hj
  match j, hj with
  | 0, hj => simp at hj; subst hj; simp [Addr.add, go_sem]
  | 1, hj => simp at hj; subst hj; simp [Addr.add, go_sem]
  | j + 2, hj => simp at hj
theorem news_then (W : World) (x : EWish) {W4 : World} (hb : Below (W.alloc (.cells #[.string x.f, .int .i64 x.q] 29)).drew.heap.size (W.alloc (.cells #[.string x.f, .int .i64 x.q] 29)).drew W4) : ∀ j u, (rowWish x)[j]? = some u → W4.cell? ((⟨W.heap.size, 0, none⟩ : Addr).add j) = some u := by
  intro j u hj
  have h := news_alloc W x j u hj
  have hadd : ((⟨W.heap.size, 0, none⟩ : Addr).add j) = ⟨W.heap.size, j, none⟩ := by rw [add_off, Nat.zero_add]
  rw [hadd] at h ⊢
  exact (hb.cell (p := ⟨W.heap.size, j, none⟩) (by simp)).trans h
theorem news_drop {w : World} {L : List EWish} {b off cap : Nat} (hv : SlR w 2 (.slice (some ⟨b, off, none⟩) L.length cap) (L.map rowWish)) (k : Nat) : ∀ j u, (((L.drop k).map rowWish).flatten)[j]? = some u → w.cell? ((if cap = k then (⟨b, off, none⟩ : Addr) else (⟨b, off, none⟩ : Addr).add (k * 2)).add j) = some u := by
  intro j u hj
  by_cases hc : cap = k
  · obtain ⟨_, _, hv, q1, -⟩ := hv
    injection hv with g1 g2 g3
    rw [List.length_map] at q1
    rw [List.drop_of_length_le (by omega)] at hj
    simp at hj
  · rw [if_neg hc]
    rw [List.map_drop, flatten_drop 2 _ (ws_n L), List.getElem?_drop] at hj
    have h := SlR.news (ad := ⟨b, off, none⟩) (cap := cap) (by decide) (ws_n L) (by rw [List.length_map]; exact hv) _ u hj
    rw [add_off] at h
    rw [add_off, add_off, Nat.add_assoc]
    exact h
theorem wsown_cat2 {w : World} {base n i k : Nat} {v : Value} {L : List EWish} {x : EWish} (hi : i ≤ L.length) (hk : k ≤ L.length) (hn : n = i + 1 + (L.length - k))
    (h : w.ownsRow base 29 2 v n ((List.take i (L.map rowWish)).flatten ++ Value.string x.f :: Value.int .i64 x.q :: (List.drop k (L.map rowWish)).flatten)) : WsOwn w base v (L.take i ++ x :: L.drop k) := by
  subst hn
  unfold WsOwn
  have e : ((L.take i ++ x :: L.drop k).map rowWish).flatten = (List.take i (L.map rowWish)).flatten ++ Value.string x.f :: Value.int .i64 x.q :: (List.drop k (L.map rowWish)).flatten := by rw [List.map_append, List.map_cons, List.flatten_append, List.flatten_cons, List.map_take, List.map_drop]; rfl
  have e2 : (L.take i ++ x :: L.drop k).length = i + 1 + (L.length - k) := by rw [List.length_append, List.length_cons, List.length_take, List.length_drop]; omega
  rw [e, e2]
  exact h
theorem wsown_end {w w' : World} {base i : Nat} {v : Value} {L : List EWish} {x : EWish} (hi : i = L.length) (h : w.ownsRow base 29 2 v (i + 1) (((L.take i).map rowWish).flatten ++ rowWish x)) (hb : Below w.heap.size w w') : WsOwn w' base v (L.take i ++ x :: L.drop i) := by
  subst hi
  have h := below_own h hb
  unfold WsOwn
  rw [List.drop_length, List.take_length] at *
  have e : ((L ++ [x]).map rowWish).flatten = (L.map rowWish).flatten ++ rowWish x := by rw [List.map_append, List.map_cons, List.map_nil, List.flatten_append, List.flatten_cons, List.flatten_nil, List.append_nil]
  rw [e, List.length_append]
  exact h
/-- The reference's list with a wish more. -/
def raddL (L : List EWish) (x : EWish) : List EWish := L.take (placeN L x.f) ++ x :: L.drop (if thB L x.f = true then placeN L x.f + 1 else placeN L x.f)
def raddR (L : List EWish) (x : EWish) : List EWish × Int := if thB L x.f = true then (raddL L x, 0) else if 16 ≤ L.length then ([], 5) else (raddL L x, 0)
theorem radd_eq {L : List EWish} {x : EWish} (h : subsB L = true) (hx : wishB x = true) : raddR L x = addR L x := by
  have h16 := (subs_parts h).1
  unfold raddR addR raddL addL
  rw [h, hx]
  cases ht : thB L x.f with
  | true =>
    have hlt := thB_lt ht
    simp only [if_true, Bool.and_self]
    congr 1
    rw [List.set_eq_take_append_cons_drop, if_pos hlt]
  | false =>
    simp only [Bool.false_eq_true, if_false, Bool.and_self, if_true]
    by_cases h9 : L.length = 16
    · rw [if_pos (by omega), if_pos h9]
    · rw [if_neg (by omega), if_neg h9]
set_option maxRecDepth 100000 in
set_option maxHeartbeats 8000000 in
theorem radd_any (v : Value) (L : List EWish) (x : EWish) (w : World) (hv : SlOf w 2 EWish.At v L) (hr : Rising L) (hl : L.length ≤ 1000) :
    Calls Tryd.prog 22 #[v, .agg #[.string x.f, .int .i64 x.q]] w fun e w' => ∃ v', e = .returned (.tuple #[v', .int .i64 (raddR L x).2]) ∧ WsOwn w' w.heap.size v' (raddR L x).1 ∧ Below w.heap.size w w' := by
  obtain ⟨R, hR⟩ : ∃ R, raddR L x = R := ⟨_, rfl⟩
  rw [hR]
  have HV := Lib.hid hv
  have HRI := Lib.hid hr
  have HR := Lib.hid hR
  obtain ⟨i0, hi0, hz0, hz1, hz2⟩ := info_parts infoWish
  obtain ⟨ao, cap, rfl, hlc, hlm, hnone, hB⟩ := hv
  have HB := Lib.hid hB
  clear hB hr hR
  go_enter Tryd.func22, Tryd.ntmps22
  go_wp2
  go_loopw [6] (fun vi wr => ∃ i : Nat, i ≤ L.length ∧ vi = .int .i64 i ∧ Below w.heap.size w wr ∧ WxAt wr w.heap.size x ∧ (∀ k q, L[k]? = some q → k < i → sl q.f x.f = true)) (fun i _ => L.length - (RowKit.intOf i).toNat)
  case atStart => exact ⟨0, by omega, rfl, (Below.refl _ _).alloc (Nat.le_refl _) _, ⟨by simp [go_sem], by simp [go_sem], by simp⟩, fun k q _ h => by omega⟩
  case round =>
    obtain ⟨i, hi, rfl, hb, hx, hlow⟩ := hrel
    have HW := Lib.hid hb
    have HX := Lib.hid hx
    have HLO := Lib.hid hlow
    clear hb hx hlow
    by_cases hlt : i < L.length
    · have hltz : (i : Int) < (L.length : Int) := by omega
      obtain ⟨b, off, rfl, hbk, hBB⟩ := HB.out (by intro h; simp [h] at hlt)
      obtain ⟨y, hy⟩ : ∃ y, L[i]? = some y := ⟨_, List.getElem?_eq_getElem hlt⟩
      obtain ⟨c0, c1⟩ := hBB _ y hy
      have d0 := (HW.out.cell (p := ⟨b, off + i * 2, none⟩) hbk).trans c0
      have HY := Lib.hid hy
      have HC0 := Lib.hid c0
      clear hBB c0 c1 hy hnone
      obtain ⟨e0, e1, elt⟩ := id HX.out
      cases hs : sl y.f x.f with
      | true =>
        have HSL := Lib.hid hs
        have hbl : Op.bytesLess y.f.toList x.f.toList = true := hs
        clear hs
        go_wp2_with fail
        go_quiet (fail)
        have hbq := bdrew (Below.refl wr.heap.size wr) nq
        go_wp2
        go_roundw
        case rel => exact ⟨i + 1, by omega, by go_num, HW.out.trans (hbq.mono HW.out.size), HX.out.below hbq, fun k q hk hl => by
          rcases Nat.lt_or_ge k i with h | h
          · exact HLO.out k q hk h
          · obtain rfl : k = i := by omega
            rw [HY.out] at hk; injection hk with hk; rw [← hk]; exact HSL.out⟩
        case measure => simp [RowKit.intOf]; omega
      | false =>
        have hbl : Op.bytesLess y.f.toList x.f.toList = false := hs
        go_wp2_with fail
        go_quiet (fail)
        go_wp2_with fail
        have hplace : placeN L x.f = i := place_eq ⟨hi, HLO.out, fun k q hk hl => by
          rcases Nat.eq_or_lt_of_le hl with he | hgt
          · subst he; rw [HY.out] at hk; injection hk with hk; rw [← hk]; exact hs
          · cases hq : sl q.f x.f with
            | false => rfl
            | true => have := sl_trans (HRI.out _ _ y q HY.out hk hgt) hq; rw [hs] at this; cases this⟩
        have HPL := Lib.hid hplace
        clear hplace
        clear hs
        refine wp_gen (fun W => Below w.heap.size w W ∧ WxAt W w.heap.size x) ⟨HW.out.trans ((bdrew (Below.refl _ _) nq).mono HW.out.size), HX.out.below (bdrew (Below.refl _ _) nq)⟩ ?_
        rintro W1 ⟨hb1, hx1⟩
        have HB1 := Lib.hid hb1
        obtain ⟨q0, hq0⟩ : ∃ q, q = w.heap.size := ⟨_, rfl⟩
        have hq0le : w.heap.size ≤ q0 := by omega
        rw [← hq0] at hx1 ⊢
        obtain ⟨f0, f1, flt⟩ := id hx1
        have HX1 := Lib.hid hx1
        clear hq0 hb1 hx1 nq
        have hsl : ∀ W, (Instr.sliceAt 22 (.slice (some ⟨b, off, none⟩) L.length cap) none (some (.int .i64 (i : Int))) none).run Tryd.prog W = .ok (.slice (some ⟨b, off, none⟩) i cap) W := fun W => by
          exact ro_slice_to W _ 29 Tryd.underlying22 hi0 _ _ _ _ (by omega)
        have CPY := Lib.hid (fun W (hb : Below w.heap.size w W) => (show Calls Tryd.prog 10 #[.slice (some ⟨b, off, none⟩) i cap] W fun e w' => ∃ v', e = .returned v' ∧ Below W.heap.size W w' ∧ w'.ownsRow W.heap.size 29 2 v' i ((L.take i).map rowWish).flatten from by
          have hti : (L.take i).length = i := by rw [List.length_take]; omega
          have := copyWishes_any (.slice (some ⟨b, off, none⟩) i cap) (L.take i) W (by omega) (by
            obtain ⟨_, _, hv, q1, q2, q3, q4⟩ := HV.out.wsR.below hb
            injection hv with g1 g2 g3
            subst g1 g3
            refine ⟨_, _, by rw [List.length_map, hti], by rw [List.length_map, hti]; omega, q2, q3, fun hne => ?_⟩
            obtain ⟨b', o', he, hlt', hB'⟩ := q4 (by rintro h; rw [List.map_eq_nil_iff] at h; subst h; simp at hne)
            refine ⟨b', o', he, hlt', fun k r hk => hB' k r ?_⟩
            rw [List.getElem?_map, List.getElem?_take] at hk
            rw [List.getElem?_map]
            split at hk
            · exact hk
            · cases hk)
          rw [hti] at this
          exact this))
        have KP := Lib.hid (show ∀ W W', Below W.heap.size W W' → (W.cell? ⟨q0, 0, none⟩ = some (.string x.f) ∧ W.cell? ⟨q0, 1, none⟩ = some (.int .i64 x.q) ∧ Below W1.heap.size W1 W) → (W'.cell? ⟨q0, 0, none⟩ = some (.string x.f) ∧ W'.cell? ⟨q0, 1, none⟩ = some (.int .i64 x.q) ∧ Below W1.heap.size W1 W') from fun W W' hb h => ⟨(hb.cell (p := ⟨q0, 0, none⟩) (Nat.lt_of_lt_of_le flt h.2.2.size)).trans h.1, (hb.cell (p := ⟨q0, 1, none⟩) (Nat.lt_of_lt_of_le flt h.2.2.size)).trans h.2.1, h.2.2.trans (hb.mono h.2.2.size)⟩)
        have KP2 := Lib.hid (show ∀ W W', Below W1.heap.size W W' → (W.cell? ⟨q0, 0, none⟩ = some (.string x.f) ∧ W.cell? ⟨q0, 1, none⟩ = some (.int .i64 x.q) ∧ Below W1.heap.size W1 W) → (W'.cell? ⟨q0, 0, none⟩ = some (.string x.f) ∧ W'.cell? ⟨q0, 1, none⟩ = some (.int .i64 x.q) ∧ Below W1.heap.size W1 W') from fun W W' hb h => ⟨(hb.cell (p := ⟨q0, 0, none⟩) flt).trans h.1, (hb.cell (p := ⟨q0, 1, none⟩) flt).trans h.2.1, h.2.2.trans hb⟩)
        have hwW1 := HB1.out.size
        have hrow1 : ∀ u ∈ rowWish x, u.oneCell' = true := by intro u hu; simp at hu; rcases hu with rfl | rfl <;> rfl
        go_region_held3 (fun W => W.cell? ⟨q0, 0, none⟩ = some (.string x.f) ∧ W.cell? ⟨q0, 1, none⟩ = some (.int .i64 x.q) ∧ Below W1.heap.size W1 W) (first | with_reducible assumption | exact KP.out _ _ hb4 (by assumption) | exact ⟨f0, f1, Below.refl _ _⟩ | exact ⟨f0, f1, (Below.refl _ _).drew⟩ | exact KP.out W1.drew _ hb4 ⟨f0, f1, (Below.refl _ _).drew⟩ | exact KP.out W1.drew _ ((Below.refl _ _).alloc (Nat.le_refl _) _) ⟨f0, f1, (Below.refl _ _).drew⟩ | exact KP.out _ _ hb4 (KP.out W1.drew _ ((Below.refl _ _).alloc (Nat.le_refl _) _) ⟨f0, f1, (Below.refl _ _).drew⟩) | exact KP.out _ _ ((Below.refl _ _).alloc (Nat.le_refl _) _) (KP.out W1.drew _ hb4 ⟨f0, f1, (Below.refl _ _).drew⟩) | exact KP2.out _ _ (grew_below hg9 (by first | exact hs5 | (have h := hs5; simp; omega)) (fun k hk => HOB.out k hk)) (by assumption) | fail "KEEP") (first | ((with_reducible refine (CPY.out _ (by first | exact HB1.out.drew | exact (HB1.out.alloc HB1.out.size _).drew | exact (HB1.out.drew).alloc HB1.out.size _)).mono ?_); rintro e1 W4 ⟨v4, rfl, hb4, ho4⟩; have HOB := Lib.hid (show ∀ k, v4.ownBlock = some k → W1.heap.size ≤ k from fun k hk => by have := (ho4.lt k hk).1; first | exact this | (simp at this; omega)); have hs4 := hb4.size; have hs5 : W1.heap.size ≤ W4.heap.size := (by first | exact hs4 | (have h := hs4; simp at h; omega))) | (refine stepAppendRow rfl _ _ 22 29 rfl w.heap.size i0 (.agg #[.string ByteArray.empty, .int .i64 0]) 2 24 Tryd.underlying22 hi0 hz0 hz1 hz2 rfl (by decide) v4 i _ rfl (World.ownsRow.alloc (own_mono ho4 hwW1) _) ⟨W4.heap.size, 0, none⟩ 1 1 (rowWish x) rfl rfl (news_alloc W4 x) hrow1 (by unfold maxLen; omega) (by omega) (by have h := hs5; simp; omega) ?_; intro v9 w9 ho9 hg9) | (refine stepAppendRow rfl _ _ 22 29 rfl w.heap.size i0 (.agg #[.string ByteArray.empty, .int .i64 0]) 2 24 Tryd.underlying22 hi0 hz0 hz1 hz2 rfl (by decide) v4 i _ rfl (own_mono ho4 (by simp; omega)) ⟨W1.heap.size, 0, none⟩ 1 1 (rowWish x) rfl rfl (news_then W1 x hb4) hrow1 (by unfold maxLen; omega) (by omega) (by omega) ?_; intro v9 w9 ho9 hg9) | fail "ARM")
        ·
          have hbX : Below W1.heap.size W1 w9 := by
            first
            | exact (((Below.refl _ W1).drew.trans hb4).alloc hs5 _).trans (grew_below hg9 (by have h := hs5; simp; omega) (fun k hk => HOB.out k hk))
            | exact (((Below.refl _ W1).drew.alloc (Nat.le_refl _) _).trans (hb4.mono (by simp))).trans (grew_below hg9 hs5 (fun k hk => HOB.out k hk))
          have HX9 := Lib.hid (HX1.out.below hbX)
          have HB9 := Lib.hid (HB1.out.trans (hbX.mono hwW1))
          have HO9 := Lib.hid ho9
          obtain ⟨ao9, cap9, rfl⟩ := own_slice ho9
          clear hbX ho9 hg9 hb4 ho4 HOB hs4 hs5 hsl CPY KP KP2 hwW1 f0 f1 flt HX1 HB1
          cases hey : (y.f.toList == x.f.toList) with
          | true =>
            have d0' := (HB9.out.cell (p := ⟨b, off + i * 2, none⟩) hbk).trans HC0.out
            obtain ⟨e0, e1, elt⟩ := id HX9.out
            go_wp2_with fail
            go_quiet (fail)
            have hbq := bdrew (Below.refl w9.heap.size w9) nq
            have HB10 := Lib.hid (HB9.out.trans (hbq.mono HB9.out.size))
            have ho10 := below_own HO9.out hbq
            obtain ⟨ad9, had9⟩ : ∃ a : Addr, a = if cap = (i + 1) then (⟨b, off, none⟩ : Addr) else (⟨b, off, none⟩ : Addr).add ((i + 1) * 2) := ⟨_, rfl⟩
            have HN9 := Lib.hid (show ∀ j u, (((L.drop (i + 1)).map rowWish).flatten)[j]? = some u → (w9.drewN nq).cell? (ad9.add j) = some u by rw [had9]; exact news_drop (HV.out.wsR.below HB10.out) (i + 1))
            have HF9 := Lib.hid (show (((L.drop (i + 1)).map rowWish).flatten).length = (L.length - (i + 1)) * 2 by rw [flatten_len _ (ws_n _), List.length_map, List.length_drop])
            have hsl6 : ∀ W, (Instr.sliceAt 22 (.slice (some ⟨b, off, none⟩) L.length cap) (some (.int .i64 (((i + 1) : Nat) : Int))) none none).run Tryd.prog W = .ok (.slice (some ad9) (L.length - (i + 1)) (cap - (i + 1))) W := fun W => by
              rw [had9]
              exact ro_slice_from W _ 29 2 Tryd.underlying22 size_wish _ _ _ _ (by omega)
            have hsl7 : ∀ W, (Instr.sliceAt 22 (.slice (some ⟨b, off, none⟩) L.length cap) (some (.int .i64 ((i : Int) + 1))) none none).run Tryd.prog W = .ok (.slice (some ad9) (L.length - (i + 1)) (cap - (i + 1))) W := fun W => hsl6 W
            clear had9
            have hth : thB L x.f = true := by unfold thB thereB; rw [HPL.out, HY.out]; exact decide_eq_true (ba_inj _ _ (beq_iff_eq.1 hey))
            have hRe : R = (L.take i ++ x :: L.drop (i + 1), 0) := by rw [← HR.out]; unfold raddR raddL; rw [if_pos hth, if_pos hth, HPL.out]
            go_wp2_with (first | (at_builtin; refine wpList_append_at _ rfl _ _ 22 rfl w.heap.size 29 i0 (.agg #[.string ByteArray.empty, .int .i64 0]) 2 24 Tryd.underlying22 hi0 hz0 hz1 hz2 rfl (by decide) _ _ _ rfl ho10 ad9 (L.length - (i + 1)) (cap - (i + 1)) (((L.drop (i + 1)).map rowWish).flatten) rfl HF9.out HN9.out (ws_one _) (by unfold maxLen; omega) (by omega) HB10.out.size ?_))
            intro v' w1 hown' hgrow hat
            have HB11 := Lib.hid (HB10.out.grown hgrow HB10.out.size (by intro k hk; exact (ho10.lt k hk).1))
            have HO11 := Lib.hid hown'
            clear hown' hgrow hat
            go_wp2_with fail
            go_ret2
            exact ⟨v', by rw [hRe]; rfl, by rw [hRe]; exact wsown_cat2 (by omega) (by omega) (by omega) HO11.out, HB11.out⟩
          | false =>
            have d0' := (HB9.out.cell (p := ⟨b, off + i * 2, none⟩) hbk).trans HC0.out
            obtain ⟨e0, e1, elt⟩ := id HX9.out
            go_wp2_with fail
            go_quiet (fail)
            have hbq := bdrew (Below.refl w9.heap.size w9) nq
            have HB10 := Lib.hid (HB9.out.trans (hbq.mono HB9.out.size))
            have ho10 := below_own HO9.out hbq
            obtain ⟨ad9, had9⟩ : ∃ a : Addr, a = if cap = i then (⟨b, off, none⟩ : Addr) else (⟨b, off, none⟩ : Addr).add (i * 2) := ⟨_, rfl⟩
            have HN9 := Lib.hid (show ∀ j u, (((L.drop i).map rowWish).flatten)[j]? = some u → (w9.drewN nq).cell? (ad9.add j) = some u by rw [had9]; exact news_drop (HV.out.wsR.below HB10.out) i)
            have HF9 := Lib.hid (show (((L.drop i).map rowWish).flatten).length = (L.length - i) * 2 by rw [flatten_len _ (ws_n _), List.length_map, List.length_drop])
            have hsl6 : ∀ W, (Instr.sliceAt 22 (.slice (some ⟨b, off, none⟩) L.length cap) (some (.int .i64 ((i : Nat) : Int))) none none).run Tryd.prog W = .ok (.slice (some ad9) (L.length - i) (cap - i)) W := fun W => by
              rw [had9]
              exact ro_slice_from W _ 29 2 Tryd.underlying22 size_wish _ _ _ _ (by omega)
            clear had9
            have hth : ¬ thB L x.f = true := by
              unfold thB thereB; rw [HPL.out, HY.out]
              intro h
              have h := of_decide_eq_true h
              rw [h] at hey; simp at hey
            by_cases h16 : 16 ≤ L.length
            · have h16z : (16 : Int) ≤ (L.length : Int) := by omega
              have hRe : R = ([], 5) := by rw [← HR.out]; unfold raddR; rw [if_neg hth, if_pos h16]
              go_wp2_with fail
              go_ret2
              exact ⟨_, by rw [hRe]; rfl, by rw [hRe]; exact WsOwn.nil _ _, HB10.out⟩
            · have h16z : ¬ (16 : Int) ≤ (L.length : Int) := by omega
              have hRe : R = (L.take i ++ x :: L.drop i, 0) := by rw [← HR.out]; unfold raddR raddL; rw [if_neg hth, if_neg h16, if_neg hth, HPL.out]
              go_wp2_with (first | (at_builtin; refine wpList_append_at _ rfl _ _ 22 rfl w.heap.size 29 i0 (.agg #[.string ByteArray.empty, .int .i64 0]) 2 24 Tryd.underlying22 hi0 hz0 hz1 hz2 rfl (by decide) _ _ _ rfl ho10 ad9 (L.length - i) (cap - i) (((L.drop i).map rowWish).flatten) rfl HF9.out HN9.out (ws_one _) (by unfold maxLen; omega) (by omega) HB10.out.size ?_))
              intro v' w1 hown' hgrow hat
              have HB11 := Lib.hid (HB10.out.grown hgrow HB10.out.size (by intro k hk; exact (ho10.lt k hk).1))
              have HO11 := Lib.hid hown'
              clear hown' hgrow hat
              go_wp2_with fail
              go_ret2
              exact ⟨v', by rw [hRe]; rfl, by rw [hRe]; exact wsown_cat2 (by omega) (by omega) (by omega) HO11.out, HB11.out⟩
        ·
          have hbX : Below W1.heap.size W1 w9 := by
            first
            | exact (((Below.refl _ W1).drew.trans hb4).alloc hs5 _).trans (grew_below hg9 (by have h := hs5; simp; omega) (fun k hk => HOB.out k hk))
            | exact (((Below.refl _ W1).drew.alloc (Nat.le_refl _) _).trans (hb4.mono (by simp))).trans (grew_below hg9 hs5 (fun k hk => HOB.out k hk))
          have HX9 := Lib.hid (HX1.out.below hbX)
          have HB9 := Lib.hid (HB1.out.trans (hbX.mono hwW1))
          have HO9 := Lib.hid ho9
          obtain ⟨ao9, cap9, rfl⟩ := own_slice ho9
          clear hbX ho9 hg9 hb4 ho4 HOB hs4 hs5 hsl CPY KP KP2 hwW1 f0 f1 flt HX1 HB1
          cases hey : (y.f.toList == x.f.toList) with
          | true =>
            have d0' := (HB9.out.cell (p := ⟨b, off + i * 2, none⟩) hbk).trans HC0.out
            obtain ⟨e0, e1, elt⟩ := id HX9.out
            go_wp2_with fail
            go_quiet (fail)
            have hbq := bdrew (Below.refl w9.heap.size w9) nq
            have HB10 := Lib.hid (HB9.out.trans (hbq.mono HB9.out.size))
            have ho10 := below_own HO9.out hbq
            obtain ⟨ad9, had9⟩ : ∃ a : Addr, a = if cap = (i + 1) then (⟨b, off, none⟩ : Addr) else (⟨b, off, none⟩ : Addr).add ((i + 1) * 2) := ⟨_, rfl⟩
            have HN9 := Lib.hid (show ∀ j u, (((L.drop (i + 1)).map rowWish).flatten)[j]? = some u → (w9.drewN nq).cell? (ad9.add j) = some u by rw [had9]; exact news_drop (HV.out.wsR.below HB10.out) (i + 1))
            have HF9 := Lib.hid (show (((L.drop (i + 1)).map rowWish).flatten).length = (L.length - (i + 1)) * 2 by rw [flatten_len _ (ws_n _), List.length_map, List.length_drop])
            have hsl6 : ∀ W, (Instr.sliceAt 22 (.slice (some ⟨b, off, none⟩) L.length cap) (some (.int .i64 (((i + 1) : Nat) : Int))) none none).run Tryd.prog W = .ok (.slice (some ad9) (L.length - (i + 1)) (cap - (i + 1))) W := fun W => by
              rw [had9]
              exact ro_slice_from W _ 29 2 Tryd.underlying22 size_wish _ _ _ _ (by omega)
            have hsl7 : ∀ W, (Instr.sliceAt 22 (.slice (some ⟨b, off, none⟩) L.length cap) (some (.int .i64 ((i : Int) + 1))) none none).run Tryd.prog W = .ok (.slice (some ad9) (L.length - (i + 1)) (cap - (i + 1))) W := fun W => hsl6 W
            clear had9
            have hth : thB L x.f = true := by unfold thB thereB; rw [HPL.out, HY.out]; exact decide_eq_true (ba_inj _ _ (beq_iff_eq.1 hey))
            have hRe : R = (L.take i ++ x :: L.drop (i + 1), 0) := by rw [← HR.out]; unfold raddR raddL; rw [if_pos hth, if_pos hth, HPL.out]
            go_wp2_with (first | (at_builtin; refine wpList_append_at _ rfl _ _ 22 rfl w.heap.size 29 i0 (.agg #[.string ByteArray.empty, .int .i64 0]) 2 24 Tryd.underlying22 hi0 hz0 hz1 hz2 rfl (by decide) _ _ _ rfl ho10 ad9 (L.length - (i + 1)) (cap - (i + 1)) (((L.drop (i + 1)).map rowWish).flatten) rfl HF9.out HN9.out (ws_one _) (by unfold maxLen; omega) (by omega) HB10.out.size ?_))
            intro v' w1 hown' hgrow hat
            have HB11 := Lib.hid (HB10.out.grown hgrow HB10.out.size (by intro k hk; exact (ho10.lt k hk).1))
            have HO11 := Lib.hid hown'
            clear hown' hgrow hat
            go_wp2_with fail
            go_ret2
            exact ⟨v', by rw [hRe]; rfl, by rw [hRe]; exact wsown_cat2 (by omega) (by omega) (by omega) HO11.out, HB11.out⟩
          | false =>
            have d0' := (HB9.out.cell (p := ⟨b, off + i * 2, none⟩) hbk).trans HC0.out
            obtain ⟨e0, e1, elt⟩ := id HX9.out
            go_wp2_with fail
            go_quiet (fail)
            have hbq := bdrew (Below.refl w9.heap.size w9) nq
            have HB10 := Lib.hid (HB9.out.trans (hbq.mono HB9.out.size))
            have ho10 := below_own HO9.out hbq
            obtain ⟨ad9, had9⟩ : ∃ a : Addr, a = if cap = i then (⟨b, off, none⟩ : Addr) else (⟨b, off, none⟩ : Addr).add (i * 2) := ⟨_, rfl⟩
            have HN9 := Lib.hid (show ∀ j u, (((L.drop i).map rowWish).flatten)[j]? = some u → (w9.drewN nq).cell? (ad9.add j) = some u by rw [had9]; exact news_drop (HV.out.wsR.below HB10.out) i)
            have HF9 := Lib.hid (show (((L.drop i).map rowWish).flatten).length = (L.length - i) * 2 by rw [flatten_len _ (ws_n _), List.length_map, List.length_drop])
            have hsl6 : ∀ W, (Instr.sliceAt 22 (.slice (some ⟨b, off, none⟩) L.length cap) (some (.int .i64 ((i : Nat) : Int))) none none).run Tryd.prog W = .ok (.slice (some ad9) (L.length - i) (cap - i)) W := fun W => by
              rw [had9]
              exact ro_slice_from W _ 29 2 Tryd.underlying22 size_wish _ _ _ _ (by omega)
            clear had9
            have hth : ¬ thB L x.f = true := by
              unfold thB thereB; rw [HPL.out, HY.out]
              intro h
              have h := of_decide_eq_true h
              rw [h] at hey; simp at hey
            by_cases h16 : 16 ≤ L.length
            · have h16z : (16 : Int) ≤ (L.length : Int) := by omega
              have hRe : R = ([], 5) := by rw [← HR.out]; unfold raddR; rw [if_neg hth, if_pos h16]
              go_wp2_with fail
              go_ret2
              exact ⟨_, by rw [hRe]; rfl, by rw [hRe]; exact WsOwn.nil _ _, HB10.out⟩
            · have h16z : ¬ (16 : Int) ≤ (L.length : Int) := by omega
              have hRe : R = (L.take i ++ x :: L.drop i, 0) := by rw [← HR.out]; unfold raddR raddL; rw [if_neg hth, if_neg h16, if_neg hth, HPL.out]
              go_wp2_with (first | (at_builtin; refine wpList_append_at _ rfl _ _ 22 rfl w.heap.size 29 i0 (.agg #[.string ByteArray.empty, .int .i64 0]) 2 24 Tryd.underlying22 hi0 hz0 hz1 hz2 rfl (by decide) _ _ _ rfl ho10 ad9 (L.length - i) (cap - i) (((L.drop i).map rowWish).flatten) rfl HF9.out HN9.out (ws_one _) (by unfold maxLen; omega) (by omega) HB10.out.size ?_))
              intro v' w1 hown' hgrow hat
              have HB11 := Lib.hid (HB10.out.grown hgrow HB10.out.size (by intro k hk; exact (ho10.lt k hk).1))
              have HO11 := Lib.hid hown'
              clear hown' hgrow hat
              go_wp2_with fail
              go_ret2
              exact ⟨v', by rw [hRe]; rfl, by rw [hRe]; exact wsown_cat2 (by omega) (by omega) (by omega) HO11.out, HB11.out⟩
    · have hltz : ¬ (i : Int) < (L.length : Int) := by omega
      have hltd : decide ((i : Int) < (L.length : Int)) = false := decide_eq_false hltz
      obtain ⟨e0, e1, elt⟩ := id HX.out
      go_wp2_with fail
      go_quiet (fail)
      go_wp2_with fail
      have HIL := Lib.hid (show i = L.length by omega)
      have hplace : placeN L x.f = i := place_eq ⟨hi, HLO.out, fun k q hk hl => by
        have := (List.getElem?_eq_some_iff.1 hk).1; omega⟩
      have HPL := Lib.hid hplace
      clear hplace
      cases ao with
      | none =>
        have HC0 := Lib.hid (hnone rfl)
        have HL0 := Lib.hid (show L.length = 0 by have := HC0.out; omega)
        have HIZ := Lib.hid (show i = 0 by have := HL0.out; omega)
        clear hnone
        refine wp_gen (fun W => Below w.heap.size w W ∧ WxAt W w.heap.size x) ⟨HW.out.trans ((bdrew (Below.refl _ _) nq).mono HW.out.size), HX.out.below (bdrew (Below.refl _ _) nq)⟩ ?_
        rintro W1 ⟨hb1, hx1⟩
        have HB1 := Lib.hid hb1
        obtain ⟨q0, hq0⟩ : ∃ q, q = w.heap.size := ⟨_, rfl⟩
        have hq0le : w.heap.size ≤ q0 := by omega
        rw [← hq0] at hx1 ⊢
        obtain ⟨f0, f1, flt⟩ := id hx1
        have HX1 := Lib.hid hx1
        clear hq0 hb1 hx1 nq
        have hsl : ∀ W, (Instr.sliceAt 22 (.slice none L.length cap) none (some (.int .i64 (i : Int))) none).run Tryd.prog W = .ok (.slice none i cap) W := fun W => by
          rw [HIZ.out, HL0.out, HC0.out]
          simp [go_sem, Instr.sliceAt, Instr.slice, Instr.sliceBounds, Instr.sliceBound, asIntOf, run_underlying Tryd.underlying22]
        have CPY := Lib.hid (fun W (hb : Below w.heap.size w W) => (show Calls Tryd.prog 10 #[.slice none i cap] W fun e w' => ∃ v', e = .returned v' ∧ Below W.heap.size W w' ∧ w'.ownsRow W.heap.size 29 2 v' i ((L.take i).map rowWish).flatten from by
          have hti : (L.take i).length = i := by rw [List.length_take]; omega
          have := copyWishes_any (.slice none i cap) (L.take i) W (by omega) (by
            obtain ⟨_, _, hv, q1, q2, q3, q4⟩ := HV.out.wsR.below hb
            injection hv with g1 g2 g3
            subst g1 g3
            refine ⟨_, _, by rw [List.length_map, hti], by rw [List.length_map, hti]; omega, q2, q3, fun hne => ?_⟩
            obtain ⟨b', o', he, hlt', hB'⟩ := q4 (by rintro h; rw [List.map_eq_nil_iff] at h; subst h; simp at hne)
            refine ⟨b', o', he, hlt', fun k r hk => hB' k r ?_⟩
            rw [List.getElem?_map, List.getElem?_take] at hk
            rw [List.getElem?_map]
            split at hk
            · exact hk
            · cases hk)
          rw [hti] at this
          exact this))
        have KP := Lib.hid (show ∀ W W', Below W.heap.size W W' → (W.cell? ⟨q0, 0, none⟩ = some (.string x.f) ∧ W.cell? ⟨q0, 1, none⟩ = some (.int .i64 x.q) ∧ Below W1.heap.size W1 W) → (W'.cell? ⟨q0, 0, none⟩ = some (.string x.f) ∧ W'.cell? ⟨q0, 1, none⟩ = some (.int .i64 x.q) ∧ Below W1.heap.size W1 W') from fun W W' hb h => ⟨(hb.cell (p := ⟨q0, 0, none⟩) (Nat.lt_of_lt_of_le flt h.2.2.size)).trans h.1, (hb.cell (p := ⟨q0, 1, none⟩) (Nat.lt_of_lt_of_le flt h.2.2.size)).trans h.2.1, h.2.2.trans (hb.mono h.2.2.size)⟩)
        have KP2 := Lib.hid (show ∀ W W', Below W1.heap.size W W' → (W.cell? ⟨q0, 0, none⟩ = some (.string x.f) ∧ W.cell? ⟨q0, 1, none⟩ = some (.int .i64 x.q) ∧ Below W1.heap.size W1 W) → (W'.cell? ⟨q0, 0, none⟩ = some (.string x.f) ∧ W'.cell? ⟨q0, 1, none⟩ = some (.int .i64 x.q) ∧ Below W1.heap.size W1 W') from fun W W' hb h => ⟨(hb.cell (p := ⟨q0, 0, none⟩) flt).trans h.1, (hb.cell (p := ⟨q0, 1, none⟩) flt).trans h.2.1, h.2.2.trans hb⟩)
        have hwW1 := HB1.out.size
        have hrow1 : ∀ u ∈ rowWish x, u.oneCell' = true := by intro u hu; simp at hu; rcases hu with rfl | rfl <;> rfl
        go_region_held3 (fun W => W.cell? ⟨q0, 0, none⟩ = some (.string x.f) ∧ W.cell? ⟨q0, 1, none⟩ = some (.int .i64 x.q) ∧ Below W1.heap.size W1 W) (first | with_reducible assumption | exact KP.out _ _ hb4 (by assumption) | exact ⟨f0, f1, Below.refl _ _⟩ | exact ⟨f0, f1, (Below.refl _ _).drew⟩ | exact KP.out W1.drew _ hb4 ⟨f0, f1, (Below.refl _ _).drew⟩ | exact KP.out W1.drew _ ((Below.refl _ _).alloc (Nat.le_refl _) _) ⟨f0, f1, (Below.refl _ _).drew⟩ | exact KP.out _ _ hb4 (KP.out W1.drew _ ((Below.refl _ _).alloc (Nat.le_refl _) _) ⟨f0, f1, (Below.refl _ _).drew⟩) | exact KP.out _ _ ((Below.refl _ _).alloc (Nat.le_refl _) _) (KP.out W1.drew _ hb4 ⟨f0, f1, (Below.refl _ _).drew⟩) | exact KP2.out _ _ (grew_below hg9 (by first | exact hs5 | (have h := hs5; simp; omega)) (fun k hk => HOB.out k hk)) (by assumption) | fail "KEEP") (first | ((with_reducible refine (CPY.out _ (by first | exact HB1.out.drew | exact (HB1.out.alloc HB1.out.size _).drew | exact (HB1.out.drew).alloc HB1.out.size _)).mono ?_); rintro e1 W4 ⟨v4, rfl, hb4, ho4⟩; have HOB := Lib.hid (show ∀ k, v4.ownBlock = some k → W1.heap.size ≤ k from fun k hk => by have := (ho4.lt k hk).1; first | exact this | (simp at this; omega)); have hs4 := hb4.size; have hs5 : W1.heap.size ≤ W4.heap.size := (by first | exact hs4 | (have h := hs4; simp at h; omega))) | (refine stepAppendRow rfl _ _ 22 29 rfl w.heap.size i0 (.agg #[.string ByteArray.empty, .int .i64 0]) 2 24 Tryd.underlying22 hi0 hz0 hz1 hz2 rfl (by decide) v4 i _ rfl (World.ownsRow.alloc (own_mono ho4 hwW1) _) ⟨W4.heap.size, 0, none⟩ 1 1 (rowWish x) rfl rfl (news_alloc W4 x) hrow1 (by unfold maxLen; omega) (by omega) (by have h := hs5; simp; omega) ?_; intro v9 w9 ho9 hg9) | (refine stepAppendRow rfl _ _ 22 29 rfl w.heap.size i0 (.agg #[.string ByteArray.empty, .int .i64 0]) 2 24 Tryd.underlying22 hi0 hz0 hz1 hz2 rfl (by decide) v4 i _ rfl (own_mono ho4 (by simp; omega)) ⟨W1.heap.size, 0, none⟩ 1 1 (rowWish x) rfl rfl (news_then W1 x hb4) hrow1 (by unfold maxLen; omega) (by omega) (by omega) ?_; intro v9 w9 ho9 hg9) | fail "ARM")
        ·
          have hbX : Below W1.heap.size W1 w9 := by
            first
            | exact (((Below.refl _ W1).drew.trans hb4).alloc hs5 _).trans (grew_below hg9 (by have h := hs5; simp; omega) (fun k hk => HOB.out k hk))
            | exact (((Below.refl _ W1).drew.alloc (Nat.le_refl _) _).trans (hb4.mono (by simp))).trans (grew_below hg9 hs5 (fun k hk => HOB.out k hk))
          have HX9 := Lib.hid (HX1.out.below hbX)
          have HB9 := Lib.hid (HB1.out.trans (hbX.mono hwW1))
          have HO9 := Lib.hid ho9
          obtain ⟨ao9, cap9, rfl⟩ := own_slice ho9
          clear hbX ho9 hg9 hb4 ho4 HOB hs4 hs5 hsl CPY KP KP2 hwW1 f0 f1 flt HX1 HB1
          obtain ⟨e0, e1, elt⟩ := id HX9.out
          go_wp2_with fail
          go_quiet (fail)
          have hbq := bdrew (Below.refl w9.heap.size w9) nq
          have HB10 := Lib.hid (HB9.out.trans (hbq.mono HB9.out.size))
          have ho10 := below_own HO9.out hbq
          have hsl6 : ∀ W, (Instr.sliceAt 22 (.slice none L.length cap) (some (.int .i64 (i : Int))) none none).run Tryd.prog W = .ok (.slice none 0 0) W := fun W => by
            rw [HIZ.out, HL0.out, HC0.out]
            simp [go_sem, Instr.sliceAt, Instr.slice, Instr.sliceBounds, Instr.sliceBound, asIntOf, run_underlying Tryd.underlying22]
          have hth : ¬ thB L x.f = true := by intro h; have := thB_lt h; rw [HPL.out] at this; have := HIL.out; omega
          have h16 : ¬ 16 ≤ L.length := by have := HL0.out; omega
          · have h16z : ¬ (16 : Int) ≤ (L.length : Int) := by omega
            have hRe : R = (L.take i ++ x :: L.drop i, 0) := by rw [← HR.out]; unfold raddR raddL; rw [if_neg hth, if_neg h16, if_neg hth, HPL.out]
            go_wp2_with (first | (at_builtin; refine wpList_append_own_none rfl _ _ 22 rfl w.heap.size 29 i0 2 Tryd.underlying22 hi0 _ _ _ rfl ho10 rfl ?_))
            go_ret2
            exact ⟨_, rfl, wsown_end HIL.out HO9.out hbq, HB10.out⟩
        ·
          have hbX : Below W1.heap.size W1 w9 := by
            first
            | exact (((Below.refl _ W1).drew.trans hb4).alloc hs5 _).trans (grew_below hg9 (by have h := hs5; simp; omega) (fun k hk => HOB.out k hk))
            | exact (((Below.refl _ W1).drew.alloc (Nat.le_refl _) _).trans (hb4.mono (by simp))).trans (grew_below hg9 hs5 (fun k hk => HOB.out k hk))
          have HX9 := Lib.hid (HX1.out.below hbX)
          have HB9 := Lib.hid (HB1.out.trans (hbX.mono hwW1))
          have HO9 := Lib.hid ho9
          obtain ⟨ao9, cap9, rfl⟩ := own_slice ho9
          clear hbX ho9 hg9 hb4 ho4 HOB hs4 hs5 hsl CPY KP KP2 hwW1 f0 f1 flt HX1 HB1
          obtain ⟨e0, e1, elt⟩ := id HX9.out
          go_wp2_with fail
          go_quiet (fail)
          have hbq := bdrew (Below.refl w9.heap.size w9) nq
          have HB10 := Lib.hid (HB9.out.trans (hbq.mono HB9.out.size))
          have ho10 := below_own HO9.out hbq
          have hsl6 : ∀ W, (Instr.sliceAt 22 (.slice none L.length cap) (some (.int .i64 (i : Int))) none none).run Tryd.prog W = .ok (.slice none 0 0) W := fun W => by
            rw [HIZ.out, HL0.out, HC0.out]
            simp [go_sem, Instr.sliceAt, Instr.slice, Instr.sliceBounds, Instr.sliceBound, asIntOf, run_underlying Tryd.underlying22]
          have hth : ¬ thB L x.f = true := by intro h; have := thB_lt h; rw [HPL.out] at this; have := HIL.out; omega
          have h16 : ¬ 16 ≤ L.length := by have := HL0.out; omega
          · have h16z : ¬ (16 : Int) ≤ (L.length : Int) := by omega
            have hRe : R = (L.take i ++ x :: L.drop i, 0) := by rw [← HR.out]; unfold raddR raddL; rw [if_neg hth, if_neg h16, if_neg hth, HPL.out]
            go_wp2_with (first | (at_builtin; refine wpList_append_own_none rfl _ _ 22 rfl w.heap.size 29 i0 2 Tryd.underlying22 hi0 _ _ _ rfl ho10 rfl ?_))
            go_ret2
            exact ⟨_, rfl, wsown_end HIL.out HO9.out hbq, HB10.out⟩
      | some b =>
        refine wp_gen (fun W => Below w.heap.size w W ∧ WxAt W w.heap.size x) ⟨HW.out.trans ((bdrew (Below.refl _ _) nq).mono HW.out.size), HX.out.below (bdrew (Below.refl _ _) nq)⟩ ?_
        rintro W1 ⟨hb1, hx1⟩
        have HB1 := Lib.hid hb1
        obtain ⟨q0, hq0⟩ : ∃ q, q = w.heap.size := ⟨_, rfl⟩
        have hq0le : w.heap.size ≤ q0 := by omega
        rw [← hq0] at hx1 ⊢
        obtain ⟨f0, f1, flt⟩ := id hx1
        have HX1 := Lib.hid hx1
        clear hq0 hb1 hx1 nq
        have hsl : ∀ W, (Instr.sliceAt 22 (.slice (some b) L.length cap) none (some (.int .i64 (i : Int))) none).run Tryd.prog W = .ok (.slice (some b) i cap) W := fun W => by
          exact ro_slice_to W _ 29 Tryd.underlying22 hi0 _ _ _ _ (by omega)
        have CPY := Lib.hid (fun W (hb : Below w.heap.size w W) => (show Calls Tryd.prog 10 #[.slice (some b) i cap] W fun e w' => ∃ v', e = .returned v' ∧ Below W.heap.size W w' ∧ w'.ownsRow W.heap.size 29 2 v' i ((L.take i).map rowWish).flatten from by
          have hti : (L.take i).length = i := by rw [List.length_take]; omega
          have := copyWishes_any (.slice (some b) i cap) (L.take i) W (by omega) (by
            obtain ⟨_, _, hv, q1, q2, q3, q4⟩ := HV.out.wsR.below hb
            injection hv with g1 g2 g3
            subst g1 g3
            refine ⟨_, _, by rw [List.length_map, hti], by rw [List.length_map, hti]; omega, q2, q3, fun hne => ?_⟩
            obtain ⟨b', o', he, hlt', hB'⟩ := q4 (by rintro h; rw [List.map_eq_nil_iff] at h; subst h; simp at hne)
            refine ⟨b', o', he, hlt', fun k r hk => hB' k r ?_⟩
            rw [List.getElem?_map, List.getElem?_take] at hk
            rw [List.getElem?_map]
            split at hk
            · exact hk
            · cases hk)
          rw [hti] at this
          exact this))
        have KP := Lib.hid (show ∀ W W', Below W.heap.size W W' → (W.cell? ⟨q0, 0, none⟩ = some (.string x.f) ∧ W.cell? ⟨q0, 1, none⟩ = some (.int .i64 x.q) ∧ Below W1.heap.size W1 W) → (W'.cell? ⟨q0, 0, none⟩ = some (.string x.f) ∧ W'.cell? ⟨q0, 1, none⟩ = some (.int .i64 x.q) ∧ Below W1.heap.size W1 W') from fun W W' hb h => ⟨(hb.cell (p := ⟨q0, 0, none⟩) (Nat.lt_of_lt_of_le flt h.2.2.size)).trans h.1, (hb.cell (p := ⟨q0, 1, none⟩) (Nat.lt_of_lt_of_le flt h.2.2.size)).trans h.2.1, h.2.2.trans (hb.mono h.2.2.size)⟩)
        have KP2 := Lib.hid (show ∀ W W', Below W1.heap.size W W' → (W.cell? ⟨q0, 0, none⟩ = some (.string x.f) ∧ W.cell? ⟨q0, 1, none⟩ = some (.int .i64 x.q) ∧ Below W1.heap.size W1 W) → (W'.cell? ⟨q0, 0, none⟩ = some (.string x.f) ∧ W'.cell? ⟨q0, 1, none⟩ = some (.int .i64 x.q) ∧ Below W1.heap.size W1 W') from fun W W' hb h => ⟨(hb.cell (p := ⟨q0, 0, none⟩) flt).trans h.1, (hb.cell (p := ⟨q0, 1, none⟩) flt).trans h.2.1, h.2.2.trans hb⟩)
        have hwW1 := HB1.out.size
        have hrow1 : ∀ u ∈ rowWish x, u.oneCell' = true := by intro u hu; simp at hu; rcases hu with rfl | rfl <;> rfl
        go_region_held3 (fun W => W.cell? ⟨q0, 0, none⟩ = some (.string x.f) ∧ W.cell? ⟨q0, 1, none⟩ = some (.int .i64 x.q) ∧ Below W1.heap.size W1 W) (first | with_reducible assumption | exact KP.out _ _ hb4 (by assumption) | exact ⟨f0, f1, Below.refl _ _⟩ | exact ⟨f0, f1, (Below.refl _ _).drew⟩ | exact KP.out W1.drew _ hb4 ⟨f0, f1, (Below.refl _ _).drew⟩ | exact KP.out W1.drew _ ((Below.refl _ _).alloc (Nat.le_refl _) _) ⟨f0, f1, (Below.refl _ _).drew⟩ | exact KP.out _ _ hb4 (KP.out W1.drew _ ((Below.refl _ _).alloc (Nat.le_refl _) _) ⟨f0, f1, (Below.refl _ _).drew⟩) | exact KP.out _ _ ((Below.refl _ _).alloc (Nat.le_refl _) _) (KP.out W1.drew _ hb4 ⟨f0, f1, (Below.refl _ _).drew⟩) | exact KP2.out _ _ (grew_below hg9 (by first | exact hs5 | (have h := hs5; simp; omega)) (fun k hk => HOB.out k hk)) (by assumption) | fail "KEEP") (first | ((with_reducible refine (CPY.out _ (by first | exact HB1.out.drew | exact (HB1.out.alloc HB1.out.size _).drew | exact (HB1.out.drew).alloc HB1.out.size _)).mono ?_); rintro e1 W4 ⟨v4, rfl, hb4, ho4⟩; have HOB := Lib.hid (show ∀ k, v4.ownBlock = some k → W1.heap.size ≤ k from fun k hk => by have := (ho4.lt k hk).1; first | exact this | (simp at this; omega)); have hs4 := hb4.size; have hs5 : W1.heap.size ≤ W4.heap.size := (by first | exact hs4 | (have h := hs4; simp at h; omega))) | (refine stepAppendRow rfl _ _ 22 29 rfl w.heap.size i0 (.agg #[.string ByteArray.empty, .int .i64 0]) 2 24 Tryd.underlying22 hi0 hz0 hz1 hz2 rfl (by decide) v4 i _ rfl (World.ownsRow.alloc (own_mono ho4 hwW1) _) ⟨W4.heap.size, 0, none⟩ 1 1 (rowWish x) rfl rfl (news_alloc W4 x) hrow1 (by unfold maxLen; omega) (by omega) (by have h := hs5; simp; omega) ?_; intro v9 w9 ho9 hg9) | (refine stepAppendRow rfl _ _ 22 29 rfl w.heap.size i0 (.agg #[.string ByteArray.empty, .int .i64 0]) 2 24 Tryd.underlying22 hi0 hz0 hz1 hz2 rfl (by decide) v4 i _ rfl (own_mono ho4 (by simp; omega)) ⟨W1.heap.size, 0, none⟩ 1 1 (rowWish x) rfl rfl (news_then W1 x hb4) hrow1 (by unfold maxLen; omega) (by omega) (by omega) ?_; intro v9 w9 ho9 hg9) | fail "ARM")
        ·
          have hbX : Below W1.heap.size W1 w9 := by
            first
            | exact (((Below.refl _ W1).drew.trans hb4).alloc hs5 _).trans (grew_below hg9 (by have h := hs5; simp; omega) (fun k hk => HOB.out k hk))
            | exact (((Below.refl _ W1).drew.alloc (Nat.le_refl _) _).trans (hb4.mono (by simp))).trans (grew_below hg9 hs5 (fun k hk => HOB.out k hk))
          have HX9 := Lib.hid (HX1.out.below hbX)
          have HB9 := Lib.hid (HB1.out.trans (hbX.mono hwW1))
          have HO9 := Lib.hid ho9
          obtain ⟨ao9, cap9, rfl⟩ := own_slice ho9
          clear hbX ho9 hg9 hb4 ho4 HOB hs4 hs5 hsl CPY KP KP2 hwW1 f0 f1 flt HX1 HB1
          obtain ⟨e0, e1, elt⟩ := id HX9.out
          go_wp2_with fail
          go_quiet (fail)
          have hbq := bdrew (Below.refl w9.heap.size w9) nq
          have HB10 := Lib.hid (HB9.out.trans (hbq.mono HB9.out.size))
          have ho10 := below_own HO9.out hbq
          obtain ⟨ad9, had9⟩ : ∃ a : Addr, a = if cap = i then b else b.add (i * 2) := ⟨_, rfl⟩
          have HN9 := Lib.hid (show ∀ j u, (((L.drop i).map rowWish).flatten)[j]? = some u → (w9.drewN nq).cell? (ad9.add j) = some u by intro j u hj; rw [List.drop_of_length_le (by have := HIL.out; omega)] at hj; simp at hj)
          have HF9 := Lib.hid (show (((L.drop i).map rowWish).flatten).length = (L.length - i) * 2 by rw [flatten_len _ (ws_n _), List.length_map, List.length_drop])
          have hsl6 : ∀ W, (Instr.sliceAt 22 (.slice (some b) L.length cap) (some (.int .i64 (i : Int))) none none).run Tryd.prog W = .ok (.slice (some ad9) (L.length - i) (cap - i)) W := fun W => by
            rw [had9]
            exact ro_slice_from W _ 29 2 Tryd.underlying22 size_wish _ _ _ _ (by omega)
          clear had9
          have hth : ¬ thB L x.f = true := by intro h; have := thB_lt h; rw [HPL.out] at this; have := HIL.out; omega
          by_cases h16 : 16 ≤ L.length
          · have h16z : (16 : Int) ≤ (L.length : Int) := by omega
            have hRe : R = ([], 5) := by rw [← HR.out]; unfold raddR; rw [if_neg hth, if_pos h16]
            go_wp2_with fail
            go_ret2
            exact ⟨_, by rw [hRe]; rfl, by rw [hRe]; exact WsOwn.nil _ _, HB10.out⟩
          · have h16z : ¬ (16 : Int) ≤ (L.length : Int) := by omega
            have hRe : R = (L.take i ++ x :: L.drop i, 0) := by rw [← HR.out]; unfold raddR raddL; rw [if_neg hth, if_neg h16, if_neg hth, HPL.out]
            go_wp2_with (first | (at_builtin; refine wpList_append_at _ rfl _ _ 22 rfl w.heap.size 29 i0 (.agg #[.string ByteArray.empty, .int .i64 0]) 2 24 Tryd.underlying22 hi0 hz0 hz1 hz2 rfl (by decide) _ _ _ rfl ho10 ad9 (L.length - i) (cap - i) (((L.drop i).map rowWish).flatten) rfl HF9.out HN9.out (ws_one _) (by unfold maxLen; omega) (by omega) HB10.out.size ?_))
            intro v' w1 hown' hgrow hat
            have HB11 := Lib.hid (HB10.out.grown hgrow HB10.out.size (by intro k hk; exact (ho10.lt k hk).1))
            have HO11 := Lib.hid hown'
            clear hown' hgrow hat
            go_wp2_with fail
            go_ret2
            exact ⟨v', by rw [hRe]; rfl, by rw [hRe]; exact wsown_cat2 (by omega) (by omega) (by omega) HO11.out, HB11.out⟩
        ·
          have hbX : Below W1.heap.size W1 w9 := by
            first
            | exact (((Below.refl _ W1).drew.trans hb4).alloc hs5 _).trans (grew_below hg9 (by have h := hs5; simp; omega) (fun k hk => HOB.out k hk))
            | exact (((Below.refl _ W1).drew.alloc (Nat.le_refl _) _).trans (hb4.mono (by simp))).trans (grew_below hg9 hs5 (fun k hk => HOB.out k hk))
          have HX9 := Lib.hid (HX1.out.below hbX)
          have HB9 := Lib.hid (HB1.out.trans (hbX.mono hwW1))
          have HO9 := Lib.hid ho9
          obtain ⟨ao9, cap9, rfl⟩ := own_slice ho9
          clear hbX ho9 hg9 hb4 ho4 HOB hs4 hs5 hsl CPY KP KP2 hwW1 f0 f1 flt HX1 HB1
          obtain ⟨e0, e1, elt⟩ := id HX9.out
          go_wp2_with fail
          go_quiet (fail)
          have hbq := bdrew (Below.refl w9.heap.size w9) nq
          have HB10 := Lib.hid (HB9.out.trans (hbq.mono HB9.out.size))
          have ho10 := below_own HO9.out hbq
          obtain ⟨ad9, had9⟩ : ∃ a : Addr, a = if cap = i then b else b.add (i * 2) := ⟨_, rfl⟩
          have HN9 := Lib.hid (show ∀ j u, (((L.drop i).map rowWish).flatten)[j]? = some u → (w9.drewN nq).cell? (ad9.add j) = some u by intro j u hj; rw [List.drop_of_length_le (by have := HIL.out; omega)] at hj; simp at hj)
          have HF9 := Lib.hid (show (((L.drop i).map rowWish).flatten).length = (L.length - i) * 2 by rw [flatten_len _ (ws_n _), List.length_map, List.length_drop])
          have hsl6 : ∀ W, (Instr.sliceAt 22 (.slice (some b) L.length cap) (some (.int .i64 (i : Int))) none none).run Tryd.prog W = .ok (.slice (some ad9) (L.length - i) (cap - i)) W := fun W => by
            rw [had9]
            exact ro_slice_from W _ 29 2 Tryd.underlying22 size_wish _ _ _ _ (by omega)
          clear had9
          have hth : ¬ thB L x.f = true := by intro h; have := thB_lt h; rw [HPL.out] at this; have := HIL.out; omega
          by_cases h16 : 16 ≤ L.length
          · have h16z : (16 : Int) ≤ (L.length : Int) := by omega
            have hRe : R = ([], 5) := by rw [← HR.out]; unfold raddR; rw [if_neg hth, if_pos h16]
            go_wp2_with fail
            go_ret2
            exact ⟨_, by rw [hRe]; rfl, by rw [hRe]; exact WsOwn.nil _ _, HB10.out⟩
          · have h16z : ¬ (16 : Int) ≤ (L.length : Int) := by omega
            have hRe : R = (L.take i ++ x :: L.drop i, 0) := by rw [← HR.out]; unfold raddR raddL; rw [if_neg hth, if_neg h16, if_neg hth, HPL.out]
            go_wp2_with (first | (at_builtin; refine wpList_append_at _ rfl _ _ 22 rfl w.heap.size 29 i0 (.agg #[.string ByteArray.empty, .int .i64 0]) 2 24 Tryd.underlying22 hi0 hz0 hz1 hz2 rfl (by decide) _ _ _ rfl ho10 ad9 (L.length - i) (cap - i) (((L.drop i).map rowWish).flatten) rfl HF9.out HN9.out (ws_one _) (by unfold maxLen; omega) (by omega) HB10.out.size ?_))
            intro v' w1 hown' hgrow hat
            have HB11 := Lib.hid (HB10.out.grown hgrow HB10.out.size (by intro k hk; exact (ho10.lt k hk).1))
            have HO11 := Lib.hid hown'
            clear hown' hgrow hat
            go_wp2_with fail
            go_ret2
            exact ⟨v', by rw [hRe]; rfl, by rw [hRe]; exact wsown_cat2 (by omega) (by omega) (by omega) HO11.out, HB11.out⟩
end Go.Proofs.YtoibdhncfdjdoaaDoor
