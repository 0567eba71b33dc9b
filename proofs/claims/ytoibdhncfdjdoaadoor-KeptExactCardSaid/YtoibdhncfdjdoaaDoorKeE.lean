/-
  What was said last: Put.
-/
import Derived.Test.YtoibdhncfdjdoaaDoorKeD
namespace Go.Proofs.YtoibdhncfdjdoaaDoor
open Go.RowKit Go.Lib
/-- How many stand ahead of a text. -/
def placeN (L : List EMessage) (t : ByteArray) : Nat := (L.takeWhile (fun q => sl q.t t)).length
theorem place_eq : ∀ {L : List EMessage} {t : ByteArray} {i : Nat}, Place L t i → placeN L t = i
  | [], _, i, h => by have := h.le; simp at this; subst this; rfl
  | a :: r, t, i, h => by
    unfold placeN
    cases hs : sl a.t t with
    | true =>
      rw [List.takeWhile_cons_of_pos (p := fun q : EMessage => sl q.t t) hs, List.length_cons]
      cases i with
      | zero => have := h.high 0 a rfl (Nat.le_refl _); rw [hs] at this; cases this
      | succ j =>
        congr 1
        exact place_eq (L := r) ⟨by have := h.le; simp at this; omega, fun k q hk hl => h.low (k + 1) q (by simpa using hk) (by omega), fun k q hk hl => h.high (k + 1) q (by simpa using hk) (by omega)⟩
    | false =>
      rw [List.takeWhile_cons_of_neg (p := fun q : EMessage => sl q.t t) (by rw [hs]; exact Bool.false_ne_true)]
      cases i with
      | zero => rfl
      | succ j => have := h.low 0 a rfl (by omega); rw [hs] at this; cases this
def thB (L : List EMessage) (t : ByteArray) : Bool := thereB L t (placeN L t)
theorem thB_lt {L : List EMessage} {t : ByteArray} (h : thB L t = true) : placeN L t < L.length := by
  unfold thB thereB at h
  split at h
  · rename_i q hq; exact (List.getElem?_eq_some_iff.1 hq).1
  · cases h
/-- Without the one of that topic. -/
def outL (L : List EMessage) (t : ByteArray) : List EMessage := if thB L t = true then L.eraseIdx (placeN L t) else L
def putL (L : List EMessage) (x : EMessage) : List EMessage := if noneB x = true then outL L x.t else (outL L x.t).take (placeN L x.t) ++ x :: (outL L x.t).drop (placeN L x.t)
def putR (L : List EMessage) (x : EMessage) : List EMessage × Int :=
  if (keptB L && msgB x) = true then (if (!noneB x && !thB L x.t && decide (L.length = 16)) = true then ([], 5) else (putL L x, 0)) else ([], 1)
theorem placeV_any (v : Value) (L : List EMessage) (t : ByteArray) (w : World) (hv : SlOf w 4 EMessage.At v L) (hr : Rising L) (hl : L.length ≤ 1000) :
    Calls Tryd.prog 55 #[v, .string t] w fun e w' => e = .returned (.tuple #[.int .i64 (placeN L t), .bool (thB L t)]) ∧ placeN L t ≤ L.length ∧ Below w.heap.size w w' := by
  refine (place_any v L t w hv hr hl).mono ?_
  rintro e w' ⟨i, hp, rfl, hb⟩
  have := place_eq hp
  unfold thB
  rw [this]
  exact ⟨rfl, hp.le, hb⟩
theorem MxAt.grewM {W W' : World} {q : Nat} {x : EMessage} {v v' : Value} (h : MxAt W q x) (hg : Grew W W' v v') (hn : ∀ k, v.ownBlock = some k → k = q → False) : MxAt W' q x := by
  have hne : some q ≠ v.ownBlock := fun e => hn q e.symm rfl
  exact ⟨(hg.1.cell_far ⟨q, 0, none⟩ h.lt hne).trans h.c0, (hg.1.cell_far ⟨q, 1, none⟩ h.lt hne).trans h.c1, (hg.1.cell_far ⟨q, 2, none⟩ h.lt hne).trans h.c2, (hg.1.cell_far ⟨q, 3, none⟩ h.lt hne).trans h.c3, Nat.lt_of_lt_of_le h.lt hg.1.size⟩
set_option maxRecDepth 100000 in
set_option maxHeartbeats 4000000 in
theorem put_any (v : Value) (L : List EMessage) (x : EMessage) (w : World) (hE : Env w) (hv : SlOf w 4 EMessage.At v L) (hs : ∀ y ∈ L, y.t.size < 1000000) (hx : x.t.size < 1000000) (hl : L.length ≤ 1000000) :
    Calls Tryd.prog 38 #[v, .agg #[.string x.t, .string x.p, .int .i64 x.q, .bool x.r]] w fun e w' => ∃ v', e = .returned (.tuple #[v', .int .i64 (putR L x).2]) ∧ MsOwn w' w.heap.size v' (putR L x).1 ∧ Below w.heap.size w w' := by
  obtain ⟨R, hR⟩ : ∃ R, putR L x = R := ⟨_, rfl⟩
  rw [hR]
  have HE := Lib.hid hE
  have HV := Lib.hid hv
  obtain ⟨ao, cap, rfl, -⟩ := id hv
  have CC := Lib.hid (fun W (hb : Below w.heap.size w W) => check_any (.slice ao L.length cap) L W (HE.out.below hb) (HV.out.msR.below hb).toMs hs hl)
  have CV := Lib.hid (fun W (hb : Below w.heap.size w W) => valid_any x W hx (HE.out.below hb))
  clear hE hv hs
  unfold putR at hR
  cases hS : keptB L with
  | false =>
    rw [hS] at hR
    subst hR
    have C1 := Lib.hid (show ∀ W (hb : Below w.heap.size w W), Calls Tryd.prog 30 #[.slice ao L.length cap] W fun e w' => e = .returned (.int .i64 1) ∧ Below W.heap.size W w' from fun W hb => by have := CC.out W hb; rw [hS] at this; exact this)
    clear CC CV hS
    go_enter Tryd.func38, Tryd.ntmps38
    go_wp2_with fail
    refine calls_gen (fun W => Below w.heap.size w W) ((Below.refl _ _).alloc (Nat.le_refl _) _) ?_
    intro W1 hb1
    (with_reducible refine (C1.out W1 hb1).mono ?_)
    rintro e W2 ⟨rfl, hb2⟩
    go_wp2
    go_ret2
    exact ⟨_, rfl, MsOwn.nil _ _, hb1.trans (hb2.mono hb1.size)⟩
  | true =>
    rw [hS] at hR
    obtain ⟨h16, -⟩ := kept_parts hS
    have HRise := Lib.hid (kept_rising hS)
    have C1 := Lib.hid (show ∀ W (hb : Below w.heap.size w W), Calls Tryd.prog 30 #[.slice ao L.length cap] W fun e w' => e = .returned (.int .i64 0) ∧ Below W.heap.size W w' from fun W hb => by have := CC.out W hb; rw [hS] at this; exact this)
    clear CC hS
    cases hW : msgB x with
    | false =>
      rw [hW] at hR
      subst hR
      have C2 := Lib.hid (show ∀ W (hb : Below w.heap.size w W), Calls Tryd.prog 52 #[.agg #[.string x.t, .string x.p, .int .i64 x.q, .bool x.r]] W fun e w' => e = .returned (.bool false) ∧ Below W.heap.size W w' from fun W hb => by have := CV.out W hb; rw [hW] at this; exact this)
      clear CV hW
      go_enter Tryd.func38, Tryd.ntmps38
      go_wp2_with fail
      refine calls_gen (fun W => Below w.heap.size w W ∧ MxAt W w.heap.size x) ⟨(Below.refl _ _).alloc (Nat.le_refl _) _, by simp [go_sem], by simp [go_sem], by simp [go_sem], by simp [go_sem], by simp⟩ ?_
      rintro W1 ⟨hb1, hx1⟩
      (with_reducible refine (C1.out W1 hb1).mono ?_)
      rintro e W2 ⟨rfl, hb2⟩
      obtain ⟨c0, c1, c2, c3, clt⟩ := hx1.below hb2
      have HB2 := Lib.hid (hb1.trans (hb2.mono hb1.size))
      clear hb1 hb2 hx1
      go_wp2_with fail
      (with_reducible refine (C2.out W2 HB2.out).mono ?_)
      rintro e W3 ⟨rfl, hb3⟩
      go_wp2
      go_ret2
      exact ⟨_, rfl, MsOwn.nil _ _, HB2.out.trans (hb3.mono HB2.out.size)⟩
    | true =>
      rw [hW] at hR
      have C2 := Lib.hid (show ∀ W (hb : Below w.heap.size w W), Calls Tryd.prog 52 #[.agg #[.string x.t, .string x.p, .int .i64 x.q, .bool x.r]] W fun e w' => e = .returned (.bool true) ∧ Below W.heap.size W w' from fun W hb => by have := CV.out W hb; rw [hW] at this; exact this)
      clear CV hW
      have C3 := Lib.hid (fun W (hb : Below w.heap.size w W) => placeV_any (.slice ao L.length cap) L x.t W (HV.out.msR.below hb).toMs HRise.out (by omega))
      have C4 := Lib.hid (fun W (hb : Below w.heap.size w W) => msClone_any (.slice ao L.length cap) L W hl (HV.out.msR.below hb))
      have h16z : (L.length : Int) ≤ 16 := by omega
      have hPL : putL L x = if noneB x = true then outL L x.t else (outL L x.t).take (placeN L x.t) ++ x :: (outL L x.t).drop (placeN L x.t) := rfl
      unfold outL at hPL
      obtain ⟨b, hT⟩ : ∃ b, thB L x.t = b := ⟨_, rfl⟩
      rw [hT] at C3 hR hPL
      obtain ⟨i, hi⟩ : ∃ i, placeN L x.t = i := ⟨_, rfl⟩
      have HLT := Lib.hid (fun (h : b = true) => show i < L.length by have := thB_lt (L := L) (t := x.t) (by rw [hT]; exact h); rw [hi] at this; exact this)
      rw [hi] at C3 hPL
      have HPL := Lib.hid hPL
      have HR := Lib.hid hR
      clear hT hi hR hPL
      go_enter Tryd.func38, Tryd.ntmps38
      go_wp2_with fail
      refine calls_gen (fun W => Below w.heap.size w W ∧ MxAt W w.heap.size x) ⟨(Below.refl _ _).alloc (Nat.le_refl _) _, by simp [go_sem], by simp [go_sem], by simp [go_sem], by simp [go_sem], by simp⟩ ?_
      rintro W1 ⟨hb1, hx1⟩
      obtain ⟨q0, hq0⟩ : ∃ q, q = w.heap.size := ⟨_, rfl⟩
      have hq0le : w.heap.size ≤ q0 := by omega
      rw [← hq0] at hx1 ⊢
      clear hq0
      (with_reducible refine (C1.out W1 hb1).mono ?_)
      rintro e W2 ⟨rfl, hb2⟩
      have HX2 := Lib.hid (hx1.below hb2)
      have HB2 := Lib.hid (hb1.trans (hb2.mono hb1.size))
      clear hb1 hb2 hx1 C1
      obtain ⟨c0, c1, c2, c3, clt⟩ := id HX2.out
      go_wp2_with fail
      (with_reducible refine (C2.out W2 HB2.out).mono ?_)
      rintro e W3 ⟨rfl, hb3⟩
      have HX3 := Lib.hid (HX2.out.below hb3)
      have HB3 := Lib.hid (HB2.out.trans (hb3.mono HB2.out.size))
      clear hb3 c0 c1 c2 c3 clt HX2 HB2 C2
      obtain ⟨c0, c1, c2, c3, clt⟩ := id HX3.out
      go_wp2_with fail
      (with_reducible refine (C3.out W3 HB3.out).mono ?_)
      rintro e W4 ⟨rfl, hil, hb4⟩
      have HX4 := Lib.hid (HX3.out.below hb4)
      have HB4 := Lib.hid (HB3.out.trans (hb4.mono HB3.out.size))
      clear hb4 c0 c1 c2 c3 clt HX3 HB3 C3
      obtain ⟨c0, c1, c2, c3, clt⟩ := id HX4.out
      cases hN : noneB x with
      | true =>
        have hp1 : (x.p.toList == (⟨#[]⟩ : ByteArray).toList) = true := hN
        have hp2 : (x.p.toList == []) = true := by rw [← hN]; unfold noneB; rw [show (⟨#[]⟩ : ByteArray).toList = [] by rw [Lib.toList_data]]
        have hp3 : x.p.toList.isEmpty = true := by rw [← hp2]; cases x.p.toList <;> rfl
        rw [hN] at HR HPL
        clear hN
        cases b with
        | true =>
          have HR2 := Lib.hid (show R = (L.eraseIdx i, 0) by rw [← HR.out, HPL.out]; rfl)
          go_wp2_with fail
          (with_reducible refine (C4.out W4 HB4.out).mono ?_)
          rintro e W5 ⟨v5, rfl, hb5, ho5⟩
          have hsz4 := HB4.out.size
          have HX5 := Lib.hid (HX4.out.below hb5)
          have HB5 := Lib.hid (HB4.out.trans (hb5.mono hsz4))
          have HQN := Lib.hid (fun k (hk : v5.ownBlock = some k) (e : k = q0) => show False by have h1 := (ho5.lt k hk).1; have h2 := HX4.out.lt; omega)
          have HO5 := Lib.hid (show MsOwn W5 w.heap.size v5 L from own_mono ho5 hsz4)
          clear hb5 HX4 HB4 C4 ho5 c0 c1 c2 c3 clt
          have hilt : i < L.length := HLT.out (by simp)
          have C6 := Lib.hid (show Calls Tryd.prog 57 #[v5, .int .i64 i, .int .i64 ((i : Int) + 1)] W5 _ from msDelete_any w.heap.size i v5 L W5 HO5.out hilt)
          go_wp2_with fail
          (with_reducible refine C6.out.mono ?_)
          rintro e W6 ⟨v6, rfl, ho6, hg6⟩
          have hgb : Below w.heap.size W5 W6 := grew_below hg6 HB5.out.size (fun k hk => (HO5.out.lt k hk).1)
          have HB6 := Lib.hid (HB5.out.trans hgb)
          have HO6 := Lib.hid ho6
          have hxs : MxAt W6 q0 x := by (exact HX5.out.grewM hg6 (fun k hk e => HQN.out k hk e))
          obtain ⟨c0, c1, c2, c3, clt⟩ := id hxs
          clear ho6 hg6 hgb C6 hxs
          go_wp2
          go_ret2
          exact ⟨_, by rw [HR2.out]; rfl, by rw [HR2.out]; exact HO6.out, HB6.out⟩
        | false =>
          have HR2 := Lib.hid (show R = (L, 0) by rw [← HR.out, HPL.out]; rfl)
          go_wp2_with fail
          (with_reducible refine (C4.out W4 HB4.out).mono ?_)
          rintro e W5 ⟨v5, rfl, hb5, ho5⟩
          have hsz4 := HB4.out.size
          have HX5 := Lib.hid (HX4.out.below hb5)
          have HB5 := Lib.hid (HB4.out.trans (hb5.mono hsz4))
          have HQN := Lib.hid (fun k (hk : v5.ownBlock = some k) (e : k = q0) => show False by have h1 := (ho5.lt k hk).1; have h2 := HX4.out.lt; omega)
          have HO5 := Lib.hid (show MsOwn W5 w.heap.size v5 L from own_mono ho5 hsz4)
          clear hb5 HX4 HB4 C4 ho5 c0 c1 c2 c3 clt
          obtain ⟨c0, c1, c2, c3, clt⟩ := id HX5.out
          go_wp2
          go_ret2
          exact ⟨_, by rw [HR2.out]; rfl, by rw [HR2.out]; exact HO5.out, HB5.out⟩
      | false =>
        have hp1 : (x.p.toList == (⟨#[]⟩ : ByteArray).toList) = false := hN
        have hp2 : (x.p.toList == []) = false := by rw [← hN]; unfold noneB; rw [show (⟨#[]⟩ : ByteArray).toList = [] by rw [Lib.toList_data]]
        have hp3 : x.p.toList.isEmpty = false := by rw [← hp2]; cases x.p.toList <;> rfl
        rw [hN] at HR HPL
        clear hN
        cases b with
        | true =>
          have HR2 := Lib.hid (show R = ((L.eraseIdx i).take i ++ x :: (L.eraseIdx i).drop i, 0) by rw [← HR.out, HPL.out]; rfl)
          go_wp2_with fail
          (with_reducible refine (C4.out W4 HB4.out).mono ?_)
          rintro e W5 ⟨v5, rfl, hb5, ho5⟩
          have hsz4 := HB4.out.size
          have HX5 := Lib.hid (HX4.out.below hb5)
          have HB5 := Lib.hid (HB4.out.trans (hb5.mono hsz4))
          have HQN := Lib.hid (fun k (hk : v5.ownBlock = some k) (e : k = q0) => show False by have h1 := (ho5.lt k hk).1; have h2 := HX4.out.lt; omega)
          have HO5 := Lib.hid (show MsOwn W5 w.heap.size v5 L from own_mono ho5 hsz4)
          clear hb5 HX4 HB4 C4 ho5 c0 c1 c2 c3 clt
          have hilt : i < L.length := HLT.out (by simp)
          have C6 := Lib.hid (show Calls Tryd.prog 57 #[v5, .int .i64 i, .int .i64 ((i : Int) + 1)] W5 _ from msDelete_any w.heap.size i v5 L W5 HO5.out hilt)
          go_wp2_with fail
          (with_reducible refine C6.out.mono ?_)
          rintro e W6 ⟨v6, rfl, ho6, hg6⟩
          have hgb : Below w.heap.size W5 W6 := grew_below hg6 HB5.out.size (fun k hk => (HO5.out.lt k hk).1)
          have HB6 := Lib.hid (HB5.out.trans hgb)
          have HO6 := Lib.hid ho6
          have HXI := Lib.hid (show MxAt W6 q0 x by (exact HX5.out.grewM hg6 (fun k hk e => HQN.out k hk e)))
          have hLx : (L.eraseIdx i).length ≤ 1000000 := by rw [List.length_eraseIdx]; split <;> omega
          have hiLx : i ≤ (L.eraseIdx i).length := by rw [List.length_eraseIdx, if_pos hilt]; omega
          clear ho6 hg6 hgb C6
          obtain ⟨ao6, cap6, hv6⟩ := own_slice HO6.out
          subst hv6
          have hszI := HB6.out.size
          have C8 := Lib.hid (msInsert_any w.heap.size _ i W6.heap.size _ _ x _ ((HO6.out.below ((Below.refl _ W6).alloc (Nat.le_refl _) (.cells #[.string x.t, .string x.p, .int .i64 x.q, .bool x.r] 60)))) (by simp; omega) hLx hiLx (heap_alloc_new W6 _) (fun h => by have := (HO6.out.lt _ h).2; omega))
          have hG : ∀ v' w', Grew (W6.alloc (.cells #[.string x.t, .string x.p, .int .i64 x.q, .bool x.r] 60)) w' (.slice ao6 (L.eraseIdx i).length cap6) v' → Below w.heap.size w w' := fun v' w' h => (HB6.out.alloc hszI _).trans (grew_below h (by simp; omega) (fun k hk => (HO6.out.lt k hk).1))
          have HG := Lib.hid hG
          clear hG
          obtain ⟨c0, c1, c2, c3, clt⟩ := id HXI.out
          go_wp2_with fail
          (with_reducible refine C8.out.mono ?_)
          rintro e W7 ⟨v7, rfl, ho7, hg7⟩
          have HF := Lib.hid (HG.out _ _ hg7)
          have HO7 := Lib.hid (show MsOwn W7 w.heap.size v7 ((L.eraseIdx i).take i ++ x :: (L.eraseIdx i).drop i) by
            unfold MsOwn
            have hlen : ((L.eraseIdx i).take i ++ x :: (L.eraseIdx i).drop i).length = (L.eraseIdx i).length + 1 := by
              rw [List.length_append, List.length_cons, List.length_take, List.length_drop]; omega
            rw [hlen]; exact ho7)
          clear ho7 hg7 C8 c0 c1 c2 c3 clt
          go_wp2
          go_ret2
          exact ⟨_, by rw [HR2.out]; rfl, by rw [HR2.out]; exact HO7.out, HF.out⟩

        | false =>
          by_cases hfull : L.length = 16
          · have hfb : ((L.length : Int) == 16) = true := by simp; omega
            have HR2 := Lib.hid (show R = ([], 5) by rw [← HR.out]; simp [hfull])
            clear hfull
            go_wp2
            go_ret2
            exact ⟨_, by rw [HR2.out]; rfl, by rw [HR2.out]; exact MsOwn.nil _ _, HB4.out⟩
          · have hfb : ((L.length : Int) == 16) = false := by simp; omega
            have HR2 := Lib.hid (show R = (L.take i ++ x :: L.drop i, 0) by rw [← HR.out, HPL.out]; simp [hfull])
            clear hfull
            go_wp2_with fail
            (with_reducible refine (C4.out W4 HB4.out).mono ?_)
            rintro e W5 ⟨v5, rfl, hb5, ho5⟩
            have hsz4 := HB4.out.size
            have HX5 := Lib.hid (HX4.out.below hb5)
            have HB5 := Lib.hid (HB4.out.trans (hb5.mono hsz4))
            have HQN := Lib.hid (fun k (hk : v5.ownBlock = some k) (e : k = q0) => show False by have h1 := (ho5.lt k hk).1; have h2 := HX4.out.lt; omega)
            have HO5 := Lib.hid (show MsOwn W5 w.heap.size v5 L from own_mono ho5 hsz4)
            clear hb5 HX4 HB4 C4 ho5 c0 c1 c2 c3 clt
            have HXI := Lib.hid HX5.out
            have hLx : L.length ≤ 1000000 := hl
            have hiLx : i ≤ L.length := hil
            obtain ⟨ao6, cap6, hv6⟩ := own_slice HO5.out
            subst hv6
            have hszI := HB5.out.size
            have C8 := Lib.hid (msInsert_any w.heap.size _ i W5.heap.size _ _ x _ ((HO5.out.below ((Below.refl _ W5).alloc (Nat.le_refl _) (.cells #[.string x.t, .string x.p, .int .i64 x.q, .bool x.r] 60)))) (by simp; omega) hLx hiLx (heap_alloc_new W5 _) (fun h => by have := (HO5.out.lt _ h).2; omega))
            have hG : ∀ v' w', Grew (W5.alloc (.cells #[.string x.t, .string x.p, .int .i64 x.q, .bool x.r] 60)) w' (.slice ao6 (L).length cap6) v' → Below w.heap.size w w' := fun v' w' h => (HB5.out.alloc hszI _).trans (grew_below h (by simp; omega) (fun k hk => (HO5.out.lt k hk).1))
            have HG := Lib.hid hG
            clear hG
            obtain ⟨c0, c1, c2, c3, clt⟩ := id HXI.out
            go_wp2_with fail
            (with_reducible refine C8.out.mono ?_)
            rintro e W7 ⟨v7, rfl, ho7, hg7⟩
            have HF := Lib.hid (HG.out _ _ hg7)
            have HO7 := Lib.hid (show MsOwn W7 w.heap.size v7 ((L).take i ++ x :: (L).drop i) by
              unfold MsOwn
              have hlen : ((L).take i ++ x :: (L).drop i).length = (L).length + 1 := by
                rw [List.length_append, List.length_cons, List.length_take, List.length_drop]; omega
              rw [hlen]; exact ho7)
            clear ho7 hg7 C8 c0 c1 c2 c3 clt
            go_wp2
            go_ret2
            exact ⟨_, by rw [HR2.out]; rfl, by rw [HR2.out]; exact HO7.out, HF.out⟩

end Go.Proofs.YtoibdhncfdjdoaaDoor
