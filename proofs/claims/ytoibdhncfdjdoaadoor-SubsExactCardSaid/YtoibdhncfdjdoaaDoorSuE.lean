/-
  Who wants what: Add, Drop.
-/
import Derived.Test.YtoibdhncfdjdoaaDoorSuD
namespace Go.Proofs.YtoibdhncfdjdoaaDoor
open Go.RowKit Go.Lib
theorem flat_set (x : EWish) : ∀ (L : List EWish) (i : Nat), i < L.length → ((L.set i x).map rowWish).flatten = (((L.map rowWish).flatten).set (i * 2) (.string x.f)).set (i * 2 + 1) (.int .i64 x.q) := by
  intro L
  induction L with
  | nil => intro i hi; simp at hi
  | cons q r ih =>
    intro i hi
    cases i with
    | zero => rfl
    | succ i =>
      rw [List.set_cons_succ, List.map_cons, List.flatten_cons, ih i (by simpa using hi), List.map_cons, List.flatten_cons, show (i + 1) * 2 = i * 2 + 1 + 1 by omega]
      rfl
theorem WsOwn.set {w : World} {base g cap n : Nat} {L : List EWish} (hn : n = L.length) (h : WsOwn w base (.slice (some ⟨g, 0, none⟩) n cap) L) (i : Nat) (hi : i < L.length) (x : EWish) :
    WsOwn ((w.setCell ⟨g, i * 2, none⟩ (.string x.f)).setCell ⟨g, i * 2 + 1, none⟩ (.int .i64 x.q)) base (.slice (some ⟨g, 0, none⟩) n cap) (L.set i x) := by
  subst hn
  unfold WsOwn at *
  rw [List.length_set, flat_set x L i hi]
  obtain ⟨h1, h2⟩ := h
  rcases h2 with ⟨h2, -⟩ | ⟨g2, cap2, cur, hv, hb, hg, hle, hcm, hcs, ht⟩
  · cases h2
  · injection hv with hv1 hv2 hv3
    injection hv1 with hv1
    injection hv1 with hv1
    subst hv1 hv3
    refine ⟨by simpa using h1, .inr ⟨g, cap, (cur.setIfInBounds (i * 2) (.string x.f)).setIfInBounds (i * 2 + 1) (.int .i64 x.q), rfl, hb, ?_, hle, hcm, by simpa using hcs, ?_⟩⟩
    · have a1 := setRow_heap w g cur (cur.setIfInBounds (i * 2) (.string x.f)) _ _ hg
      rw [setCell_eq_setRow w g (i * 2) cur _ _ _ hg]
      rw [setCell_eq_setRow _ g (i * 2 + 1) _ _ _ _ a1]
      exact setRow_heap _ g _ _ _ _ a1
    · simp only [Array.toList_setIfInBounds]
      rw [List.take_set, List.take_set, ht]
/-- How many stand ahead of a text. -/
def placeN (L : List EWish) (t : ByteArray) : Nat := (L.takeWhile (fun q => sl q.f t)).length
theorem place_eq : ∀ {L : List EWish} {t : ByteArray} {i : Nat}, Place L t i → placeN L t = i
  | [], _, i, h => by have := h.le; simp at this; subst this; rfl
  | a :: r, t, i, h => by
    unfold placeN
    cases hs : sl a.f t with
    | true =>
      rw [List.takeWhile_cons_of_pos (p := fun q : EWish => sl q.f t) hs, List.length_cons]
      cases i with
      | zero => have := h.high 0 a rfl (Nat.le_refl _); rw [hs] at this; cases this
      | succ j =>
        congr 1
        exact place_eq (L := r) ⟨by have := h.le; simp at this; omega, fun k q hk hl => h.low (k + 1) q (by simpa using hk) (by omega), fun k q hk hl => h.high (k + 1) q (by simpa using hk) (by omega)⟩
    | false =>
      rw [List.takeWhile_cons_of_neg (p := fun q : EWish => sl q.f t) (by rw [hs]; exact Bool.false_ne_true)]
      cases i with
      | zero => rfl
      | succ j => have := h.low 0 a rfl (by omega); rw [hs] at this; cases this
def thB (L : List EWish) (t : ByteArray) : Bool := thereB L t (placeN L t)
theorem thB_lt {L : List EWish} {t : ByteArray} (h : thB L t = true) : placeN L t < L.length := by
  unfold thB thereB at h
  split at h
  · rename_i q hq; exact (List.getElem?_eq_some_iff.1 hq).1
  · cases h
/-- The list with a wish more. -/
def addL (L : List EWish) (x : EWish) : List EWish := if thB L x.f then L.set (placeN L x.f) x else L.take (placeN L x.f) ++ x :: L.drop (placeN L x.f)
def addR (L : List EWish) (x : EWish) : List EWish × Int :=
  if (subsB L && wishB x) = true then (if thB L x.f = true then (addL L x, 0) else if L.length = 16 then ([], 5) else (addL L x, 0)) else ([], 1)
def dropR (L : List EWish) (f : ByteArray) : List EWish × Int :=
  if subsB L = true then (if thB L f = true then (L.eraseIdx (placeN L f), 0) else ([], 3)) else ([], 1)
theorem placeV_any (v : Value) (L : List EWish) (t : ByteArray) (w : World) (hv : SlOf w 2 EWish.At v L) (hr : Rising L) (hl : L.length ≤ 1000) :
    Calls Tryd.prog 41 #[v, .string t] w fun e w' => e = .returned (.tuple #[.int .i64 (placeN L t), .bool (thB L t)]) ∧ placeN L t ≤ L.length ∧ Below w.heap.size w w' := by
  refine (place_any v L t w hv hr hl).mono ?_
  rintro e w' ⟨i, hp, rfl, hb⟩
  have := place_eq hp
  unfold thB
  rw [this]
  exact ⟨rfl, hp.le, hb⟩
/-- A wish in a block. -/
structure WxAt (W : World) (q : Nat) (x : EWish) : Prop where
  c0 : W.cell? ⟨q, 0, none⟩ = some (.string x.f)
  c1 : W.cell? ⟨q, 1, none⟩ = some (.int .i64 x.q)
  lt : q < W.heap.size
theorem WxAt.below {W W' : World} {q : Nat} {x : EWish} (h : WxAt W q x) (hb : Below W.heap.size W W') : WxAt W' q x :=
  ⟨(hb.cell (p := ⟨q, 0, none⟩) h.lt).trans h.c0, (hb.cell (p := ⟨q, 1, none⟩) h.lt).trans h.c1, Nat.lt_of_lt_of_le h.lt hb.size⟩
set_option maxRecDepth 100000 in
set_option maxHeartbeats 4000000 in
theorem add_any (v : Value) (L : List EWish) (x : EWish) (w : World) (hE : Env w) (hv : SlOf w 2 EWish.At v L) (hs : ∀ y ∈ L, y.f.size < 1000000) (hx : x.f.size < 1000000) (hl : L.length ≤ 1000000) :
    Calls Tryd.prog 23 #[v, .agg #[.string x.f, .int .i64 x.q]] w fun e w' => ∃ v', e = .returned (.tuple #[v', .int .i64 (addR L x).2]) ∧ WsOwn w' w.heap.size v' (addR L x).1 ∧ Below w.heap.size w w' := by
  obtain ⟨R, hR⟩ : ∃ R, addR L x = R := ⟨_, rfl⟩
  rw [hR]
  have HE := Lib.hid hE
  have HV := Lib.hid hv
  obtain ⟨ao, cap, rfl, -⟩ := id hv
  have CC := Lib.hid (fun W (hb : Below w.heap.size w W) => check_any (.slice ao L.length cap) L W (HE.out.below hb) (HV.out.wsR.below hb).toWs hs hl)
  have CV := Lib.hid (fun W (hb : Below w.heap.size w W) => valid_any x W hx (HE.out.below hb))
  clear hE hv hs
  unfold addR at hR
  cases hS : subsB L with
  | false =>
    rw [hS] at hR
    subst hR
    have C1 := Lib.hid (show ∀ W (hb : Below w.heap.size w W), Calls Tryd.prog 13 #[.slice ao L.length cap] W fun e w' => e = .returned (.int .i64 1) ∧ Below W.heap.size W w' from fun W hb => by have := CC.out W hb; rw [hS] at this; exact this)
    clear CC CV hS
    go_enter Tryd.func23, Tryd.ntmps23
    go_wp2_with fail
    refine calls_gen (fun W => Below w.heap.size w W) ((Below.refl _ _).alloc (Nat.le_refl _) _) ?_
    intro W1 hb1
    (with_reducible refine (C1.out W1 hb1).mono ?_)
    rintro e W2 ⟨rfl, hb2⟩
    go_wp2
    go_ret2
    exact ⟨_, rfl, WsOwn.nil _ _, hb1.trans (hb2.mono hb1.size)⟩
  | true =>
    rw [hS] at hR
    obtain ⟨h16, -⟩ := subs_parts hS
    have HRise := Lib.hid (subs_rising hS)
    have C1 := Lib.hid (show ∀ W (hb : Below w.heap.size w W), Calls Tryd.prog 13 #[.slice ao L.length cap] W fun e w' => e = .returned (.int .i64 0) ∧ Below W.heap.size W w' from fun W hb => by have := CC.out W hb; rw [hS] at this; exact this)
    clear CC hS
    cases hW : wishB x with
    | false =>
      rw [hW] at hR
      subst hR
      have C2 := Lib.hid (show ∀ W (hb : Below w.heap.size w W), Calls Tryd.prog 40 #[.agg #[.string x.f, .int .i64 x.q]] W fun e w' => e = .returned (.bool false) ∧ Below W.heap.size W w' from fun W hb => by have := CV.out W hb; rw [hW] at this; exact this)
      clear CV hW
      go_enter Tryd.func23, Tryd.ntmps23
      go_wp2_with fail
      refine calls_gen (fun W => Below w.heap.size w W ∧ WxAt W w.heap.size x) ⟨(Below.refl _ _).alloc (Nat.le_refl _) _, by simp [go_sem], by simp [go_sem], by simp⟩ ?_
      rintro W1 ⟨hb1, hx1⟩
      (with_reducible refine (C1.out W1 hb1).mono ?_)
      rintro e W2 ⟨rfl, hb2⟩
      obtain ⟨c0, c1, clt⟩ := hx1.below hb2
      have HB2 := Lib.hid (hb1.trans (hb2.mono hb1.size))
      clear hb1 hb2 hx1
      go_wp2_with fail
      (with_reducible refine (C2.out W2 HB2.out).mono ?_)
      rintro e W3 ⟨rfl, hb3⟩
      go_wp2
      go_ret2
      exact ⟨_, rfl, WsOwn.nil _ _, HB2.out.trans (hb3.mono HB2.out.size)⟩
    | true =>
      rw [hW] at hR
      have C2 := Lib.hid (show ∀ W (hb : Below w.heap.size w W), Calls Tryd.prog 40 #[.agg #[.string x.f, .int .i64 x.q]] W fun e w' => e = .returned (.bool true) ∧ Below W.heap.size W w' from fun W hb => by have := CV.out W hb; rw [hW] at this; exact this)
      clear CV hW
      have C3 := Lib.hid (fun W (hb : Below w.heap.size w W) => placeV_any (.slice ao L.length cap) L x.f W (HV.out.wsR.below hb).toWs HRise.out (by omega))
      have C4 := Lib.hid (fun W (hb : Below w.heap.size w W) => wsClone_any (.slice ao L.length cap) L W hl (HV.out.wsR.below hb))
      have h16z : (L.length : Int) ≤ 16 := by omega
      have HR := Lib.hid hR
      clear hR
      have hT' : ∃ b, thB L x.f = b := ⟨_, rfl⟩
      obtain ⟨b, hT⟩ := hT'
      have HT := Lib.hid hT
      rw [hT] at C3
      obtain ⟨i, hi⟩ : ∃ i, placeN L x.f = i := ⟨_, rfl⟩
      have HI := Lib.hid hi
      rw [hi] at C3
      clear hT hi
      go_enter Tryd.func23, Tryd.ntmps23
      go_wp2_with fail
      refine calls_gen (fun W => Below w.heap.size w W ∧ WxAt W w.heap.size x) ⟨(Below.refl _ _).alloc (Nat.le_refl _) _, by simp [go_sem], by simp [go_sem], by simp⟩ ?_
      rintro W1 ⟨hb1, hx1⟩
      obtain ⟨q0, hq0⟩ : ∃ q, q = w.heap.size := ⟨_, rfl⟩
      have hq0le : w.heap.size ≤ q0 := by omega
      rw [← hq0] at hx1 ⊢
      clear hq0
      (with_reducible refine (C1.out W1 hb1).mono ?_)
      rintro e W2 ⟨rfl, hb2⟩
      have HX2 := Lib.hid (hx1.below hb2)
      have HB2 := Lib.hid (hb1.trans (hb2.mono hb1.size))
      clear hb1 hb2 hx1 C1
      obtain ⟨c0, c1, clt⟩ := id HX2.out
      go_wp2_with fail
      (with_reducible refine (C2.out W2 HB2.out).mono ?_)
      rintro e W3 ⟨rfl, hb3⟩
      have HX3 := Lib.hid (HX2.out.below hb3)
      have HB3 := Lib.hid (HB2.out.trans (hb3.mono HB2.out.size))
      clear hb3 c0 c1 clt HX2 HB2 C2
      obtain ⟨c0, c1, clt⟩ := id HX3.out
      go_wp2_with fail
      (with_reducible refine (C3.out W3 HB3.out).mono ?_)
      rintro e W4 ⟨rfl, hil, hb4⟩
      have HX4 := Lib.hid (HX3.out.below hb4)
      have HB4 := Lib.hid (HB3.out.trans (hb4.mono HB3.out.size))
      clear hb4 c0 c1 clt HX3 HB3 C3
      cases b with
      | true =>
        have hilt : i < L.length := by have := thB_lt HT.out; rw [HI.out] at this; exact this
        have hiltz : (i : Int) < (L.length : Int) := by omega
        go_wp2_with fail
        (with_reducible refine (C4.out W4 HB4.out).mono ?_)
        rintro e W5 ⟨v5, rfl, hb5, ho5⟩
        have hsz4 := HB4.out.size
        have HX5 := Lib.hid (HX4.out.below hb5)
        have HB5 := Lib.hid (HB4.out.trans (hb5.mono hsz4))
        have ho5' : WsOwn W5 w.heap.size v5 L := own_mono ho5 hsz4
        clear hb5 HX4 HB4 C4
        obtain ⟨-, ⟨hv5, h0⟩ | ⟨g, cap2, cur, rfl, hbg, hg, hnc, hcm, hcs, htake⟩⟩ := id ho5
        · omega
        · have hgq : w.heap.size ≤ g := by omega
          have hin : ∀ j, j < 2 → ∃ u, W5.cell? ⟨g, i * 2 + j, none⟩ = some u := fun j hj => by
            rw [cell_of_row W5 g (i * 2 + j) cur _ _ hg]
            exact ⟨_, Array.getElem?_eq_getElem (by omega)⟩
          obtain ⟨u0, d0⟩ := hin 0 (by decide)
          obtain ⟨u1, d1⟩ := hin 1 (by decide)
          have f0 : ∀ k, W5.frozen? ⟨g, k, none⟩ = false := fun k => by simp [World.frozen?, hg]
          have e0 := f0 (i * 2)
          have e1 := f0 (i * 2 + 1)
          have HS := Lib.hid (ho5'.set rfl i hilt x)
          clear hin htake hg f0 ho5 ho5' hbg
          simp only [Nat.add_zero] at d0
          obtain ⟨c0, c1, clt⟩ := id HX5.out
          go_wp2
          go_ret2
          refine ⟨_, by rw [← HR.out, HT.out]; rfl, by rw [← HR.out, HT.out]; (show WsOwn _ _ _ (addL L x)); unfold addL; rw [HT.out, if_pos rfl, HI.out]; exact HS.out, ((HB5.out.setCell (p := ⟨g, _, none⟩) hgq _).setCell (p := ⟨g, _, none⟩) hgq _)⟩
      | false =>
        by_cases hfull : L.length = 16
        · have hfb : ((L.length : Int) == 16) = true := by simp; omega
          have HR2 := Lib.hid (show R = ([], 5) by rw [← HR.out, HT.out]; simp [hfull])
          clear hfull
          go_wp2
          go_ret2
          exact ⟨_, by rw [HR2.out]; rfl, by rw [HR2.out]; exact WsOwn.nil _ _, HB4.out⟩
        · have hfb : ((L.length : Int) == 16) = false := by simp; omega
          have HR2 := Lib.hid (show R = (addL L x, 0) by rw [← HR.out, HT.out]; simp [hfull])
          clear hfull
          go_wp2_with fail
          (with_reducible refine (C4.out W4 HB4.out).mono ?_)
          rintro e W5 ⟨v5, rfl, hb5, ho5⟩
          have hsz4 := HB4.out.size
          have HX5 := Lib.hid (HX4.out.below hb5)
          have HB5 := Lib.hid (HB4.out.trans (hb5.mono hsz4))
          have HO5 := Lib.hid (show WsOwn W5 w.heap.size v5 L from own_mono ho5 hsz4)
          clear hb5 HX4 HB4 C4 ho5
          obtain ⟨ao5, cap5, rfl⟩ := own_slice HO5.out
          have hsz5 := HB5.out.size
          have C8 := Lib.hid (wsInsert_any w.heap.size _ i W5.heap.size _ _ x _ ((HO5.out.below ((Below.refl _ W5).alloc (Nat.le_refl _) (.cells #[.string x.f, .int .i64 x.q] 29)))) (by simp; omega) hl hil (heap_alloc_new W5 _) (fun h => by have := (HO5.out.lt _ h).2; omega))
          have hG : ∀ v' w', Grew (W5.alloc (.cells #[.string x.f, .int .i64 x.q] 29)) w' (.slice ao5 L.length cap5) v' → Below w.heap.size w w' := fun v' w' h => (HB5.out.alloc hsz5 _).trans (grew_below h (by simp; omega) (fun k hk => (HO5.out.lt k hk).1))
          have HG := Lib.hid hG
          clear hG
          obtain ⟨c0, c1, clt⟩ := id HX5.out
          go_wp2_with fail
          (with_reducible refine C8.out.mono ?_)
          rintro e W6 ⟨v6, rfl, ho6, hg6⟩
          have HF := Lib.hid (HG.out _ _ hg6)
          have HO6 := Lib.hid (show WsOwn W6 w.heap.size v6 (addL L x) by
            unfold addL
            rw [HT.out, HI.out, if_neg Bool.false_ne_true]
            unfold WsOwn
            have hlen : (L.take i ++ x :: L.drop i).length = L.length + 1 := by
              rw [List.length_append, List.length_cons, List.length_take, List.length_drop]; omega
            rw [hlen]; exact ho6)
          clear ho6 hg6 C8 c0 c1 clt
          go_wp2
          go_ret2
          exact ⟨_, by rw [HR2.out]; rfl, by rw [HR2.out]; exact HO6.out, HF.out⟩
end Go.Proofs.YtoibdhncfdjdoaaDoor
