/-
  The law KeptLast: Just the last message of a topic is there, without payload none, others stay; asked for all, or by its own topic, it is told: whatever script is handed in, the law answers true.
-/
import Derived.Test.YtoibdhncfdjdoaaDoorTie
import Derived.Test.YtoibdhncfdjdoaaDoorCards
import Derived.SevenTiedAt
import Derived.ProofKit
import Derived.LaidMore
import Derived.OpenShut
import Derived.Stop.Joined
import Derived.Lay
import Derived.MakeChecks
import Derived.LaidOnce
/-
  What was said last: KeptLast: the walk.
-/
import Derived.Test.YtoibdhncfdjdoaaDoorKeM
namespace Go.Proofs.YtoibdhncfdjdoaaDoor
open Go.RowKit Go.Lib
theorem SlOf.belowG {α : Type} {w w' : World} {n : Nat} {v : Value} {L : List α} {p : World → Nat → Nat → α → Prop} (hp : ∀ b off q, b < w.heap.size → p w b off q → p w' b off q) (h : SlOf w n p v L) (hb : Below w.heap.size w w') : SlOf w' n p v L := by
  obtain ⟨ao, cap, rfl, h1, h2, h3, h4⟩ := h
  refine ⟨ao, cap, rfl, h1, h2, h3, fun hne => ?_⟩
  obtain ⟨b, off, rfl, hlt, hq⟩ := h4 hne
  exact ⟨b, off, rfl, Nat.lt_of_lt_of_le hlt hb.size, fun i q hi => hp _ _ _ hlt (hq i q hi)⟩
theorem Act22.below {w w' : World} (hb : Below w.heap.size w w') : ∀ b off (q : Act22), b < w.heap.size → Act22.At w b off q → Act22.At w' b off q := by
  intro b off q hlt ⟨h0, h1, h2, h3, h4, h5⟩
  exact ⟨(hb.cell (p := ⟨b, off, none⟩) hlt).trans h0, (hb.cell (p := ⟨b, off + 1, none⟩) hlt).trans h1, (hb.cell (p := ⟨b, off + 2, none⟩) hlt).trans h2, (hb.cell (p := ⟨b, off + 3, none⟩) hlt).trans h3, (hb.cell (p := ⟨b, off + 4, none⟩) hlt).trans h4, (hb.cell (p := ⟨b, off + 5, none⟩) hlt).trans h5⟩
theorem kept_szs {L : List EMessage} (h : keptB L = true) : ∀ y ∈ L, y.t.size < 1000000 := by
  intro y hy
  have := (textB_parts.1 (self_parts (msg_name (kept_all h y hy).1)).1).2.1
  rw [Lib.size_eq]; omega
theorem ms_some {W : World} {base n cap : Nat} {ao : Option Addr} {L : List EMessage} (h : MsOwn W base (.slice ao n cap) L) {k : Nat} {y : EMessage} (hk : L[k]? = some y) : ∃ b o, ao = some ⟨b, o, none⟩ := by
  obtain ⟨_, _, hv, -, -, -, hB⟩ := h.of
  injection hv with h1 h2 h3
  obtain ⟨b, o, he, -⟩ := hB (by rintro rfl; simp at hk)
  exact ⟨b, o, by rw [h1, he]⟩
theorem ms_cells {W : World} {base b o n cap : Nat} {L : List EMessage} (h : MsOwn W base (.slice (some ⟨b, o, none⟩) n cap) L) {k : Nat} {y : EMessage} (hk : L[k]? = some y) : EMessage.At W b (o + k * 4) y := by
  obtain ⟨_, _, hv, -, -, -, hB⟩ := h.of
  injection hv with h1 h2 h3
  obtain ⟨b', o', he, -, hBB⟩ := hB (by rintro rfl; simp at hk)
  rw [← h1] at he
  injection he with he
  injection he with e1 e2
  subst e1 e2
  exact hBB k y hk
structure Ks (w W : World) (bp : Nat) (sN sL vl : Value) (L : List EMessage) (vX : Value) (X : List EMessage) (q0 : Nat) (x : EMessage) : Prop where
  ks : Sc w W bp sN sL
  kl : MsOwn W w.heap.size vl L
  kx : MsOwn W w.heap.size vX X
  km : MxAt W q0 x
theorem Ks.below {w W W' : World} {bp : Nat} {sN sL vl : Value} {L : List EMessage} {vX : Value} {X : List EMessage} {q0 : Nat} {x : EMessage} (h : Ks w W bp sN sL vl L vX X q0 x) (hb : Below W.heap.size W W') : Ks w W' bp sN sL vl L vX X q0 x :=
  ⟨h.ks.below hb, h.kl.below hb, h.kx.below hb, h.km.below hb⟩
def eqM (y z : EMessage) : Bool := (y.t.toList == z.t.toList) && (y.p.toList == z.p.toList) && (y.q == z.q) && (y.r == z.r)
theorem eqM_self (z : EMessage) : eqM z z = true := by unfold eqM; simp
/-- The order of texts, reckoned on their bytes. -/
def slD (a b : ByteArray) : Bool := bl a.data.toList b.data.toList
theorem sl_eq : sl = slD := by
  funext a b
  unfold sl slD
  rw [Lib.toList_data, Lib.toList_data]
def noneD (x : EMessage) : Bool := x.p.data.toList == []
theorem none_eq : noneB = noneD := by
  funext x
  unfold noneB noneD
  rw [Lib.toList_data, Lib.toList_data]
section
variable (s : ByteArray → ByteArray → Bool) (n : EMessage → Bool)
def okS (L : List EMessage) (k : Nat) : Bool :=
  match L[k]? with
  | none => true
  | some x => msgB x && !n x && (match k with | 0 => true | j + 1 => match L[j]? with | some p => s p.t x.t | none => true)
def keptS (L : List EMessage) : Bool := decide (L.length ≤ 16) && (List.range L.length).all (okS s n L)
def placeS (L : List EMessage) (t : ByteArray) : Nat := (L.takeWhile (fun q => s q.t t)).length
def thS (L : List EMessage) (t : ByteArray) : Bool := thereB L t (placeS s L t)
def outS (L : List EMessage) (t : ByteArray) : List EMessage := if thS s L t = true then L.eraseIdx (placeS s L t) else L
def putLS (L : List EMessage) (x : EMessage) : List EMessage := if n x = true then outS s L x.t else (outS s L x.t).take (placeS s L x.t) ++ x :: (outS s L x.t).drop (placeS s L x.t)
def putS (L : List EMessage) (x : EMessage) : List EMessage × Int :=
  if (keptS s n L && msgB x) = true then (if (!n x && !thS s L x.t && decide (L.length = 16)) = true then ([], 5) else (putLS s n L x, 0)) else ([], 1)
end
theorem put_eval (L : List EMessage) (x : EMessage) : putR L x = putS slD noneD L x := by
  rw [show putR L x = putS sl noneB L x from rfl, sl_eq, none_eq]
theorem match_eval (L : List EMessage) (f : ByteArray) : matchR L f = if (keptS slD noneD L && filtB f.data.toList) = true then (L.filter (hitB f), 0) else ([], 1) := by
  rw [show matchR L f = if (keptS sl noneB L && filtB f.data.toList) = true then (L.filter (hitB f), 0) else ([], 1) from rfl, sl_eq, none_eq]
theorem sizes_of {L : List EMessage} (h : (L.all fun y => decide (y.t.size < 1000000)) = true) : ∀ y ∈ L, y.t.size < 1000000 := fun y hy => of_decide_eq_true (List.all_eq_true.1 h y hy)
def wm1 : EMessage := ⟨⟨#[97]⟩, ⟨#[49]⟩, 0, true⟩
def wm2 : EMessage := ⟨⟨#[97]⟩, ⟨#[50]⟩, 0, true⟩
theorem f_wm1 : putR [] wm1 = ([wm1], 0) := by rw [put_eval]; kernel_rfl
theorem f_wm2 : putR [wm1] wm2 = ([wm2], 0) := by rw [put_eval]; kernel_rfl
theorem f_wm3 : matchR [wm2] ⟨#[35]⟩ = ([wm2], 0) := by rw [match_eval]; kernel_rfl
set_option maxRecDepth 100000 in
set_option maxHeartbeats 1000000 in
theorem wakes22_any (w : World) (hE : Env w) :
    Calls Tryd.prog 39 #[] w fun e w' => e = .returned (.bool true) ∧ Below w.heap.size w w' := by
  have HE := Lib.hid hE
  clear hE
  have C1 := Lib.hid (show Calls Tryd.prog 38 #[.slice none 0 0, .agg #[.string ⟨#[97]⟩, .string ⟨#[49]⟩, .int .i64 0, .bool true]] w fun e w' => ∃ v', e = .returned (.tuple #[v', .int .i64 0]) ∧ MsOwn w' w.heap.size v' [wm1] ∧ Below w.heap.size w w' from by
    have := put_any (.slice none 0 0) [] wm1 w HE.out (SlR.nil w 4 : SlR w 4 _ (([] : List EMessage).map rowMessage)).toMs (by simp) (by decide) (by decide)
    rw [f_wm1] at this
    exact this)
  have C2 := Lib.hid (fun W v1 (hb : Below w.heap.size w W) (h1 : SlOf W 4 EMessage.At v1 [wm1]) => (show Calls Tryd.prog 38 #[v1, .agg #[.string ⟨#[97]⟩, .string ⟨#[50]⟩, .int .i64 0, .bool true]] W fun e w' => ∃ v', e = .returned (.tuple #[v', .int .i64 0]) ∧ MsOwn w' W.heap.size v' [wm2] ∧ Below W.heap.size W w' from by
    have := put_any v1 [wm1] wm2 W (HE.out.below hb) h1 (sizes_of (by kernel_rfl)) (by decide) (by decide)
    rw [f_wm2] at this
    exact this))
  have C3 := Lib.hid (fun W v1 (hb : Below w.heap.size w W) (h1 : SlOf W 4 EMessage.At v1 [wm2]) => (show Calls Tryd.prog 33 #[v1, .string ⟨#[35]⟩] W fun e w' => ∃ v', e = .returned (.tuple #[v', .int .i64 0]) ∧ MsOwn w' W.heap.size v' [wm2] ∧ Below W.heap.size W w' from by
    have := match_kept v1 [wm2] ⟨#[35]⟩ W (HE.out.below hb) h1 (sizes_of (by kernel_rfl)) (by decide) (by decide)
    rw [f_wm3] at this
    exact this))
  have CN := Lib.hid (fun W => num22_any 0 W (by omega) (by omega))
  go_enter Tryd.func39, Tryd.ntmps39
  go_wp2_with fail
  (with_reducible refine C1.out.mono ?_)
  rintro e W1 ⟨v1, rfl, ho1, hb1⟩
  have HB1 := Lib.hid hb1
  have HO1 := Lib.hid ho1.of
  clear hb1 ho1 C1
  go_wp2_with fail
  (with_reducible refine (C2.out W1 v1 HB1.out HO1.out).mono ?_)
  rintro e W2 ⟨v2, rfl, ho2, hb2⟩
  have HB2 := Lib.hid (HB1.out.trans (hb2.mono HB1.out.size))
  have HO2 := Lib.hid ho2.of
  clear hb2 ho2 C2 HO1 HB1
  go_wp2_with fail
  (with_reducible refine (C3.out W2 v2 HB2.out HO2.out).mono ?_)
  rintro e W3 ⟨v3, rfl, ho3, hb3⟩
  have HB3 := Lib.hid (HB2.out.trans (hb3.mono HB2.out.size))
  obtain ⟨ao3, cap3, rfl, -, -, -, hB3⟩ := ho3.of
  obtain ⟨b3, off3, rfl, -, hBB3⟩ := hB3 (by simp)
  obtain ⟨-, c1, -, -⟩ := hBB3 0 wm2 rfl
  have d1 : W3.cell? ⟨b3, off3 + 1, none⟩ = some (.string ⟨#[50]⟩) := by have h := c1; rw [show off3 + 0 * 4 + 1 = off3 + 1 by omega] at h; exact h
  have hl1 : ([wm2] : List EMessage).length = 1 := rfl
  clear hb3 ho3 C3 HB2 HO2 hB3 hBB3 c1
  go_wp2_with ((with_reducible refine (CN.out _).mono ?_); rintro e w' ⟨rfl, rfl⟩)
  go_ret
  exact ⟨by first | rfl | simp, HB3.out⟩
set_option maxRecDepth 100000 in
set_option maxHeartbeats 8000000 in
theorem keptLast_any (sS sL : Value) (S : List EMessage) (A : List Act22) (w : World) (hE : Env w) (hS : SlOf w 4 EMessage.At sS S) (hA : SlOf w 6 Act22.At sL A) (hSl : S.length ≤ 140737488351232) (hAl : A.length ≤ 140737488351232) (hFS : ∀ x ∈ S, x.t.size ≤ 140737488351232 ∧ x.p.size ≤ 140737488351232) (hFA : ∀ a ∈ A, a.t.size ≤ 140737488351232 ∧ a.p.size ≤ 140737488351232 ∧ a.f.size ≤ 140737488351232) :
    Calls Tryd.prog 7 #[.agg #[sS, sL]] w fun e w' => e = .returned (.bool true) ∧ Below w.heap.size w w' := by
  have HE := Lib.hid hE
  obtain ⟨aS, cS, rfl, -, -, -, -⟩ := id hS
  obtain ⟨aA, cA, rfl, -, -, -, hBA⟩ := id hA
  have HA := Lib.hid hBA
  obtain ⟨W0, hW0⟩ : ∃ W0, W0 = w.alloc (.cells #[.slice aS S.length cS, .slice aA A.length cA] 56) := ⟨_, rfl⟩
  have hb0 : Below w.heap.size w W0 := by rw [hW0]; exact (Below.refl _ w).alloc (Nat.le_refl _) _
  have hE0 : Sc w W0 w.heap.size (.slice aS S.length cS) (.slice aA A.length cA) := by
    rw [hW0]
    exact ⟨(Below.refl _ w).alloc (Nat.le_refl _) _, by simp [go_sem], by simp [go_sem], by simp⟩
  have CH := Lib.hid (heavy_any _ _ S A W0 ((hS.msR.below hb0).toMs) (hA.belowG (Act22.below hb0) hb0) hSl hAl hFS hFA)
  have HSc0 := Lib.hid hE0
  clear hE hS hA hBA hFS hFA hE0 hb0 hSl hAl
  have CN0 := Lib.hid (fun W => num22_any 0 W (by omega) (by omega))
  obtain ⟨-, p0, p1, plt⟩ := id HSc0.out
  rw [hW0] at p0 p1 plt
  go_enter Tryd.func7, Tryd.ntmps7
  go_wp2_with fail
  rw [← hW0] at p0 p1 plt ⊢
  clear hW0 p0 p1 plt
  (with_reducible refine CH.out.mono ?_)
  rintro e w1 ⟨b, rfl, hli, hb1⟩
  have HSc := Lib.hid (HSc0.out.below hb1)
  clear hb1 CH HSc0
  cases b with
  | true =>
    go_wp2
    go_ret
    exact ⟨rfl, HSc.out.low⟩
  | false =>
    obtain ⟨hl1, hl2, -, hl4⟩ := hli rfl
    clear hli
    have HA4 := Lib.hid hl4
    clear hl4
    go_wp2
    go_loopw [3, 4] (fun vs vi wr => ∃ (k : Nat) (L : List EMessage) (vl : Value), k ≤ A.length ∧ vi = .int .i64 k ∧ vl = vs ∧ Sc w wr w.heap.size (.slice aS S.length cS) (.slice aA A.length cA) ∧ MsOwn wr w.heap.size vl L ∧ keptB L = true) (fun _ i _ => A.length - (RowKit.intOf i).toNat)
    case atStart => exact ⟨0, [], _, by omega, rfl, rfl, HSc.out, MsOwn.nil _ _, rfl⟩
    case round =>
      obtain ⟨k, L, vl, hk, rfl, rfl, hsc, ho, hkL⟩ := hrel
      clear HSc
      have HSc := Lib.hid hsc
      have HO := Lib.hid ho
      have HKL := Lib.hid hkL
      have hL16 := (kept_parts hkL).1
      clear hsc ho hkL
      obtain ⟨aol, capl, rfl⟩ := own_slice HO.out
      by_cases hlt : k < A.length
      · have hltz : (k : Int) < (A.length : Int) := by omega
        by_cases h25 : k < 25
        · have h25z : (k : Int) < 25 := by omega
          obtain ⟨b2, off2, rfl, hb2, hBB2⟩ := HA.out (by intro h; simp [h] at hlt)
          obtain ⟨a, hq2⟩ : ∃ a, A[k]? = some a := ⟨_, List.getElem?_eq_getElem hlt⟩
          have hsz := HA4.out a (List.mem_of_getElem? hq2)
          obtain ⟨-, y1, y2, y3, y4, -⟩ := hBB2 _ a hq2
          obtain ⟨x, hx⟩ : ∃ x : EMessage, x = ⟨a.t, a.p, a.q, a.r⟩ := ⟨_, rfl⟩
          have d1 : wr.cell? ⟨b2, off2 + k * 6 + 1, none⟩ = some (.string x.t) := by rw [hx]; exact (HSc.out.low.cell (p := ⟨b2, off2 + k * 6 + 1, none⟩) hb2).trans y1
          have d2 : wr.cell? ⟨b2, off2 + k * 6 + 2, none⟩ = some (.string x.p) := by rw [hx]; exact (HSc.out.low.cell (p := ⟨b2, off2 + k * 6 + 2, none⟩) hb2).trans y2
          have d3 : wr.cell? ⟨b2, off2 + k * 6 + 3, none⟩ = some (.int .i64 x.q) := by rw [hx]; exact (HSc.out.low.cell (p := ⟨b2, off2 + k * 6 + 3, none⟩) hb2).trans y3
          have d4 : wr.cell? ⟨b2, off2 + k * 6 + 4, none⟩ = some (.bool x.r) := by rw [hx]; exact (HSc.out.low.cell (p := ⟨b2, off2 + k * 6 + 4, none⟩) hb2).trans y4
          have hxs : x.t.size < 1000000 := by rw [hx]; show a.t.size < 1000000; omega
          have haddr : off2 + k * 6 + 1 + 1 = off2 + k * 6 + 2 ∧ off2 + k * 6 + 1 + 2 = off2 + k * 6 + 3 ∧ off2 + k * 6 + 1 + 3 = off2 + k * 6 + 4 := by omega
          obtain ⟨ha1, ha2, ha3⟩ := haddr
          rw [← ha1] at d2; rw [← ha2] at d3; rw [← ha3] at d4
          clear y1 y2 y3 y4 hBB2 hq2 hx hsz ha1 ha2 ha3
          obtain ⟨-, p0, p1, plt⟩ := id HSc.out
          cases hMB : msgB x with
          | false =>
            have hPR : putR L x = ([], 1) := by unfold putR; rw [HKL.out, hMB]; rfl
            have CP := Lib.hid (fun W (hb : Below w.heap.size w W) (ho : SlOf W 4 EMessage.At (.slice aol L.length capl) L) => (show Calls Tryd.prog 38 #[.slice aol L.length capl, .agg #[.string x.t, .string x.p, .int .i64 x.q, .bool x.r]] W fun e w' => ∃ v', e = .returned (.tuple #[v', .int .i64 1]) ∧ MsOwn w' W.heap.size v' [] ∧ Below W.heap.size W w' from by
              have := put_any (.slice aol L.length capl) L x W (HE.out.below hb) ho (kept_szs HKL.out) hxs (by have := (kept_parts HKL.out).1; omega)
              rw [hPR] at this
              exact this))
            go_wp2_with fail
            refine calls_gen (fun W => Sc w W w.heap.size (.slice aS S.length cS) (.slice (some ⟨b2, off2, none⟩) A.length cA) ∧ MsOwn W w.heap.size (.slice aol L.length capl) L ∧ MxAt W wr.heap.size x) ⟨HSc.out.below ((Below.refl _ _).alloc (Nat.le_refl _) _), HO.out.below ((Below.refl _ _).alloc (Nat.le_refl _) _), by simp [go_sem], by simp [go_sem], by simp [go_sem], by simp [go_sem], by simp⟩ ?_
            rintro W1 ⟨hsc1, ho1, hm1⟩
            obtain ⟨q0, hq0⟩ : ∃ q, q = wr.heap.size := ⟨_, rfl⟩
            rw [← hq0] at hm1 ⊢
            clear hq0
            (with_reducible refine (CP.out W1 hsc1.low ho1.of).mono ?_)
            rintro e W2 ⟨vX, rfl, hoX, hb2⟩
            have HSc2 := Lib.hid (hsc1.below hb2)
            have HO2 := Lib.hid (ho1.below hb2)

            clear hsc1 ho1 hm1 hb2 hoX CP HSc HO p0 p1 plt d1 d2 d3 d4 hMB hPR
            have CNE := Lib.hid (fun W => num22_any 1 W (by omega) (by omega))
            go_wp2_with (with_reducible first | (refine (CN0.out _).mono ?_; rintro e w6 ⟨rfl, rfl⟩) | (refine (CNE.out _).mono ?_; rintro e w6 ⟨rfl, rfl⟩))
            go_roundw
            case rel => exact ⟨k + 1, L, _, by omega, by go_num, rfl, HSc2.out, HO2.out, HKL.out⟩
            case measure => simp [RowKit.intOf]; omega

          | true =>
            cases hFU : (!noneB x && !thB L x.t && decide (L.length = 16)) with
            | true =>
              have hPR : putR L x = ([], 5) := by unfold putR; rw [HKL.out, hMB, hFU]; rfl
              have CP := Lib.hid (fun W (hb : Below w.heap.size w W) (ho : SlOf W 4 EMessage.At (.slice aol L.length capl) L) => (show Calls Tryd.prog 38 #[.slice aol L.length capl, .agg #[.string x.t, .string x.p, .int .i64 x.q, .bool x.r]] W fun e w' => ∃ v', e = .returned (.tuple #[v', .int .i64 5]) ∧ MsOwn w' W.heap.size v' [] ∧ Below W.heap.size W w' from by
                have := put_any (.slice aol L.length capl) L x W (HE.out.below hb) ho (kept_szs HKL.out) hxs (by have := (kept_parts HKL.out).1; omega)
                rw [hPR] at this
                exact this))
              go_wp2_with fail
              refine calls_gen (fun W => Sc w W w.heap.size (.slice aS S.length cS) (.slice (some ⟨b2, off2, none⟩) A.length cA) ∧ MsOwn W w.heap.size (.slice aol L.length capl) L ∧ MxAt W wr.heap.size x) ⟨HSc.out.below ((Below.refl _ _).alloc (Nat.le_refl _) _), HO.out.below ((Below.refl _ _).alloc (Nat.le_refl _) _), by simp [go_sem], by simp [go_sem], by simp [go_sem], by simp [go_sem], by simp⟩ ?_
              rintro W1 ⟨hsc1, ho1, hm1⟩
              obtain ⟨q0, hq0⟩ : ∃ q, q = wr.heap.size := ⟨_, rfl⟩
              rw [← hq0] at hm1 ⊢
              clear hq0
              (with_reducible refine (CP.out W1 hsc1.low ho1.of).mono ?_)
              rintro e W2 ⟨vX, rfl, hoX, hb2⟩
              have HSc2 := Lib.hid (hsc1.below hb2)
              have HO2 := Lib.hid (ho1.below hb2)

              clear hsc1 ho1 hm1 hb2 hoX CP HSc HO p0 p1 plt d1 d2 d3 d4 hMB hPR hFU
              have CNE := Lib.hid (fun W => num22_any 5 W (by omega) (by omega))
              go_wp2_with (with_reducible first | (refine (CN0.out _).mono ?_; rintro e w6 ⟨rfl, rfl⟩) | (refine (CNE.out _).mono ?_; rintro e w6 ⟨rfl, rfl⟩))
              go_roundw
              case rel => exact ⟨k + 1, L, _, by omega, by go_num, rfl, HSc2.out, HO2.out, HKL.out⟩
              case measure => simp [RowKit.intOf]; omega

            | false =>
              have hPR : putR L x = (putL L x, 0) := by unfold putR; rw [HKL.out, hMB, hFU]; rfl
              obtain ⟨f1, f2, f3, f4⟩ := put_facts HKL.out hMB hFU
              have CP := Lib.hid (fun W (hb : Below w.heap.size w W) (ho : SlOf W 4 EMessage.At (.slice aol L.length capl) L) => (show Calls Tryd.prog 38 #[.slice aol L.length capl, .agg #[.string x.t, .string x.p, .int .i64 x.q, .bool x.r]] W fun e w' => ∃ v', e = .returned (.tuple #[v', .int .i64 0]) ∧ MsOwn w' W.heap.size v' (putL L x) ∧ Below W.heap.size W w' from by
                have := put_any (.slice aol L.length capl) L x W (HE.out.below hb) ho (kept_szs HKL.out) hxs (by have := (kept_parts HKL.out).1; omega)
                rw [hPR] at this
                exact this))
              go_wp2_with fail
              refine calls_gen (fun W => Sc w W w.heap.size (.slice aS S.length cS) (.slice (some ⟨b2, off2, none⟩) A.length cA) ∧ MsOwn W w.heap.size (.slice aol L.length capl) L ∧ MxAt W wr.heap.size x) ⟨HSc.out.below ((Below.refl _ _).alloc (Nat.le_refl _) _), HO.out.below ((Below.refl _ _).alloc (Nat.le_refl _) _), by simp [go_sem], by simp [go_sem], by simp [go_sem], by simp [go_sem], by simp⟩ ?_
              rintro W1 ⟨hsc1, ho1, hm1⟩
              obtain ⟨q0, hq0⟩ : ∃ q, q = wr.heap.size := ⟨_, rfl⟩
              rw [← hq0] at hm1 ⊢
              clear hq0
              (with_reducible refine (CP.out W1 hsc1.low ho1.of).mono ?_)
              rintro e W2 ⟨vX, rfl, hoX, hb2⟩
              have HSc2 := Lib.hid (hsc1.below hb2)
              have HO2 := Lib.hid (ho1.below hb2)

              have hcn0 : noneB x = true → cntN (putL L x) x.t = 0 := fun h => cnt_zero fun y hy he => by have := (f3 y hy he).2; rw [h] at this; cases this
              have hcn1 : noneB x = false → cntN (putL L x) x.t = 1 := fun h => cnt_one (kept_rising f1) (f4 h)
              have hX16 := (kept_parts f1).1
              have hoX2 : MsOwn W2 w.heap.size vX (putL L x) := own_mono hoX hsc1.low.size
              generalize putL L x = X at *
              obtain ⟨aoX, capX, rfl⟩ := own_slice hoX2
              have HK := Lib.hid (show Ks w W2 w.heap.size (.slice aS S.length cS) (.slice (some ⟨b2, off2, none⟩) A.length cA) (.slice aol L.length capl) L (.slice aoX X.length capX) X q0 x from ⟨HSc2.out, HO2.out, hoX2, hm1.below hb2⟩)
              have HKX := Lib.hid f1
              have HOLD := Lib.hid f2
              have HSAME := Lib.hid f3
              clear hsc1 ho1 hm1 hb2 hoX hoX2 CP HSc HO p0 p1 plt d1 d2 d3 d4 hMB hPR hFU HSc2 HO2 f1 f2 f3 f4
              have CNE := Lib.hid (fun W => num22_any 0 W (by omega) (by omega))
              cases hN : noneB x with
              | true =>
                have HCNT := Lib.hid (hcn0 hN)
                have HNB := Lib.hid hN
                have hp1 : (x.p.toList == (⟨#[]⟩ : ByteArray).toList) = true := hN
                have hp2 : (x.p.toList == []) = true := by rw [← hN]; unfold noneB; rw [show (⟨#[]⟩ : ByteArray).toList = [] by rw [Lib.toList_data]]
                have hp3 : x.p.toList.isEmpty = true := by rw [← hp2]; cases x.p.toList <;> rfl

                clear hcn0 hcn1 hN
                go_wp2_with (with_reducible first | (refine (CN0.out _).mono ?_; rintro e w6 ⟨rfl, rfl⟩) | (refine (CNE.out _).mono ?_; rintro e w6 ⟨rfl, rfl⟩))
                go_loopw [8, 9] (fun vn vj wr => ∃ (j n : Nat), j ≤ X.length ∧ vj = .int .i64 j ∧ vn = .int .i64 n ∧ n = cntN (X.take j) x.t ∧ n ≤ j ∧ Ks w wr w.heap.size (.slice aS S.length cS) (.slice (some ⟨b2, off2, none⟩) A.length cA) (.slice aol L.length capl) L (.slice aoX X.length capX) X q0 x) (fun _ j _ => X.length - (RowKit.intOf j).toNat)
                case atStart => exact ⟨0, 0, by omega, rfl, rfl, rfl, Nat.le_refl _, HK.out⟩
                case round =>
                  obtain ⟨j, n, hj, rfl, rfl, hn, hnj, hks⟩ := hrel
                  clear HK
                  have HK := Lib.hid hks
                  have HN := Lib.hid hn
                  clear hks hn
                  by_cases hjl : j < X.length
                  · have hjz : (j : Int) < (X.length : Int) := by omega
                    obtain ⟨y, hy⟩ : ∃ y, X[j]? = some y := ⟨_, List.getElem?_eq_getElem hjl⟩
                    obtain ⟨bx, ofx, rfl⟩ := ms_some HK.out.kx hy
                    have HY := Lib.hid hy
                    have HTK := Lib.hid (show cntN (X.take (j + 1)) x.t = n + (if (y.t.toList == x.t.toList) = true then 1 else 0) by
                      rw [HN.out]
                      unfold cntN
                      rw [List.take_add_one, hy, Option.toList_some, List.countP_append, List.countP_cons, List.countP_nil, Nat.zero_add])
                    have HYM := Lib.hid (fun (h : (y.t.toList == x.t.toList) = true) => HSAME.out y (List.mem_of_getElem? hy) (toL_inj (eq_of_beq h)))
                    obtain ⟨c0, c1, c2, c3⟩ := ms_cells HK.out.kx hy
                    obtain ⟨m0, m1, m2, m3, mlt⟩ := id HK.out.km
                    clear hy HN
                    by_cases h0 : 0 < j
                    · have h0z : (0 : Int) < (j : Int) := by omega
                      obtain ⟨p, hp⟩ : ∃ p, X[j - 1]? = some p := ⟨_, List.getElem?_eq_getElem (by omega)⟩
                      obtain ⟨e0, -, -, -⟩ := ms_cells HK.out.kx hp
                      have hge : Op.bytesLess p.t.toList y.t.toList = true := kept_rising HKX.out (j - 1) j p y hp HY.out (by omega)
                      clear hp
                      go_wp2_with fail
                      go_quiet (fail)
                      go_wp2_with fail
                      refine wp_gen (fun W => Ks w W w.heap.size (.slice aS S.length cS) (.slice (some ⟨b2, off2, none⟩) A.length cA) (.slice aol L.length capl) L (.slice (some ⟨bx, ofx, none⟩) X.length capX) X q0 x) (HK.out.below (bdrew (Below.refl _ _) nq)) ?_
                      intro W1 hk1
                      have HK1 := Lib.hid hk1
                      clear hk1 e0 c0 c1 c2 c3 m0 m1 m2 m3 mlt nq
                      obtain ⟨c0, c1, c2, c3⟩ := ms_cells HK1.out.kx HY.out
                      obtain ⟨m0, m1, m2, m3, mlt⟩ := id HK1.out.km
                      cases hby : (y.t.toList == x.t.toList) with
                      | false =>
                        have HTF := Lib.hid (show cntN (X.take (j + 1)) x.t = n by rw [HTK.out, hby]; rfl)
                        clear HYM HTK
                        go_quiet (fail)
                        go_wp2
                        go_roundw
                        case rel => exact ⟨j + 1, n, by omega, by go_num, rfl, HTF.out.symm, by omega, HK1.out.below (bdrew (Below.refl _ _) _)⟩
                        case measure => simp [RowKit.intOf]; omega
                      | true =>
                        obtain ⟨hyx, hyn⟩ := HYM.out hby
                        have HTF := Lib.hid (show cntN (X.take (j + 1)) x.t = n + 1 by rw [HTK.out, hby]; rfl)
                        clear HYM HTK
                        exact absurd (hyn.symm.trans HNB.out) Bool.false_ne_true

                    · have h0z : ¬ (0 : Int) < (j : Int) := by omega
                      have h0d : decide ((0 : Int) < (j : Int)) = false := decide_eq_false h0z
                      go_wp2_with fail
                      go_quiet (fail)
                      go_wp2_with fail
                      refine wp_gen (fun W => Ks w W w.heap.size (.slice aS S.length cS) (.slice (some ⟨b2, off2, none⟩) A.length cA) (.slice aol L.length capl) L (.slice (some ⟨bx, ofx, none⟩) X.length capX) X q0 x) (HK.out.below (bdrew (Below.refl _ _) nq)) ?_
                      intro W1 hk1
                      have HK1 := Lib.hid hk1
                      clear hk1 c0 c1 c2 c3 m0 m1 m2 m3 mlt nq
                      obtain ⟨c0, c1, c2, c3⟩ := ms_cells HK1.out.kx HY.out
                      obtain ⟨m0, m1, m2, m3, mlt⟩ := id HK1.out.km
                      cases hby : (y.t.toList == x.t.toList) with
                      | false =>
                        have HTF := Lib.hid (show cntN (X.take (j + 1)) x.t = n by rw [HTK.out, hby]; rfl)
                        clear HYM HTK
                        go_quiet (fail)
                        go_wp2
                        go_roundw
                        case rel => exact ⟨j + 1, n, by omega, by go_num, rfl, HTF.out.symm, by omega, HK1.out.below (bdrew (Below.refl _ _) _)⟩
                        case measure => simp [RowKit.intOf]; omega
                      | true =>
                        obtain ⟨hyx, hyn⟩ := HYM.out hby
                        have HTF := Lib.hid (show cntN (X.take (j + 1)) x.t = n + 1 by rw [HTK.out, hby]; rfl)
                        clear HYM HTK
                        exact absurd (hyn.symm.trans HNB.out) Bool.false_ne_true

                  · have hjz : ¬ (j : Int) < (X.length : Int) := by omega
                    have hje : j = X.length := by omega
                    have hn0 : n = 0 := by
                      have := HN.out
                      rw [hje, List.take_length] at this
                      rw [this]
                      exact HCNT.out
                    subst hn0
                    clear hje hjl hnj hj HN
                    obtain ⟨m0, m1, m2, m3, mlt⟩ := id HK.out.km
                    go_wp2
                    clear m0 m1 m2 m3 mlt
                    go_loopw [10] (fun vk wr => ∃ (k2 : Nat), k2 ≤ L.length ∧ vk = .int .i64 k2 ∧ Ks w wr w.heap.size (.slice aS S.length cS) (.slice (some ⟨b2, off2, none⟩) A.length cA) (.slice aol L.length capl) L (.slice aoX X.length capX) X q0 x) (fun k _ => L.length - (RowKit.intOf k).toNat)
                    case atStart => exact ⟨0, by omega, rfl, HK.out⟩
                    case round =>
                      obtain ⟨k2, hk2, rfl, hks⟩ := hrel
                      clear HK
                      have HK := Lib.hid hks
                      clear hks
                      by_cases hkl : k2 < L.length
                      · have hkz : (k2 : Int) < (L.length : Int) := by omega
                        obtain ⟨z, hz⟩ : ∃ z, L[k2]? = some z := ⟨_, List.getElem?_eq_getElem hkl⟩
                        obtain ⟨bl, ofl, rfl⟩ := ms_some HK.out.kl hz
                        have HZ := Lib.hid hz
                        obtain ⟨c0, c1, c2, c3⟩ := ms_cells HK.out.kl hz
                        obtain ⟨m0, m1, m2, m3, mlt⟩ := id HK.out.km
                        have HZM := Lib.hid (HOLD.out z (List.mem_of_getElem? hz))
                        clear hz
                        go_wp2_with fail
                        go_quiet (fail)
                        have HKq := Lib.hid (HK.out.below (bdrew (Below.refl _ _) nq))
                        obtain ⟨b0, hb0⟩ : ∃ b0, (z.t.toList == x.t.toList) = b0 := ⟨_, rfl⟩
                        have HB0 := Lib.hid hb0
                        rw [hb0]
                        clear c0 c1 c2 c3 m0 m1 m2 m3 mlt hb0 HK
                        go_wp2
                        go_loopw [11, 12] (fun vf vj wr => ∃ (j : Nat) (f : Bool), j ≤ X.length ∧ vj = .int .i64 j ∧ vf = .bool f ∧ f = (b0 || (X.take j).any (fun y => eqM y z)) ∧ Ks w wr w.heap.size (.slice aS S.length cS) (.slice (some ⟨b2, off2, none⟩) A.length cA) (.slice (some ⟨bl, ofl, none⟩) L.length capl) L (.slice aoX X.length capX) X q0 x) (fun _ j _ => X.length - (RowKit.intOf j).toNat)
                        case atStart => exact ⟨0, b0, by omega, rfl, rfl, by simp, HKq.out⟩
                        case round =>
                          obtain ⟨j, f, hj, rfl, rfl, hf, hks⟩ := hrel
                          clear HKq
                          have HK := Lib.hid hks
                          have HF := Lib.hid hf
                          clear hks hf
                          by_cases hjl : j < X.length
                          · have hjz : (j : Int) < (X.length : Int) := by omega
                            obtain ⟨y, hy⟩ : ∃ y, X[j]? = some y := ⟨_, List.getElem?_eq_getElem hjl⟩
                            obtain ⟨bx, ofx, rfl⟩ := ms_some HK.out.kx hy
                            have HTK := Lib.hid (show (b0 || (X.take (j + 1)).any (fun y => eqM y z)) = (f || eqM y z) by
                              rw [HF.out, List.take_add_one, hy, Option.toList_some, List.any_append, Bool.or_assoc]; simp)
                            obtain ⟨c0, c1, c2, c3⟩ := ms_cells HK.out.kx hy
                            obtain ⟨e0, e1, e2, e3⟩ := ms_cells HK.out.kl HZ.out
                            have heq := messagesEq y.t y.p y.q y.r z.t z.p z.q z.r
                            have hguE := messagesGuardE
                            rw [show ((y.t.toList == z.t.toList) && (y.p.toList == z.p.toList) && (y.q == z.q) && (y.r == z.r)) = eqM y z from rfl] at heq
                            generalize eqM y z = eb at heq HTK
                            clear hy HF
                            cases f with
                            | true =>
                              go_wp2_with fail
                              go_quiet (fail)
                              go_wp2
                              go_roundw
                              case rel => exact ⟨j + 1, true, by omega, by go_num, rfl, by rw [HTK.out]; rfl, HK.out.below (bdrew (Below.refl _ _) _)⟩
                              case measure => simp [RowKit.intOf]; omega
                            | false =>
                              go_wp2_with fail
                              go_quiet (fail)
                              go_wp2
                              go_roundw
                              case rel => exact ⟨j + 1, eb, by omega, by go_num, rfl, by rw [HTK.out]; rfl, HK.out.below (bdrew (Below.refl _ _) _)⟩
                              case measure => simp [RowKit.intOf]; omega
                          · have hjz : ¬ (j : Int) < (X.length : Int) := by omega
                            have hje : j = X.length := by omega
                            have hft : f = true := by
                              have := HF.out
                              rw [hje, List.take_length] at this
                              rw [this]
                              rcases HZM.out with h | h
                              · rw [← HB0.out, h]; simp
                              · rw [show X.any (fun y => eqM y z) = true from List.any_eq_true.2 ⟨z, h, eqM_self z⟩]; simp
                            subst hft
                            clear hje hjl hj HF
                            go_wp2
                            go_roundw
                            case rel => exact ⟨k2 + 1, by omega, by go_num, HK.out⟩
                            case measure => simp [RowKit.intOf]; omega
                      · have hkz : ¬ (k2 : Int) < (L.length : Int) := by omega
                        clear hkl hk2
                        go_wp2
                        go_roundw
                        case rel => exact ⟨k + 1, X, _, by omega, by go_num, rfl, HK.out.ks, HK.out.kx, HKX.out⟩
                        case measure => simp [RowKit.intOf]; omega


              | false =>
                have HCNT := Lib.hid (hcn1 hN)
                have HNB := Lib.hid hN
                have hp1 : (x.p.toList == (⟨#[]⟩ : ByteArray).toList) = false := hN
                have hp2 : (x.p.toList == []) = false := by rw [← hN]; unfold noneB; rw [show (⟨#[]⟩ : ByteArray).toList = [] by rw [Lib.toList_data]]
                have hp3 : x.p.toList.isEmpty = false := by rw [← hp2]; cases x.p.toList <;> rfl

                clear hcn0 hcn1 hN
                go_wp2_with (with_reducible first | (refine (CN0.out _).mono ?_; rintro e w6 ⟨rfl, rfl⟩) | (refine (CNE.out _).mono ?_; rintro e w6 ⟨rfl, rfl⟩))
                go_loopw [8, 9] (fun vn vj wr => ∃ (j n : Nat), j ≤ X.length ∧ vj = .int .i64 j ∧ vn = .int .i64 n ∧ n = cntN (X.take j) x.t ∧ n ≤ j ∧ Ks w wr w.heap.size (.slice aS S.length cS) (.slice (some ⟨b2, off2, none⟩) A.length cA) (.slice aol L.length capl) L (.slice aoX X.length capX) X q0 x) (fun _ j _ => X.length - (RowKit.intOf j).toNat)
                case atStart => exact ⟨0, 0, by omega, rfl, rfl, rfl, Nat.le_refl _, HK.out⟩
                case round =>
                  obtain ⟨j, n, hj, rfl, rfl, hn, hnj, hks⟩ := hrel
                  clear HK
                  have HK := Lib.hid hks
                  have HN := Lib.hid hn
                  clear hks hn
                  by_cases hjl : j < X.length
                  · have hjz : (j : Int) < (X.length : Int) := by omega
                    obtain ⟨y, hy⟩ : ∃ y, X[j]? = some y := ⟨_, List.getElem?_eq_getElem hjl⟩
                    obtain ⟨bx, ofx, rfl⟩ := ms_some HK.out.kx hy
                    have HY := Lib.hid hy
                    have HTK := Lib.hid (show cntN (X.take (j + 1)) x.t = n + (if (y.t.toList == x.t.toList) = true then 1 else 0) by
                      rw [HN.out]
                      unfold cntN
                      rw [List.take_add_one, hy, Option.toList_some, List.countP_append, List.countP_cons, List.countP_nil, Nat.zero_add])
                    have HYM := Lib.hid (fun (h : (y.t.toList == x.t.toList) = true) => HSAME.out y (List.mem_of_getElem? hy) (toL_inj (eq_of_beq h)))
                    obtain ⟨c0, c1, c2, c3⟩ := ms_cells HK.out.kx hy
                    obtain ⟨m0, m1, m2, m3, mlt⟩ := id HK.out.km
                    clear hy HN
                    by_cases h0 : 0 < j
                    · have h0z : (0 : Int) < (j : Int) := by omega
                      obtain ⟨p, hp⟩ : ∃ p, X[j - 1]? = some p := ⟨_, List.getElem?_eq_getElem (by omega)⟩
                      obtain ⟨e0, -, -, -⟩ := ms_cells HK.out.kx hp
                      have hge : Op.bytesLess p.t.toList y.t.toList = true := kept_rising HKX.out (j - 1) j p y hp HY.out (by omega)
                      clear hp
                      go_wp2_with fail
                      go_quiet (fail)
                      go_wp2_with fail
                      refine wp_gen (fun W => Ks w W w.heap.size (.slice aS S.length cS) (.slice (some ⟨b2, off2, none⟩) A.length cA) (.slice aol L.length capl) L (.slice (some ⟨bx, ofx, none⟩) X.length capX) X q0 x) (HK.out.below (bdrew (Below.refl _ _) nq)) ?_
                      intro W1 hk1
                      have HK1 := Lib.hid hk1
                      clear hk1 e0 c0 c1 c2 c3 m0 m1 m2 m3 mlt nq
                      obtain ⟨c0, c1, c2, c3⟩ := ms_cells HK1.out.kx HY.out
                      obtain ⟨m0, m1, m2, m3, mlt⟩ := id HK1.out.km
                      cases hby : (y.t.toList == x.t.toList) with
                      | false =>
                        have HTF := Lib.hid (show cntN (X.take (j + 1)) x.t = n by rw [HTK.out, hby]; rfl)
                        clear HYM HTK
                        go_quiet (fail)
                        go_wp2
                        go_roundw
                        case rel => exact ⟨j + 1, n, by omega, by go_num, rfl, HTF.out.symm, by omega, HK1.out.below (bdrew (Below.refl _ _) _)⟩
                        case measure => simp [RowKit.intOf]; omega
                      | true =>
                        obtain ⟨hyx, hyn⟩ := HYM.out hby
                        have HTF := Lib.hid (show cntN (X.take (j + 1)) x.t = n + 1 by rw [HTK.out, hby]; rfl)
                        clear HYM HTK
                        clear hyn
                        subst hyx
                        clear hby
                        have hby : (y.t.toList == y.t.toList) = true := by simp
                        have hne : ∀ w, (binOp .neq 60 (.agg #[.string y.t, .string y.p, .int .i64 y.q, .bool y.r]) (.agg #[.string y.t, .string y.p, .int .i64 y.q, .bool y.r])).run Tryd.prog w = .ok (.bool false) w := fun w => by rw [messagesNe]; simp
                        have hgu := messagesGuard
                        go_quiet (fail)
                        go_wp2_with fail
                        refine wp_gen (fun W => Ks w W w.heap.size (.slice aS S.length cS) (.slice (some ⟨b2, off2, none⟩) A.length cA) (.slice aol L.length capl) L (.slice (some ⟨bx, ofx, none⟩) X.length capX) X q0 y) (HK1.out.below (bdrew (Below.refl _ _) nq)) ?_
                        intro W2 hk2
                        have HK2 := Lib.hid hk2
                        clear hk2 c0 c1 c2 c3 m0 m1 m2 m3 mlt nq
                        obtain ⟨c0, c1, c2, c3⟩ := ms_cells HK2.out.kx HY.out
                        obtain ⟨m0, m1, m2, m3, mlt⟩ := id HK2.out.km

                        go_quiet (fail)
                        go_wp2
                        go_roundw
                        case rel => exact ⟨j + 1, n + 1, by omega, by go_num, by go_num, HTF.out.symm, by omega, HK2.out.below (bdrew (Below.refl _ _) _)⟩
                        case measure => simp [RowKit.intOf]; omega

                    · have h0z : ¬ (0 : Int) < (j : Int) := by omega
                      have h0d : decide ((0 : Int) < (j : Int)) = false := decide_eq_false h0z
                      go_wp2_with fail
                      go_quiet (fail)
                      go_wp2_with fail
                      refine wp_gen (fun W => Ks w W w.heap.size (.slice aS S.length cS) (.slice (some ⟨b2, off2, none⟩) A.length cA) (.slice aol L.length capl) L (.slice (some ⟨bx, ofx, none⟩) X.length capX) X q0 x) (HK.out.below (bdrew (Below.refl _ _) nq)) ?_
                      intro W1 hk1
                      have HK1 := Lib.hid hk1
                      clear hk1 c0 c1 c2 c3 m0 m1 m2 m3 mlt nq
                      obtain ⟨c0, c1, c2, c3⟩ := ms_cells HK1.out.kx HY.out
                      obtain ⟨m0, m1, m2, m3, mlt⟩ := id HK1.out.km
                      cases hby : (y.t.toList == x.t.toList) with
                      | false =>
                        have HTF := Lib.hid (show cntN (X.take (j + 1)) x.t = n by rw [HTK.out, hby]; rfl)
                        clear HYM HTK
                        go_quiet (fail)
                        go_wp2
                        go_roundw
                        case rel => exact ⟨j + 1, n, by omega, by go_num, rfl, HTF.out.symm, by omega, HK1.out.below (bdrew (Below.refl _ _) _)⟩
                        case measure => simp [RowKit.intOf]; omega
                      | true =>
                        obtain ⟨hyx, hyn⟩ := HYM.out hby
                        have HTF := Lib.hid (show cntN (X.take (j + 1)) x.t = n + 1 by rw [HTK.out, hby]; rfl)
                        clear HYM HTK
                        clear hyn
                        subst hyx
                        clear hby
                        have hby : (y.t.toList == y.t.toList) = true := by simp
                        have hne : ∀ w, (binOp .neq 60 (.agg #[.string y.t, .string y.p, .int .i64 y.q, .bool y.r]) (.agg #[.string y.t, .string y.p, .int .i64 y.q, .bool y.r])).run Tryd.prog w = .ok (.bool false) w := fun w => by rw [messagesNe]; simp
                        have hgu := messagesGuard
                        go_quiet (fail)
                        go_wp2_with fail
                        refine wp_gen (fun W => Ks w W w.heap.size (.slice aS S.length cS) (.slice (some ⟨b2, off2, none⟩) A.length cA) (.slice aol L.length capl) L (.slice (some ⟨bx, ofx, none⟩) X.length capX) X q0 y) (HK1.out.below (bdrew (Below.refl _ _) nq)) ?_
                        intro W2 hk2
                        have HK2 := Lib.hid hk2
                        clear hk2 c0 c1 c2 c3 m0 m1 m2 m3 mlt nq
                        obtain ⟨c0, c1, c2, c3⟩ := ms_cells HK2.out.kx HY.out
                        obtain ⟨m0, m1, m2, m3, mlt⟩ := id HK2.out.km

                        go_quiet (fail)
                        go_wp2
                        go_roundw
                        case rel => exact ⟨j + 1, n + 1, by omega, by go_num, by go_num, HTF.out.symm, by omega, HK2.out.below (bdrew (Below.refl _ _) _)⟩
                        case measure => simp [RowKit.intOf]; omega

                  · have hjz : ¬ (j : Int) < (X.length : Int) := by omega
                    have hje : j = X.length := by omega
                    have hn0 : n = 1 := by
                      have := HN.out
                      rw [hje, List.take_length] at this
                      rw [this]
                      exact HCNT.out
                    subst hn0
                    clear hje hjl hnj hj HN
                    obtain ⟨m0, m1, m2, m3, mlt⟩ := id HK.out.km
                    go_wp2
                    clear m0 m1 m2 m3 mlt
                    go_loopw [10] (fun vk wr => ∃ (k2 : Nat), k2 ≤ L.length ∧ vk = .int .i64 k2 ∧ Ks w wr w.heap.size (.slice aS S.length cS) (.slice (some ⟨b2, off2, none⟩) A.length cA) (.slice aol L.length capl) L (.slice aoX X.length capX) X q0 x) (fun k _ => L.length - (RowKit.intOf k).toNat)
                    case atStart => exact ⟨0, by omega, rfl, HK.out⟩
                    case round =>
                      obtain ⟨k2, hk2, rfl, hks⟩ := hrel
                      clear HK
                      have HK := Lib.hid hks
                      clear hks
                      by_cases hkl : k2 < L.length
                      · have hkz : (k2 : Int) < (L.length : Int) := by omega
                        obtain ⟨z, hz⟩ : ∃ z, L[k2]? = some z := ⟨_, List.getElem?_eq_getElem hkl⟩
                        obtain ⟨bl, ofl, rfl⟩ := ms_some HK.out.kl hz
                        have HZ := Lib.hid hz
                        obtain ⟨c0, c1, c2, c3⟩ := ms_cells HK.out.kl hz
                        obtain ⟨m0, m1, m2, m3, mlt⟩ := id HK.out.km
                        have HZM := Lib.hid (HOLD.out z (List.mem_of_getElem? hz))
                        clear hz
                        go_wp2_with fail
                        go_quiet (fail)
                        have HKq := Lib.hid (HK.out.below (bdrew (Below.refl _ _) nq))
                        obtain ⟨b0, hb0⟩ : ∃ b0, (z.t.toList == x.t.toList) = b0 := ⟨_, rfl⟩
                        have HB0 := Lib.hid hb0
                        rw [hb0]
                        clear c0 c1 c2 c3 m0 m1 m2 m3 mlt hb0 HK
                        go_wp2
                        go_loopw [11, 12] (fun vf vj wr => ∃ (j : Nat) (f : Bool), j ≤ X.length ∧ vj = .int .i64 j ∧ vf = .bool f ∧ f = (b0 || (X.take j).any (fun y => eqM y z)) ∧ Ks w wr w.heap.size (.slice aS S.length cS) (.slice (some ⟨b2, off2, none⟩) A.length cA) (.slice (some ⟨bl, ofl, none⟩) L.length capl) L (.slice aoX X.length capX) X q0 x) (fun _ j _ => X.length - (RowKit.intOf j).toNat)
                        case atStart => exact ⟨0, b0, by omega, rfl, rfl, by simp, HKq.out⟩
                        case round =>
                          obtain ⟨j, f, hj, rfl, rfl, hf, hks⟩ := hrel
                          clear HKq
                          have HK := Lib.hid hks
                          have HF := Lib.hid hf
                          clear hks hf
                          by_cases hjl : j < X.length
                          · have hjz : (j : Int) < (X.length : Int) := by omega
                            obtain ⟨y, hy⟩ : ∃ y, X[j]? = some y := ⟨_, List.getElem?_eq_getElem hjl⟩
                            obtain ⟨bx, ofx, rfl⟩ := ms_some HK.out.kx hy
                            have HTK := Lib.hid (show (b0 || (X.take (j + 1)).any (fun y => eqM y z)) = (f || eqM y z) by
                              rw [HF.out, List.take_add_one, hy, Option.toList_some, List.any_append, Bool.or_assoc]; simp)
                            obtain ⟨c0, c1, c2, c3⟩ := ms_cells HK.out.kx hy
                            obtain ⟨e0, e1, e2, e3⟩ := ms_cells HK.out.kl HZ.out
                            have heq := messagesEq y.t y.p y.q y.r z.t z.p z.q z.r
                            have hguE := messagesGuardE
                            rw [show ((y.t.toList == z.t.toList) && (y.p.toList == z.p.toList) && (y.q == z.q) && (y.r == z.r)) = eqM y z from rfl] at heq
                            generalize eqM y z = eb at heq HTK
                            clear hy HF
                            cases f with
                            | true =>
                              go_wp2_with fail
                              go_quiet (fail)
                              go_wp2
                              go_roundw
                              case rel => exact ⟨j + 1, true, by omega, by go_num, rfl, by rw [HTK.out]; rfl, HK.out.below (bdrew (Below.refl _ _) _)⟩
                              case measure => simp [RowKit.intOf]; omega
                            | false =>
                              go_wp2_with fail
                              go_quiet (fail)
                              go_wp2
                              go_roundw
                              case rel => exact ⟨j + 1, eb, by omega, by go_num, rfl, by rw [HTK.out]; rfl, HK.out.below (bdrew (Below.refl _ _) _)⟩
                              case measure => simp [RowKit.intOf]; omega
                          · have hjz : ¬ (j : Int) < (X.length : Int) := by omega
                            have hje : j = X.length := by omega
                            have hft : f = true := by
                              have := HF.out
                              rw [hje, List.take_length] at this
                              rw [this]
                              rcases HZM.out with h | h
                              · rw [← HB0.out, h]; simp
                              · rw [show X.any (fun y => eqM y z) = true from List.any_eq_true.2 ⟨z, h, eqM_self z⟩]; simp
                            subst hft
                            clear hje hjl hj HF
                            go_wp2
                            go_roundw
                            case rel => exact ⟨k2 + 1, by omega, by go_num, HK.out⟩
                            case measure => simp [RowKit.intOf]; omega
                      · have hkz : ¬ (k2 : Int) < (L.length : Int) := by omega
                        clear hkl hk2
                        go_wp2
                        go_roundw
                        case rel => exact ⟨k + 1, X, _, by omega, by go_num, rfl, HK.out.ks, HK.out.kx, HKX.out⟩
                        case measure => simp [RowKit.intOf]; omega


        · have h25z : ¬ (k : Int) < 25 := by omega
          obtain ⟨-, p0, p1, plt⟩ := id HSc.out
          have CMH := Lib.hid (show Calls Tryd.prog 33 #[.slice aol L.length capl, .string ⟨#[35]⟩] wr fun e w' => ∃ v', e = .returned (.tuple #[v', .int .i64 0]) ∧ MsOwn w' wr.heap.size v' (L.filter (fun x => !dolB x)) ∧ Below wr.heap.size wr w' from by
            have := match_kept (.slice aol L.length capl) L ⟨#[35]⟩ wr (HE.out.below HSc.out.low) HO.out.of (kept_szs HKL.out) (by decide) (by have := (kept_parts HKL.out).1; omega)
            rw [hash_hit HKL.out] at this
            exact this)
          go_wp2_with fail
          (with_reducible refine CMH.out.mono ?_)
          rintro e W1 ⟨va, rfl, hoa, hb1⟩
          have HSc1 := Lib.hid (HSc.out.below hb1)
          have HO1 := Lib.hid (HO.out.below hb1)
          obtain ⟨na, hna⟩ : ∃ na, (L.filter (fun x => !dolB x)).length = na := ⟨_, rfl⟩
          have hdl := dol_len L
          rw [hna] at hdl
          have hoa2 := hoa
          unfold MsOwn at hoa2
          rw [hna] at hoa2
          obtain ⟨aoa, capa, rfl⟩ := own_slice hoa2
          have HDL := Lib.hid hdl
          have h16 := (kept_parts HKL.out).1
          have hna16 : na ≤ 16 := by omega
          clear hoa hoa2 hb1 hna hdl CMH HSc HO
          go_wp2
          go_loopw [15, 16] (fun vd vi wr => ∃ (i d : Nat), i ≤ L.length ∧ vi = .int .i64 i ∧ vd = .int .i64 d ∧ d = (L.take i).countP dolB ∧ d ≤ i ∧ Sc w wr w.heap.size (.slice aS S.length cS) (.slice aA A.length cA) ∧ MsOwn wr w.heap.size (.slice aol L.length capl) L) (fun _ i _ => L.length - (RowKit.intOf i).toNat)
          case atStart => exact ⟨0, 0, by omega, rfl, rfl, rfl, Nat.le_refl _, HSc1.out, HO1.out⟩
          case round =>
            obtain ⟨i, d, hi, rfl, rfl, hd, hdi, hsc, ho⟩ := hrel
            clear HSc1 HO1
            have HSc := Lib.hid hsc
            have HO := Lib.hid ho
            have HD := Lib.hid hd
            clear hsc ho hd
            by_cases hil : i < L.length
            · have hiz : (i : Int) < (L.length : Int) := by omega
              obtain ⟨y, hy⟩ : ∃ y, L[i]? = some y := ⟨_, List.getElem?_eq_getElem hil⟩
              obtain ⟨bl, ofl, rfl⟩ := ms_some HO.out hy
              obtain ⟨c0, c1, c2, c3⟩ := ms_cells HO.out hy
              have hyn := (textB_parts.1 (self_parts (msg_name (kept_all HKL.out y (List.mem_of_getElem? hy)).1)).1)
              have hT0 : 0 < y.t.size := by rw [Lib.size_eq]; have := hyn.1; omega
              have hT0z : (0 : Int) < (y.t.size : Int) := by omega
              obtain ⟨c, hT0b⟩ : ∃ c, y.t[0]'hT0 = c := ⟨_, rfl⟩
              have hdy : dolB y = (c == 36) := by
                unfold dolB
                have := Lib.data_getElem? y.t 0 hT0
                rw [hT0b] at this
                rw [List.head?_eq_getElem?]
                rw [show y.t.data.toList[0]? = some c from this]; rfl
              have HTK := Lib.hid (show (L.take (i + 1)).countP dolB = d + (if dolB y = true then 1 else 0) by
                rw [HD.out, List.take_add_one, hy, Option.toList_some, List.countP_append, List.countP_cons, List.countP_nil, Nat.zero_add])
              have CMY := Lib.hid (fun W (hb : Below w.heap.size w W) (ho : SlOf W 4 EMessage.At (.slice (some ⟨bl, ofl, none⟩) L.length capl) L) => (show Calls Tryd.prog 33 #[.slice (some ⟨bl, ofl, none⟩) L.length capl, .string y.t] W fun e w' => ∃ v', e = .returned (.tuple #[v', .int .i64 0]) ∧ MsOwn w' W.heap.size v' [y] ∧ Below W.heap.size W w' from by
                have := match_kept (.slice (some ⟨bl, ofl, none⟩) L.length capl) L y.t W (HE.out.below hb) ho (kept_szs HKL.out) (by have := kept_szs HKL.out y (List.mem_of_getElem? hy); omega) (by omega)
                rw [own_hit HKL.out (List.mem_of_getElem? hy)] at this
                exact this))
              have HY := Lib.hid hy
              clear hy hyn HD
              by_cases hc : ((c.toNat : Nat) : Int) = 36
              · have hc36 : c = 36 := UInt8.toNat_inj.1 (by show c.toNat = 36; omega)
                have HTF := Lib.hid (show (L.take (i + 1)).countP dolB = d + 1 by rw [HTK.out, hdy, hc36]; rfl)
                clear HTK hdy hc36
                go_wp2_with fail
                (with_reducible refine (CMY.out wr HSc.out.low HO.out.of).mono ?_)
                rintro e W3 ⟨vb, rfl, hob, hb3⟩
                have HSc3 := Lib.hid (HSc.out.below hb3)
                have HO3 := Lib.hid (HO.out.below hb3)
                obtain ⟨aob, capb, rfl⟩ := own_slice hob
                obtain ⟨bb, ofb, rfl⟩ := ms_some hob (k := 0) (y := y) rfl
                have e9 := ms_cells hob (k := 0) (y := y) rfl
                rw [Nat.zero_mul, Nat.add_zero] at e9
                obtain ⟨e0, e1, e2, e3⟩ := e9
                have hl1 : ([y] : List EMessage).length = 1 := rfl
                clear hob hb3 CMY HSc HO c0 c1 c2 c3
                obtain ⟨c0, c1, c2, c3⟩ := ms_cells HO3.out HY.out
                have hne : ∀ w, (binOp .neq 60 (.agg #[.string y.t, .string y.p, .int .i64 y.q, .bool y.r]) (.agg #[.string y.t, .string y.p, .int .i64 y.q, .bool y.r])).run Tryd.prog w = .ok (.bool false) w := fun w => by rw [messagesNe]; simp
                have hgu := messagesGuard
                have CNq := Lib.hid (fun W => (show Calls Tryd.prog 29 #[.int .i64 0] W fun e w' => e = .returned (.int .i64 0) ∧ w' = W from (CN0.out W).mono fun _ _ h => ⟨h.1, h.2.symm⟩))
                go_wp2_with fail
                go_quiet (with_reducible exact Calls.quiet_of_same (CNq.out _))
                go_wp2
                go_roundw
                case rel => exact ⟨i + 1, d + 1, by omega, by go_num, by first | rfl | go_num, HTF.out.symm, by omega, HSc3.out.below (bdrew (Below.refl _ _) _), HO3.out.below (bdrew (Below.refl _ _) _)⟩
                case measure => simp [RowKit.intOf]; omega

              · have hc36 : (c == 36) = false := beq_eq_false_iff_ne.2 (fun e => hc (by rw [e]; rfl))
                have HTF := Lib.hid (show (L.take (i + 1)).countP dolB = d by rw [HTK.out, hdy, hc36]; rfl)
                clear HTK hdy hc36
                go_wp2_with fail
                (with_reducible refine (CMY.out wr HSc.out.low HO.out.of).mono ?_)
                rintro e W3 ⟨vb, rfl, hob, hb3⟩
                have HSc3 := Lib.hid (HSc.out.below hb3)
                have HO3 := Lib.hid (HO.out.below hb3)
                obtain ⟨aob, capb, rfl⟩ := own_slice hob
                obtain ⟨bb, ofb, rfl⟩ := ms_some hob (k := 0) (y := y) rfl
                have e9 := ms_cells hob (k := 0) (y := y) rfl
                rw [Nat.zero_mul, Nat.add_zero] at e9
                obtain ⟨e0, e1, e2, e3⟩ := e9
                have hl1 : ([y] : List EMessage).length = 1 := rfl
                clear hob hb3 CMY HSc HO c0 c1 c2 c3
                obtain ⟨c0, c1, c2, c3⟩ := ms_cells HO3.out HY.out
                have hne : ∀ w, (binOp .neq 60 (.agg #[.string y.t, .string y.p, .int .i64 y.q, .bool y.r]) (.agg #[.string y.t, .string y.p, .int .i64 y.q, .bool y.r])).run Tryd.prog w = .ok (.bool false) w := fun w => by rw [messagesNe]; simp
                have hgu := messagesGuard
                have CNq := Lib.hid (fun W => (show Calls Tryd.prog 29 #[.int .i64 0] W fun e w' => e = .returned (.int .i64 0) ∧ w' = W from (CN0.out W).mono fun _ _ h => ⟨h.1, h.2.symm⟩))
                go_wp2_with fail
                go_quiet (with_reducible exact Calls.quiet_of_same (CNq.out _))
                go_wp2
                go_roundw
                case rel => exact ⟨i + 1, d, by omega, by go_num, by first | rfl | go_num, HTF.out.symm, by omega, HSc3.out.below (bdrew (Below.refl _ _) _), HO3.out.below (bdrew (Below.refl _ _) _)⟩
                case measure => simp [RowKit.intOf]; omega

            · have hiz : ¬ (i : Int) < (L.length : Int) := by omega
              have hie : i = L.length := by omega
              have hd := HD.out
              rw [hie, List.take_length] at hd
              have hnd : na + d = L.length := by have := HDL.out; omega
              have hd16 : d ≤ 16 := by omega
              clear hd hie hil hi HD
              have CWk := Lib.hid (wakes22_any wr (HE.out.below HSc.out.low))
              go_wp2_with (with_reducible first | (refine (CN0.out _).mono ?_; rintro e w6 ⟨rfl, rfl⟩) | (refine CWk.out.mono ?_; rintro e w9 ⟨rfl, hb9⟩))
              go_ret
              exact ⟨rfl, HSc.out.low.trans (hb9.mono HSc.out.low.size)⟩

      · have hltz : ¬ (k : Int) < (A.length : Int) := by omega
        obtain ⟨-, p0, p1, plt⟩ := id HSc.out
        have CMH := Lib.hid (show Calls Tryd.prog 33 #[.slice aol L.length capl, .string ⟨#[35]⟩] wr fun e w' => ∃ v', e = .returned (.tuple #[v', .int .i64 0]) ∧ MsOwn w' wr.heap.size v' (L.filter (fun x => !dolB x)) ∧ Below wr.heap.size wr w' from by
          have := match_kept (.slice aol L.length capl) L ⟨#[35]⟩ wr (HE.out.below HSc.out.low) HO.out.of (kept_szs HKL.out) (by decide) (by have := (kept_parts HKL.out).1; omega)
          rw [hash_hit HKL.out] at this
          exact this)
        go_wp2_with fail
        (with_reducible refine CMH.out.mono ?_)
        rintro e W1 ⟨va, rfl, hoa, hb1⟩
        have HSc1 := Lib.hid (HSc.out.below hb1)
        have HO1 := Lib.hid (HO.out.below hb1)
        obtain ⟨na, hna⟩ : ∃ na, (L.filter (fun x => !dolB x)).length = na := ⟨_, rfl⟩
        have hdl := dol_len L
        rw [hna] at hdl
        have hoa2 := hoa
        unfold MsOwn at hoa2
        rw [hna] at hoa2
        obtain ⟨aoa, capa, rfl⟩ := own_slice hoa2
        have HDL := Lib.hid hdl
        have h16 := (kept_parts HKL.out).1
        have hna16 : na ≤ 16 := by omega
        clear hoa hoa2 hb1 hna hdl CMH HSc HO
        go_wp2
        go_loopw [15, 16] (fun vd vi wr => ∃ (i d : Nat), i ≤ L.length ∧ vi = .int .i64 i ∧ vd = .int .i64 d ∧ d = (L.take i).countP dolB ∧ d ≤ i ∧ Sc w wr w.heap.size (.slice aS S.length cS) (.slice aA A.length cA) ∧ MsOwn wr w.heap.size (.slice aol L.length capl) L) (fun _ i _ => L.length - (RowKit.intOf i).toNat)
        case atStart => exact ⟨0, 0, by omega, rfl, rfl, rfl, Nat.le_refl _, HSc1.out, HO1.out⟩
        case round =>
          obtain ⟨i, d, hi, rfl, rfl, hd, hdi, hsc, ho⟩ := hrel
          clear HSc1 HO1
          have HSc := Lib.hid hsc
          have HO := Lib.hid ho
          have HD := Lib.hid hd
          clear hsc ho hd
          by_cases hil : i < L.length
          · have hiz : (i : Int) < (L.length : Int) := by omega
            obtain ⟨y, hy⟩ : ∃ y, L[i]? = some y := ⟨_, List.getElem?_eq_getElem hil⟩
            obtain ⟨bl, ofl, rfl⟩ := ms_some HO.out hy
            obtain ⟨c0, c1, c2, c3⟩ := ms_cells HO.out hy
            have hyn := (textB_parts.1 (self_parts (msg_name (kept_all HKL.out y (List.mem_of_getElem? hy)).1)).1)
            have hT0 : 0 < y.t.size := by rw [Lib.size_eq]; have := hyn.1; omega
            have hT0z : (0 : Int) < (y.t.size : Int) := by omega
            obtain ⟨c, hT0b⟩ : ∃ c, y.t[0]'hT0 = c := ⟨_, rfl⟩
            have hdy : dolB y = (c == 36) := by
              unfold dolB
              have := Lib.data_getElem? y.t 0 hT0
              rw [hT0b] at this
              rw [List.head?_eq_getElem?]
              rw [show y.t.data.toList[0]? = some c from this]; rfl
            have HTK := Lib.hid (show (L.take (i + 1)).countP dolB = d + (if dolB y = true then 1 else 0) by
              rw [HD.out, List.take_add_one, hy, Option.toList_some, List.countP_append, List.countP_cons, List.countP_nil, Nat.zero_add])
            have CMY := Lib.hid (fun W (hb : Below w.heap.size w W) (ho : SlOf W 4 EMessage.At (.slice (some ⟨bl, ofl, none⟩) L.length capl) L) => (show Calls Tryd.prog 33 #[.slice (some ⟨bl, ofl, none⟩) L.length capl, .string y.t] W fun e w' => ∃ v', e = .returned (.tuple #[v', .int .i64 0]) ∧ MsOwn w' W.heap.size v' [y] ∧ Below W.heap.size W w' from by
              have := match_kept (.slice (some ⟨bl, ofl, none⟩) L.length capl) L y.t W (HE.out.below hb) ho (kept_szs HKL.out) (by have := kept_szs HKL.out y (List.mem_of_getElem? hy); omega) (by omega)
              rw [own_hit HKL.out (List.mem_of_getElem? hy)] at this
              exact this))
            have HY := Lib.hid hy
            clear hy hyn HD
            by_cases hc : ((c.toNat : Nat) : Int) = 36
            · have hc36 : c = 36 := UInt8.toNat_inj.1 (by show c.toNat = 36; omega)
              have HTF := Lib.hid (show (L.take (i + 1)).countP dolB = d + 1 by rw [HTK.out, hdy, hc36]; rfl)
              clear HTK hdy hc36
              go_wp2_with fail
              (with_reducible refine (CMY.out wr HSc.out.low HO.out.of).mono ?_)
              rintro e W3 ⟨vb, rfl, hob, hb3⟩
              have HSc3 := Lib.hid (HSc.out.below hb3)
              have HO3 := Lib.hid (HO.out.below hb3)
              obtain ⟨aob, capb, rfl⟩ := own_slice hob
              obtain ⟨bb, ofb, rfl⟩ := ms_some hob (k := 0) (y := y) rfl
              have e9 := ms_cells hob (k := 0) (y := y) rfl
              rw [Nat.zero_mul, Nat.add_zero] at e9
              obtain ⟨e0, e1, e2, e3⟩ := e9
              have hl1 : ([y] : List EMessage).length = 1 := rfl
              clear hob hb3 CMY HSc HO c0 c1 c2 c3
              obtain ⟨c0, c1, c2, c3⟩ := ms_cells HO3.out HY.out
              have hne : ∀ w, (binOp .neq 60 (.agg #[.string y.t, .string y.p, .int .i64 y.q, .bool y.r]) (.agg #[.string y.t, .string y.p, .int .i64 y.q, .bool y.r])).run Tryd.prog w = .ok (.bool false) w := fun w => by rw [messagesNe]; simp
              have hgu := messagesGuard
              have CNq := Lib.hid (fun W => (show Calls Tryd.prog 29 #[.int .i64 0] W fun e w' => e = .returned (.int .i64 0) ∧ w' = W from (CN0.out W).mono fun _ _ h => ⟨h.1, h.2.symm⟩))
              go_wp2_with fail
              go_quiet (with_reducible exact Calls.quiet_of_same (CNq.out _))
              go_wp2
              go_roundw
              case rel => exact ⟨i + 1, d + 1, by omega, by go_num, by first | rfl | go_num, HTF.out.symm, by omega, HSc3.out.below (bdrew (Below.refl _ _) _), HO3.out.below (bdrew (Below.refl _ _) _)⟩
              case measure => simp [RowKit.intOf]; omega

            · have hc36 : (c == 36) = false := beq_eq_false_iff_ne.2 (fun e => hc (by rw [e]; rfl))
              have HTF := Lib.hid (show (L.take (i + 1)).countP dolB = d by rw [HTK.out, hdy, hc36]; rfl)
              clear HTK hdy hc36
              go_wp2_with fail
              (with_reducible refine (CMY.out wr HSc.out.low HO.out.of).mono ?_)
              rintro e W3 ⟨vb, rfl, hob, hb3⟩
              have HSc3 := Lib.hid (HSc.out.below hb3)
              have HO3 := Lib.hid (HO.out.below hb3)
              obtain ⟨aob, capb, rfl⟩ := own_slice hob
              obtain ⟨bb, ofb, rfl⟩ := ms_some hob (k := 0) (y := y) rfl
              have e9 := ms_cells hob (k := 0) (y := y) rfl
              rw [Nat.zero_mul, Nat.add_zero] at e9
              obtain ⟨e0, e1, e2, e3⟩ := e9
              have hl1 : ([y] : List EMessage).length = 1 := rfl
              clear hob hb3 CMY HSc HO c0 c1 c2 c3
              obtain ⟨c0, c1, c2, c3⟩ := ms_cells HO3.out HY.out
              have hne : ∀ w, (binOp .neq 60 (.agg #[.string y.t, .string y.p, .int .i64 y.q, .bool y.r]) (.agg #[.string y.t, .string y.p, .int .i64 y.q, .bool y.r])).run Tryd.prog w = .ok (.bool false) w := fun w => by rw [messagesNe]; simp
              have hgu := messagesGuard
              have CNq := Lib.hid (fun W => (show Calls Tryd.prog 29 #[.int .i64 0] W fun e w' => e = .returned (.int .i64 0) ∧ w' = W from (CN0.out W).mono fun _ _ h => ⟨h.1, h.2.symm⟩))
              go_wp2_with fail
              go_quiet (with_reducible exact Calls.quiet_of_same (CNq.out _))
              go_wp2
              go_roundw
              case rel => exact ⟨i + 1, d, by omega, by go_num, by first | rfl | go_num, HTF.out.symm, by omega, HSc3.out.below (bdrew (Below.refl _ _) _), HO3.out.below (bdrew (Below.refl _ _) _)⟩
              case measure => simp [RowKit.intOf]; omega

          · have hiz : ¬ (i : Int) < (L.length : Int) := by omega
            have hie : i = L.length := by omega
            have hd := HD.out
            rw [hie, List.take_length] at hd
            have hnd : na + d = L.length := by have := HDL.out; omega
            have hd16 : d ≤ 16 := by omega
            clear hd hie hil hi HD
            have CWk := Lib.hid (wakes22_any wr (HE.out.below HSc.out.low))
            go_wp2_with (with_reducible first | (refine (CN0.out _).mono ?_; rintro e w6 ⟨rfl, rfl⟩) | (refine CWk.out.mono ?_; rintro e w9 ⟨rfl, hb9⟩))
            go_ret
            exact ⟨rfl, HSc.out.low.trans (hb9.mono HSc.out.low.size)⟩


theorem keptLast_walk (W : World) (hL : laidMetH Tryd.prog laid1 W) (hsh : W.ShapedOpen Tryd.prog) (cs : List Value) (h : RdZ Tryd.prog W 56 cs) :
    Calls Tryd.prog 7 #[.agg cs.toArray] W fun e W' => e = .returned (.bool true) ∧ Below W.heap.size W W' := by
      obtain ⟨vS, vL, S, A, rfl, hS, hA, h1, h2, h3, h4⟩ := script_of W cs h
      exact keptLast_any vS vL S A W ⟨tabs_of_laid hL, mx_of_shape hsh⟩ hS hA h1 h2 h3 h4
namespace keptLast
open Go.ChangeShapes Go.WideShapes Go.ChangeAt
theorem own : ownKnob Tryd.prog.godebug = none := by kernel_rfl
theorem laidOut : laidOutB Tryd.prog = true := by kernel_rfl
set_option maxRecDepth 100000 in
theorem lifted (os : Os) (started : os.Started) (H : Type) (enc : TypeId × Value → H) :
    ReturnsInHanded {} Tryd.checked os 7 .any (fun w args => (Rows.keptLastSpec.pre enc Tryd.prog Tryd.f7 [] false w args ∧ laidMetH Tryd.prog laid1 w) ∧ sizedMet enc Tryd.prog Tryd.f7 (OpenSpec.ofChange Rows.keptLastSpec) false w args)
      (Rows.keptLastSpec.post enc Tryd.prog Tryd.f7 false true false false) := by
  refine handed_shaped_sized (C := Tryd.checked) (X := fun w _ => laidMetH Tryd.prog laid1 w) (fun _ _ _ hh h => h.of_heap hh) own started (by kernel_rfl) Tryd.func7
    (ChangeSpec.witness_shaped (enc := enc) (C := Tryd.checked) (os := os) (X := fun w _ => laidMetH Tryd.prog laid1 w) false (World.laidAll Tryd.prog os laid1) #[.agg #[.slice none 0 0, .slice none 0 0]] 12 (World.laidAll_os _ _ _) (World.shaped_of_ZipB (by kernel_rfl) (by kernel_rfl)) (by kernel_rfl) (by kernel_rfl) (by kernel_rfl) (by rw [MakeChecks.laidMetH_plain _ _ _ (by kernel_rfl)]; exact laidMet_laidAll _ (by kernel_rfl) (by kernel_rfl))) ?_
  intro W base args ds gs before hval0 hW hsz0 hL hsh
  have hsz : (DataW.weightsEach Tryd.prog (Tryd.f7.params.toList ++ Rows.keptLastSpec.plain.varTypes Tryd.prog) (ds ++ gs)).all (· ≤ reachBytes) = true := hsz0
  clear hsz0
  have hval : ∀ (j : Nat) t v, Tryd.f7.params[j]? = some t → args[j]? = some v → Value.okWide Tryd.prog W .any base t v := hval0
  have hW' := hW
  obtain ⟨p, q, hA0, hV, rfl, hfz, hnd⟩ := hW
  have hA : DataW.TrodAll enc Tryd.prog W 0 (fun _ => true) true Tryd.f7.params.toList args.toList ds p := hA0
  rw [Tryd.params7] at hA hval
  obtain ⟨v0, vs0, d0, ds0, p0, q0, hargs, rfl, rfl, h0, r0⟩ := trodAll_cons hA
  obtain ⟨rfl, rfl, rfl⟩ := trodAll_nil r0
  obtain rfl : args = #[v0] := by cases args; simp_all
  obtain ⟨rfl, rfl⟩ := trodVars_none hV
  obtain ⟨cs0, rfl⟩ : ∃ cs0 : Array Value, v0 = .agg cs0 := by
    have h := hval 0 56 v0 rfl rfl
    unfold Value.okWide at h
    rw [Tryd.underlying56] at h
    exact ⟨h.choose, h.choose_spec.1⟩
  have k0 := h0
  have lt0 : ∀ x ∈ p0, x.block < W.heap.size := by obtain ⟨m, hm⟩ := k0; exact DataW.trod_lt m _ _ _ hm
  have hrd : RdZ Tryd.prog W 56 cs0.toList := by obtain ⟨fuel, hf⟩ := h0; exact ⟨H, enc, 0, _, true, fuel, _, hf, by simp only [List.all_eq_true]; intro n hn; exact List.all_eq_true.1 hsz n (DataW.weights_mem_each (j := 0) rfl rfl n hn)⟩
  clear hA0 hval0
  refine (show Calls Tryd.prog 7 _ W (fun e W' => e = .returned (.bool true) ∧ Below W.heap.size W W') from by have := keptLast_walk W hL hsh _ hrd; rwa [Array.toArray_toList] at this).mono fun e W' ⟨he, bel⟩ => ?_
  subst he
  exact ⟨_, rfl, _, _, _, [], _, [], hW', trodAll_mk1 (shut_bool Tryd.underlying4 _), (trodAll_cons_mk (Below.trod laidOut (by kernel_rfl) (of_decide_eq_true (by kernel_rfl)) k0 bel lt0) trodAll_mk0), rfl, bel.frame _, fun h => by cases h⟩
theorem over : Rows.keptLastRow.holds Tryd.pinned (OpenSpec.ofChange Rows.keptLastSpec) :=
  OpenClaim.holds_of_wide 7 Tryd.f7 rfl rfl rfl rfl rfl rfl rfl ⟨rfl, rfl, rfl, rfl, rfl⟩ rfl rfl rfl rfl rfl (by kernel_rfl) Tryd.func7 (by kernel_rfl)
    (of_decide_eq_true (by kernel_rfl)) (by unfold Func.isWrapper; first | (rw [if_pos (by decide +kernel)]; kernel_rfl) | (rw [if_neg (by decide +kernel)]; exact ⟨rfl, rfl⟩))
    (fun os started H enc _ => lifted os started H enc)
/-- THE STATEMENT: the card, its listed variables tied to the program's text. -/
theorem proved : Rows.KeptLastCardSaid :=
  Claim7.holds_tied_plain_at .later [] [.data, .pinned] true _ false
    over (fun _ h => by cases h) (by kernel_rfl) (fun _ h => by cases h) keptLast_row_tie rfl ⟨rfl, rfl⟩ (by kernel_rfl) rfl
    (fun f fn hf hfn => by
      obtain rfl : f = 7 := Option.some.inj ((show Tryd.prog.funcNamed "kiosk/kiosklaw22.KeptLast" = some 7 by kernel_rfl).symm.trans hf) |>.symm
      obtain rfl : fn = Tryd.f7 := (Option.some.inj (Tryd.func7.symm.trans hfn)).symm
      exact ⟨by kernel_rfl, fun j t ht => by
        rw [Tryd.params7] at ht
        have hm : t ∈ [56] := by simpa using Array.mem_of_getElem? ht
        have hall : ([56].all fun u => !Tryd.prog.wantsStandIn u) = true := by kernel_rfl
        exact (show Tryd.prog.wantsStandIn t = false by simpa using List.all_eq_true.1 hall t hm)⟩)
    (by kernel_rfl)
end keptLast
-- CLAIM: KeptLastCardSaid keptLast.proved
end Go.Proofs.YtoibdhncfdjdoaaDoor
