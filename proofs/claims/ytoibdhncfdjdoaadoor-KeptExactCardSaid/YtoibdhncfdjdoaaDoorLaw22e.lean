/-
  The law KeptExact: Whatever is said to be kept, and asked for, each call answers what the page says, or is refused: whatever script is handed in, the law answers true.
-/
import Derived.Test.YtoibdhncfdjdoaaDoorTie
import Derived.Test.YtoibdhncfdjdoaaDoorCards
import Derived.SevenTiedAt
import Derived.ProofKit
import Derived.LaidMore
import Derived.OpenShut
import Derived.Stop.Joined
import Derived.Lay
import Derived.MakeChecks
import Derived.LaidOnce
/-
  What was said last: KeptExact: the walk.
-/
import Derived.Test.YtoibdhncfdjdoaaDoorKeH
import Derived.Test.YtoibdhncfdjdoaaDoorKeY
import Derived.Test.YtoibdhncfdjdoaaDoorWithin
namespace Go.Proofs.YtoibdhncfdjdoaaDoor
open Go.RowKit Go.Lib
theorem SlOf.belowG {α : Type} {w w' : World} {n : Nat} {v : Value} {L : List α} {p : World → Nat → Nat → α → Prop} (hp : ∀ b off q, b < w.heap.size → p w b off q → p w' b off q) (h : SlOf w n p v L) (hb : Below w.heap.size w w') : SlOf w' n p v L := by
  obtain ⟨ao, cap, rfl, h1, h2, h3, h4⟩ := h
  refine ⟨ao, cap, rfl, h1, h2, h3, fun hne => ?_⟩
  obtain ⟨b, off, rfl, hlt, hq⟩ := h4 hne
  exact ⟨b, off, rfl, Nat.lt_of_lt_of_le hlt hb.size, fun i q hi => hp _ _ _ hlt (hq i q hi)⟩
theorem Act22.below {w w' : World} (hb : Below w.heap.size w w') : ∀ b off (q : Act22), b < w.heap.size → Act22.At w b off q → Act22.At w' b off q := by
  intro b off q hlt ⟨h0, h1, h2, h3, h4, h5⟩
  exact ⟨(hb.cell (p := ⟨b, off, none⟩) hlt).trans h0, (hb.cell (p := ⟨b, off + 1, none⟩) hlt).trans h1, (hb.cell (p := ⟨b, off + 2, none⟩) hlt).trans h2, (hb.cell (p := ⟨b, off + 3, none⟩) hlt).trans h3, (hb.cell (p := ⟨b, off + 4, none⟩) hlt).trans h4, (hb.cell (p := ⟨b, off + 5, none⟩) hlt).trans h5⟩
/-- The order of texts, reckoned on their bytes. -/
def slD (a b : ByteArray) : Bool := bl a.data.toList b.data.toList
theorem sl_eq : sl = slD := by
  funext a b
  unfold sl slD
  rw [Lib.toList_data, Lib.toList_data]
def noneD (x : EMessage) : Bool := x.p.data.toList == []
theorem none_eq : noneB = noneD := by
  funext x
  unfold noneB noneD
  rw [Lib.toList_data, Lib.toList_data]
section
variable (s : ByteArray → ByteArray → Bool) (n : EMessage → Bool)
def okS (L : List EMessage) (k : Nat) : Bool :=
  match L[k]? with
  | none => true
  | some x => msgB x && !n x && (match k with | 0 => true | j + 1 => match L[j]? with | some p => s p.t x.t | none => true)
def keptS (L : List EMessage) : Bool := decide (L.length ≤ 16) && (List.range L.length).all (okS s n L)
def placeS (L : List EMessage) (t : ByteArray) : Nat := (L.takeWhile (fun q => s q.t t)).length
def thS (L : List EMessage) (t : ByteArray) : Bool := thereB L t (placeS s L t)
def outS (L : List EMessage) (t : ByteArray) : List EMessage := if thS s L t = true then L.eraseIdx (placeS s L t) else L
def putLS (L : List EMessage) (x : EMessage) : List EMessage := if n x = true then outS s L x.t else (outS s L x.t).take (placeS s L x.t) ++ x :: (outS s L x.t).drop (placeS s L x.t)
def putS (L : List EMessage) (x : EMessage) : List EMessage × Int :=
  if (keptS s n L && msgB x) = true then (if (!n x && !thS s L x.t && decide (L.length = 16)) = true then ([], 5) else (putLS s n L x, 0)) else ([], 1)
end
theorem put_eval (L : List EMessage) (x : EMessage) : putR L x = putS slD noneD L x := by
  rw [show putR L x = putS sl noneB L x from rfl, sl_eq, none_eq]
theorem match_eval (L : List EMessage) (f : ByteArray) : matchR L f = if (keptS slD noneD L && filtB f.data.toList) = true then (L.filter (hitB f), 0) else ([], 1) := by
  rw [show matchR L f = if (keptS sl noneB L && filtB f.data.toList) = true then (L.filter (hitB f), 0) else ([], 1) from rfl, sl_eq, none_eq]
theorem sizes_of {L : List EMessage} (h : (L.all fun y => decide (y.t.size < 1000000)) = true) : ∀ y ∈ L, y.t.size < 1000000 := fun y hy => of_decide_eq_true (List.all_eq_true.1 h y hy)
def wm1 : EMessage := ⟨⟨#[97]⟩, ⟨#[49]⟩, 0, true⟩
def wm2 : EMessage := ⟨⟨#[97]⟩, ⟨#[50]⟩, 0, true⟩
theorem f_wm1 : putR [] wm1 = ([wm1], 0) := by rw [put_eval]; kernel_rfl
theorem f_wm2 : putR [wm1] wm2 = ([wm2], 0) := by rw [put_eval]; kernel_rfl
theorem f_wm3 : matchR [wm2] ⟨#[35]⟩ = ([wm2], 0) := by rw [match_eval]; kernel_rfl
set_option maxRecDepth 100000 in
set_option maxHeartbeats 1000000 in
theorem wakes22_any (w : World) (hE : Env w) :
    Calls Tryd.prog 39 #[] w fun e w' => e = .returned (.bool true) ∧ Below w.heap.size w w' := by
  have HE := Lib.hid hE
  clear hE
  have C1 := Lib.hid (show Calls Tryd.prog 38 #[.slice none 0 0, .agg #[.string ⟨#[97]⟩, .string ⟨#[49]⟩, .int .i64 0, .bool true]] w fun e w' => ∃ v', e = .returned (.tuple #[v', .int .i64 0]) ∧ MsOwn w' w.heap.size v' [wm1] ∧ Below w.heap.size w w' from by
    have := put_any (.slice none 0 0) [] wm1 w HE.out (SlR.nil w 4 : SlR w 4 _ (([] : List EMessage).map rowMessage)).toMs (by simp) (by decide) (by decide)
    rw [f_wm1] at this
    exact this)
  have C2 := Lib.hid (fun W v1 (hb : Below w.heap.size w W) (h1 : SlOf W 4 EMessage.At v1 [wm1]) => (show Calls Tryd.prog 38 #[v1, .agg #[.string ⟨#[97]⟩, .string ⟨#[50]⟩, .int .i64 0, .bool true]] W fun e w' => ∃ v', e = .returned (.tuple #[v', .int .i64 0]) ∧ MsOwn w' W.heap.size v' [wm2] ∧ Below W.heap.size W w' from by
    have := put_any v1 [wm1] wm2 W (HE.out.below hb) h1 (sizes_of (by kernel_rfl)) (by decide) (by decide)
    rw [f_wm2] at this
    exact this))
  have C3 := Lib.hid (fun W v1 (hb : Below w.heap.size w W) (h1 : SlOf W 4 EMessage.At v1 [wm2]) => (show Calls Tryd.prog 33 #[v1, .string ⟨#[35]⟩] W fun e w' => ∃ v', e = .returned (.tuple #[v', .int .i64 0]) ∧ MsOwn w' W.heap.size v' [wm2] ∧ Below W.heap.size W w' from by
    have := match_kept v1 [wm2] ⟨#[35]⟩ W (HE.out.below hb) h1 (sizes_of (by kernel_rfl)) (by decide) (by decide)
    rw [f_wm3] at this
    exact this))
  have CN := Lib.hid (fun W => num22_any 0 W (by omega) (by omega))
  go_enter Tryd.func39, Tryd.ntmps39
  go_wp2_with fail
  (with_reducible refine C1.out.mono ?_)
  rintro e W1 ⟨v1, rfl, ho1, hb1⟩
  have HB1 := Lib.hid hb1
  have HO1 := Lib.hid ho1.of
  clear hb1 ho1 C1
  go_wp2_with fail
  (with_reducible refine (C2.out W1 v1 HB1.out HO1.out).mono ?_)
  rintro e W2 ⟨v2, rfl, ho2, hb2⟩
  have HB2 := Lib.hid (HB1.out.trans (hb2.mono HB1.out.size))
  have HO2 := Lib.hid ho2.of
  clear hb2 ho2 C2 HO1 HB1
  go_wp2_with fail
  (with_reducible refine (C3.out W2 v2 HB2.out HO2.out).mono ?_)
  rintro e W3 ⟨v3, rfl, ho3, hb3⟩
  have HB3 := Lib.hid (HB2.out.trans (hb3.mono HB2.out.size))
  obtain ⟨ao3, cap3, rfl, -, -, -, hB3⟩ := ho3.of
  obtain ⟨b3, off3, rfl, -, hBB3⟩ := hB3 (by simp)
  obtain ⟨-, c1, -, -⟩ := hBB3 0 wm2 rfl
  have d1 : W3.cell? ⟨b3, off3 + 1, none⟩ = some (.string ⟨#[50]⟩) := by have h := c1; rw [show off3 + 0 * 4 + 1 = off3 + 1 by omega] at h; exact h
  have hl1 : ([wm2] : List EMessage).length = 1 := rfl
  clear hb3 ho3 C3 HB2 HO2 hB3 hBB3 c1
  go_wp2_with ((with_reducible refine (CN.out _).mono ?_); rintro e w' ⟨rfl, rfl⟩)
  go_ret
  exact ⟨by first | rfl | simp, HB3.out⟩
/-- The act's own variable. -/
structure Ac22 (W : World) (ba : Nat) (a : Act22) : Prop where
  a0 : W.cell? ⟨ba, 0, none⟩ = some (.int .i64 a.d)
  a1 : W.cell? ⟨ba, 1, none⟩ = some (.string a.t)
  a2 : W.cell? ⟨ba, 2, none⟩ = some (.string a.p)
  a3 : W.cell? ⟨ba, 3, none⟩ = some (.int .i64 a.q)
  a4 : W.cell? ⟨ba, 4, none⟩ = some (.bool a.r)
  a5 : W.cell? ⟨ba, 5, none⟩ = some (.string a.f)
  lt : ba < W.heap.size
theorem Ac22.below {W W' : World} {ba : Nat} {a : Act22} (h : Ac22 W ba a) (hb : Below W.heap.size W W') : Ac22 W' ba a :=
  ⟨(hb.cell (p := ⟨ba, 0, none⟩) h.lt).trans h.a0, (hb.cell (p := ⟨ba, 1, none⟩) h.lt).trans h.a1, (hb.cell (p := ⟨ba, 2, none⟩) h.lt).trans h.a2, (hb.cell (p := ⟨ba, 3, none⟩) h.lt).trans h.a3, (hb.cell (p := ⟨ba, 4, none⟩) h.lt).trans h.a4, (hb.cell (p := ⟨ba, 5, none⟩) h.lt).trans h.a5, Nat.lt_of_lt_of_le h.lt hb.size⟩
theorem match_bad {L : List EMessage} {f : ByteArray} (h : (keptB L && filtB f.data.toList) = false) : matchR L f = ([], 1) := by unfold matchR; rw [if_neg (by rw [h]; exact Bool.false_ne_true)]
theorem match_good {L : List EMessage} {f : ByteArray} (h : keptB L = true) (hf : filtB f.data.toList = true) : matchR L f = (L.filter (hitB f), 0) := by unfold matchR; rw [if_pos (by rw [h, hf]; rfl)]
theorem put_bad {L : List EMessage} {x : EMessage} (h : (keptB L && msgB x) = false) : putR L x = ([], 1) := by unfold putR; rw [if_neg (by rw [h]; exact Bool.false_ne_true)]
theorem out_len (L : List EMessage) (t : ByteArray) : (outL L t).length ≤ L.length := by
  unfold outL; split
  · rw [List.length_eraseIdx]; split <;> omega
  · omega
theorem putL_len (L : List EMessage) (x : EMessage) : (putL L x).length ≤ L.length + 1 := by
  have := out_len L x.t
  unfold putL; split
  · omega
  · rw [List.length_append, List.length_cons, List.length_take, List.length_drop]; omega
theorem out_mem {L : List EMessage} {t : ByteArray} {y : EMessage} (h : y ∈ outL L t) : y ∈ L := by
  unfold outL at h; split at h
  · exact List.mem_of_mem_eraseIdx h
  · exact h
theorem putL_mem {L : List EMessage} {x y : EMessage} (h : y ∈ putL L x) : y ∈ L ∨ y = x := by
  unfold putL at h; split at h
  · exact .inl (out_mem h)
  · rcases List.mem_append.1 h with h | h
    · exact .inl (out_mem (List.mem_of_mem_take h))
    · rcases List.mem_cons.1 h with h | h
      · exact .inr h
      · exact .inl (out_mem (List.mem_of_mem_drop h))
theorem putR_word (L : List EMessage) (x : EMessage) : (putR L x = (putL L x, 0) ∧ keptB L = true ∧ msgB x = true) ∨ (∃ e : Int, putR L x = ([], e) ∧ e ≠ 0 ∧ 0 ≤ e ∧ e ≤ 5) := by
  unfold putR
  cases h : keptB L && msgB x with
  | false => exact .inr ⟨1, rfl, by decide, by decide, by decide⟩
  | true =>
    rw [Bool.and_eq_true] at h
    simp only [if_true]
    split
    · exact .inr ⟨5, rfl, by decide, by decide, by decide⟩
    · exact .inl ⟨rfl, h.1, h.2⟩
set_option maxRecDepth 100000 in
set_option maxHeartbeats 2000000 in
theorem rmay_any (x : EMessage) (w : World) (hf : x.t.size < 1000000) (hE : Env w) :
    Calls Tryd.prog 36 #[.agg #[.string x.t, .string x.p, .int .i64 x.q, .bool x.r]] w fun e w' => e = .returned (.bool (msgB x)) ∧ Below w.heap.size w w' := by
  have CF := Lib.hid (fun W (hb : Below w.heap.size w W) => rmsg_any x W hf (hE.below hb))
  go_enter Tryd.func36, Tryd.ntmps36
  go_wp2_with fail
  refine calls_gen (fun W => Below w.heap.size w W) ((Below.refl _ _).alloc (Nat.le_refl _) _) ?_
  intro W1 hb1
  (with_reducible refine (CF.out W1 hb1).mono ?_)
  rintro e W2 ⟨rfl, hb2⟩
  go_wp2
  go_ret
  exact ⟨rfl, hb1.trans (hb2.mono hb1.size)⟩
set_option maxRecDepth 100000 in
set_option maxHeartbeats 8000000 in
theorem keptExact_any (sS sL : Value) (S : List EMessage) (A : List Act22) (w : World) (hE : Env w) (hS : SlOf w 4 EMessage.At sS S) (hA : SlOf w 6 Act22.At sL A) (hSl : S.length ≤ 140737488351232) (hAl : A.length ≤ 140737488351232) (hFS : ∀ x ∈ S, x.t.size ≤ 140737488351232 ∧ x.p.size ≤ 140737488351232) (hFA : ∀ a ∈ A, a.t.size ≤ 140737488351232 ∧ a.p.size ≤ 140737488351232 ∧ a.f.size ≤ 140737488351232) :
    Calls Tryd.prog 6 #[.agg #[sS, sL]] w fun e w' => e = .returned (.bool true) ∧ Below w.heap.size w w' := by
  have HE := Lib.hid hE
  have HSS := Lib.hid hS
  obtain ⟨aS, cS, rfl, -, -, -, -⟩ := id hS
  obtain ⟨aA, cA, rfl, -, -, -, hBA⟩ := id hA
  have HA := Lib.hid hBA
  obtain ⟨W0, hW0⟩ : ∃ W0, W0 = w.alloc (.cells #[.slice aS S.length cS, .slice aA A.length cA] 56) := ⟨_, rfl⟩
  have hb0 : Below w.heap.size w W0 := by rw [hW0]; exact (Below.refl _ w).alloc (Nat.le_refl _) _
  have hE0 : Sc w W0 w.heap.size (.slice aS S.length cS) (.slice aA A.length cA) := by
    rw [hW0]
    exact ⟨(Below.refl _ w).alloc (Nat.le_refl _) _, by simp [go_sem], by simp [go_sem], by simp⟩
  have CH := Lib.hid (heavy_any _ _ S A W0 ((hS.msR.below hb0).toMs) (hA.belowG (Act22.below hb0) hb0) hSl hAl hFS hFA)
  have HSc0 := Lib.hid hE0
  clear hE hS hA hBA hFS hFA hE0 hb0 hSl hAl
  have CN1 := Lib.hid (fun W => num22_any 1 W (by omega) (by omega))
  have CN0 := Lib.hid (fun W => num22_any 0 W (by omega) (by omega))
  obtain ⟨-, p0, p1, plt⟩ := id HSc0.out
  rw [hW0] at p0 p1 plt
  go_enter Tryd.func6, Tryd.ntmps6
  go_wp2_with fail
  rw [← hW0] at p0 p1 plt ⊢
  clear hW0 p0 p1 plt
  (with_reducible refine CH.out.mono ?_)
  rintro e w1 ⟨b, rfl, hli, hb1⟩
  have HSc1 := Lib.hid (HSc0.out.below hb1)
  clear hb1 CH HSc0
  cases b with
  | true =>
    go_wp2
    go_ret
    exact ⟨rfl, HSc1.out.low⟩
  | false =>
    obtain ⟨hl1, hl2, hl3, hl4⟩ := hli rfl
    clear hli
    have HS3 := Lib.hid (fun x (hx : x ∈ S) => (hl3 x hx).1)
    have HA4 := Lib.hid hl4
    clear hl3 hl4
    have C0 := Lib.hid (copyMs_any _ S w1 (by omega) (HSS.out.msR.below HSc1.out.low))
    obtain ⟨-, p0, p1, plt⟩ := id HSc1.out
    go_wp2_with fail
    (with_reducible refine C0.out.mono ?_)
    rintro e w2 ⟨vl0, rfl, ho2, hb2⟩
    have HSc := Lib.hid (HSc1.out.below hb2)
    have HL := Lib.hid (own_mono ho2 HSc1.out.low.size : MsOwn w2 w.heap.size vl0 S)
    clear hb2 ho2 C0 HSc1 p0 p1 plt
    go_wp2
    go_loopw [3, 4] (fun vl i wr => ∃ (k : Nat) (Lc : List EMessage), k ≤ A.length ∧ i = .int .i64 k ∧ Sc w wr w.heap.size (.slice aS S.length cS) (.slice aA A.length cA) ∧ MsOwn wr w.heap.size vl Lc ∧ Lc.length ≤ 20000 ∧ ∀ x ∈ Lc, x.t.size ≤ 20000) (fun _ i _ => A.length - (RowKit.intOf i).toNat)
    case atStart => exact ⟨0, S, by omega, rfl, HSc.out, HL.out, hl1, HS3.out⟩
    case round =>
      obtain ⟨k, Lc, hk, rfl, hsc, hL, hlc, hls⟩ := hrel
      clear HSc HL
      have HSc := Lib.hid hsc
      have HL := Lib.hid hL
      have HLS := Lib.hid hls
      clear hsc hL hls
      by_cases hgo : k < A.length ∧ k < 25
      · obtain ⟨hlt, h25⟩ := hgo
        have hltz : (k : Int) < (A.length : Int) := by omega
        have h25z : (k : Int) < 25 := by omega
        obtain ⟨b2, off2, rfl, hb2, hBB2⟩ := HA.out (by intro h; simp [h] at hlt)
        obtain ⟨a, hq2⟩ : ∃ a, A[k]? = some a := ⟨_, List.getElem?_eq_getElem hlt⟩
        obtain ⟨y0, y1, y2, y3, y4, y5⟩ := hBB2 _ a hq2
        have d0 := (HSc.out.low.cell (p := ⟨b2, off2 + k * 6, none⟩) hb2).trans y0
        have d1 := (HSc.out.low.cell (p := ⟨b2, off2 + k * 6 + 1, none⟩) hb2).trans y1
        have d2 := (HSc.out.low.cell (p := ⟨b2, off2 + k * 6 + 2, none⟩) hb2).trans y2
        have d3 := (HSc.out.low.cell (p := ⟨b2, off2 + k * 6 + 3, none⟩) hb2).trans y3
        have d4 := (HSc.out.low.cell (p := ⟨b2, off2 + k * 6 + 4, none⟩) hb2).trans y4
        have d5 := (HSc.out.low.cell (p := ⟨b2, off2 + k * 6 + 5, none⟩) hb2).trans y5
        obtain ⟨hta, -, hfa⟩ := HA4.out a (List.mem_of_getElem? hq2)
        clear y0 y1 y2 y3 y4 y5 hBB2 hq2
        obtain ⟨-, p0, p1, plt⟩ := id HSc.out
        go_wp2_with fail
        refine calls_gen (fun W => Below wr.heap.size wr W ∧ Ac22 W wr.heap.size a) ⟨(Below.refl _ wr).alloc (Nat.le_refl _) _, by simp [go_sem], by simp [go_sem], by simp [go_sem], by simp [go_sem], by simp [go_sem], by simp [go_sem], by simp⟩ ?_
        rintro W1 ⟨hb1, hA1⟩
        have HAc := Lib.hid hA1
        have HL1 := Lib.hid (HL.out.below hb1)
        have HS1 := Lib.hid (HSc.out.below hb1)
        clear p0 p1 plt d0 d1 d2 d3 d4 d5 hb1 hA1 HSc HL
        obtain ⟨ba, hba⟩ : ∃ x, x = wr.heap.size := ⟨_, rfl⟩
        rw [← hba] at HAc ⊢
        clear hba
        have T1 := Lib.hid (rkept_any _ Lc W1 (HE.out.below HS1.out.low) HL1.out.of (fun x hx => by have := HLS.out x hx; omega) (by omega))
        (with_reducible refine T1.out.mono ?_)
        rintro e W2 ⟨rfl, hb2'⟩
        have HAc2 := Lib.hid (HAc.out.below hb2')
        have HL2 := Lib.hid (HL1.out.below hb2')
        have HS2 := Lib.hid (HS1.out.below hb2')
        clear hb2' T1 HAc HL1 HS1
        cases hSB : keptB Lc with
        | true =>
          have HSB := Lib.hid hSB
          have T2 := check_any _ Lc W2 (HE.out.below HS2.out.low) HL2.out.of (fun x hx => by have := HLS.out x hx; omega) (by omega)
          rw [hSB, show errN true = .int .i64 0 from rfl] at T2
          clear hSB
          have T2 := Lib.hid T2
          obtain ⟨-, p0, p1, plt⟩ := id HS2.out
          obtain ⟨a0, a1, a2, a3, a4, a5, alt⟩ := id HAc2.out
          go_wp2_with fail
          (with_reducible refine T2.out.mono ?_)
          rintro e W3 ⟨rfl, hb3⟩
          have HS_1 := Lib.hid (HS2.out.below hb3)
          have HA_2 := Lib.hid (HAc2.out.below hb3)
          have HL_3 := Lib.hid (HL2.out.below hb3)
          clear HS2 HAc2 HL2
          clear p0 p1 plt a0 a1 a2 a3 a4 a5 alt
          have T3 := copyMs_any _ Lc W3 (by omega) HL_3.out.slr
          have T3 := Lib.hid T3
          obtain ⟨-, p0, p1, plt⟩ := id HS_1.out
          obtain ⟨a0, a1, a2, a3, a4, a5, alt⟩ := id HA_2.out
          go_wp2_with ((with_reducible refine (CN0.out _).mono ?_); rintro e w' ⟨rfl, rfl⟩)
          (with_reducible refine T3.out.mono ?_)
          rintro e W4 ⟨vi, rfl, ho4, hb4⟩
          have HS_4 := Lib.hid (HS_1.out.below hb4)
          have HA_5 := Lib.hid (HA_2.out.below hb4)
          have HL_6 := Lib.hid (HL_3.out.below hb4)
          clear HS_1 HA_2 HL_3
          clear p0 p1 plt a0 a1 a2 a3 a4 a5 alt
          have HI4 := Lib.hid ho4
          clear hb3 hb4 ho4 T2 T3
          obtain ⟨-, p0, p1, plt⟩ := id HS_4.out
          obtain ⟨a0, a1, a2, a3, a4, a5, alt⟩ := id HA_5.out
          go_wp2_with fail
          refine (within_any a.d 6 _ (by decide) (by decide)).mono ?_
          rintro e w' ⟨rfl, rfl⟩
          obtain ⟨hd0, hd6⟩ := within_bd a.d 6 (by decide)
          obtain ⟨D, hD⟩ : ∃ D, D = within a.d 6 := ⟨_, rfl⟩
          rw [← hD] at hd0 hd6 ⊢
          clear hD
          clear p0 p1 plt a0 a1 a2 a3 a4 a5 alt
          have h16 : Lc.length ≤ 16 := (kept_parts HSB.out).1
          by_cases h4 : 4 ≤ D
          · have Q1 := rfilter_any a.f W4 (by omega) (HE.out.below HS_4.out.low).1
            have Q1 := Lib.hid Q1
            obtain ⟨-, p0, p1, plt⟩ := id HS_4.out
            obtain ⟨a0, a1, a2, a3, a4, a5, alt⟩ := id HA_5.out
            go_wp2_with fail
            (with_reducible refine Q1.out.mono ?_)
            rintro e W4b ⟨rfl, hb5⟩
            have HS_7 := Lib.hid (HS_4.out.below hb5)
            have HA_8 := Lib.hid (HA_5.out.below hb5)
            have HL_9 := Lib.hid (HL_6.out.below hb5)
            have HI_10 := Lib.hid (HI4.out.below hb5)
            clear HS_4 HA_5 HL_6 HI4
            clear p0 p1 plt a0 a1 a2 a3 a4 a5 alt
            clear hb5 Q1
            cases hN : filtB a.f.data.toList with
            | false =>
              obtain ⟨W5, hW5⟩ : ∃ W, W = W4b := ⟨_, rfl⟩
              subst hW5
              have HWt := Lib.hid (MsOwn.nil W5 W5.heap.size)
              have Q2 := match_kept _ Lc a.f W5 (HE.out.below HS_7.out.low) HI_10.out.of (fun x hx => by have := HLS.out x hx; omega) (by omega) (by omega)
              rw [match_bad (by rw [hN, Bool.and_false])] at Q2
              clear hN
              have Q2 := Lib.hid Q2
              obtain ⟨-, p0, p1, plt⟩ := id HS_7.out
              obtain ⟨a0, a1, a2, a3, a4, a5, alt⟩ := id HA_8.out
              go_wp2_with fail
              (with_reducible refine Q2.out.mono ?_)
              rintro e W6 ⟨vx, rfl, hox, hb6⟩
              have HC := Lib.hid hb6
              have HX := Lib.hid hox
              clear p0 p1 plt a0 a1 a2 a3 a4 a5 alt
              clear hb6 hox Q2
              have CE := Lib.hid (fun W => num22_any (1) W (by omega) (by omega))
              have E1 := Lib.hid (eqMs_same _ _ (([] : List EMessage)) W6 (by simp) HX.out.slr (HWt.out.below HC.out).slr)
              obtain ⟨-, p0, p1, plt⟩ := id (HS_7.out.below HC.out)
              obtain ⟨a0, a1, a2, a3, a4, a5, alt⟩ := id (HA_8.out.below HC.out)
              go_wp2_with (first | (go_at_call 29; (with_reducible refine (CE.out _).mono ?_); rintro e w' ⟨rfl, rfl⟩))
              (with_reducible refine E1.out.mono ?_)
              rintro e W7 ⟨rfl, hb11⟩
              have HC7 := Lib.hid (HC.out.trans (hb11.mono HC.out.size))
              clear p0 p1 plt a0 a1 a2 a3 a4 a5 alt
              clear E1
              have HX7 := Lib.hid (HX.out.below hb11)
              clear hb11 HX
              have HX8 := Lib.hid HX7.out
              have HC8 := Lib.hid HC7.out
              clear HX7 HC7
              have P1 := Lib.hid (spoilMs_any W5.heap.size _ (([] : List EMessage)) W7 HX8.out HC8.out.size (by simp))
              go_wp2_with fail
              (with_reducible refine P1.out.mono ?_)
              rintro e W9 ⟨rfl, hb9⟩
              have HC9 := Lib.hid (HC8.out.trans hb9)
              clear hb9 P1 HX8
              have E3 := Lib.hid (eqMs_same _ _ Lc W9 (by omega) (HI_10.out.below HC9.out).slr (HL_9.out.below HC9.out).slr)
              obtain ⟨-, p0, p1, plt⟩ := id (HS_7.out.below HC9.out)
              obtain ⟨a0, a1, a2, a3, a4, a5, alt⟩ := id (HA_8.out.below HC9.out)
              go_wp2_with fail
              (with_reducible refine E3.out.mono ?_)
              rintro e Wa ⟨rfl, hb12⟩
              have HCa := Lib.hid (HC9.out.trans (hb12.mono HC9.out.size))
              clear p0 p1 plt a0 a1 a2 a3 a4 a5 alt
              clear E3
              clear hb12
              go_wp2
              go_roundw
              case rel => exact ⟨k + 1, Lc, by omega, by go_num, HS_7.out.below HCa.out, HL_9.out.below HCa.out, hlc, HLS.out⟩
              case measure => simp [RowKit.intOf]; omega
            | true =>
              have Q3 := rfind_any _ Lc a.f W4b HL_9.out.of (fun x hx => msg_name (kept_all HSB.out x hx).1) (fun x hx => by have := HLS.out x hx; omega) (by omega) hN (by omega)
              have hfl : (Lc.filter (hitB a.f)).length ≤ 16 := Nat.le_trans (List.length_filter_le _ _) h16
              have hmg := match_good HSB.out hN
              clear hN
              obtain ⟨F, hF⟩ : ∃ F, Lc.filter (hitB a.f) = F := ⟨_, rfl⟩
              rw [hF] at Q3 hfl hmg
              clear hF
              have Q3 := Lib.hid Q3
              obtain ⟨-, p0, p1, plt⟩ := id HS_7.out
              obtain ⟨a0, a1, a2, a3, a4, a5, alt⟩ := id HA_8.out
              go_wp2_with fail
              (with_reducible refine Q3.out.mono ?_)
              rintro e W5 ⟨vw, rfl, how, hb5⟩
              have HS_13 := Lib.hid (HS_7.out.below hb5)
              have HA_14 := Lib.hid (HA_8.out.below hb5)
              have HL_15 := Lib.hid (HL_9.out.below hb5)
              have HI_16 := Lib.hid (HI_10.out.below hb5)
              clear HS_7 HA_8 HL_9 HI_10
              clear p0 p1 plt a0 a1 a2 a3 a4 a5 alt
              have HWt := Lib.hid how
              clear hb5 how Q3
              have Q2 := match_kept _ Lc a.f W5 (HE.out.below HS_13.out.low) HI_16.out.of (fun x hx => by have := HLS.out x hx; omega) (by omega) (by omega)
              rw [hmg] at Q2
              clear hmg
              have Q2 := Lib.hid Q2
              obtain ⟨-, p0, p1, plt⟩ := id HS_13.out
              obtain ⟨a0, a1, a2, a3, a4, a5, alt⟩ := id HA_14.out
              go_wp2_with fail
              (with_reducible refine Q2.out.mono ?_)
              rintro e W6 ⟨vx, rfl, hox, hb6⟩
              have HC := Lib.hid hb6
              have HX := Lib.hid hox
              clear p0 p1 plt a0 a1 a2 a3 a4 a5 alt
              clear hb6 hox Q2
              have CE := Lib.hid (fun W => num22_any (0) W (by omega) (by omega))
              have E1 := Lib.hid (eqMs_same _ _ (F) W6 (by omega) HX.out.slr (HWt.out.below HC.out).slr)
              obtain ⟨-, p0, p1, plt⟩ := id (HS_13.out.below HC.out)
              obtain ⟨a0, a1, a2, a3, a4, a5, alt⟩ := id (HA_14.out.below HC.out)
              go_wp2_with (first | (go_at_call 29; (with_reducible refine (CE.out _).mono ?_); rintro e w' ⟨rfl, rfl⟩))
              (with_reducible refine E1.out.mono ?_)
              rintro e W7 ⟨rfl, hb17⟩
              have HC7 := Lib.hid (HC.out.trans (hb17.mono HC.out.size))
              clear p0 p1 plt a0 a1 a2 a3 a4 a5 alt
              clear E1
              have HX7 := Lib.hid (HX.out.below hb17)
              clear hb17 HX
              have HX8 := Lib.hid HX7.out
              have HC8 := Lib.hid HC7.out
              clear HX7 HC7
              have P1 := Lib.hid (spoilMs_any W5.heap.size _ (F) W7 HX8.out HC8.out.size (by omega))
              go_wp2_with fail
              (with_reducible refine P1.out.mono ?_)
              rintro e W9 ⟨rfl, hb9⟩
              have HC9 := Lib.hid (HC8.out.trans hb9)
              clear hb9 P1 HX8
              have E3 := Lib.hid (eqMs_same _ _ Lc W9 (by omega) (HI_16.out.below HC9.out).slr (HL_15.out.below HC9.out).slr)
              obtain ⟨-, p0, p1, plt⟩ := id (HS_13.out.below HC9.out)
              obtain ⟨a0, a1, a2, a3, a4, a5, alt⟩ := id (HA_14.out.below HC9.out)
              go_wp2_with fail
              (with_reducible refine E3.out.mono ?_)
              rintro e Wa ⟨rfl, hb18⟩
              have HCa := Lib.hid (HC9.out.trans (hb18.mono HC9.out.size))
              clear p0 p1 plt a0 a1 a2 a3 a4 a5 alt
              clear E3
              clear hb18
              go_wp2
              go_roundw
              case rel => exact ⟨k + 1, Lc, by omega, by go_num, HS_13.out.below HCa.out, HL_15.out.below HCa.out, hlc, HLS.out⟩
              case measure => simp [RowKit.intOf]; omega
          · obtain ⟨x, hx⟩ : ∃ x : EMessage, x = ⟨a.t, a.p, a.q, a.r⟩ := ⟨_, rfl⟩
            have HXE := Lib.hid hx
            have hxf : x.t.size ≤ 20000 := by rw [hx]; exact hta
            have hxa : (Value.agg #[.string a.t, .string a.p, .int .i64 a.q, .bool a.r]) = .agg #[.string x.t, .string x.p, .int .i64 x.q, .bool x.r] := by rw [hx]
            have HXA := Lib.hid hxa
            clear hx hxa
            have Q1 := (show Calls Tryd.prog 36 #[.agg #[.string a.t, .string a.p, .int .i64 a.q, .bool a.r]] W4 fun e w' => e = .returned (.bool (msgB x)) ∧ Below W4.heap.size W4 w' from by rw [HXA.out]; exact rmay_any x W4 (by omega) (HE.out.below HS_4.out.low))
            have Q1 := Lib.hid Q1
            obtain ⟨-, p0, p1, plt⟩ := id HS_4.out
            obtain ⟨a0, a1, a2, a3, a4, a5, alt⟩ := id HA_5.out
            go_wp2_with fail
            (with_reducible refine Q1.out.mono ?_)
            rintro e W4b ⟨rfl, hb5⟩
            have HS_19 := Lib.hid (HS_4.out.below hb5)
            have HA_20 := Lib.hid (HA_5.out.below hb5)
            have HL_21 := Lib.hid (HL_6.out.below hb5)
            have HI_22 := Lib.hid (HI4.out.below hb5)
            clear HS_4 HA_5 HL_6 HI4
            clear p0 p1 plt a0 a1 a2 a3 a4 a5 alt
            clear hb5 Q1
            cases hwx : msgB x with
            | false =>
              obtain ⟨W5, hW5⟩ : ∃ W, W = W4b := ⟨_, rfl⟩
              subst hW5
              have HWt := Lib.hid (MsOwn.nil W5 W5.heap.size)
              have Q2 := (show Calls Tryd.prog 38 #[_, .agg #[.string a.t, .string a.p, .int .i64 a.q, .bool a.r]] W5 fun e w' => _ from by rw [HXA.out]; exact put_any _ Lc x W5 (HE.out.below HS_19.out.low) HI_22.out.of (fun x hx => by have := HLS.out x hx; omega) (by omega) (by omega))
              rw [put_bad (by rw [hwx, Bool.and_false])] at Q2
              clear hwx
              have Q2 := Lib.hid Q2
              obtain ⟨-, p0, p1, plt⟩ := id HS_19.out
              obtain ⟨a0, a1, a2, a3, a4, a5, alt⟩ := id HA_20.out
              go_wp2_with fail
              (with_reducible refine Q2.out.mono ?_)
              rintro e W6 ⟨vx, rfl, hox, hb6⟩
              have HC := Lib.hid hb6
              have HX := Lib.hid hox
              clear p0 p1 plt a0 a1 a2 a3 a4 a5 alt
              clear hb6 hox Q2
              have CE := Lib.hid (fun W => num22_any (1) W (by omega) (by omega))
              have E1 := Lib.hid (eqMs_same _ _ (([] : List EMessage)) W6 (by simp) HX.out.slr (HWt.out.below HC.out).slr)
              obtain ⟨-, p0, p1, plt⟩ := id (HS_19.out.below HC.out)
              obtain ⟨a0, a1, a2, a3, a4, a5, alt⟩ := id (HA_20.out.below HC.out)
              go_wp2_with (first | (go_at_call 29; (with_reducible refine (CE.out _).mono ?_); rintro e w' ⟨rfl, rfl⟩))
              (with_reducible refine E1.out.mono ?_)
              rintro e W7 ⟨rfl, hb23⟩
              have HC7 := Lib.hid (HC.out.trans (hb23.mono HC.out.size))
              clear p0 p1 plt a0 a1 a2 a3 a4 a5 alt
              clear E1
              have HX7 := Lib.hid (HX.out.below hb23)
              clear hb23 HX
              have E2 := Lib.hid (eqMs_same _ _ Lc W7 (by omega) (HI_22.out.below HC7.out).slr (HL_21.out.below HC7.out).slr)
              obtain ⟨-, p0, p1, plt⟩ := id (HS_19.out.below HC7.out)
              obtain ⟨a0, a1, a2, a3, a4, a5, alt⟩ := id (HA_20.out.below HC7.out)
              go_wp2_with fail
              (with_reducible refine E2.out.mono ?_)
              rintro e W8 ⟨rfl, hb24⟩
              have HC8 := Lib.hid (HC7.out.trans (hb24.mono HC7.out.size))
              clear p0 p1 plt a0 a1 a2 a3 a4 a5 alt
              clear E2
              have HX8 := Lib.hid (HX7.out.below hb24)
              clear hb24 HX7
              have P1 := Lib.hid (spoilMs_any W5.heap.size _ (([] : List EMessage)) W8 HX8.out HC8.out.size (by simp))
              go_wp2_with fail
              (with_reducible refine P1.out.mono ?_)
              rintro e W9 ⟨rfl, hb9⟩
              have HC9 := Lib.hid (HC8.out.trans hb9)
              clear hb9 P1 HX8
              have E3 := Lib.hid (eqMs_same _ _ Lc W9 (by omega) (HI_22.out.below HC9.out).slr (HL_21.out.below HC9.out).slr)
              obtain ⟨-, p0, p1, plt⟩ := id (HS_19.out.below HC9.out)
              obtain ⟨a0, a1, a2, a3, a4, a5, alt⟩ := id (HA_20.out.below HC9.out)
              go_wp2_with fail
              (with_reducible refine E3.out.mono ?_)
              rintro e Wa ⟨rfl, hb25⟩
              have HCa := Lib.hid (HC9.out.trans (hb25.mono HC9.out.size))
              clear p0 p1 plt a0 a1 a2 a3 a4 a5 alt
              clear E3
              clear hb25
              go_wp2
              go_roundw
              case rel => exact ⟨k + 1, Lc, by omega, by go_num, HS_19.out.below HCa.out, HL_21.out.below HCa.out, hlc, HLS.out⟩
              case measure => simp [RowKit.intOf]; omega
            | true =>
              have Q1 := (show Calls Tryd.prog 37 #[_, .agg #[.string a.t, .string a.p, .int .i64 a.q, .bool a.r]] W4b fun e w' => _ from by rw [HXA.out]; exact rput_any _ Lc x W4b HL_21.out.of (kept_rising HSB.out) (by omega))
              rw [rput_eq HSB.out hwx] at Q1
              clear hwx
              have hal := putL_len Lc x
              rcases putR_word Lc x with ⟨hr, -, -⟩ | ⟨er, hr, her, he0, he5⟩
              · rw [hr] at Q1
                have Q1 := Lib.hid Q1
                obtain ⟨-, p0, p1, plt⟩ := id HS_19.out
                obtain ⟨a0, a1, a2, a3, a4, a5, alt⟩ := id HA_20.out
                go_wp2_with fail
                (with_reducible refine Q1.out.mono ?_)
                rintro e W5 ⟨vw, rfl, how, hb5⟩
                have HS_26 := Lib.hid (HS_19.out.below hb5)
                have HA_27 := Lib.hid (HA_20.out.below hb5)
                have HL_28 := Lib.hid (HL_21.out.below hb5)
                have HI_29 := Lib.hid (HI_22.out.below hb5)
                clear HS_19 HA_20 HL_21 HI_22
                clear p0 p1 plt a0 a1 a2 a3 a4 a5 alt
                have HWt := Lib.hid how
                clear hb5 how Q1
                have HXS := Lib.hid (show ∀ y ∈ putL Lc x, y.t.size ≤ 20000 from fun y hy => by rcases putL_mem hy with h | rfl; exact HLS.out y h; exact hxf)
                have Q2 := (show Calls Tryd.prog 38 #[_, .agg #[.string a.t, .string a.p, .int .i64 a.q, .bool a.r]] W5 fun e w' => _ from by rw [HXA.out]; exact put_any _ Lc x W5 (HE.out.below HS_26.out.low) HI_29.out.of (fun x hx => by have := HLS.out x hx; omega) (by omega) (by omega))
                rw [hr] at Q2
                clear hr
                have Q2 := Lib.hid Q2
                obtain ⟨-, p0, p1, plt⟩ := id HS_26.out
                obtain ⟨a0, a1, a2, a3, a4, a5, alt⟩ := id HA_27.out
                go_wp2_with fail
                (with_reducible refine Q2.out.mono ?_)
                rintro e W6 ⟨vx, rfl, hox, hb6⟩
                have HC := Lib.hid hb6
                have HX := Lib.hid hox
                clear p0 p1 plt a0 a1 a2 a3 a4 a5 alt
                clear hb6 hox Q2
                have CE := Lib.hid (fun W => num22_any (0) W (by omega) (by omega))
                have E1 := Lib.hid (eqMs_same _ _ (putL Lc x) W6 (by omega) HX.out.slr (HWt.out.below HC.out).slr)
                obtain ⟨-, p0, p1, plt⟩ := id (HS_26.out.below HC.out)
                obtain ⟨a0, a1, a2, a3, a4, a5, alt⟩ := id (HA_27.out.below HC.out)
                go_wp2_with (first | (go_at_call 29; (with_reducible refine (CE.out _).mono ?_); rintro e w' ⟨rfl, rfl⟩))
                (with_reducible refine E1.out.mono ?_)
                rintro e W7 ⟨rfl, hb30⟩
                have HC7 := Lib.hid (HC.out.trans (hb30.mono HC.out.size))
                clear p0 p1 plt a0 a1 a2 a3 a4 a5 alt
                clear E1
                have HX7 := Lib.hid (HX.out.below hb30)
                clear hb30 HX
                have E2 := Lib.hid (eqMs_same _ _ Lc W7 (by omega) (HI_29.out.below HC7.out).slr (HL_28.out.below HC7.out).slr)
                obtain ⟨-, p0, p1, plt⟩ := id (HS_26.out.below HC7.out)
                obtain ⟨a0, a1, a2, a3, a4, a5, alt⟩ := id (HA_27.out.below HC7.out)
                go_wp2_with fail
                (with_reducible refine E2.out.mono ?_)
                rintro e W8 ⟨rfl, hb31⟩
                have HC8 := Lib.hid (HC7.out.trans (hb31.mono HC7.out.size))
                clear p0 p1 plt a0 a1 a2 a3 a4 a5 alt
                clear E2
                have HX8 := Lib.hid (HX7.out.below hb31)
                clear hb31 HX7
                have P1 := Lib.hid (spoilMs_any W5.heap.size _ (putL Lc x) W8 HX8.out HC8.out.size (by omega))
                go_wp2_with fail
                (with_reducible refine P1.out.mono ?_)
                rintro e W9 ⟨rfl, hb9⟩
                have HC9 := Lib.hid (HC8.out.trans hb9)
                clear hb9 P1 HX8
                have E3 := Lib.hid (eqMs_same _ _ Lc W9 (by omega) (HI_29.out.below HC9.out).slr (HL_28.out.below HC9.out).slr)
                obtain ⟨-, p0, p1, plt⟩ := id (HS_26.out.below HC9.out)
                obtain ⟨a0, a1, a2, a3, a4, a5, alt⟩ := id (HA_27.out.below HC9.out)
                go_wp2_with fail
                (with_reducible refine E3.out.mono ?_)
                rintro e Wa ⟨rfl, hb32⟩
                have HCa := Lib.hid (HC9.out.trans (hb32.mono HC9.out.size))
                clear p0 p1 plt a0 a1 a2 a3 a4 a5 alt
                clear E3
                clear hb32
                have K2 := Lib.hid (copyMs_any _ (putL Lc x) Wa (by omega) (HWt.out.below HCa.out).slr)
                go_wp2_with fail
                (with_reducible refine K2.out.mono ?_)
                rintro e Wb ⟨vb, rfl, hob, hbb⟩
                have HCb := Lib.hid (HCa.out.trans (hbb.mono HCa.out.size))
                have HLb := Lib.hid (own_mono hob (HS_26.out.below HCa.out).low.size : MsOwn Wb w.heap.size vb (putL Lc x))
                clear hbb hob K2
                go_wp2
                go_roundw
                case rel => exact ⟨k + 1, putL Lc x, by omega, by go_num, HS_26.out.below HCb.out, HLb.out, by omega, HXS.out⟩
                case measure => simp [RowKit.intOf]; omega
              · rw [hr] at Q1
                have Q1 := Lib.hid Q1
                obtain ⟨-, p0, p1, plt⟩ := id HS_19.out
                obtain ⟨a0, a1, a2, a3, a4, a5, alt⟩ := id HA_20.out
                go_wp2_with fail
                (with_reducible refine Q1.out.mono ?_)
                rintro e W5 ⟨vw, rfl, how, hb5⟩
                have HS_33 := Lib.hid (HS_19.out.below hb5)
                have HA_34 := Lib.hid (HA_20.out.below hb5)
                have HL_35 := Lib.hid (HL_21.out.below hb5)
                have HI_36 := Lib.hid (HI_22.out.below hb5)
                clear HS_19 HA_20 HL_21 HI_22
                clear p0 p1 plt a0 a1 a2 a3 a4 a5 alt
                have HWt := Lib.hid how
                clear hb5 how Q1
                have herb : (er == 0) = false := by simpa using her
                have Q2 := (show Calls Tryd.prog 38 #[_, .agg #[.string a.t, .string a.p, .int .i64 a.q, .bool a.r]] W5 fun e w' => _ from by rw [HXA.out]; exact put_any _ Lc x W5 (HE.out.below HS_33.out.low) HI_36.out.of (fun x hx => by have := HLS.out x hx; omega) (by omega) (by omega))
                rw [hr] at Q2
                clear hr
                have Q2 := Lib.hid Q2
                obtain ⟨-, p0, p1, plt⟩ := id HS_33.out
                obtain ⟨a0, a1, a2, a3, a4, a5, alt⟩ := id HA_34.out
                go_wp2_with fail
                (with_reducible refine Q2.out.mono ?_)
                rintro e W6 ⟨vx, rfl, hox, hb6⟩
                have HC := Lib.hid hb6
                have HX := Lib.hid hox
                clear p0 p1 plt a0 a1 a2 a3 a4 a5 alt
                clear hb6 hox Q2
                have CE := Lib.hid (fun W => num22_any (er) W (by omega) (by omega))
                have E1 := Lib.hid (eqMs_same _ _ (([] : List EMessage)) W6 (by simp) HX.out.slr (HWt.out.below HC.out).slr)
                obtain ⟨-, p0, p1, plt⟩ := id (HS_33.out.below HC.out)
                obtain ⟨a0, a1, a2, a3, a4, a5, alt⟩ := id (HA_34.out.below HC.out)
                go_wp2_with (first | (go_at_call 29; (with_reducible refine (CE.out _).mono ?_); rintro e w' ⟨rfl, rfl⟩))
                (with_reducible refine E1.out.mono ?_)
                rintro e W7 ⟨rfl, hb37⟩
                have HC7 := Lib.hid (HC.out.trans (hb37.mono HC.out.size))
                clear p0 p1 plt a0 a1 a2 a3 a4 a5 alt
                clear E1
                have HX7 := Lib.hid (HX.out.below hb37)
                clear hb37 HX
                have E2 := Lib.hid (eqMs_same _ _ Lc W7 (by omega) (HI_36.out.below HC7.out).slr (HL_35.out.below HC7.out).slr)
                obtain ⟨-, p0, p1, plt⟩ := id (HS_33.out.below HC7.out)
                obtain ⟨a0, a1, a2, a3, a4, a5, alt⟩ := id (HA_34.out.below HC7.out)
                go_wp2_with fail
                (with_reducible refine E2.out.mono ?_)
                rintro e W8 ⟨rfl, hb38⟩
                have HC8 := Lib.hid (HC7.out.trans (hb38.mono HC7.out.size))
                clear p0 p1 plt a0 a1 a2 a3 a4 a5 alt
                clear E2
                have HX8 := Lib.hid (HX7.out.below hb38)
                clear hb38 HX7
                have P1 := Lib.hid (spoilMs_any W5.heap.size _ (([] : List EMessage)) W8 HX8.out HC8.out.size (by simp))
                go_wp2_with fail
                (with_reducible refine P1.out.mono ?_)
                rintro e W9 ⟨rfl, hb9⟩
                have HC9 := Lib.hid (HC8.out.trans hb9)
                clear hb9 P1 HX8
                have E3 := Lib.hid (eqMs_same _ _ Lc W9 (by omega) (HI_36.out.below HC9.out).slr (HL_35.out.below HC9.out).slr)
                obtain ⟨-, p0, p1, plt⟩ := id (HS_33.out.below HC9.out)
                obtain ⟨a0, a1, a2, a3, a4, a5, alt⟩ := id (HA_34.out.below HC9.out)
                go_wp2_with fail
                (with_reducible refine E3.out.mono ?_)
                rintro e Wa ⟨rfl, hb39⟩
                have HCa := Lib.hid (HC9.out.trans (hb39.mono HC9.out.size))
                clear p0 p1 plt a0 a1 a2 a3 a4 a5 alt
                clear E3
                clear hb39
                go_wp2
                go_roundw
                case rel => exact ⟨k + 1, Lc, by omega, by go_num, HS_33.out.below HCa.out, HL_35.out.below HCa.out, hlc, HLS.out⟩
                case measure => simp [RowKit.intOf]; omega
        | false =>
          have HSB := Lib.hid hSB
          have T2 := check_any _ Lc W2 (HE.out.below HS2.out.low) HL2.out.of (fun x hx => by have := HLS.out x hx; omega) (by omega)
          rw [hSB, show errN false = .int .i64 1 from rfl] at T2
          clear hSB
          have T2 := Lib.hid T2
          obtain ⟨-, p0, p1, plt⟩ := id HS2.out
          obtain ⟨a0, a1, a2, a3, a4, a5, alt⟩ := id HAc2.out
          go_wp2_with fail
          (with_reducible refine T2.out.mono ?_)
          rintro e W3 ⟨rfl, hb3⟩
          have HS_40 := Lib.hid (HS2.out.below hb3)
          have HA_41 := Lib.hid (HAc2.out.below hb3)
          have HL_42 := Lib.hid (HL2.out.below hb3)
          clear HS2 HAc2 HL2
          clear p0 p1 plt a0 a1 a2 a3 a4 a5 alt
          have T3 := copyMs_any _ Lc W3 (by omega) HL_42.out.slr
          have T3 := Lib.hid T3
          obtain ⟨-, p0, p1, plt⟩ := id HS_40.out
          obtain ⟨a0, a1, a2, a3, a4, a5, alt⟩ := id HA_41.out
          go_wp2_with ((with_reducible refine (CN1.out _).mono ?_); rintro e w' ⟨rfl, rfl⟩)
          (with_reducible refine T3.out.mono ?_)
          rintro e W4 ⟨vi, rfl, ho4, hb4⟩
          have HS_43 := Lib.hid (HS_40.out.below hb4)
          have HA_44 := Lib.hid (HA_41.out.below hb4)
          have HL_45 := Lib.hid (HL_42.out.below hb4)
          clear HS_40 HA_41 HL_42
          clear p0 p1 plt a0 a1 a2 a3 a4 a5 alt
          have HI4 := Lib.hid ho4
          clear hb3 hb4 ho4 T2 T3
          obtain ⟨-, p0, p1, plt⟩ := id HS_43.out
          obtain ⟨a0, a1, a2, a3, a4, a5, alt⟩ := id HA_44.out
          go_wp2_with fail
          refine (within_any a.d 6 _ (by decide) (by decide)).mono ?_
          rintro e w' ⟨rfl, rfl⟩
          obtain ⟨hd0, hd6⟩ := within_bd a.d 6 (by decide)
          obtain ⟨D, hD⟩ : ∃ D, D = within a.d 6 := ⟨_, rfl⟩
          rw [← hD] at hd0 hd6 ⊢
          clear hD
          clear p0 p1 plt a0 a1 a2 a3 a4 a5 alt
          by_cases h4 : 4 ≤ D
          · obtain ⟨W5, hW5⟩ : ∃ W, W = W4 := ⟨_, rfl⟩
            subst hW5
            have HWt := Lib.hid (MsOwn.nil W5 W5.heap.size)
            have Q2 := match_kept _ Lc a.f W5 (HE.out.below HS_43.out.low) HI4.out.of (fun x hx => by have := HLS.out x hx; omega) (by omega) (by omega)
            rw [match_bad (by rw [HSB.out, Bool.false_and])] at Q2
            have Q2 := Lib.hid Q2
            obtain ⟨-, p0, p1, plt⟩ := id HS_43.out
            obtain ⟨a0, a1, a2, a3, a4, a5, alt⟩ := id HA_44.out
            go_wp2_with fail
            (with_reducible refine Q2.out.mono ?_)
            rintro e W6 ⟨vx, rfl, hox, hb6⟩
            have HC := Lib.hid hb6
            have HX := Lib.hid hox
            clear p0 p1 plt a0 a1 a2 a3 a4 a5 alt
            clear hb6 hox Q2
            have CE := Lib.hid (fun W => num22_any (1) W (by omega) (by omega))
            have E1 := Lib.hid (eqMs_same _ _ (([] : List EMessage)) W6 (by simp) HX.out.slr (HWt.out.below HC.out).slr)
            obtain ⟨-, p0, p1, plt⟩ := id (HS_43.out.below HC.out)
            obtain ⟨a0, a1, a2, a3, a4, a5, alt⟩ := id (HA_44.out.below HC.out)
            go_wp2_with (first | (go_at_call 29; (with_reducible refine (CE.out _).mono ?_); rintro e w' ⟨rfl, rfl⟩))
            (with_reducible refine E1.out.mono ?_)
            rintro e W7 ⟨rfl, hb46⟩
            have HC7 := Lib.hid (HC.out.trans (hb46.mono HC.out.size))
            clear p0 p1 plt a0 a1 a2 a3 a4 a5 alt
            clear E1
            have HX7 := Lib.hid (HX.out.below hb46)
            clear hb46 HX
            have HX8 := Lib.hid HX7.out
            have HC8 := Lib.hid HC7.out
            clear HX7 HC7
            have P1 := Lib.hid (spoilMs_any W5.heap.size _ (([] : List EMessage)) W7 HX8.out HC8.out.size (by simp))
            go_wp2_with fail
            (with_reducible refine P1.out.mono ?_)
            rintro e W9 ⟨rfl, hb9⟩
            have HC9 := Lib.hid (HC8.out.trans hb9)
            clear hb9 P1 HX8
            have E3 := Lib.hid (eqMs_same _ _ Lc W9 (by omega) (HI4.out.below HC9.out).slr (HL_45.out.below HC9.out).slr)
            obtain ⟨-, p0, p1, plt⟩ := id (HS_43.out.below HC9.out)
            obtain ⟨a0, a1, a2, a3, a4, a5, alt⟩ := id (HA_44.out.below HC9.out)
            go_wp2_with fail
            (with_reducible refine E3.out.mono ?_)
            rintro e Wa ⟨rfl, hb47⟩
            have HCa := Lib.hid (HC9.out.trans (hb47.mono HC9.out.size))
            clear p0 p1 plt a0 a1 a2 a3 a4 a5 alt
            clear E3
            clear hb47
            go_wp2
            go_roundw
            case rel => exact ⟨k + 1, Lc, by omega, by go_num, HS_43.out.below HCa.out, HL_45.out.below HCa.out, hlc, HLS.out⟩
            case measure => simp [RowKit.intOf]; omega
          · obtain ⟨x, hx⟩ : ∃ x : EMessage, x = ⟨a.t, a.p, a.q, a.r⟩ := ⟨_, rfl⟩
            have HXE := Lib.hid hx
            have hxf : x.t.size ≤ 20000 := by rw [hx]; exact hta
            have hxa : (Value.agg #[.string a.t, .string a.p, .int .i64 a.q, .bool a.r]) = .agg #[.string x.t, .string x.p, .int .i64 x.q, .bool x.r] := by rw [hx]
            have HXA := Lib.hid hxa
            clear hx hxa
            obtain ⟨W5, hW5⟩ : ∃ W, W = W4 := ⟨_, rfl⟩
            subst hW5
            have HWt := Lib.hid (MsOwn.nil W5 W5.heap.size)
            have Q2 := (show Calls Tryd.prog 38 #[_, .agg #[.string a.t, .string a.p, .int .i64 a.q, .bool a.r]] W5 fun e w' => _ from by rw [HXA.out]; exact put_any _ Lc x W5 (HE.out.below HS_43.out.low) HI4.out.of (fun x hx => by have := HLS.out x hx; omega) (by omega) (by omega))
            rw [put_bad (by rw [HSB.out, Bool.false_and])] at Q2
            have Q2 := Lib.hid Q2
            obtain ⟨-, p0, p1, plt⟩ := id HS_43.out
            obtain ⟨a0, a1, a2, a3, a4, a5, alt⟩ := id HA_44.out
            go_wp2_with fail
            (with_reducible refine Q2.out.mono ?_)
            rintro e W6 ⟨vx, rfl, hox, hb6⟩
            have HC := Lib.hid hb6
            have HX := Lib.hid hox
            clear p0 p1 plt a0 a1 a2 a3 a4 a5 alt
            clear hb6 hox Q2
            have CE := Lib.hid (fun W => num22_any (1) W (by omega) (by omega))
            have E1 := Lib.hid (eqMs_same _ _ (([] : List EMessage)) W6 (by simp) HX.out.slr (HWt.out.below HC.out).slr)
            obtain ⟨-, p0, p1, plt⟩ := id (HS_43.out.below HC.out)
            obtain ⟨a0, a1, a2, a3, a4, a5, alt⟩ := id (HA_44.out.below HC.out)
            go_wp2_with (first | (go_at_call 29; (with_reducible refine (CE.out _).mono ?_); rintro e w' ⟨rfl, rfl⟩))
            (with_reducible refine E1.out.mono ?_)
            rintro e W7 ⟨rfl, hb48⟩
            have HC7 := Lib.hid (HC.out.trans (hb48.mono HC.out.size))
            clear p0 p1 plt a0 a1 a2 a3 a4 a5 alt
            clear E1
            have HX7 := Lib.hid (HX.out.below hb48)
            clear hb48 HX
            have E2 := Lib.hid (eqMs_same _ _ Lc W7 (by omega) (HI4.out.below HC7.out).slr (HL_45.out.below HC7.out).slr)
            obtain ⟨-, p0, p1, plt⟩ := id (HS_43.out.below HC7.out)
            obtain ⟨a0, a1, a2, a3, a4, a5, alt⟩ := id (HA_44.out.below HC7.out)
            go_wp2_with fail
            (with_reducible refine E2.out.mono ?_)
            rintro e W8 ⟨rfl, hb49⟩
            have HC8 := Lib.hid (HC7.out.trans (hb49.mono HC7.out.size))
            clear p0 p1 plt a0 a1 a2 a3 a4 a5 alt
            clear E2
            have HX8 := Lib.hid (HX7.out.below hb49)
            clear hb49 HX7
            have P1 := Lib.hid (spoilMs_any W5.heap.size _ (([] : List EMessage)) W8 HX8.out HC8.out.size (by simp))
            go_wp2_with fail
            (with_reducible refine P1.out.mono ?_)
            rintro e W9 ⟨rfl, hb9⟩
            have HC9 := Lib.hid (HC8.out.trans hb9)
            clear hb9 P1 HX8
            have E3 := Lib.hid (eqMs_same _ _ Lc W9 (by omega) (HI4.out.below HC9.out).slr (HL_45.out.below HC9.out).slr)
            obtain ⟨-, p0, p1, plt⟩ := id (HS_43.out.below HC9.out)
            obtain ⟨a0, a1, a2, a3, a4, a5, alt⟩ := id (HA_44.out.below HC9.out)
            go_wp2_with fail
            (with_reducible refine E3.out.mono ?_)
            rintro e Wa ⟨rfl, hb50⟩
            have HCa := Lib.hid (HC9.out.trans (hb50.mono HC9.out.size))
            clear p0 p1 plt a0 a1 a2 a3 a4 a5 alt
            clear E3
            clear hb50
            go_wp2
            go_roundw
            case rel => exact ⟨k + 1, Lc, by omega, by go_num, HS_43.out.below HCa.out, HL_45.out.below HCa.out, hlc, HLS.out⟩
            case measure => simp [RowKit.intOf]; omega
      · by_cases hlt : k < A.length
        · have hltz : (k : Int) < (A.length : Int) := by omega
          have h25z : ¬ (k : Int) < 25 := by omega
          have WK := Lib.hid (fun W (hb : Below w.heap.size w W) => wakes22_any W (HE.out.below hb))
          obtain ⟨-, p0, p1, plt⟩ := id HSc.out
          go_wp2_with fail
          (with_reducible refine (WK.out _ HSc.out.low).mono ?_)
          rintro e w9 ⟨rfl, hb9⟩
          go_wp2
          go_ret
          exact ⟨rfl, (HSc.out.below hb9).low⟩
        · have hltz : ¬ (k : Int) < (A.length : Int) := by omega
          have WK := Lib.hid (fun W (hb : Below w.heap.size w W) => wakes22_any W (HE.out.below hb))
          obtain ⟨-, p0, p1, plt⟩ := id HSc.out
          go_wp2_with fail
          (with_reducible refine (WK.out _ HSc.out.low).mono ?_)
          rintro e w9 ⟨rfl, hb9⟩
          go_wp2
          go_ret
          exact ⟨rfl, (HSc.out.below hb9).low⟩
theorem keptExact_walk (W : World) (hL : laidMetH Tryd.prog laid1 W) (hsh : W.ShapedOpen Tryd.prog) (cs : List Value) (h : RdZ Tryd.prog W 56 cs) :
    Calls Tryd.prog 6 #[.agg cs.toArray] W fun e W' => e = .returned (.bool true) ∧ Below W.heap.size W W' := by
  obtain ⟨vS, vL, S, A, rfl, hS, hA, h1, h2, h3, h4⟩ := script_of W cs h
  exact keptExact_any vS vL S A W ⟨tabs_of_laid hL, mx_of_shape hsh⟩ hS hA h1 h2 h3 h4
namespace keptExact
open Go.ChangeShapes Go.WideShapes Go.ChangeAt
theorem own : ownKnob Tryd.prog.godebug = none := by kernel_rfl
theorem laidOut : laidOutB Tryd.prog = true := by kernel_rfl
set_option maxRecDepth 100000 in
theorem lifted (os : Os) (started : os.Started) (H : Type) (enc : TypeId × Value → H) :
    ReturnsInHanded {} Tryd.checked os 6 .any (fun w args => (Rows.keptExactSpec.pre enc Tryd.prog Tryd.f6 [] false w args ∧ laidMetH Tryd.prog laid1 w) ∧ sizedMet enc Tryd.prog Tryd.f6 (OpenSpec.ofChange Rows.keptExactSpec) false w args)
      (Rows.keptExactSpec.post enc Tryd.prog Tryd.f6 false true false false) := by
  refine handed_shaped_sized (C := Tryd.checked) (X := fun w _ => laidMetH Tryd.prog laid1 w) (fun _ _ _ hh h => h.of_heap hh) own started (by kernel_rfl) Tryd.func6
    (ChangeSpec.witness_shaped (enc := enc) (C := Tryd.checked) (os := os) (X := fun w _ => laidMetH Tryd.prog laid1 w) false (World.laidAll Tryd.prog os laid1) #[.agg #[.slice none 0 0, .slice none 0 0]] 12 (World.laidAll_os _ _ _) (World.shaped_of_ZipB (by kernel_rfl) (by kernel_rfl)) (by kernel_rfl) (by kernel_rfl) (by kernel_rfl) (by rw [MakeChecks.laidMetH_plain _ _ _ (by kernel_rfl)]; exact laidMet_laidAll _ (by kernel_rfl) (by kernel_rfl))) ?_
  intro W base args ds gs before hval0 hW hsz0 hL hsh
  have hsz : (DataW.weightsEach Tryd.prog (Tryd.f6.params.toList ++ Rows.keptExactSpec.plain.varTypes Tryd.prog) (ds ++ gs)).all (· ≤ reachBytes) = true := hsz0
  clear hsz0
  have hval : ∀ (j : Nat) t v, Tryd.f6.params[j]? = some t → args[j]? = some v → Value.okWide Tryd.prog W .any base t v := hval0
  have hW' := hW
  obtain ⟨p, q, hA0, hV, rfl, hfz, hnd⟩ := hW
  have hA : DataW.TrodAll enc Tryd.prog W 0 (fun _ => true) true Tryd.f6.params.toList args.toList ds p := hA0
  rw [Tryd.params6] at hA hval
  obtain ⟨v0, vs0, d0, ds0, p0, q0, hargs, rfl, rfl, h0, r0⟩ := trodAll_cons hA
  obtain ⟨rfl, rfl, rfl⟩ := trodAll_nil r0
  obtain rfl : args = #[v0] := by cases args; simp_all
  obtain ⟨rfl, rfl⟩ := trodVars_none hV
  obtain ⟨cs0, rfl⟩ : ∃ cs0 : Array Value, v0 = .agg cs0 := by
    have h := hval 0 56 v0 rfl rfl
    unfold Value.okWide at h
    rw [Tryd.underlying56] at h
    exact ⟨h.choose, h.choose_spec.1⟩
  have k0 := h0
  have lt0 : ∀ x ∈ p0, x.block < W.heap.size := by obtain ⟨m, hm⟩ := k0; exact DataW.trod_lt m _ _ _ hm
  have hrd : RdZ Tryd.prog W 56 cs0.toList := by obtain ⟨fuel, hf⟩ := h0; exact ⟨H, enc, 0, _, true, fuel, _, hf, by simp only [List.all_eq_true]; intro n hn; exact List.all_eq_true.1 hsz n (DataW.weights_mem_each (j := 0) rfl rfl n hn)⟩
  clear hA0 hval0
  refine (show Calls Tryd.prog 6 _ W (fun e W' => e = .returned (.bool true) ∧ Below W.heap.size W W') from by have := keptExact_walk W hL hsh _ hrd; rwa [Array.toArray_toList] at this).mono fun e W' ⟨he, bel⟩ => ?_
  subst he
  exact ⟨_, rfl, _, _, _, [], _, [], hW', trodAll_mk1 (shut_bool Tryd.underlying4 _), (trodAll_cons_mk (Below.trod laidOut (by kernel_rfl) (of_decide_eq_true (by kernel_rfl)) k0 bel lt0) trodAll_mk0), rfl, bel.frame _, fun h => by cases h⟩
theorem over : Rows.keptExactRow.holds Tryd.pinned (OpenSpec.ofChange Rows.keptExactSpec) :=
  OpenClaim.holds_of_wide 6 Tryd.f6 rfl rfl rfl rfl rfl rfl rfl ⟨rfl, rfl, rfl, rfl, rfl⟩ rfl rfl rfl rfl rfl (by kernel_rfl) Tryd.func6 (by kernel_rfl)
    (of_decide_eq_true (by kernel_rfl)) (by unfold Func.isWrapper; first | (rw [if_pos (by decide +kernel)]; kernel_rfl) | (rw [if_neg (by decide +kernel)]; exact ⟨rfl, rfl⟩))
    (fun os started H enc _ => lifted os started H enc)
/-- THE STATEMENT: the card, its listed variables tied to the program's text. -/
theorem proved : Rows.KeptExactCardSaid :=
  Claim7.holds_tied_plain_at .later [] [.data, .pinned] true _ false
    over (fun _ h => by cases h) (by kernel_rfl) (fun _ h => by cases h) keptExact_row_tie rfl ⟨rfl, rfl⟩ (by kernel_rfl) rfl
    (fun f fn hf hfn => by
      obtain rfl : f = 6 := Option.some.inj ((show Tryd.prog.funcNamed "kiosk/kiosklaw22.KeptExact" = some 6 by kernel_rfl).symm.trans hf) |>.symm
      obtain rfl : fn = Tryd.f6 := (Option.some.inj (Tryd.func6.symm.trans hfn)).symm
      exact ⟨by kernel_rfl, fun j t ht => by
        rw [Tryd.params6] at ht
        have hm : t ∈ [56] := by simpa using Array.mem_of_getElem? ht
        have hall : ([56].all fun u => !Tryd.prog.wantsStandIn u) = true := by kernel_rfl
        exact (show Tryd.prog.wantsStandIn t = false by simpa using List.all_eq_true.1 hall t hm)⟩)
    (by kernel_rfl)
end keptExact
-- CLAIM: KeptExactCardSaid keptExact.proved
end Go.Proofs.YtoibdhncfdjdoaaDoor
