/-
  The law TcpEnds.
-/
import Derived.Test.YtjgbiffgmafhmaaLtNB
import Derived.Test.YtjgbiffgmafhmaaLtNLists
namespace Go.Proofs.Ytjgbiffgmafhmaa
open Go.RowKit Go.Lib
def eS (ls rs : Int) : ES := ⟨3, 4, addv rs 1, addv ls 1, 16, 1000, []⟩
def eF (ls rs : Int) : ES := ⟨3, 4, addv rs 1, addv ls 1, 17, 1000, []⟩
def eL (ls rs : Int) : ES := ⟨3, 4, addv rs 2, addv ls 2, 16, 1000, []⟩
def eM (ls rs : Int) : ES := ⟨3, 4, addv rs 1, addv ls 2, 16, 1000, []⟩
def eN (ls rs : Int) : ES := ⟨3, 4, addv rs 1, addv ls 2, 17, 1000, []⟩
def eO (rs : Int) : ES := ⟨3, 4, rs, 0, 2, 1000, []⟩
def cE (ls rs : Int) : EC := ⟨1, 2, 3, 4, 1, ls, addv ls 1, 1000, [], addv rs 1, [], false, tmS 3⟩
def cV (ls rs st a b r : Int) (cl : Bool) (m : Tm) : EC := ⟨1, 2, 3, 4, st, addv ls a, addv ls b, 1000, [], addv rs r, [], cl, m⟩
section
variable (ls rs : Int)
theorem dv (a b : Int) (h : -2147483648 ≤ a - b ∧ a - b < 2147483648) : diffv (addv ls a) (addv ls b) = a - b := by unfold diffv addv; omega
theorem avav (a b : Int) : addv (addv ls a) b = addv ls (a + b) := by unfold addv; omega
theorem mayTk {c : EC} {s : ES} (h1 : okC c = true) (h2 : okS s = true) (h3 : (s.sp == c.pp && s.dp == c.po) = true) : mayTake c s = true := by unfold mayTake; rw [h1, h2, h3]; rfl
theorem openE : openS 1 2 ls (eO rs) = (cE ls rs, [⟨4, 3, ls, addv rs 1, 18, 2048, []⟩]) := rfl
theorem okSd {s : ES} (h : 0 ≤ s.sp ∧ s.sp < 65536 ∧ 0 ≤ s.dp ∧ s.dp < 65536 ∧ 0 ≤ s.sq ∧ s.sq < 4294967296 ∧ 0 ≤ s.ak ∧ s.ak < 4294967296 ∧ 0 ≤ s.fl ∧ s.fl ≤ 63 ∧ 0 ≤ s.wn ∧ s.wn < 65536 ∧ s.d.length ≤ 1460) : okS s = true := decide_eq_true h
theorem okE : okS (eS ls rs) = true ∧ okS (eF ls rs) = true ∧ okS (eL ls rs) = true ∧ okS (eM ls rs) = true ∧ okS (eN ls rs) = true := by
  have h1 := addv_bd ls 1
  have h2 := addv_bd ls 2
  have h3 := addv_bd rs 1
  have h4 := addv_bd rs 2
  refine ⟨okSd ⟨of_decide_eq_true rfl, of_decide_eq_true rfl, of_decide_eq_true rfl, of_decide_eq_true rfl, h3.1, h3.2, h1.1, h1.2, of_decide_eq_true rfl, of_decide_eq_true rfl, of_decide_eq_true rfl, of_decide_eq_true rfl, Nat.zero_le _⟩, okSd ⟨of_decide_eq_true rfl, of_decide_eq_true rfl, of_decide_eq_true rfl, of_decide_eq_true rfl, h3.1, h3.2, h1.1, h1.2, of_decide_eq_true rfl, of_decide_eq_true rfl, of_decide_eq_true rfl, of_decide_eq_true rfl, Nat.zero_le _⟩, okSd ⟨of_decide_eq_true rfl, of_decide_eq_true rfl, of_decide_eq_true rfl, of_decide_eq_true rfl, h4.1, h4.2, h2.1, h2.2, of_decide_eq_true rfl, of_decide_eq_true rfl, of_decide_eq_true rfl, of_decide_eq_true rfl, Nat.zero_le _⟩, okSd ⟨of_decide_eq_true rfl, of_decide_eq_true rfl, of_decide_eq_true rfl, of_decide_eq_true rfl, h3.1, h3.2, h2.1, h2.2, of_decide_eq_true rfl, of_decide_eq_true rfl, of_decide_eq_true rfl, of_decide_eq_true rfl, Nat.zero_le _⟩, okSd ⟨of_decide_eq_true rfl, of_decide_eq_true rfl, of_decide_eq_true rfl, of_decide_eq_true rfl, h3.1, h3.2, h2.1, h2.2, of_decide_eq_true rfl, of_decide_eq_true rfl, of_decide_eq_true rfl, of_decide_eq_true rfl, Nat.zero_le _⟩⟩
theorem mayE (h : 0 ≤ ls ∧ ls < 4294967296) (hr : 0 ≤ rs ∧ rs < 4294967296) : mayOpen 1 2 ls (eO rs) = true := by
  have e : mayOpen 1 2 ls (eO rs) = (decide (0 ≤ (1 : Int) ∧ (1 : Int) ≤ 1099511627776 ∧ 0 ≤ (2 : Int) ∧ (2 : Int) < 4294967296 ∧ 0 ≤ ls ∧ ls < 4294967296) && (okS (eO rs) && (fb 2 2 && !fb 2 20))) := rfl
  rw [e, show (fb 2 2 && !fb 2 20) = true by decide +kernel, okSd (s := eO rs) ⟨of_decide_eq_true rfl, of_decide_eq_true rfl, of_decide_eq_true rfl, of_decide_eq_true rfl, hr.1, hr.2, of_decide_eq_true rfl, of_decide_eq_true rfl, of_decide_eq_true rfl, of_decide_eq_true rfl, of_decide_eq_true rfl, of_decide_eq_true rfl, Nat.zero_le _⟩, Bool.and_true, Bool.and_true]
  exact decide_eq_true (by omega)
theorem okcE (h : 0 ≤ ls ∧ ls < 4294967296) : okC (cE ls rs) = true := by
  have h1 := addv_bd ls 1
  have h2 := addv_bd rs 1
  have e : okC (cE ls rs) = (decide (0 ≤ (1 : Int) ∧ (1 : Int) ≤ 1099511627776 ∧ 0 ≤ (2 : Int) ∧ (2 : Int) < 4294967296 ∧ 0 ≤ (3 : Int) ∧ (3 : Int) < 65536 ∧ 0 ≤ (4 : Int) ∧ (4 : Int) < 65536 ∧ 0 ≤ (1 : Int) ∧ (1 : Int) ≤ 8 ∧ 0 ≤ ls ∧ ls < 4294967296 ∧ 0 ≤ addv ls 1 ∧ addv ls 1 < 4294967296 ∧ 0 ≤ (1000 : Int) ∧ (1000 : Int) < 65536 ∧ (0 : Nat) ≤ 8192) && (bufB (addv rs 1) [] && tv (tmS 3)) && decide (diffv (addv ls 1) ls = 1)) := rfl
  rw [e, show tv (tmS 3) = true from rfl, bufB_nil h2.1 h2.2, decide_eq_true (show diffv (addv ls 1) ls = 1 by unfold diffv addv; omega), Bool.and_true, Bool.and_true, Bool.and_true]
  exact decide_eq_true (by omega)
theorem okV {st a b r : Int} {cl : Bool} {m : Tm} (hst : 0 ≤ st ∧ st ≤ 8) (hm : tv m = true) (hs : okSt (cV ls rs st a b r cl m) = true) : okC (cV ls rs st a b r cl m) = true := by
  have h1 := addv_bd ls a
  have h2 := addv_bd ls b
  have h3 := addv_bd rs r
  have e : okC (cV ls rs st a b r cl m) = (decide (0 ≤ (1 : Int) ∧ (1 : Int) ≤ 1099511627776 ∧ 0 ≤ (2 : Int) ∧ (2 : Int) < 4294967296 ∧ 0 ≤ (3 : Int) ∧ (3 : Int) < 65536 ∧ 0 ≤ (4 : Int) ∧ (4 : Int) < 65536 ∧ 0 ≤ st ∧ st ≤ 8 ∧ 0 ≤ addv ls a ∧ addv ls a < 4294967296 ∧ 0 ≤ addv ls b ∧ addv ls b < 4294967296 ∧ 0 ≤ (1000 : Int) ∧ (1000 : Int) < 65536 ∧ (0 : Nat) ≤ 8192) && (bufB (addv rs r) [] && tv m) && okSt (cV ls rs st a b r cl m)) := rfl
  rw [e, hm, bufB_nil h3.1 h3.2, hs, Bool.and_true, Bool.and_true, Bool.and_true]
  exact decide_eq_true (by omega)
theorem sV {st a b r : Int} {cl : Bool} {m : Tm} (h : -2147483648 ≤ b - a ∧ b - a < 2147483648) : sentv (cV ls rs st a b r cl m) = b - a := dv ls b a h
theorem ok2 : okC (cV ls rs 2 1 1 1 false tm0) = true := okV ls rs (by decide) rfl (by
  have e : okSt (cV ls rs 2 1 1 1 false tm0) = decide (0 ≤ sentv (cV ls rs 2 1 1 1 false tm0) ∧ sentv (cV ls rs 2 1 1 1 false tm0) ≤ ((0 : Nat) : Int)) := rfl
  rw [e, sV ls rs (by decide)]; rfl)
theorem ok5 : okC (cV ls rs 5 1 1 2 false tm0) = true := okV ls rs (by decide) rfl (by
  have e : okSt (cV ls rs 5 1 1 2 false tm0) = decide (0 ≤ sentv (cV ls rs 5 1 1 2 false tm0) ∧ sentv (cV ls rs 5 1 1 2 false tm0) ≤ ((0 : Nat) : Int)) := rfl
  rw [e, sV ls rs (by decide)]; rfl)
theorem ok7 : okC (cV ls rs 7 1 2 2 true (tmS 3)) = true := okV ls rs (by decide) rfl (by
  have e : okSt (cV ls rs 7 1 2 2 true (tmS 3)) = decide (sentv (cV ls rs 7 1 2 2 true (tmS 3)) = ((0 : Nat) : Int) + 1) := rfl
  rw [e, sV ls rs (by decide)]; rfl)
theorem ok3 : okC (cV ls rs 3 1 2 1 true (tmS 3)) = true := okV ls rs (by decide) rfl (by
  have e : okSt (cV ls rs 3 1 2 1 true (tmS 3)) = decide (sentv (cV ls rs 3 1 2 1 true (tmS 3)) = ((0 : Nat) : Int) + 1) := rfl
  rw [e, sV ls rs (by decide)]; rfl)
theorem ok6 : okC (cV ls rs 6 1 2 2 true (tmS 3)) = true := okV ls rs (by decide) rfl (by
  have e : okSt (cV ls rs 6 1 2 2 true (tmS 3)) = decide (sentv (cV ls rs 6 1 2 2 true (tmS 3)) = ((0 : Nat) : Int) + 1) := rfl
  rw [e, sV ls rs (by decide)]; rfl)
theorem ok4 : okC (cV ls rs 4 2 2 1 true tm0) = true := okV ls rs (by decide) rfl (by
  have e : okSt (cV ls rs 4 2 2 1 true tm0) = decide (sentv (cV ls rs 4 2 2 1 true tm0) = 0 ∧ (0 : Nat) = 0) := rfl
  rw [e, sV ls rs (by decide)]; rfl)
theorem ok8 {m : Tm} (hm : tv m = true) : okC (cV ls rs 8 2 2 2 true m) = true := okV ls rs (by decide) hm (by
  have e : okSt (cV ls rs 8 2 2 2 true m) = decide (sentv (cV ls rs 8 2 2 2 true m) = 0 ∧ (0 : Nat) = 0) := rfl
  rw [e, sV ls rs (by decide)]; rfl)
theorem ok0 : okC (cV ls rs 0 2 2 2 true tm0) = true := okV ls rs (by decide) rfl rfl
theorem accV {st a b r q : Int} {cl : Bool} {m : Tm} {s : ES} (hs : s.sq = addv rs q) (h : 0 ≤ q - r ∧ q - r < 2048) : accS (cV ls rs st a b r cl m) s = true := by
  have e : accS (cV ls rs st a b r cl m) s = (hasB (addv rs r) 2048 s.sq || (decide (0 < segLen s) && hasB (addv rs r) 2048 (addv s.sq (segLen s - 1)))) := rfl
  have h2 : hasB (addv rs r) 2048 (addv rs q) = true := by unfold hasB addv; exact decide_eq_true (by omega)
  rw [e, hs, h2]; rfl
theorem flE : fb 16 4 = false ∧ fb 16 2 = false ∧ fb 16 16 = true ∧ fb 16 1 = false ∧ fb 17 4 = false ∧ fb 17 2 = false ∧ fb 17 16 = true ∧ fb 17 1 = true := by decide +kernel
/-- What acknowledges, with an end, and brings nothing. -/
theorem take_fin {c c1 h : EC} {s : ES} (h0 : c.st ≠ 0) (ha : accS c s = true) (hf : s.fl = 17) (hb : ackB c s = true) (hd : s.d = []) (hl : ackL c [] s = []) (hc : { ackC c s with win := s.wn } = c1) (hp : c1.ps = []) (hr : 0 ≤ c1.rn ∧ c1.rn < 4294967296) (hh : (if hearsC c1 then finS c1 s else c1) = h) :
    takeS c s = (lastT (pumpS h (ackN h [])).1, (pumpS h (ackN h [])).2, []) := by
  obtain ⟨e1, e2⟩ := hear_nothing (c := c1) (s := s) hd hp hr
  rw [takeS_go h0 ha (by rw [hf]; exact flE.2.2.2.2.1) (by rw [hf]; exact flE.2.2.2.2.2.1) (by rw [hf]; exact flE.2.2.2.2.2.2.1) hb, hc, e1, e2, hh, hl]
  have hlen : ∀ x, lenL x [] s = ackN x [] := fun x => by
    have : segLen s = 1 := by unfold segLen; rw [hd, hf, flE.2.2.2.2.2.1, flE.2.2.2.2.2.2.2]; rfl
    unfold lenL; rw [this]; rfl
  rw [hlen]
theorem ackV {st a b r q w : Int} {cl : Bool} {m : Tm} {s : ES} (hst : st ≠ 1) (hs : s.ak = addv ls q) (hb : q - b ≤ 0) (hq : -2147483648 ≤ q - b ∧ a ≤ q ∧ q - a < 2147483648) : ackB (cV ls rs st a b r cl m) s = true ∧ ackL (cV ls rs st a b r cl m) [] s = [] ∧ ackC (cV ls rs st a b r cl m) s = ackF (if 0 < q - a then cV ls rs st q b r cl tm0 else cV ls rs st a b r cl m) ∧ w = w := by
  have d1 : diffv (addv ls q) (addv ls b) = q - b := dv ls q b (by omega)
  have d2 : diffv (addv ls q) (addv ls a) = q - a := dv ls q a (by omega)
  have e1 : ackB (cV ls rs st a b r cl m) s = if st = 1 then s.ak == addv ls b else !decide (0 < diffv s.ak (addv ls b)) := rfl
  have e2 : ackL (cV ls rs st a b r cl m) [] s = if st = 1 then (if (s.ak == addv ls b) = true then [] else [⟨4, 3, s.ak, 0, 4, 0, []⟩]) else if 0 < diffv s.ak (addv ls b) then ackN (cV ls rs st a b r cl m) [] else [] := rfl
  have e3 : ackC (cV ls rs st a b r cl m) s = if st = 1 then (if (s.ak == addv ls b) = true then { cV ls rs st a b r cl m with una := addv ls b, st := 2, tm := tm0 } else cV ls rs st a b r cl m) else if 0 < diffv s.ak (addv ls b) then cV ls rs st a b r cl m else ackF (ackU (cV ls rs st a b r cl m) s) := rfl
  have e4 : ackU (cV ls rs st a b r cl m) s = if 0 < diffv s.ak (addv ls a) then { cV ls rs st a b r cl m with out := ([] : List UInt8).drop (min (diffv s.ak (addv ls a)) ((0 : Nat) : Int)).toNat, una := s.ak, tm := tm0 } else cV ls rs st a b r cl m := rfl
  rw [e1, e2, e3, e4, hs, d1, d2, if_neg hst, if_neg hst, if_neg hst, if_neg (by omega), if_neg (by omega)]
  refine ⟨by rw [decide_eq_false (by omega)]; rfl, rfl, ?_, rfl⟩
  congr 1
  by_cases h : 0 < q - a
  · rw [if_pos h, if_pos h, List.drop_nil]; rfl
  · rw [if_neg h, if_neg h]
theorem ackFV {st a b r : Int} {cl : Bool} {m : Tm} (h : -2147483648 ≤ b - a ∧ b - a < 2147483648) : ackF (cV ls rs st a b r cl m) = if b - a = 0 then finA (cV ls rs st a b r cl m) else cV ls rs st a b r cl m := by
  have e : ackF (cV ls rs st a b r cl m) = if sentv (cV ls rs st a b r cl m) = 0 then finA (cV ls rs st a b r cl m) else cV ls rs st a b r cl m := rfl
  rw [e, sV ls rs h]
theorem pump_no {c : EC} {l : List ES} (h : mayP c = false) : pumpS c l = (c, l) := by unfold pumpS; rw [h, if_neg Bool.false_ne_true]
theorem pumpLV {st a r : Int} {cl : Bool} {m : Tm} {l : List ES} {f : Nat} : pumpL (f + 1) (cV ls rs st a a r cl m) l = (cV ls rs st a a r cl m, l) := pumpL_stop (by
  have e : pumpN (cV ls rs st a a r cl m) = min 536 (min (((0 : Nat) : Int) - sentv (cV ls rs st a a r cl m)) (1000 - sentv (cV ls rs st a a r cl m))) := rfl
  rw [e, sV ls rs (by omega), Int.sub_self]; decide)
/-- Nothing is to be sent, and it is not to be closed. -/
theorem pump_nil {st a r : Int} {l : List ES} (h : st = 2 ∨ st = 5) : pumpS (cV ls rs st a a r false tm0) l = (cV ls rs st a a r false tm0, l) := by
  have hm : mayP (cV ls rs st a a r false tm0) = true := by
    have e : mayP (cV ls rs st a a r false tm0) = (decide (st = 2) || decide (st = 5)) := rfl
    rw [e]; simpa using h
  have e : pumpS (cV ls rs st a a r false tm0) l = if mayP (cV ls rs st a a r false tm0) = true then pumpA (cV ls rs st a a r false tm0) l else (cV ls rs st a a r false tm0, l) := rfl
  have e2 : pumpA (cV ls rs st a a r false tm0) l = (let q := pumpF (pumpL 1 (cV ls rs st a a r false tm0) l).1 (pumpL 1 (cV ls rs st a a r false tm0) l).2; (pumpT q.1, q.2)) := rfl
  rw [e, hm, if_pos rfl, e2, pumpLV]
  show (pumpT (cV ls rs st a a r false tm0), l) = _
  unfold pumpT
  rw [sV ls rs (by omega), Int.sub_self]; rfl
/-- It is closed. -/
theorem close_V {st r : Int} (h : st = 2 ∨ st = 5) : pumpS (cV ls rs st 1 1 r true tm0) [] = (cV ls rs (if st = 2 then 3 else 7) 1 2 r true (tmS 3), [⟨4, 3, addv ls 1, addv rs r, 17, 2048, []⟩]) := by
  have hm : mayP (cV ls rs st 1 1 r true tm0) = true := by
    have e : mayP (cV ls rs st 1 1 r true tm0) = (decide (st = 2) || decide (st = 5)) := rfl
    rw [e]; simpa using h
  have e : pumpS (cV ls rs st 1 1 r true tm0) [] = if mayP (cV ls rs st 1 1 r true tm0) = true then pumpA (cV ls rs st 1 1 r true tm0) [] else (cV ls rs st 1 1 r true tm0, []) := rfl
  have e2 : pumpA (cV ls rs st 1 1 r true tm0) [] = (let q := pumpF (pumpL 1 (cV ls rs st 1 1 r true tm0) []).1 (pumpL 1 (cV ls rs st 1 1 r true tm0) []).2; (pumpT q.1, q.2)) := rfl
  have e3 : pumpF (cV ls rs st 1 1 r true tm0) [] = if (true && decide (sentv (cV ls rs st 1 1 r true tm0) = ((0 : Nat) : Int))) = true then (cV ls rs (if st = 2 then 3 else 7) 1 2 r true tm0, [⟨4, 3, addv ls 1, addv rs r, 17, 2048, []⟩]) else (cV ls rs st 1 1 r true tm0, []) := by
    have e4 : ({ cV ls rs st 1 1 r true tm0 with nxt := addv (addv ls 1) 1, st := if st = 2 then 3 else 7 } : EC) = cV ls rs (if st = 2 then 3 else 7) 1 2 r true tm0 := by rw [avav]; rfl
    rw [← e4]; rfl
  rw [e, hm, if_pos rfl, e2, pumpLV]
  show (pumpT (pumpF (cV ls rs st 1 1 r true tm0) []).1, (pumpF (cV ls rs st 1 1 r true tm0) []).2) = _
  rw [e3, sV ls rs (by decide), if_pos (by decide)]
  show (pumpT (cV ls rs (if st = 2 then 3 else 7) 1 2 r true tm0), _) = _
  unfold pumpT
  rw [sV ls rs (by decide)]; rfl
theorem last_V {st a r : Int} {cl : Bool} {m : Tm} : lastT (cV ls rs st a a r cl m) = cV ls rs st a a r cl m := lastT_2 (by rw [sV ls rs (by omega), Int.sub_self]; rfl)
/-- The first word of the third: it is up. -/
theorem tE1 : takeS (cE ls rs) (eS ls rs) = (cV ls rs 2 1 1 1 false tm0, [], []) := by
  have hb : (addv ls 1 == addv ls 1) = true := beq_self_eq_true _
  have h1 : ackC (cE ls rs) (eS ls rs) = cV ls rs 2 1 1 1 false tm0 := by
    show (if (addv ls 1 == addv ls 1) = true then _ else _) = _
    rw [hb]; rfl
  have h2 : ackL (cE ls rs) [] (eS ls rs) = [] := by
    show (if (addv ls 1 == addv ls 1) = true then _ else _) = _
    rw [hb]; rfl
  have ha : accS (cE ls rs) (eS ls rs) = true := accV ls rs (st := 1) (a := 0) (b := 1) (r := 1) (q := 1) (cl := false) (m := tmS 3) (s := eS ls rs) rfl (by decide)
  rw [take_ack (of_decide_eq_true rfl) ha rfl hb rfl (by rw [h1]; rfl) (by rw [h1]; exact addv_bd rs 1), h1, h2]
  show (lastT (pumpS (cV ls rs 2 1 1 1 false tm0) []).1, (pumpS (cV ls rs 2 1 1 1 false tm0) []).2, ([] : List UInt8)) = _
  rw [pump_nil ls rs (.inl rfl), last_V]
/-- An end that comes. -/
theorem tFin {st a b q r : Int} {cl : Bool} {m : Tm} {h c1 : EC} {s : ES} (hs : s = ⟨3, 4, addv rs 1, addv ls q, 17, 1000, []⟩) (hst : st ≠ 0 ∧ st ≠ 1) (hr : r = 1) (hb : q - b ≤ 0) (hq : -2147483648 ≤ q - b ∧ a ≤ q ∧ q - a < 2147483648)
    (hc : ackF (if 0 < q - a then cV ls rs st q b r cl tm0 else cV ls rs st a b r cl m) = c1) (hw : c1.win = 1000) (hp : c1.ps = []) (hrn : c1.rn = addv rs 1) (hh : (if hearsC c1 then finS c1 s else c1) = h) : takeS (cV ls rs st a b r cl m) s = (lastT (pumpS h (ackN h [])).1, (pumpS h (ackN h [])).2, []) := by
  obtain ⟨h1, h2, h3, -⟩ := ackV ls rs (st := st) (a := a) (b := b) (r := r) (q := q) (w := 0) (cl := cl) (m := m) (s := s) hst.2 (by rw [hs]) hb hq
  refine take_fin (c1 := c1) (h := h) hst.1 (accV ls rs (q := 1) (by rw [hs]) (by omega)) (by rw [hs]) h1 (by rw [hs]) h2 ?_ hp (by rw [hrn]; exact addv_bd rs 1) hh
  rw [h3, hc, hs]
  show ({ c1 with win := 1000 } : EC) = c1
  rw [← hw]
theorem finV {st a b : Int} {cl : Bool} {m : Tm} {s : ES} (hs : s.sq = addv rs 1 ∧ s.fl = 17 ∧ s.d = []) : finS (cV ls rs st a b 1 cl m) s = if st = 2 then cV ls rs 5 a b 2 cl m else if st = 3 then cV ls rs 6 a b 2 cl m else if st = 4 then cV ls rs 8 a b 2 cl (tmS 20) else cV ls rs st a b 2 cl m := by
  have e : finS (cV ls rs st a b 1 cl m) s = if (fb s.fl 1 && (addv s.sq (s.d.length : Int) == addv rs 1 && decide ((0 : Nat) = 0))) = true then (if st = 2 then { cV ls rs st a b 1 cl m with rn := addv (addv rs 1) 1, st := 5 } else if st = 3 then { cV ls rs st a b 1 cl m with rn := addv (addv rs 1) 1, st := 6 } else if st = 4 then { cV ls rs st a b 1 cl m with rn := addv (addv rs 1) 1, st := 8, tm := tmS 20 } else { cV ls rs st a b 1 cl m with rn := addv (addv rs 1) 1 }) else cV ls rs st a b 1 cl m := rfl
  have h0 : addv (addv rs 1) ((([] : List UInt8).length : Nat) : Int) = addv rs 1 := by rw [avav]; rfl
  rw [e, hs.1, hs.2.1, hs.2.2, flE.2.2.2.2.2.2.2, h0, beq_self_eq_true, avav]
  rfl
theorem tE_0a : takeS (cV ls rs 2 1 1 1 false tm0) (eF ls rs) = (cV ls rs 5 1 1 2 false tm0, [⟨4, 3, addv ls 1, addv rs 2, 16, 2048, []⟩], []) := by
  rw [tFin ls rs (st := 2) (a := 1) (b := 1) (q := 1) (r := 1) (cl := false) (m := tm0) (s := eF ls rs) (c1 := cV ls rs 2 1 1 1 false tm0) (h := cV ls rs 5 1 1 2 false tm0) rfl (by decide) rfl (by decide) (by decide) (by rw [if_neg (by decide), ackFV ls rs (by decide)]; rfl) rfl rfl rfl (by rw [finV ls rs ⟨rfl, rfl, rfl⟩]; rfl)]
  rw [pump_nil ls rs (.inr rfl), last_V]; rfl
theorem tE_0c : takeS (cV ls rs 7 1 2 2 true (tmS 3)) (eL ls rs) = (cV ls rs 0 2 2 2 true tm0, [], []) := by
  obtain ⟨h1, h2, h3, -⟩ := ackV ls rs (st := 7) (a := 1) (b := 2) (r := 2) (q := 2) (w := 0) (cl := true) (m := tmS 3) (s := eL ls rs) (by decide) rfl (by decide) (by decide)
  have h4 : ackC (cV ls rs 7 1 2 2 true (tmS 3)) (eL ls rs) = cV ls rs 0 2 2 2 true tm0 := by rw [h3, if_pos (by decide), ackFV ls rs (by decide)]; rfl
  rw [take_ack (of_decide_eq_true rfl) (accV ls rs (q := 2) rfl (by decide)) rfl h1 rfl (by rw [h4]; rfl) (by rw [h4]; exact addv_bd rs 2), h4, h2]
  show (lastT (pumpS (cV ls rs 0 2 2 2 true tm0) []).1, (pumpS (cV ls rs 0 2 2 2 true tm0) []).2, ([] : List UInt8)) = _
  rw [pump_no rfl, last_V]
theorem tE_1b : takeS (cV ls rs 3 1 2 1 true (tmS 3)) (eM ls rs) = (cV ls rs 4 2 2 1 true tm0, [], []) := by
  obtain ⟨h1, h2, h3, -⟩ := ackV ls rs (st := 3) (a := 1) (b := 2) (r := 1) (q := 2) (w := 0) (cl := true) (m := tmS 3) (s := eM ls rs) (by decide) rfl (by decide) (by decide)
  have h4 : ackC (cV ls rs 3 1 2 1 true (tmS 3)) (eM ls rs) = cV ls rs 4 2 2 1 true tm0 := by rw [h3, if_pos (by decide), ackFV ls rs (by decide)]; rfl
  rw [take_ack (of_decide_eq_true rfl) (accV ls rs (q := 1) rfl (by decide)) rfl h1 rfl (by rw [h4]; rfl) (by rw [h4]; exact addv_bd rs 1), h4, h2]
  show (lastT (pumpS (cV ls rs 4 2 2 1 true tm0) []).1, (pumpS (cV ls rs 4 2 2 1 true tm0) []).2, ([] : List UInt8)) = _
  rw [pump_no rfl, last_V]
theorem tE_1c : takeS (cV ls rs 4 2 2 1 true tm0) (eN ls rs) = (cV ls rs 8 2 2 2 true (tmS 20), [⟨4, 3, addv ls 2, addv rs 2, 16, 2048, []⟩], []) := by
  rw [tFin ls rs (st := 4) (a := 2) (b := 2) (q := 2) (r := 1) (cl := true) (m := tm0) (s := eN ls rs) (c1 := cV ls rs 4 2 2 1 true tm0) (h := cV ls rs 8 2 2 2 true (tmS 20)) rfl (by decide) rfl (by decide) (by decide) (by rw [if_neg (by decide), ackFV ls rs (by decide)]; rfl) rfl rfl rfl (by rw [finV ls rs ⟨rfl, rfl, rfl⟩]; rfl)]
  rw [pump_no rfl, last_V]; rfl
theorem tE_2b : takeS (cV ls rs 3 1 2 1 true (tmS 3)) (eF ls rs) = (cV ls rs 6 1 2 2 true (tmS 3), [⟨4, 3, addv ls 2, addv rs 2, 16, 2048, []⟩], []) := by
  rw [tFin ls rs (st := 3) (a := 1) (b := 2) (q := 1) (r := 1) (cl := true) (m := tmS 3) (s := eF ls rs) (c1 := cV ls rs 3 1 2 1 true (tmS 3)) (h := cV ls rs 6 1 2 2 true (tmS 3)) rfl (by decide) rfl (by decide) (by decide) (by rw [if_neg (by decide), ackFV ls rs (by decide)]; rfl) rfl rfl rfl (by rw [finV ls rs ⟨rfl, rfl, rfl⟩]; rfl)]
  rw [pump_no rfl, lastT_1 rfl]; rfl
theorem tE_2c : takeS (cV ls rs 6 1 2 2 true (tmS 3)) (eL ls rs) = (cV ls rs 8 2 2 2 true (tmS 20), [], []) := by
  obtain ⟨h1, h2, h3, -⟩ := ackV ls rs (st := 6) (a := 1) (b := 2) (r := 2) (q := 2) (w := 0) (cl := true) (m := tmS 3) (s := eL ls rs) (by decide) rfl (by decide) (by decide)
  have h4 : ackC (cV ls rs 6 1 2 2 true (tmS 3)) (eL ls rs) = cV ls rs 8 2 2 2 true (tmS 20) := by rw [h3, if_pos (by decide), ackFV ls rs (by decide)]; rfl
  rw [take_ack (of_decide_eq_true rfl) (accV ls rs (q := 2) rfl (by decide)) rfl h1 rfl (by rw [h4]; rfl) (by rw [h4]; exact addv_bd rs 2), h4, h2]
  show (lastT (pumpS (cV ls rs 8 2 2 2 true (tmS 20)) []).1, (pumpS (cV ls rs 8 2 2 2 true (tmS 20)) []).2, ([] : List UInt8)) = _
  rw [pump_no rfl, last_V]
theorem tE_3b : takeS (cV ls rs 3 1 2 1 true (tmS 3)) (eN ls rs) = (cV ls rs 8 2 2 2 true (tmS 20), [⟨4, 3, addv ls 2, addv rs 2, 16, 2048, []⟩], []) := by
  rw [tFin ls rs (st := 3) (a := 1) (b := 2) (q := 2) (r := 1) (cl := true) (m := tmS 3) (s := eN ls rs) (c1 := cV ls rs 4 2 2 1 true tm0) (h := cV ls rs 8 2 2 2 true (tmS 20)) rfl (by decide) rfl (by decide) (by decide) (by rw [if_pos (by decide), ackFV ls rs (by decide)]; rfl) rfl rfl rfl (by rw [finV ls rs ⟨rfl, rfl, rfl⟩]; rfl)]
  rw [pump_no rfl, last_V]; rfl
theorem tE_3c : takeS (cV ls rs 8 2 2 2 true (tmS 20)) (eL ls rs) = (cV ls rs 8 2 2 2 true (tmS 20), [], []) := by
  obtain ⟨h1, h2, h3, -⟩ := ackV ls rs (st := 8) (a := 2) (b := 2) (r := 2) (q := 2) (w := 0) (cl := true) (m := tmS 20) (s := eL ls rs) (by decide) rfl (by decide) (by decide)
  have h4 : ackC (cV ls rs 8 2 2 2 true (tmS 20)) (eL ls rs) = cV ls rs 8 2 2 2 true (tmS 20) := by rw [h3, if_neg (by decide), ackFV ls rs (by decide)]; rfl
  rw [take_ack (of_decide_eq_true rfl) (accV ls rs (q := 2) rfl (by decide)) rfl h1 rfl (by rw [h4]; rfl) (by rw [h4]; exact addv_bd rs 2), h4, h2]
  show (lastT (pumpS (cV ls rs 8 2 2 2 true (tmS 20)) []).1, (pumpS (cV ls rs 8 2 2 2 true (tmS 20)) []).2, ([] : List UInt8)) = _
  rw [pump_no rfl, last_V]
/-- The end: in the last time, then over. -/
def cWt (t : Nat) : EC := if t < 20 then cV ls rs 8 2 2 2 true ⟨true, 20 - t, 20, 0⟩ else cV ls rs 0 2 2 2 true tm0
theorem tickW (t : Nat) : tickS (cWt ls rs t) = (cWt ls rs (t + 1), []) := by
  unfold cWt
  by_cases h : t < 20
  · rw [if_pos h]
    have hm : max ((20 - (t : Int)) - 1) 0 = 20 - ((t + 1 : Nat) : Int) := by omega
    have e : tickS (cV ls rs 8 2 2 2 true ⟨true, 20 - t, 20, 0⟩) = if (true && decide (max ((20 - (t : Int)) - 1) 0 = 0)) = true then expireS (cV ls rs 8 2 2 2 true ⟨true, max ((20 - (t : Int)) - 1) 0, 20, 0⟩) [] else (cV ls rs 8 2 2 2 true ⟨true, max ((20 - (t : Int)) - 1) 0, 20, 0⟩, []) := rfl
    rw [e, hm, Bool.true_and]
    by_cases h2 : t + 1 < 20
    · rw [if_pos h2, if_neg (by rw [decide_eq_true_eq]; omega)]
    · rw [if_neg h2, if_pos (by rw [decide_eq_true_eq]; omega)]
      rfl
  · rw [if_neg h, if_neg (by omega)]; rfl
theorem okW (t : Nat) : okC (cWt ls rs t) = true := by
  unfold cWt
  split
  · rename_i h
    refine ok8 ls rs ?_
    unfold tv
    simp only [Bool.and_eq_true, decide_eq_true_eq, Bool.true_or, and_true]
    omega
  · exact ok0 ls rs
theorem psW (t : Nat) : (cWt ls rs t).ps = [] := by unfold cWt; split <;> rfl
end
theorem shr9 (x : Int) (w : World) : (binOp .shr 3 (.int .i64 x) (.int .u64 9)).run Try.prog w = .ok (.int .i64 (x / 512)) w := by
  simp [go_sem]
theorem opTo_int {o : Oper} {a : Act} {w : World} (s x : Operand) (ho : o.op = .call { callee := .builtin .append, args := #[s, x], argTypes := #[49, 49] }) {base n q : Nat} {v : Value} {e : Int} {xs : List Value} (hs : a.eval s = v) (hown : w.ownsRow base 3 1 v n xs) (hx : a.eval x = .slice (some ⟨q, 0, none⟩) 1 1) (hr : RowAt w q [.int .i64 e]) (hn : n ≤ 100000) (hbase : base ≤ w.heap.size) :
    opTo Try.prog o a w fun v' w' => Grew w w' v v' ∧ w'.ownsRow base 3 1 v' (n + 1) (xs ++ [.int .i64 e]) := by
  obtain ⟨i0, hi, hz0, hz1, hz2⟩ := info_parts infoI64
  exact opTo_app s x 49 3 ho base i0 _ 1 8 Try.underlying49 hi hz0 hz1 hz2 rfl (by decide) v n xs hs hown ⟨q, 0, none⟩ 1 1 [.int .i64 e] hx rfl (fun j u' hj => by
    have e' : ((⟨q, 0, none⟩ : Addr).add j) = ⟨q, j, none⟩ := by unfold Addr.add; split <;> simp_all
    rw [e']; exact hr.1 j u' hj) (fun u' hu => by rw [List.mem_singleton.1 hu]; rfl) (by unfold maxLen; omega) (by omega) hbase
theorem slR_own3 {w : World} {v : Value} {B : Nat} {a b c : Int} (h : w.ownsRow B 3 1 v 3 [.int .i64 a, .int .i64 b, .int .i64 c]) : SlR w 1 v (([a, b, c] : List Int).map cn) :=
  (SlR.of_own (L := ([a, b, c] : List Int).map cn) (by decide) (fun q hq => by obtain ⟨x, -, rfl⟩ := List.mem_map.1 hq; rfl) h).1
theorem slR_row3 {w : World} {q : Nat} {a b c : Int} (h : RowAt w q [.int .i64 a, .int .i64 b, .int .i64 c]) : SlR w 1 (.slice (some ⟨q, 0, none⟩) 3 3) (([a, b, c] : List Int).map cn) := by
  refine ⟨_, 3, rfl, Nat.le_refl _, by decide, by simp, fun _ => ⟨q, 0, rfl, h.2.2, fun i r hi j u hj => ?_⟩⟩
  match i, r, hi, j, u, hj with
  | 0, _, rfl, 0, _, rfl => exact h.1 0 _ rfl
  | 1, _, rfl, 0, _, rfl => exact h.1 1 _ rfl
  | 2, _, rfl, 0, _, rfl => exact h.1 2 _ rfl
theorem eqInts3 {w : World} {v1 v2 : Value} {a b c : Int} (h1 : SlR w 1 v1 (([a, b, c] : List Int).map cn)) (h2 : SlR w 1 v2 (([a, b, c] : List Int).map cn)) : Calls Try.prog 43 #[v1, v2] w fun e w' => e = .returned (.bool true) ∧ Below w.heap.size w w' :=
  (eqNumbers_any v1 v2 [a, b, c] [a, b, c] w (of_decide_eq_true rfl) (of_decide_eq_true rfl) h1 h2).mono fun e X ⟨he, m, hm⟩ => ⟨by rw [he, decide_eq_true rfl], by rw [hm]; exact bdrew (Below.refl _ _) m⟩
theorem bsI1 {ρ : Operand → Value} {x : Operand} {d : Option Tmp} {ty : TypeId} {pos : String} {af : Array Edge} {g : Option (Nat × Bool)} {e : Int} (w : World) (hx : ρ x = .int .i64 e) : (execOp ρ ⟨d, .buildSlice 49 1 #[(0, x)], ty, pos, af, g⟩).run Try.prog w = .ok (.value (.slice (some ⟨w.heap.size, 0, none⟩) 1 1)) (w.alloc (.cells ([.int .i64 e] : List Value).toArray 3)) := by
  simp [execOp, hx, go_sem, Instr.buildSlice]
theorem bsI0 {ρ : Operand → Value} {d : Option Tmp} {ty : TypeId} {pos : String} {af : Array Edge} {g : Option (Nat × Bool)} (w : World) : (execOp ρ ⟨d, .buildSlice 49 0 #[], ty, pos, af, g⟩).run Try.prog w = .ok (.value (.slice (some ⟨w.heap.size, 0, none⟩) 0 0)) (w.alloc (.cells ([] : List Value).toArray 3)) := by
  simp [execOp, go_sem, Instr.buildSlice]
theorem bsI3 {a : Act} {d : Option Tmp} {ty : TypeId} {pos : String} {af : Array Edge} {g : Option (Nat × Bool)} {x y z : Int} (w : World) : (execOp a.eval ⟨d, .buildSlice 49 3 #[(0, .const (.int .i64 x)), (1, .const (.int .i64 y)), (2, .const (.int .i64 z))], ty, pos, af, g⟩).run Try.prog w = .ok (.value (.slice (some ⟨w.heap.size, 0, none⟩) 3 3)) (w.alloc (.cells ([.int .i64 x, .int .i64 y, .int .i64 z] : List Value).toArray 3)) := by
  simp [execOp, go_sem, Instr.buildSlice]
theorem below_grown {B : Nat} {g : Option Nat} {W0 W W' : World} (h : Below B W0 W) (s : W.grownBy W' g) (hg : ∀ k, g = some k → B ≤ k) (hB : B ≤ W.heap.size) : Below B W0 W' := h.trans ⟨s.os, s.tape, s.output, s.size, fun k hk => s.block k (by omega) (fun e => by have := hg k e.symm; omega)⟩
theorem tch_grown {B : Nat} {g : Option Nat} {W0 W W' : World} (h : Tch (fun k => k < B) W0 W) (s : W.grownBy W' g) (hg : ∀ b, g = some b → b < B) : Tch (fun k => k < B) W0 W' := h.trans ((Tch.of_grown (T := fun k => k < B) s hg))
/-- Two rows are made, in either order. -/
theorem fw_aa {P : Program} {ops : Array Oper} {Q : Exit → Act → World → Prop} {S : World → Prop} {n fuel : Nat} {L : Kn} {listed : Array Bool} {W : World} {t1 t2 : TypeId} (i j : Nat) {oi oj : Oper} (di dj : Nat) (cs1 cs2 : List Value)
    (hr : Region.ready .any ops listed = [i, j]) (hr1 : Region.ready .any ops (listed.setIfInBounds i true) = [j]) (hr2 : Region.ready .any ops (listed.setIfInBounds j true) = [i]) (hij : Nat.beq i j = false) (hi : ops[i]? = some oi) (hj : ops[j]? = some oj)
    (hwi : ∀ L, wantL ops L oi = some true) (hwj : ∀ L, wantL ops L oj = some true) (hdi : oi.dst = some di) (hdj : oj.dst = some dj) (hbi : Nat.blt di n = true) (hbj : Nat.blt dj n = true) (hdd : Nat.beq di dj = false)
    (run1 : ∀ (a : Act) (W : World), (execOp a.eval oi).run P W = .ok (.value (.pointer (some ⟨W.heap.size, 0, none⟩))) (W.alloc (.cells cs1.toArray t1))) (run2 : ∀ (a : Act) (W : World), (execOp a.eval oj).run P W = .ok (.value (.pointer (some ⟨W.heap.size, 0, none⟩))) (W.alloc (.cells cs2.toArray t2)))
    (hS : ∀ W', Below W.heap.size W W' → S W') (k : ∀ q1 q2 W', q1 ≠ q2 → W.heap.size ≤ q1 → W.heap.size ≤ q2 → Below W.heap.size W W' → RowAt W' q1 cs1 → RowAt W' q2 cs2 → Hd P ops Q S n ((dj, .pointer (some ⟨q2, 0, none⟩)) :: (di, .pointer (some ⟨q1, 0, none⟩)) :: L) fuel ((listed.setIfInBounds i true).setIfInBounds j true) W') : Hd P ops Q S n L (fuel + 2) listed W :=
  ⟨fun hS0 => by
    have ne : ∀ {x y : Nat}, Nat.beq x y = false → x ≠ y := fun h e => by subst e; rw [Nat.beq_refl] at h; cases h
    have k1 : Ho P ops Q S n L (fuel + 1) listed i W := fw_oa hi (u := fun q => .pointer (some ⟨q, 0, none⟩)) (t := t1) di cs1 (hwi _) hdi hbi (fun a _ => run1 a W) fun q W1 hq hb1 hr1' => ⟨hS _ hb1, fw_o1 j hr1 (fw_oa hj (u := fun q => .pointer (some ⟨q, 0, none⟩)) (t := t2) dj cs2 (hwj _) hdj hbj (fun a _ => run2 a W1) fun q2 W2 hq2 hb2 hr2' =>
      have hb := hb1.trans (hb2.mono hb1.size)
      ⟨hS _ hb, k q q2 W2 (by have := hr1'.2.2; omega) hq (Nat.le_trans hb1.size hq2) hb (hr1'.below hb2) hr2'⟩)⟩
    have k2 : Ho P ops Q S n L (fuel + 1) listed j W := fw_oa hj (u := fun q => .pointer (some ⟨q, 0, none⟩)) (t := t2) dj cs2 (hwj _) hdj hbj (fun a _ => run2 a W) fun q W1 hq hb1 hr1' => ⟨hS _ hb1, fw_o1 i hr2 (fw_oa hi (u := fun q => .pointer (some ⟨q, 0, none⟩)) (t := t1) di cs1 (hwi _) hdi hbi (fun a _ => run1 a W1) fun q2 W2 hq2 hb2 hr2' =>
      have hb := hb1.trans (hb2.mono hb1.size)
      ⟨hS _ hb, by
        have h := k q2 q W2 (by have := hr1'.2.2; omega) (Nat.le_trans hb1.size hq2) hq hb hr2' (hr1'.below hb2)
        rw [Array.setIfInBounds_comm _ _ (Ne.symm (ne hij))]
        exact ⟨fun h0 => ⟨fun a ha => (h.out h0).out a ⟨ha.sz, ha.df, fun x v hx => ha.at_ x v (by rw [look_two _ hdd]; exact hx)⟩⟩⟩⟩)⟩
    exact (fw_o2 i j hr k1 k2).out hS0⟩
theorem cWt_st (ls rs : Int) {n : Nat} (h : 20 ≤ n) : ((cWt ls rs n).st == 0) = true := by unfold cWt; rw [if_neg (by omega)]; rfl
set_option maxRecDepth 100000 in
set_option maxHeartbeats 4000000 in
theorem tcpEnds_walk (w : World) (cs : List Value) (h : RdZ Try.prog w 82 cs) :
    Calls Try.prog 9 #[.agg cs.toArray] w fun e w' => e = .returned (.bool true) ∧ Below w.heap.size w w' := by
  obtain ⟨A, B, aA, aB, aL, aW, cA, cB, cL, cW, nL, nW, sz, isv, rfl, hA, hB⟩ := talk_of w cs h
  have hb0 := Below.refl w.heap.size w
  refine fw_en 273 [(0, .agg #[.slice aA A.length cA, .slice aB B.length cB, .int .i64 sz, .int .i64 isv, .slice aL nL cL, .slice aW nW cW])] Try.func9 rfl Try.ntmps9 rfl ⟨rfl, trivial⟩ ?_
  refine fw_sq ?_
  refine fw_rg rfl ?_
  refine fw_bx rfl (cs := [.slice aA A.length cA, .slice aB B.length cB, .int .i64 sz, .int .i64 isv, .slice aL nL cL, .slice aW nW cW]) rfl ?_
  intro q1 W2 g5 s3 r4
  have := Nat.le_trans hb0.size g5
  have b6 := hb0.trans (s3.mono hb0.size)
  refine fw_pu rfl ?_
  refine fw_dt ?_
  refine fw_sq ?_
  refine fw_hr (fun X => Below w.heap.size w X ∧ RowAt X q1 [.slice aA A.length cA, .slice aB B.length cB, .int .i64 sz, .int .i64 isv, .slice aL nL cL, .slice aW nW cW]) (by kernel_rfl) 11 rfl ?_
  intro W7 s8
  have b9 := b6.trans (s8.mono b6.size)
  have r10 := r4.below s8
  refine ⟨⟨b9, r10⟩, ?_⟩
  refine fw_tk 0 rfl rfl (by kernel_rfl) (fun _ _ _ _ _ h => h) ?_
  refine fw_tl 1 (fun _ h => h.2) rfl rfl rfl (by kernel_rfl) (fun _ _ _ _ _ h => h) ?_
  refine fw_tx 2 25 ((.int .u32 (low32 isv))) rfl rfl rfl rfl (fun a h W hW => by obtain ⟨b9, r10⟩ := hW; exact (run_convOp (h.ev rfl) (conv32 _ _))) (by kernel_rfl) (fun _ _ _ _ _ h => h) ?_
  refine fw_tx 3 26 (.int .i64 (low32 isv)) rfl rfl rfl rfl (fun a h W hW => by obtain ⟨b9, r10⟩ := hW; exact (run_convOp (h.ev rfl) (conv64 _ _))) (by kernel_rfl) (fun _ _ _ _ _ h => h) ?_
  refine fw_tk 4 rfl rfl (by kernel_rfl) (fun _ _ _ _ _ h => h) ?_
  refine fw_tl 5 (fun _ h => h.2) rfl rfl rfl (by kernel_rfl) (fun _ _ _ _ _ h => h) ?_
  refine fw_tx 6 29 (.int .i64 (isv / 512)) rfl rfl rfl rfl (fun a h W hW => by obtain ⟨b9, r10⟩ := hW; exact (run_binOp (h.ev rfl) (h.ev rfl) (by simp [go_sem]) (shr9 _ _))) (by kernel_rfl) (fun _ _ _ _ _ h => h) ?_
  refine fw_tx 7 30 ((.int .u32 (low32 (isv / 512)))) rfl rfl rfl rfl (fun a h W hW => by obtain ⟨b9, r10⟩ := hW; exact (run_convOp (h.ev rfl) (conv32 _ _))) (by kernel_rfl) (fun _ _ _ _ _ h => h) ?_
  refine fw_tx 8 31 (.int .i64 (low32 (isv / 512))) rfl rfl rfl rfl (fun a h W hW => by obtain ⟨b9, r10⟩ := hW; exact (run_convOp (h.ev rfl) (conv64 _ _))) (by kernel_rfl) (fun _ _ _ _ _ h => h) ?_
  refine fw_tk 9 rfl rfl (by kernel_rfl) (fun _ _ _ _ _ h => h) ?_
  refine fw_tk 10 rfl rfl (by kernel_rfl) (fun _ _ _ _ _ h => h) ?_
  refine fw_ht (by kernel_rfl) ?_
  refine fw_sq ?_
  refine fw_rg rfl ?_
  refine fw_pu rfl ?_
  refine fw_ca Try.func18 rfl rfl rfl ((rAdd_q (low32 (isv / 512)) 1 W7)) ?_
  rintro _ _ ⟨rfl, rfl⟩
  refine ⟨(.int .i64 (addv (low32 (isv / 512)) 1)), rfl, ?_⟩
  refine fw_pu rfl ?_
  refine fw_ca Try.func18 rfl rfl rfl ((rAdd_q (low32 isv) 1 W7)) ?_
  rintro _ _ ⟨rfl, rfl⟩
  refine ⟨(.int .i64 (addv (low32 isv) 1)), rfl, ?_⟩
  refine fw_ex 36 (.agg #[.int .i64 3, .int .i64 4, .int .i64 (addv (low32 (isv / 512)) 1), .int .i64 (addv (low32 isv) 1), .int .i64 16, .int .i64 1000, .slice none 0 0]) rfl rfl rfl (fun a h => (run_buildOp (bp6 (h.ev rfl) (h.ev rfl) (h.ev rfl) (h.ev rfl) (h.ev rfl) (h.ev rfl)) (by first | kernel_rfl | rfl))) ?_
  refine fw_al (t := 70) (u := fun q => .pointer (some ⟨q, 0, none⟩)) 5 [.int .i64 0, .int .i64 0, .int .i64 0, .int .i64 0, .int .i64 0, .int .i64 0, .slice none 0 0] rfl rfl rfl (fun a h => (run_allocOp (by simp [go_sem, Instr.alloc]))) ?_
  intro q11 W12 g15 s13 r14
  have := Nat.le_trans b9.size g15
  have := r10.lt g15
  have b16 := b9.trans (s13.mono b9.size)
  have r17 := r10.below s13
  refine fw_st r14 rfl rfl ?_
  intro W18 s19 r20
  have b21 := below_chg b16 s19 (by omega) b16.size
  have r22 := r17.chg s19 (by omega)
  refine fw_dt ?_
  refine fw_sq ?_
  refine fw_rg rfl ?_
  refine fw_ld r20 rfl rfl ?_
  refine fw_al (t := 70) (u := fun q => .pointer (some ⟨q, 0, none⟩)) 6 [.int .i64 0, .int .i64 0, .int .i64 0, .int .i64 0, .int .i64 0, .int .i64 0, .slice none 0 0] rfl rfl rfl (fun a h => (run_allocOp (by simp [go_sem, Instr.alloc]))) ?_
  intro q23 W24 g27 s25 r26
  have := Nat.le_trans b21.size g27
  have := r22.lt g27
  have := r20.lt g27
  have b28 := b21.trans (s25.mono b21.size)
  have r29 := r22.below s25
  have r30 := r20.below s25
  refine fw_st r26 rfl rfl ?_
  intro W31 s32 r33
  have b34 := below_chg b28 s32 (by omega) b28.size
  have r35 := r29.chg s32 (by omega)
  have r36 := r30.chg s32 (by omega)
  refine fw_dt ?_
  refine fw_sq ?_
  refine fw_rg rfl ?_
  refine fw_pu rfl ?_
  refine fw_st r33 rfl rfl ?_
  intro W37 s38 r39
  have b40 := below_chg b34 s38 (by omega) b34.size
  have r41 := r35.chg s38 (by omega)
  have r42 := r36.chg s38 (by omega)
  refine fw_dt ?_
  refine fw_sq ?_
  refine fw_sq ?_
  refine fw_rg rfl ?_
  refine fw_pu rfl ?_
  refine fw_dt ?_
  refine fw_bk ?_
  refine fw_lp (fun N K W => ∃ (k : Nat), N = 4 - k ∧ k ≤ 4 ∧ K = [(1, .pointer (some ⟨q1, 0, none⟩)), (3, .int .i64 (low32 isv)), (4, .int .i64 (low32 (isv / 512))), (5, .pointer (some ⟨q11, 0, none⟩)), (6, .pointer (some ⟨q23, 0, none⟩)), (7, .int .i64 ((k : Nat) : Int))] ∧ Below w.heap.size w W ∧ RowAt W q1 [.slice aA A.length cA, .slice aB B.length cB, .int .i64 sz, .int .i64 isv, .slice aL nL cL, .slice aW nW cW] ∧ RowAt W q11 [.int .i64 3, .int .i64 4, .int .i64 (addv (low32 (isv / 512)) 1), .int .i64 (addv (low32 isv) 1), .int .i64 16, .int .i64 1000, .slice none 0 0] ∧ RowAt W q23 [.int .i64 3, .int .i64 4, .int .i64 (addv (low32 (isv / 512)) 1), .int .i64 (addv (low32 isv) 1), .int .i64 17, .int .i64 1000, .slice none 0 0]) _ _ ⟨0, rfl, (Nat.zero_le _), rfl, b40, r41, r42, r39⟩ ⟨rfl, rfl, rfl, rfl, rfl, (by first | rfl | (simp only [Look, cond, Nat.beq]; first | rfl | (congr 2; first | rfl | omega | (push_cast; omega)) | (simp; try omega))), trivial⟩ ?_
  rintro N _ W43 ⟨k, rfl, hk4, rfl, bW43, rW43_0, rW43_1, rW43_2⟩
  intro K45 hK45
  have hls := low32_bd isv
  have hrs := low32_bd (isv / 512)
  refine fw_sq ?_
  refine fw_sq ?_
  have hk3 : k = 0 ∨ k = 1 ∨ k = 2 ∨ k = 3 ∨ k = 4 := by omega
  rcases hk3 with rfl | rfl | rfl | rfl | rfl
  · skip
    refine fw_rg rfl ?_
    iterate 2 refine fw_pu rfl ?_
    refine fw_dt ?_
    refine fw_cT rfl rfl ?_
    refine fw_sk ?_
    refine fw_th ?_
    refine fw_sq ?_
    refine fw_bk ?_
    refine fw_sq ?_
    refine fw_rg rfl ?_
    iterate 2 refine fw_pu rfl ?_
    refine fw_ex 46 (.agg #[.int .i64 3, .int .i64 4, .int .i64 (low32 (isv / 512)), .int .i64 0, .int .i64 2, .int .i64 1000, .slice none 0 0]) rfl rfl rfl (fun a h => (run_buildOp (bp5 (h.ev rfl) (h.ev rfl) (h.ev rfl) (h.ev rfl) (h.ev rfl)) (by first | kernel_rfl | rfl))) ?_
    have := rW43_0.2.2
    have := rW43_1.2.2
    have := rW43_2.2.2
    obtain ⟨Bz47, hBz47⟩ : ∃ x, x = W43.heap.size := ⟨_, rfl⟩
    have hwB47 : w.heap.size ≤ Bz47 := by rw [hBz47]; exact bW43.size
    refine fw_ca Try.func41 rfl rfl rfl (pOpen 1 2 (low32 isv) (eO (low32 (isv / 512))) none 0 W43 (mayE (low32 isv) (low32 (isv / 512)) hls hrs) (openE (low32 isv) (low32 (isv / 512)))) ?_
    rintro _ V47 ⟨ao47, co47, ap47, cp47, al47, cl47, rfl, hM47, hb46⟩
    refine ⟨_, rfl, ?_⟩
    have hT47 := Tch.refl (fun k => k < Bz47) V47
    rw [← hBz47] at hM47
    have hz47 := mine_size hM47
    have b48 := bW43.trans (hb46.mono bW43.size)
    have r49 := rW43_0.below hb46
    have r50 := rW43_1.below hb46
    have r51 := rW43_2.below hb46
    iterate 4 refine fw_pu rfl ?_
    refine fw_al (t := 62) (u := fun q => .pointer (some ⟨q, 0, none⟩)) 8 [.int .i64 0, .int .i64 0, .int .i64 0, .int .i64 0, .int .i64 0, .int .i64 0, .int .i64 0, .int .i64 0, .slice none 0 0, .int .i64 0, .slice none 0 0, .bool false, .bool false, .int .i64 0, .int .i64 0, .int .i64 0] rfl rfl rfl (fun a h => (run_allocOp (by simp [go_sem, Instr.alloc]))) ?_
    intro q52 W53 g56 s54 r55
    have := Nat.le_trans b48.size g56
    have := r49.lt g56
    have := r50.lt g56
    have := r51.lt g56
    have := Nat.le_trans hT47.size g56
    have b57 := b48.trans (s54.mono b48.size)
    have r58 := r49.below s54
    have r59 := r50.below s54
    have r60 := r51.below s54
    have f61 := (Tch.grow hT47 s54)
    refine fw_st r55 rfl rfl ?_
    intro W62 s63 r64
    have b65 := below_chg b57 s63 (by omega) b57.size
    have r66 := r58.chg s63 (by omega)
    have r67 := r59.chg s63 (by omega)
    have r68 := r60.chg s63 (by omega)
    have f69 := (Tch.chg f61 s63 (.inr (by omega)))
    iterate 2 refine fw_pu rfl ?_
    refine fw_dt ?_
    refine fw_sq ?_
    refine fw_rg rfl ?_
    refine fw_ld r64 rfl rfl ?_
    refine fw_ld r67 rfl rfl ?_
    have := r66.2.2
    have := r67.2.2
    have := r68.2.2
    have := r64.2.2
    obtain ⟨Bz71, hBz71⟩ : ∃ x, x = W62.heap.size := ⟨_, rfl⟩
    have hwB71 : w.heap.size ≤ Bz71 := by rw [hBz71]; exact b65.size
    refine fw_ca Try.func36 rfl rfl rfl (pTake (cE (low32 isv) (low32 (isv / 512))) ao47 ap47 co47 cp47 W62 (mine_reads hM47 f69).1 (mine_reads hM47 f69).2.1 (Nat.zero_le _) (fun x hx => (nomatch hx)) (eS (low32 isv) (low32 (isv / 512))) none 0 (mayTk (okcE (low32 isv) (low32 (isv / 512)) hls) (okE (low32 isv) (low32 (isv / 512))).1 rfl) (Sl_nil _) (tE1 (low32 isv) (low32 (isv / 512)))) ?_
    rintro _ V71 ⟨ao71, co71, ap71, cp71, al71, cl71, vt71, rfl, hM71, hb70⟩
    refine ⟨_, rfl, ?_⟩
    have hT71 := Tch.refl (fun k => k < Bz71) V71
    rw [← hBz71] at hM71
    have hz71 := mine_size hM71
    have b72 := b65.trans (hb70.mono b65.size)
    have r73 := r66.below hb70
    have r74 := r67.below hb70
    have r75 := r68.below hb70
    have r76 := r64.below hb70
    iterate 5 refine fw_pu rfl ?_
    refine fw_st r76 rfl rfl ?_
    intro W77 s78 r79
    have b80 := below_chg b72 s78 (by omega) b72.size
    have r81 := r73.chg s78 (by omega)
    have r82 := r74.chg s78 (by omega)
    have r83 := r75.chg s78 (by omega)
    have f84 := (Tch.chg hT71 s78 (.inl (by omega)))
    iterate 3 refine fw_pu rfl ?_
    refine fw_dt ?_
    refine fw_sq ?_
    refine fw_sq ?_
    refine fw_rg rfl ?_
    refine fw_pu rfl ?_
    refine fw_ca Try.func38 rfl rfl rfl ((num16_any 0 W77)) ?_
    rintro _ _ ⟨rfl, rfl⟩
    refine ⟨(.int .i64 0), rfl, ?_⟩
    iterate 3 refine fw_pu rfl ?_
    refine fw_ca Try.func38 rfl rfl rfl ((num16_any 0 W77)) ?_
    rintro _ _ ⟨rfl, rfl⟩
    refine ⟨(.int .i64 0), rfl, ?_⟩
    iterate 2 refine fw_pu rfl ?_
    refine fw_dt ?_
    refine fw_cF rfl rfl ?_
    refine fw_sk ?_
    refine fw_th ?_
    refine fw_sq ?_
    refine fw_hr (fun X => Below w.heap.size w X ∧ RowAt X q1 [.slice aA A.length cA, .slice aB B.length cB, .int .i64 sz, .int .i64 isv, .slice aL nL cL, .slice aW nW cW] ∧ RowAt X q11 [.int .i64 3, .int .i64 4, .int .i64 (addv (low32 (isv / 512)) 1), .int .i64 (addv (low32 isv) 1), .int .i64 16, .int .i64 1000, .slice none 0 0] ∧ RowAt X q23 [.int .i64 3, .int .i64 4, .int .i64 (addv (low32 (isv / 512)) 1), .int .i64 (addv (low32 isv) 1), .int .i64 17, .int .i64 1000, .slice none 0 0] ∧ RowAt X q52 [.int .i64 (cV (low32 isv) (low32 (isv / 512)) 2 1 1 1 false tm0).link, .int .i64 (cV (low32 isv) (low32 (isv / 512)) 2 1 1 1 false tm0).ip, .int .i64 (cV (low32 isv) (low32 (isv / 512)) 2 1 1 1 false tm0).pp, .int .i64 (cV (low32 isv) (low32 (isv / 512)) 2 1 1 1 false tm0).po, .int .i64 (cV (low32 isv) (low32 (isv / 512)) 2 1 1 1 false tm0).st, .int .i64 (cV (low32 isv) (low32 (isv / 512)) 2 1 1 1 false tm0).una, .int .i64 (cV (low32 isv) (low32 (isv / 512)) 2 1 1 1 false tm0).nxt, .int .i64 (cV (low32 isv) (low32 (isv / 512)) 2 1 1 1 false tm0).win, .slice ao71 (cV (low32 isv) (low32 (isv / 512)) 2 1 1 1 false tm0).out.length co71, .int .i64 (cV (low32 isv) (low32 (isv / 512)) 2 1 1 1 false tm0).rn, .slice ap71 (cV (low32 isv) (low32 (isv / 512)) 2 1 1 1 false tm0).ps.length cp71, .bool (cV (low32 isv) (low32 (isv / 512)) 2 1 1 1 false tm0).cl, .bool (cV (low32 isv) (low32 (isv / 512)) 2 1 1 1 false tm0).tm.on, .int .i64 (cV (low32 isv) (low32 (isv / 512)) 2 1 1 1 false tm0).tm.left, .int .i64 (cV (low32 isv) (low32 (isv / 512)) 2 1 1 1 false tm0).tm.wait, .int .i64 (cV (low32 isv) (low32 (isv / 512)) 2 1 1 1 false tm0).tm.tries] ∧ Tch (fun k => k < Bz71) V71 X) (by kernel_rfl) 6 rfl ?_
    intro W85 s86
    have b87 := b80.trans (s86.mono b80.size)
    have r88 := r81.below s86
    have r89 := r82.below s86
    have r90 := r83.below s86
    have r91 := r79.below s86
    have f92 := (Tch.grow f84 s86)
    refine ⟨⟨b87, r88, r89, r90, r91, f92⟩, ?_⟩
    refine fw_tl 0 (fun _ h => h.2.2.1) rfl rfl rfl (by kernel_rfl) (fun _ _ _ _ _ h => h) ?_
    refine fw_tl 1 (fun _ h => h.2.2.2.1) rfl rfl rfl (by kernel_rfl) (fun _ _ _ _ _ h => h) ?_
    refine fw_aa (t1 := 70) (t2 := 70) 2 3 14 15 [.int .i64 0, .int .i64 0, .int .i64 0, .int .i64 0, .int .i64 0, .int .i64 0, .slice none 0 0] [.int .i64 0, .int .i64 0, .int .i64 0, .int .i64 0, .int .i64 0, .int .i64 0, .slice none 0 0] (by kernel_rfl) (by kernel_rfl) (by kernel_rfl) rfl rfl rfl (fun _ => rfl) (fun _ => rfl) rfl rfl rfl rfl rfl (fun a W => (run_allocOp (by simp [go_sem, Instr.alloc]))) (fun a W => (run_allocOp (by simp [go_sem, Instr.alloc]))) (fun X hX => ⟨b87.trans (hX.mono b87.size), r88.below hX, r89.below hX, r90.below hX, r91.below hX, (Tch.grow f92 hX)⟩) ?_
    intro q93 q94 W95 hne96 g97 g98 s99 r100 r101
    have := Nat.le_trans b87.size g97
    have := r88.lt g97
    have := r89.lt g97
    have := r90.lt g97
    have := r91.lt g97
    have := Nat.le_trans f92.size g97
    have := Nat.le_trans b87.size g98
    have := r88.lt g98
    have := r89.lt g98
    have := r90.lt g98
    have := r91.lt g98
    have := Nat.le_trans f92.size g98
    have b102 := b87.trans (s99.mono b87.size)
    have r103 := r88.below s99
    have r104 := r89.below s99
    have r105 := r90.below s99
    have r106 := r91.below s99
    have f107 := (Tch.grow f92 s99)
    refine fw_o1 4 (by kernel_rfl) ?_
    refine fw_os rfl r100 rfl rfl ?_
    intro W108 s109 r110
    have b111 := below_chg b102 s109 (by omega) b102.size
    have r112 := r103.chg s109 (by omega)
    have r113 := r104.chg s109 (by omega)
    have r114 := r105.chg s109 (by omega)
    have r115 := r106.chg s109 (by omega)
    have r116 := r101.chg s109 (by omega)
    have f117 := (Tch.chg f107 s109 (.inr (by omega)))
    refine ⟨⟨b111, r112, r113, r114, r115, f117⟩, ?_⟩
    refine fw_o1 5 (by kernel_rfl) ?_
    refine fw_os rfl r116 rfl rfl ?_
    intro W118 s119 r120
    have b121 := below_chg b111 s119 (by omega) b111.size
    have r122 := r112.chg s119 (by omega)
    have r123 := r113.chg s119 (by omega)
    have r124 := r114.chg s119 (by omega)
    have r125 := r115.chg s119 (by omega)
    have r126 := r110.chg s119 (by omega)
    have f127 := (Tch.chg f117 s119 (.inr (by omega)))
    refine ⟨⟨b121, r122, r123, r124, r125, f127⟩, ?_⟩
    refine fw_ht (by kernel_rfl) ?_
    refine fw_sq ?_
    refine fw_rg rfl ?_
    refine fw_pu rfl ?_
    refine fw_ca Try.func18 rfl rfl rfl ((rAdd_q (low32 (isv / 512)) 2 W118)) ?_
    rintro _ _ ⟨rfl, rfl⟩
    refine ⟨(.int .i64 (addv (low32 (isv / 512)) 2)), rfl, ?_⟩
    refine fw_pu rfl ?_
    refine fw_ca Try.func18 rfl rfl rfl ((rAdd_q (low32 isv) 2 W118)) ?_
    rintro _ _ ⟨rfl, rfl⟩
    refine ⟨(.int .i64 (addv (low32 isv) 2)), rfl, ?_⟩
    refine fw_pu rfl ?_
    refine fw_st r126 rfl rfl ?_
    intro W128 s129 r130
    have b131 := below_chg b121 s129 (by omega) b121.size
    have r132 := r122.chg s129 (by omega)
    have r133 := r123.chg s129 (by omega)
    have r134 := r124.chg s129 (by omega)
    have r135 := r125.chg s129 (by omega)
    have r136 := r120.chg s129 (by omega)
    have f137 := (Tch.chg f127 s129 (.inr (by omega)))
    refine fw_pu rfl ?_
    refine fw_st r130 rfl rfl ?_
    intro W138 s139 r140
    have b141 := below_chg b131 s139 (by omega) b131.size
    have r142 := r132.chg s139 (by omega)
    have r143 := r133.chg s139 (by omega)
    have r144 := r134.chg s139 (by omega)
    have r145 := r135.chg s139 (by omega)
    have r146 := r136.chg s139 (by omega)
    have f147 := (Tch.chg f137 s139 (.inr (by omega)))
    refine fw_dt ?_
    refine fw_sq ?_
    refine fw_rg rfl ?_
    refine fw_pu rfl ?_
    refine fw_dt ?_
    refine fw_sq ?_
    refine fw_rg rfl ?_
    refine fw_al (t := 3) (u := fun q => .slice (some ⟨q, 0, none⟩) 0 0) 75 [] rfl rfl rfl (fun a h => (bsI0 _)) ?_
    intro q148 W149 g152 s150 r151
    have := Nat.le_trans b141.size g152
    have := r142.lt g152
    have := r143.lt g152
    have := r144.lt g152
    have := r145.lt g152
    have := r140.lt g152
    have := r146.lt g152
    have := Nat.le_trans f147.size g152
    have b153 := b141.trans (s150.mono b141.size)
    have r154 := r142.below s150
    have r155 := r143.below s150
    have r156 := r144.below s150
    have r157 := r145.below s150
    have r158 := r140.below s150
    have r159 := r146.below s150
    have f160 := (Tch.grow f147 s150)
    refine fw_pu rfl ?_
    refine fw_dt ?_
    refine fw_sq ?_
    refine fw_rg rfl ?_
    refine fw_pu rfl ?_
    refine fw_dt ?_
    refine fw_sq ?_
    refine fw_sq ?_
    refine fw_rg rfl ?_
    refine fw_pu rfl ?_
    refine fw_dt ?_
    refine fw_bk ?_
    refine fw_sq ?_
    refine fw_rg rfl ?_
    iterate 2 refine fw_pu rfl ?_
    refine fw_dt ?_
    refine fw_cT rfl rfl ?_
    refine fw_sq ?_
    refine fw_rg rfl ?_
    refine fw_ld r157 rfl rfl ?_
    refine fw_ld r156 rfl rfl ?_
    have := r154.2.2
    have := r155.2.2
    have := r156.2.2
    have := r157.2.2
    have := r158.2.2
    have := r159.2.2
    have := r151.2.2
    obtain ⟨Bz162, hBz162⟩ : ∃ x, x = W149.heap.size := ⟨_, rfl⟩
    have hwB162 : w.heap.size ≤ Bz162 := by rw [hBz162]; exact b153.size
    refine fw_ca Try.func36 rfl rfl rfl (pTake (cV (low32 isv) (low32 (isv / 512)) 2 1 1 1 false tm0) ao71 ap71 co71 cp71 W149 (mine_reads hM71 f160).1 (mine_reads hM71 f160).2.1 (Nat.zero_le _) (fun x hx => (nomatch hx)) (eF (low32 isv) (low32 (isv / 512))) none 0 (mayTk (ok2 (low32 isv) (low32 (isv / 512))) (okE (low32 isv) (low32 (isv / 512))).2.1 rfl) (Sl_nil _) (tE_0a (low32 isv) (low32 (isv / 512)))) ?_
    rintro _ V162 ⟨ao162, co162, ap162, cp162, al162, cl162, vt162, rfl, hM162, hb161⟩
    refine ⟨_, rfl, ?_⟩
    have hT162 := Tch.refl (fun k => k < Bz162) V162
    rw [← hBz162] at hM162
    have hz162 := mine_size hM162
    have b163 := b153.trans (hb161.mono b153.size)
    have r164 := r154.below hb161
    have r165 := r155.below hb161
    have r166 := r156.below hb161
    have r167 := r157.below hb161
    have r168 := r158.below hb161
    have r169 := r159.below hb161
    have r170 := r151.below hb161
    iterate 5 refine fw_pu rfl ?_
    refine fw_st r167 rfl rfl ?_
    intro W171 s172 r173
    have b174 := below_chg b163 s172 (by omega) b163.size
    have r175 := r164.chg s172 (by omega)
    have r176 := r165.chg s172 (by omega)
    have r177 := r166.chg s172 (by omega)
    have r178 := r168.chg s172 (by omega)
    have r179 := r169.chg s172 (by omega)
    have r180 := r170.chg s172 (by omega)
    have f181 := (Tch.chg hT162 s172 (.inl (by omega)))
    refine fw_pu rfl ?_
    refine fw_dt ?_
    refine fw_fg [(1, _), (3, _), (4, _), (5, _), (6, _), (7, _), (8, _), (13, _), (14, _), (16, _)] ⟨rfl, rfl, rfl, rfl, rfl, rfl, rfl, rfl, rfl, rfl, trivial⟩ ?_
    refine fw_sq ?_
    refine fw_rg rfl ?_
    iterate 2 refine fw_pu rfl ?_
    refine fw_ld r173 rfl rfl ?_
    refine fw_al (t := 3) (u := fun q => .slice (some ⟨q, 0, none⟩) 1 1) 90 [.int .i64 (cV (low32 isv) (low32 (isv / 512)) 5 1 1 2 false tm0).st] rfl rfl rfl (fun a h => (bsI1 _ (h.ev rfl))) ?_
    intro q182 W183 g186 s184 r185
    have := Nat.le_trans b174.size g186
    have := r175.lt g186
    have := r176.lt g186
    have := r177.lt g186
    have := r173.lt g186
    have := r178.lt g186
    have := r179.lt g186
    have := r180.lt g186
    have := Nat.le_trans f181.size g186
    have b187 := b174.trans (s184.mono b174.size)
    have r188 := r175.below s184
    have r189 := r176.below s184
    have r190 := r177.below s184
    have r191 := r173.below s184
    have r192 := r178.below s184
    have r193 := r179.below s184
    have r194 := r180.below s184
    have f195 := (Tch.grow f181 s184)
    obtain ⟨Bst, hBst⟩ : ∃ x, x = q182 := ⟨_, rfl⟩
    have hwBst : w.heap.size ≤ Bst := by omega
    have hBstW : Bst ≤ W183.heap.size := by rw [hBst]; exact Nat.le_of_lt r185.2.2
    have hst0 : W183.ownsRow Bst 3 1 (.slice none 0 0) 0 [] := World.ownsRow_nil _ _ _ _
    refine fw_to 91 rfl rfl rfl (fun a h => opTo_int _ _ rfl (h.ev rfl) hst0 (h.ev rfl) r185 (by decide) hBstW) ?_
    rintro vV196 V196 ⟨hgr, hogV196⟩
    obtain ⟨aV196, cV196, rfl⟩ := own_slice hogV196
    have hOB : ∀ b, (.slice none 0 0 : Value).ownBlock = some b → Bst ≤ b := fun b hb => (blk_lt hst0 hb).1
    have b197 := below_grown b187 hgr.1 (fun b hb => Nat.le_trans hwBst (hOB b hb)) b187.size
    have r198 := rowAt_keep r188 hgr.1 (fun e => by have := hOB _ e.symm; omega)
    have r199 := rowAt_keep r189 hgr.1 (fun e => by have := hOB _ e.symm; omega)
    have r200 := rowAt_keep r190 hgr.1 (fun e => by have := hOB _ e.symm; omega)
    have r201 := rowAt_keep r191 hgr.1 (fun e => by have := hOB _ e.symm; omega)
    have r202 := rowAt_keep r192 hgr.1 (fun e => by have := hOB _ e.symm; omega)
    have r203 := rowAt_keep r193 hgr.1 (fun e => by have := hOB _ e.symm; omega)
    have r204 := rowAt_keep r194 hgr.1 (fun e => by have := hOB _ e.symm; omega)
    have f205 := tch_grown f195 hgr.1 (fun b hb => (nomatch hb))
    have hBstV : Bst ≤ V196.heap.size := Nat.le_trans hBstW hgr.1.size
    have hszS := Nat.le_refl V196.heap.size
    refine fw_pu rfl ?_
    refine fw_dt ?_
    refine fw_sq ?_
    refine fw_rg rfl ?_
    refine fw_ld r201 rfl rfl ?_
    have := r198.2.2
    have := r199.2.2
    have := r200.2.2
    have := r201.2.2
    have := r202.2.2
    have := r203.2.2
    have := r204.2.2
    obtain ⟨Bz207, hBz207⟩ : ∃ x, x = V196.heap.size := ⟨_, rfl⟩
    have hwB207 : w.heap.size ≤ Bz207 := by rw [hBz207]; exact b197.size
    have hsk207 : ∀ b, (.slice aV196 1 cV196 : Value).ownBlock = some b → b < Bz207 := fun b hb => by rw [hBz207]; exact (blk_lt hogV196 hb).2
    refine fw_ca Try.func34 rfl rfl rfl (pClose (cV (low32 isv) (low32 (isv / 512)) 5 1 1 2 false tm0) ao162 ap162 co162 cp162 V196 (ok5 (low32 isv) (low32 (isv / 512))) (mine_reads hM162 f205).1 (mine_reads hM162 f205).2.1 (Nat.zero_le _) (fun x hx => (nomatch hx)) rfl (close_V (low32 isv) (low32 (isv / 512)) (.inr rfl))) ?_
    rintro _ V207 ⟨ao207, co207, ap207, cp207, al207, cl207, rfl, hM207, hb206⟩
    refine ⟨_, rfl, ?_⟩
    have hT207 := Tch.refl (fun k => k < Bz207) V207
    rw [← hBz207] at hM207
    have hz207 := mine_size hM207
    have b208 := b197.trans (hb206.mono b197.size)
    have r209 := r198.below hb206
    have r210 := r199.below hb206
    have r211 := r200.below hb206
    have r212 := r201.below hb206
    have r213 := r202.below hb206
    have r214 := r203.below hb206
    have r215 := r204.below hb206
    have f216 := (below_own hogV196 hb206)
    have f217 := (Nat.le_trans hszS hb206.size)
    iterate 4 refine fw_pu rfl ?_
    refine fw_st r212 rfl rfl ?_
    intro W218 s219 r220
    have b221 := below_chg b208 s219 (by omega) b208.size
    have r222 := r209.chg s219 (by omega)
    have r223 := r210.chg s219 (by omega)
    have r224 := r211.chg s219 (by omega)
    have r225 := r213.chg s219 (by omega)
    have r226 := r214.chg s219 (by omega)
    have r227 := r215.chg s219 (by omega)
    have f228 := (own_chg f216 s219 (by omega))
    have f229 := (Nat.le_trans f217 s219.size)
    have f230 := (Tch.chg hT207 s219 (.inl (by omega)))
    refine fw_pu rfl ?_
    refine fw_dt ?_
    refine fw_sq ?_
    refine fw_rg rfl ?_
    iterate 2 refine fw_pu rfl ?_
    refine fw_ld r220 rfl rfl ?_
    refine fw_al (t := 3) (u := fun q => .slice (some ⟨q, 0, none⟩) 1 1) 101 [.int .i64 (cV (low32 isv) (low32 (isv / 512)) 7 1 2 2 true (tmS 3)).st] rfl rfl rfl (fun a h => (bsI1 _ (h.ev rfl))) ?_
    intro q231 W232 g235 s233 r234
    have := Nat.le_trans b221.size g235
    have := r222.lt g235
    have := r223.lt g235
    have := r224.lt g235
    have := r220.lt g235
    have := r225.lt g235
    have := r226.lt g235
    have := r227.lt g235
    have hsq_q231 : ∀ b, (.slice aV196 1 cV196 : Value).ownBlock = some b → b < q231 := fun b hb => Nat.lt_of_lt_of_le (blk_lt f228 hb).2 g235
    have := Nat.le_trans f230.size g235
    have b236 := b221.trans (s233.mono b221.size)
    have r237 := r222.below s233
    have r238 := r223.below s233
    have r239 := r224.below s233
    have r240 := r220.below s233
    have r241 := r225.below s233
    have r242 := r226.below s233
    have r243 := r227.below s233
    have f244 := (below_own f228 s233)
    have f245 := (Nat.le_trans f229 s233.size)
    have f246 := (Tch.grow f230 s233)
    refine fw_to 102 rfl rfl rfl (fun a h => opTo_int _ _ rfl (h.ev rfl) f244 (h.ev rfl) r234 (by decide) (Nat.le_trans hBstV f245)) ?_
    rintro vV247 V247 ⟨hgr, hogV247⟩
    obtain ⟨aV247, cV247, rfl⟩ := own_slice hogV247
    have hOB : ∀ b, (.slice aV196 1 cV196 : Value).ownBlock = some b → Bst ≤ b := fun b hb => (blk_lt f244 hb).1
    have b248 := below_grown b236 hgr.1 (fun b hb => Nat.le_trans hwBst (hOB b hb)) b236.size
    have r249 := rowAt_keep r237 hgr.1 (fun e => by have := hOB _ e.symm; omega)
    have r250 := rowAt_keep r238 hgr.1 (fun e => by have := hOB _ e.symm; omega)
    have r251 := rowAt_keep r239 hgr.1 (fun e => by have := hOB _ e.symm; omega)
    have r252 := rowAt_keep r240 hgr.1 (fun e => by have := hOB _ e.symm; omega)
    have r253 := rowAt_keep r241 hgr.1 (fun e => by have := hOB _ e.symm; omega)
    have r254 := rowAt_keep r242 hgr.1 (fun e => by have := hOB _ e.symm; omega)
    have r255 := rowAt_keep r243 hgr.1 (fun e => by have := hOB _ e.symm; omega)
    have f256 := tch_grown f246 hgr.1 (hsk207)
    have hBstV : Bst ≤ V247.heap.size := Nat.le_trans (Nat.le_trans hBstV f245) hgr.1.size
    have hszS := Nat.le_refl V247.heap.size
    refine fw_pu rfl ?_
    refine fw_dt ?_
    refine fw_sq ?_
    refine fw_rg rfl ?_
    refine fw_ld r252 rfl rfl ?_
    refine fw_ld r253 rfl rfl ?_
    have := r249.2.2
    have := r250.2.2
    have := r251.2.2
    have := r252.2.2
    have := r253.2.2
    have := r254.2.2
    have := r255.2.2
    obtain ⟨Bz258, hBz258⟩ : ∃ x, x = V247.heap.size := ⟨_, rfl⟩
    have hwB258 : w.heap.size ≤ Bz258 := by rw [hBz258]; exact b248.size
    have hsk258 : ∀ b, (.slice aV247 2 cV247 : Value).ownBlock = some b → b < Bz258 := fun b hb => by rw [hBz258]; exact (blk_lt hogV247 hb).2
    refine fw_ca Try.func36 rfl rfl rfl (pTake (cV (low32 isv) (low32 (isv / 512)) 7 1 2 2 true (tmS 3)) ao207 ap207 co207 cp207 V247 (mine_reads hM207 f256).1 (mine_reads hM207 f256).2.1 (Nat.zero_le _) (fun x hx => (nomatch hx)) (eL (low32 isv) (low32 (isv / 512))) none 0 (mayTk (ok7 (low32 isv) (low32 (isv / 512))) (okE (low32 isv) (low32 (isv / 512))).2.2.1 rfl) (Sl_nil _) (tE_0c (low32 isv) (low32 (isv / 512)))) ?_
    rintro _ V258 ⟨ao258, co258, ap258, cp258, al258, cl258, vt258, rfl, hM258, hb257⟩
    refine ⟨_, rfl, ?_⟩
    have hT258 := Tch.refl (fun k => k < Bz258) V258
    rw [← hBz258] at hM258
    have hz258 := mine_size hM258
    have b259 := b248.trans (hb257.mono b248.size)
    have r260 := r249.below hb257
    have r261 := r250.below hb257
    have r262 := r251.below hb257
    have r263 := r252.below hb257
    have r264 := r253.below hb257
    have r265 := r254.below hb257
    have r266 := r255.below hb257
    have f267 := (below_own hogV247 hb257)
    have f268 := (Nat.le_trans hszS hb257.size)
    iterate 5 refine fw_pu rfl ?_
    refine fw_st r263 rfl rfl ?_
    intro W269 s270 r271
    have b272 := below_chg b259 s270 (by omega) b259.size
    have r273 := r260.chg s270 (by omega)
    have r274 := r261.chg s270 (by omega)
    have r275 := r262.chg s270 (by omega)
    have r276 := r264.chg s270 (by omega)
    have r277 := r265.chg s270 (by omega)
    have r278 := r266.chg s270 (by omega)
    have f279 := (own_chg f267 s270 (by omega))
    have f280 := (Nat.le_trans f268 s270.size)
    have f281 := (Tch.chg hT258 s270 (.inl (by omega)))
    refine fw_pu rfl ?_
    refine fw_dt ?_
    refine fw_rg rfl ?_
    refine fw_al (t := 3) (u := fun q => .slice (some ⟨q, 0, none⟩) 3 3) 111 [.int .i64 5, .int .i64 7, .int .i64 0] rfl rfl rfl (fun a h => (bsI3 _)) ?_
    intro q282 W283 g286 s284 r285
    have := Nat.le_trans b272.size g286
    have := r273.lt g286
    have := r274.lt g286
    have := r275.lt g286
    have := r271.lt g286
    have := r276.lt g286
    have := r277.lt g286
    have := r278.lt g286
    have hsq_q282 : ∀ b, (.slice aV247 2 cV247 : Value).ownBlock = some b → b < q282 := fun b hb => Nat.lt_of_lt_of_le (blk_lt f279 hb).2 g286
    have := Nat.le_trans f281.size g286
    have b287 := b272.trans (s284.mono b272.size)
    have r288 := r273.below s284
    have r289 := r274.below s284
    have r290 := r275.below s284
    have r291 := r271.below s284
    have r292 := r276.below s284
    have r293 := r277.below s284
    have r294 := r278.below s284
    have f295 := (below_own f279 s284)
    have f296 := (Nat.le_trans f280 s284.size)
    have f297 := (Tch.grow f281 s284)
    refine fw_pu rfl ?_
    refine fw_dn ?_
    refine fw_bn ?_
    refine fw_th ?_
    refine fw_sq ?_
    refine fw_rg rfl ?_
    iterate 2 refine fw_pu rfl ?_
    refine fw_ld r291 rfl rfl ?_
    refine fw_al (t := 3) (u := fun q => .slice (some ⟨q, 0, none⟩) 1 1) 228 [.int .i64 (cV (low32 isv) (low32 (isv / 512)) 0 2 2 2 true tm0).st] rfl rfl rfl (fun a h => (bsI1 _ (h.ev rfl))) ?_
    intro q298 W299 g302 s300 r301
    have := Nat.le_trans b287.size g302
    have := r288.lt g302
    have := r289.lt g302
    have := r290.lt g302
    have := r291.lt g302
    have := r292.lt g302
    have := r293.lt g302
    have := r294.lt g302
    have := r285.lt g302
    have hsq_q298 : ∀ b, (.slice aV247 2 cV247 : Value).ownBlock = some b → b < q298 := fun b hb => Nat.lt_of_lt_of_le (blk_lt f295 hb).2 g302
    have := Nat.le_trans f297.size g302
    have b303 := b287.trans (s300.mono b287.size)
    have r304 := r288.below s300
    have r305 := r289.below s300
    have r306 := r290.below s300
    have r307 := r291.below s300
    have r308 := r292.below s300
    have r309 := r293.below s300
    have r310 := r294.below s300
    have r311 := r285.below s300
    have f312 := (below_own f295 s300)
    have f313 := (Nat.le_trans f296 s300.size)
    have f314 := (Tch.grow f297 s300)
    refine fw_to 229 rfl rfl rfl (fun a h => opTo_int _ _ rfl (h.ev rfl) f312 (h.ev rfl) r301 (by decide) (Nat.le_trans hBstV f313)) ?_
    rintro vV315 V315 ⟨hgr, hogV315⟩
    obtain ⟨aV315, cV315, rfl⟩ := own_slice hogV315
    have hOB : ∀ b, (.slice aV247 2 cV247 : Value).ownBlock = some b → Bst ≤ b := fun b hb => (blk_lt f312 hb).1
    have b316 := below_grown b303 hgr.1 (fun b hb => Nat.le_trans hwBst (hOB b hb)) b303.size
    have r317 := rowAt_keep r304 hgr.1 (fun e => by have := hOB _ e.symm; omega)
    have r318 := rowAt_keep r305 hgr.1 (fun e => by have := hOB _ e.symm; omega)
    have r319 := rowAt_keep r306 hgr.1 (fun e => by have := hOB _ e.symm; omega)
    have r320 := rowAt_keep r307 hgr.1 (fun e => by have := hOB _ e.symm; omega)
    have r321 := rowAt_keep r308 hgr.1 (fun e => by have := hOB _ e.symm; omega)
    have r322 := rowAt_keep r309 hgr.1 (fun e => by have := hOB _ e.symm; omega)
    have r323 := rowAt_keep r310 hgr.1 (fun e => by have := hOB _ e.symm; omega)
    have r324 := rowAt_keep r311 hgr.1 (fun e => by have := hsq_q282 _ e.symm; omega)
    have f325 := tch_grown f314 hgr.1 (hsk258)
    have hBstV : Bst ≤ V315.heap.size := Nat.le_trans (Nat.le_trans hBstV f313) hgr.1.size
    have hszS := Nat.le_refl V315.heap.size
    refine fw_pu rfl ?_
    refine fw_dt ?_
    refine fw_sq ?_
    refine fw_sq ?_
    refine fw_rg rfl ?_
    refine fw_pu rfl ?_
    refine fw_ca Try.func38 rfl rfl rfl ((num16_any 0 V315)) ?_
    rintro _ _ ⟨rfl, rfl⟩
    refine ⟨(.int .i64 0), rfl, ?_⟩
    iterate 3 refine fw_pu rfl ?_
    refine fw_ca Try.func38 rfl rfl rfl ((num16_any 0 V315)) ?_
    rintro _ _ ⟨rfl, rfl⟩
    refine ⟨(.int .i64 0), rfl, ?_⟩
    iterate 4 refine fw_pu rfl ?_
    refine fw_ca Try.func38 rfl rfl rfl ((num16_any 0 V315)) ?_
    rintro _ _ ⟨rfl, rfl⟩
    refine ⟨(.int .i64 0), rfl, ?_⟩
    iterate 5 refine fw_pu rfl ?_
    refine fw_ca Try.func43 rfl rfl rfl ((eqInts3 (slR_own3 (a := 5) (b := 7) (c := 0) hogV315) (slR_row3 r324))) ?_
    rintro _ V327 ⟨rfl, hb326⟩
    refine ⟨(.bool true), rfl, ?_⟩
    have b328 := b316.trans (hb326.mono b316.size)
    have r329 := r317.below hb326
    have r330 := r318.below hb326
    have r331 := r319.below hb326
    have r332 := r320.below hb326
    have r333 := r321.below hb326
    have r334 := r322.below hb326
    have r335 := r323.below hb326
    have r336 := r324.below hb326
    have f337 := (Tch.grow f325 hb326)
    have f338 := (below_own hogV315 hb326)
    have f339 := (Nat.le_trans hszS hb326.size)
    iterate 2 refine fw_pu rfl ?_
    refine fw_dt ?_
    refine fw_fg [(1, _), (3, _), (4, _), (5, _), (6, _), (7, _), (8, _), (248, _)] ⟨rfl, rfl, rfl, rfl, rfl, rfl, rfl, rfl, trivial⟩ ?_
    refine fw_cF rfl rfl ?_
    refine fw_sk ?_
    refine fw_th ?_
    refine fw_sq ?_
    refine fw_sq ?_
    refine fw_rg rfl ?_
    refine fw_pu rfl ?_
    refine fw_dt ?_
    refine fw_bk ?_
    refine fw_lp (fun N K W => ∃ (t : Nat) (Bzt : Nat) (Vt : World) (aot : Option Addr) (apt : Option Addr) (alt : Option Addr) (cot : Nat) (cpt : Nat) (clt : Nat) (vtt : Value) (lt : List ES), N = 21 - t ∧ t ≤ 21 ∧ Mine Bzt (cWt (low32 isv) (low32 (isv / 512)) (20 + t)) lt [] aot cot apt cpt alt clt vtt Vt ∧ w.heap.size ≤ Bzt ∧ q52 < Bzt ∧ K = [(1, .pointer (some ⟨q1, 0, none⟩)), (3, .int .i64 (low32 isv)), (4, .int .i64 (low32 (isv / 512))), (5, .pointer (some ⟨q11, 0, none⟩)), (6, .pointer (some ⟨q23, 0, none⟩)), (7, .int .i64 0), (8, .pointer (some ⟨q52, 0, none⟩)), (19, .int .i64 ((t : Nat) : Int))] ∧ Below w.heap.size w W ∧ RowAt W q1 [.slice aA A.length cA, .slice aB B.length cB, .int .i64 sz, .int .i64 isv, .slice aL nL cL, .slice aW nW cW] ∧ RowAt W q11 [.int .i64 3, .int .i64 4, .int .i64 (addv (low32 (isv / 512)) 1), .int .i64 (addv (low32 isv) 1), .int .i64 16, .int .i64 1000, .slice none 0 0] ∧ RowAt W q23 [.int .i64 3, .int .i64 4, .int .i64 (addv (low32 (isv / 512)) 1), .int .i64 (addv (low32 isv) 1), .int .i64 17, .int .i64 1000, .slice none 0 0] ∧ RowAt W q52 [.int .i64 (cWt (low32 isv) (low32 (isv / 512)) (20 + t)).link, .int .i64 (cWt (low32 isv) (low32 (isv / 512)) (20 + t)).ip, .int .i64 (cWt (low32 isv) (low32 (isv / 512)) (20 + t)).pp, .int .i64 (cWt (low32 isv) (low32 (isv / 512)) (20 + t)).po, .int .i64 (cWt (low32 isv) (low32 (isv / 512)) (20 + t)).st, .int .i64 (cWt (low32 isv) (low32 (isv / 512)) (20 + t)).una, .int .i64 (cWt (low32 isv) (low32 (isv / 512)) (20 + t)).nxt, .int .i64 (cWt (low32 isv) (low32 (isv / 512)) (20 + t)).win, .slice aot (cWt (low32 isv) (low32 (isv / 512)) (20 + t)).out.length cot, .int .i64 (cWt (low32 isv) (low32 (isv / 512)) (20 + t)).rn, .slice apt (cWt (low32 isv) (low32 (isv / 512)) (20 + t)).ps.length cpt, .bool (cWt (low32 isv) (low32 (isv / 512)) (20 + t)).cl, .bool (cWt (low32 isv) (low32 (isv / 512)) (20 + t)).tm.on, .int .i64 (cWt (low32 isv) (low32 (isv / 512)) (20 + t)).tm.left, .int .i64 (cWt (low32 isv) (low32 (isv / 512)) (20 + t)).tm.wait, .int .i64 (cWt (low32 isv) (low32 (isv / 512)) (20 + t)).tm.tries] ∧ Tch (fun k => k < Bzt) Vt W) _ _ ⟨0, Bz258, V258, ao258, ap258, al258, co258, cp258, cl258, vt258, ([] : List ES), rfl, (by decide), hM258, hwB258, (by omega), rfl, b328, r329, r330, r331, r332, f337⟩ ⟨rfl, rfl, rfl, rfl, rfl, rfl, rfl, (by first | rfl | (simp only [Look, cond, Nat.beq]; first | rfl | (congr 2; first | rfl | omega | (push_cast; omega)) | (simp; try omega))), trivial⟩ ?_
    rintro N _ W340 ⟨t, Bzt, Vt, aot, apt, alt, cot, cpt, clt, vtt, lt, rfl, ht, hMt, hBt, hqt, rfl, bW340, rW340_0, rW340_1, rW340_2, rW340_3, gW340_0⟩
    intro K342 hK342
    have hzt := mine_size hMt
    refine fw_sq ?_
    refine fw_sq ?_
    refine fw_rg rfl ?_
    iterate 2 refine fw_pu rfl ?_
    refine fw_dt ?_
    rcases Bool.eq_false_or_eq_true ((decide (((t : Nat) : Int) < 21))) with hb_343 | hb_343
    · skip
      refine fw_cT rfl hb_343 ?_
      refine fw_sk ?_
      refine fw_th ?_
      refine fw_sq ?_
      refine fw_bk ?_
      refine fw_sq ?_
      refine fw_rg rfl ?_
      refine fw_ld rW340_3 rfl rfl ?_
      have := rW340_0.2.2
      have := rW340_1.2.2
      have := rW340_2.2.2
      have := rW340_3.2.2
      obtain ⟨Bz345, hBz345⟩ : ∃ x, x = W340.heap.size := ⟨_, rfl⟩
      have hwB345 : w.heap.size ≤ Bz345 := by rw [hBz345]; exact bW340.size
      refine fw_ca Try.func35 rfl rfl rfl (pTick (cWt (low32 isv) (low32 (isv / 512)) (20 + t)) aot apt cot cpt W340 (okW (low32 isv) (low32 (isv / 512)) _) (mine_reads hMt gW340_0).1 (mine_reads hMt gW340_0).2.1 (by rw [psW]; exact Nat.zero_le _) (by rw [psW]; exact fun x hx => (nomatch hx)) (tickW (low32 isv) (low32 (isv / 512)) (20 + t))) ?_
      rintro _ V345 ⟨ao345, co345, ap345, cp345, al345, cl345, rfl, hM345, hb344⟩
      refine ⟨_, rfl, ?_⟩
      have hT345 := Tch.refl (fun k => k < Bz345) V345
      rw [← hBz345] at hM345
      have hz345 := mine_size hM345
      have b346 := bW340.trans (hb344.mono bW340.size)
      have r347 := rW340_0.below hb344
      have r348 := rW340_1.below hb344
      have r349 := rW340_2.below hb344
      have r350 := rW340_3.below hb344
      iterate 4 refine fw_pu rfl ?_
      refine fw_al (t := 62) (u := fun q => .pointer (some ⟨q, 0, none⟩)) 20 [.int .i64 0, .int .i64 0, .int .i64 0, .int .i64 0, .int .i64 0, .int .i64 0, .int .i64 0, .int .i64 0, .slice none 0 0, .int .i64 0, .slice none 0 0, .bool false, .bool false, .int .i64 0, .int .i64 0, .int .i64 0] rfl rfl rfl (fun a h => (run_allocOp (by simp [go_sem, Instr.alloc]))) ?_
      intro q351 W352 g355 s353 r354
      have := Nat.le_trans b346.size g355
      have := r347.lt g355
      have := r348.lt g355
      have := r349.lt g355
      have := r350.lt g355
      have := Nat.le_trans hT345.size g355
      have b356 := b346.trans (s353.mono b346.size)
      have r357 := r347.below s353
      have r358 := r348.below s353
      have r359 := r349.below s353
      have r360 := r350.below s353
      have f361 := (Tch.grow hT345 s353)
      refine fw_st r354 rfl rfl ?_
      intro W362 s363 r364
      have b365 := below_chg b356 s363 (by omega) b356.size
      have r366 := r357.chg s363 (by omega)
      have r367 := r358.chg s363 (by omega)
      have r368 := r359.chg s363 (by omega)
      have r369 := r360.chg s363 (by omega)
      have f370 := (Tch.chg f361 s363 (.inr (by omega)))
      iterate 2 refine fw_pu rfl ?_
      refine fw_dt ?_
      refine fw_sq ?_
      refine fw_sq ?_
      refine fw_rg rfl ?_
      refine fw_pu rfl ?_
      refine fw_ca Try.func38 rfl rfl rfl ((num16_any 0 W362)) ?_
      rintro _ _ ⟨rfl, rfl⟩
      refine ⟨(.int .i64 0), rfl, ?_⟩
      refine fw_pu rfl ?_
      refine fw_dt ?_
      refine fw_cF rfl rfl ?_
      refine fw_sk ?_
      refine fw_th ?_
      refine fw_rg rfl ?_
      refine fw_ld r364 rfl rfl ?_
      refine fw_st r369 rfl rfl ?_
      intro W371 s372 r373
      have b374 := below_chg b365 s372 (by omega) b365.size
      have r375 := r366.chg s372 (by omega)
      have r376 := r367.chg s372 (by omega)
      have r377 := r368.chg s372 (by omega)
      have r378 := r364.chg s372 (by omega)
      have f379 := (Tch.chg f370 s372 (.inl (by omega)))
      refine fw_dn ?_
      refine fw_bn ?_
      refine fw_th ?_
      refine fw_rg rfl ?_
      refine fw_pu rfl ?_
      refine fw_ex 252 (.int .i64 (((t + 1) : Nat) : Int)) rfl rfl rfl (fun a h => (run_binOp (h.ev rfl) (h.ev rfl) (by simp [go_sem]) (addIw _ _ _ _ (by omega) (by omega) (by omega)))) ?_
      refine fw_pu rfl ?_
      refine fw_dn ?_
      have ht21 := of_decide_eq_true hb_343
      exact fw_th (fw_gf (hK342 _ _ _ (by omega) ⟨(t + 1), Bz345, V345, ao345, ap345, al345, co345, cp345, cl345, (.slice none 0 0), [], rfl, (by omega), hM345, (by omega), (by omega), rfl, b374, r375, r376, r377, r373, f379⟩) ⟨rfl, rfl, rfl, rfl, rfl, rfl, rfl, (by first | rfl | (simp only [Look, cond, Nat.beq]; first | rfl | (congr 2; first | rfl | omega | (push_cast; omega)) | (simp; try omega))), trivial⟩)
    refine fw_cF rfl hb_343 ?_
    refine fw_xt ?_
    refine fw_te ?_
    refine fw_te ?_
    refine fw_be ?_
    refine fw_th ?_
    refine fw_sq ?_
    refine fw_rg rfl ?_
    refine fw_pu rfl ?_
    refine fw_ld rW340_3 rfl rfl ?_
    refine fw_pu rfl ?_
    refine fw_dt ?_
    refine fw_cF rfl (not_of (cWt_st _ _ (by have h0 := of_decide_eq_false hb_343; omega))) ?_
    refine fw_sk ?_
    refine fw_bn ?_
    refine fw_th ?_
    refine fw_rg rfl ?_
    refine fw_pu rfl ?_
    refine fw_ex 42 (.int .i64 1) rfl rfl rfl (fun a h => (run_binOp (h.ev rfl) (h.ev rfl) (by simp [go_sem]) (addIw _ _ _ _ (by omega) (by omega) (by omega)))) ?_
    refine fw_pu rfl ?_
    refine fw_dn ?_
    exact fw_th (fw_gf (hK45 _ _ _ (by decide) ⟨1, rfl, (by decide), rfl, bW340, rW340_0, rW340_1, rW340_2⟩) ⟨rfl, rfl, rfl, rfl, rfl, (by first | rfl | (simp only [Look, cond, Nat.beq]; first | rfl | (congr 2; first | rfl | omega | (push_cast; omega)) | (simp; try omega))), trivial⟩)
  · skip
    refine fw_rg rfl ?_
    iterate 2 refine fw_pu rfl ?_
    refine fw_dt ?_
    refine fw_cT rfl rfl ?_
    refine fw_sk ?_
    refine fw_th ?_
    refine fw_sq ?_
    refine fw_bk ?_
    refine fw_sq ?_
    refine fw_rg rfl ?_
    iterate 2 refine fw_pu rfl ?_
    refine fw_ex 46 (.agg #[.int .i64 3, .int .i64 4, .int .i64 (low32 (isv / 512)), .int .i64 0, .int .i64 2, .int .i64 1000, .slice none 0 0]) rfl rfl rfl (fun a h => (run_buildOp (bp5 (h.ev rfl) (h.ev rfl) (h.ev rfl) (h.ev rfl) (h.ev rfl)) (by first | kernel_rfl | rfl))) ?_
    have := rW43_0.2.2
    have := rW43_1.2.2
    have := rW43_2.2.2
    obtain ⟨Bz381, hBz381⟩ : ∃ x, x = W43.heap.size := ⟨_, rfl⟩
    have hwB381 : w.heap.size ≤ Bz381 := by rw [hBz381]; exact bW43.size
    refine fw_ca Try.func41 rfl rfl rfl (pOpen 1 2 (low32 isv) (eO (low32 (isv / 512))) none 0 W43 (mayE (low32 isv) (low32 (isv / 512)) hls hrs) (openE (low32 isv) (low32 (isv / 512)))) ?_
    rintro _ V381 ⟨ao381, co381, ap381, cp381, al381, cl381, rfl, hM381, hb380⟩
    refine ⟨_, rfl, ?_⟩
    have hT381 := Tch.refl (fun k => k < Bz381) V381
    rw [← hBz381] at hM381
    have hz381 := mine_size hM381
    have b382 := bW43.trans (hb380.mono bW43.size)
    have r383 := rW43_0.below hb380
    have r384 := rW43_1.below hb380
    have r385 := rW43_2.below hb380
    iterate 4 refine fw_pu rfl ?_
    refine fw_al (t := 62) (u := fun q => .pointer (some ⟨q, 0, none⟩)) 8 [.int .i64 0, .int .i64 0, .int .i64 0, .int .i64 0, .int .i64 0, .int .i64 0, .int .i64 0, .int .i64 0, .slice none 0 0, .int .i64 0, .slice none 0 0, .bool false, .bool false, .int .i64 0, .int .i64 0, .int .i64 0] rfl rfl rfl (fun a h => (run_allocOp (by simp [go_sem, Instr.alloc]))) ?_
    intro q386 W387 g390 s388 r389
    have := Nat.le_trans b382.size g390
    have := r383.lt g390
    have := r384.lt g390
    have := r385.lt g390
    have := Nat.le_trans hT381.size g390
    have b391 := b382.trans (s388.mono b382.size)
    have r392 := r383.below s388
    have r393 := r384.below s388
    have r394 := r385.below s388
    have f395 := (Tch.grow hT381 s388)
    refine fw_st r389 rfl rfl ?_
    intro W396 s397 r398
    have b399 := below_chg b391 s397 (by omega) b391.size
    have r400 := r392.chg s397 (by omega)
    have r401 := r393.chg s397 (by omega)
    have r402 := r394.chg s397 (by omega)
    have f403 := (Tch.chg f395 s397 (.inr (by omega)))
    iterate 2 refine fw_pu rfl ?_
    refine fw_dt ?_
    refine fw_sq ?_
    refine fw_rg rfl ?_
    refine fw_ld r398 rfl rfl ?_
    refine fw_ld r401 rfl rfl ?_
    have := r400.2.2
    have := r401.2.2
    have := r402.2.2
    have := r398.2.2
    obtain ⟨Bz405, hBz405⟩ : ∃ x, x = W396.heap.size := ⟨_, rfl⟩
    have hwB405 : w.heap.size ≤ Bz405 := by rw [hBz405]; exact b399.size
    refine fw_ca Try.func36 rfl rfl rfl (pTake (cE (low32 isv) (low32 (isv / 512))) ao381 ap381 co381 cp381 W396 (mine_reads hM381 f403).1 (mine_reads hM381 f403).2.1 (Nat.zero_le _) (fun x hx => (nomatch hx)) (eS (low32 isv) (low32 (isv / 512))) none 0 (mayTk (okcE (low32 isv) (low32 (isv / 512)) hls) (okE (low32 isv) (low32 (isv / 512))).1 rfl) (Sl_nil _) (tE1 (low32 isv) (low32 (isv / 512)))) ?_
    rintro _ V405 ⟨ao405, co405, ap405, cp405, al405, cl405, vt405, rfl, hM405, hb404⟩
    refine ⟨_, rfl, ?_⟩
    have hT405 := Tch.refl (fun k => k < Bz405) V405
    rw [← hBz405] at hM405
    have hz405 := mine_size hM405
    have b406 := b399.trans (hb404.mono b399.size)
    have r407 := r400.below hb404
    have r408 := r401.below hb404
    have r409 := r402.below hb404
    have r410 := r398.below hb404
    iterate 5 refine fw_pu rfl ?_
    refine fw_st r410 rfl rfl ?_
    intro W411 s412 r413
    have b414 := below_chg b406 s412 (by omega) b406.size
    have r415 := r407.chg s412 (by omega)
    have r416 := r408.chg s412 (by omega)
    have r417 := r409.chg s412 (by omega)
    have f418 := (Tch.chg hT405 s412 (.inl (by omega)))
    iterate 3 refine fw_pu rfl ?_
    refine fw_dt ?_
    refine fw_sq ?_
    refine fw_sq ?_
    refine fw_rg rfl ?_
    refine fw_pu rfl ?_
    refine fw_ca Try.func38 rfl rfl rfl ((num16_any 0 W411)) ?_
    rintro _ _ ⟨rfl, rfl⟩
    refine ⟨(.int .i64 0), rfl, ?_⟩
    iterate 3 refine fw_pu rfl ?_
    refine fw_ca Try.func38 rfl rfl rfl ((num16_any 0 W411)) ?_
    rintro _ _ ⟨rfl, rfl⟩
    refine ⟨(.int .i64 0), rfl, ?_⟩
    iterate 2 refine fw_pu rfl ?_
    refine fw_dt ?_
    refine fw_cF rfl rfl ?_
    refine fw_sk ?_
    refine fw_th ?_
    refine fw_sq ?_
    refine fw_hr (fun X => Below w.heap.size w X ∧ RowAt X q1 [.slice aA A.length cA, .slice aB B.length cB, .int .i64 sz, .int .i64 isv, .slice aL nL cL, .slice aW nW cW] ∧ RowAt X q11 [.int .i64 3, .int .i64 4, .int .i64 (addv (low32 (isv / 512)) 1), .int .i64 (addv (low32 isv) 1), .int .i64 16, .int .i64 1000, .slice none 0 0] ∧ RowAt X q23 [.int .i64 3, .int .i64 4, .int .i64 (addv (low32 (isv / 512)) 1), .int .i64 (addv (low32 isv) 1), .int .i64 17, .int .i64 1000, .slice none 0 0] ∧ RowAt X q386 [.int .i64 (cV (low32 isv) (low32 (isv / 512)) 2 1 1 1 false tm0).link, .int .i64 (cV (low32 isv) (low32 (isv / 512)) 2 1 1 1 false tm0).ip, .int .i64 (cV (low32 isv) (low32 (isv / 512)) 2 1 1 1 false tm0).pp, .int .i64 (cV (low32 isv) (low32 (isv / 512)) 2 1 1 1 false tm0).po, .int .i64 (cV (low32 isv) (low32 (isv / 512)) 2 1 1 1 false tm0).st, .int .i64 (cV (low32 isv) (low32 (isv / 512)) 2 1 1 1 false tm0).una, .int .i64 (cV (low32 isv) (low32 (isv / 512)) 2 1 1 1 false tm0).nxt, .int .i64 (cV (low32 isv) (low32 (isv / 512)) 2 1 1 1 false tm0).win, .slice ao405 (cV (low32 isv) (low32 (isv / 512)) 2 1 1 1 false tm0).out.length co405, .int .i64 (cV (low32 isv) (low32 (isv / 512)) 2 1 1 1 false tm0).rn, .slice ap405 (cV (low32 isv) (low32 (isv / 512)) 2 1 1 1 false tm0).ps.length cp405, .bool (cV (low32 isv) (low32 (isv / 512)) 2 1 1 1 false tm0).cl, .bool (cV (low32 isv) (low32 (isv / 512)) 2 1 1 1 false tm0).tm.on, .int .i64 (cV (low32 isv) (low32 (isv / 512)) 2 1 1 1 false tm0).tm.left, .int .i64 (cV (low32 isv) (low32 (isv / 512)) 2 1 1 1 false tm0).tm.wait, .int .i64 (cV (low32 isv) (low32 (isv / 512)) 2 1 1 1 false tm0).tm.tries] ∧ Tch (fun k => k < Bz405) V405 X) (by kernel_rfl) 6 rfl ?_
    intro W419 s420
    have b421 := b414.trans (s420.mono b414.size)
    have r422 := r415.below s420
    have r423 := r416.below s420
    have r424 := r417.below s420
    have r425 := r413.below s420
    have f426 := (Tch.grow f418 s420)
    refine ⟨⟨b421, r422, r423, r424, r425, f426⟩, ?_⟩
    refine fw_tl 0 (fun _ h => h.2.2.1) rfl rfl rfl (by kernel_rfl) (fun _ _ _ _ _ h => h) ?_
    refine fw_tl 1 (fun _ h => h.2.2.2.1) rfl rfl rfl (by kernel_rfl) (fun _ _ _ _ _ h => h) ?_
    refine fw_aa (t1 := 70) (t2 := 70) 2 3 14 15 [.int .i64 0, .int .i64 0, .int .i64 0, .int .i64 0, .int .i64 0, .int .i64 0, .slice none 0 0] [.int .i64 0, .int .i64 0, .int .i64 0, .int .i64 0, .int .i64 0, .int .i64 0, .slice none 0 0] (by kernel_rfl) (by kernel_rfl) (by kernel_rfl) rfl rfl rfl (fun _ => rfl) (fun _ => rfl) rfl rfl rfl rfl rfl (fun a W => (run_allocOp (by simp [go_sem, Instr.alloc]))) (fun a W => (run_allocOp (by simp [go_sem, Instr.alloc]))) (fun X hX => ⟨b421.trans (hX.mono b421.size), r422.below hX, r423.below hX, r424.below hX, r425.below hX, (Tch.grow f426 hX)⟩) ?_
    intro q427 q428 W429 hne430 g431 g432 s433 r434 r435
    have := Nat.le_trans b421.size g431
    have := r422.lt g431
    have := r423.lt g431
    have := r424.lt g431
    have := r425.lt g431
    have := Nat.le_trans f426.size g431
    have := Nat.le_trans b421.size g432
    have := r422.lt g432
    have := r423.lt g432
    have := r424.lt g432
    have := r425.lt g432
    have := Nat.le_trans f426.size g432
    have b436 := b421.trans (s433.mono b421.size)
    have r437 := r422.below s433
    have r438 := r423.below s433
    have r439 := r424.below s433
    have r440 := r425.below s433
    have f441 := (Tch.grow f426 s433)
    refine fw_o1 4 (by kernel_rfl) ?_
    refine fw_os rfl r434 rfl rfl ?_
    intro W442 s443 r444
    have b445 := below_chg b436 s443 (by omega) b436.size
    have r446 := r437.chg s443 (by omega)
    have r447 := r438.chg s443 (by omega)
    have r448 := r439.chg s443 (by omega)
    have r449 := r440.chg s443 (by omega)
    have r450 := r435.chg s443 (by omega)
    have f451 := (Tch.chg f441 s443 (.inr (by omega)))
    refine ⟨⟨b445, r446, r447, r448, r449, f451⟩, ?_⟩
    refine fw_o1 5 (by kernel_rfl) ?_
    refine fw_os rfl r450 rfl rfl ?_
    intro W452 s453 r454
    have b455 := below_chg b445 s453 (by omega) b445.size
    have r456 := r446.chg s453 (by omega)
    have r457 := r447.chg s453 (by omega)
    have r458 := r448.chg s453 (by omega)
    have r459 := r449.chg s453 (by omega)
    have r460 := r444.chg s453 (by omega)
    have f461 := (Tch.chg f451 s453 (.inr (by omega)))
    refine ⟨⟨b455, r456, r457, r458, r459, f461⟩, ?_⟩
    refine fw_ht (by kernel_rfl) ?_
    refine fw_sq ?_
    refine fw_rg rfl ?_
    refine fw_pu rfl ?_
    refine fw_ca Try.func18 rfl rfl rfl ((rAdd_q (low32 (isv / 512)) 2 W452)) ?_
    rintro _ _ ⟨rfl, rfl⟩
    refine ⟨(.int .i64 (addv (low32 (isv / 512)) 2)), rfl, ?_⟩
    refine fw_pu rfl ?_
    refine fw_ca Try.func18 rfl rfl rfl ((rAdd_q (low32 isv) 2 W452)) ?_
    rintro _ _ ⟨rfl, rfl⟩
    refine ⟨(.int .i64 (addv (low32 isv) 2)), rfl, ?_⟩
    refine fw_pu rfl ?_
    refine fw_st r460 rfl rfl ?_
    intro W462 s463 r464
    have b465 := below_chg b455 s463 (by omega) b455.size
    have r466 := r456.chg s463 (by omega)
    have r467 := r457.chg s463 (by omega)
    have r468 := r458.chg s463 (by omega)
    have r469 := r459.chg s463 (by omega)
    have r470 := r454.chg s463 (by omega)
    have f471 := (Tch.chg f461 s463 (.inr (by omega)))
    refine fw_pu rfl ?_
    refine fw_st r464 rfl rfl ?_
    intro W472 s473 r474
    have b475 := below_chg b465 s473 (by omega) b465.size
    have r476 := r466.chg s473 (by omega)
    have r477 := r467.chg s473 (by omega)
    have r478 := r468.chg s473 (by omega)
    have r479 := r469.chg s473 (by omega)
    have r480 := r470.chg s473 (by omega)
    have f481 := (Tch.chg f471 s473 (.inr (by omega)))
    refine fw_dt ?_
    refine fw_sq ?_
    refine fw_rg rfl ?_
    refine fw_pu rfl ?_
    refine fw_dt ?_
    refine fw_sq ?_
    refine fw_rg rfl ?_
    refine fw_al (t := 3) (u := fun q => .slice (some ⟨q, 0, none⟩) 0 0) 75 [] rfl rfl rfl (fun a h => (bsI0 _)) ?_
    intro q482 W483 g486 s484 r485
    have := Nat.le_trans b475.size g486
    have := r476.lt g486
    have := r477.lt g486
    have := r478.lt g486
    have := r479.lt g486
    have := r474.lt g486
    have := r480.lt g486
    have := Nat.le_trans f481.size g486
    have b487 := b475.trans (s484.mono b475.size)
    have r488 := r476.below s484
    have r489 := r477.below s484
    have r490 := r478.below s484
    have r491 := r479.below s484
    have r492 := r474.below s484
    have r493 := r480.below s484
    have f494 := (Tch.grow f481 s484)
    refine fw_pu rfl ?_
    refine fw_dt ?_
    refine fw_sq ?_
    refine fw_rg rfl ?_
    refine fw_pu rfl ?_
    refine fw_dt ?_
    refine fw_sq ?_
    refine fw_sq ?_
    refine fw_rg rfl ?_
    refine fw_pu rfl ?_
    refine fw_dt ?_
    refine fw_bk ?_
    refine fw_sq ?_
    refine fw_rg rfl ?_
    iterate 2 refine fw_pu rfl ?_
    refine fw_dt ?_
    refine fw_cF rfl rfl ?_
    refine fw_sq ?_
    refine fw_rg rfl ?_
    iterate 2 refine fw_pu rfl ?_
    refine fw_dt ?_
    refine fw_cT rfl rfl ?_
    refine fw_sq ?_
    refine fw_rg rfl ?_
    refine fw_ld r491 rfl rfl ?_
    have := r488.2.2
    have := r489.2.2
    have := r490.2.2
    have := r491.2.2
    have := r492.2.2
    have := r493.2.2
    have := r485.2.2
    obtain ⟨Bz496, hBz496⟩ : ∃ x, x = W483.heap.size := ⟨_, rfl⟩
    have hwB496 : w.heap.size ≤ Bz496 := by rw [hBz496]; exact b487.size
    refine fw_ca Try.func34 rfl rfl rfl (pClose (cV (low32 isv) (low32 (isv / 512)) 2 1 1 1 false tm0) ao405 ap405 co405 cp405 W483 (ok2 (low32 isv) (low32 (isv / 512))) (mine_reads hM405 f494).1 (mine_reads hM405 f494).2.1 (Nat.zero_le _) (fun x hx => (nomatch hx)) rfl (close_V (low32 isv) (low32 (isv / 512)) (.inl rfl))) ?_
    rintro _ V496 ⟨ao496, co496, ap496, cp496, al496, cl496, rfl, hM496, hb495⟩
    refine ⟨_, rfl, ?_⟩
    have hT496 := Tch.refl (fun k => k < Bz496) V496
    rw [← hBz496] at hM496
    have hz496 := mine_size hM496
    have b497 := b487.trans (hb495.mono b487.size)
    have r498 := r488.below hb495
    have r499 := r489.below hb495
    have r500 := r490.below hb495
    have r501 := r491.below hb495
    have r502 := r492.below hb495
    have r503 := r493.below hb495
    have r504 := r485.below hb495
    iterate 4 refine fw_pu rfl ?_
    refine fw_st r501 rfl rfl ?_
    intro W505 s506 r507
    have b508 := below_chg b497 s506 (by omega) b497.size
    have r509 := r498.chg s506 (by omega)
    have r510 := r499.chg s506 (by omega)
    have r511 := r500.chg s506 (by omega)
    have r512 := r502.chg s506 (by omega)
    have r513 := r503.chg s506 (by omega)
    have r514 := r504.chg s506 (by omega)
    have f515 := (Tch.chg hT496 s506 (.inl (by omega)))
    refine fw_pu rfl ?_
    refine fw_dt ?_
    refine fw_fg [(1, _), (3, _), (4, _), (5, _), (6, _), (7, _), (8, _), (14, _), (15, _), (16, _), (18, _)] ⟨rfl, rfl, rfl, rfl, rfl, rfl, rfl, rfl, rfl, rfl, rfl, trivial⟩ ?_
    refine fw_sq ?_
    refine fw_rg rfl ?_
    iterate 2 refine fw_pu rfl ?_
    refine fw_ld r507 rfl rfl ?_
    refine fw_al (t := 3) (u := fun q => .slice (some ⟨q, 0, none⟩) 1 1) 123 [.int .i64 (cV (low32 isv) (low32 (isv / 512)) 3 1 2 1 true (tmS 3)).st] rfl rfl rfl (fun a h => (bsI1 _ (h.ev rfl))) ?_
    intro q516 W517 g520 s518 r519
    have := Nat.le_trans b508.size g520
    have := r509.lt g520
    have := r510.lt g520
    have := r511.lt g520
    have := r507.lt g520
    have := r512.lt g520
    have := r513.lt g520
    have := r514.lt g520
    have := Nat.le_trans f515.size g520
    have b521 := b508.trans (s518.mono b508.size)
    have r522 := r509.below s518
    have r523 := r510.below s518
    have r524 := r511.below s518
    have r525 := r507.below s518
    have r526 := r512.below s518
    have r527 := r513.below s518
    have r528 := r514.below s518
    have f529 := (Tch.grow f515 s518)
    obtain ⟨Bst, hBst⟩ : ∃ x, x = q516 := ⟨_, rfl⟩
    have hwBst : w.heap.size ≤ Bst := by omega
    have hBstW : Bst ≤ W517.heap.size := by rw [hBst]; exact Nat.le_of_lt r519.2.2
    have hst0 : W517.ownsRow Bst 3 1 (.slice none 0 0) 0 [] := World.ownsRow_nil _ _ _ _
    refine fw_to 124 rfl rfl rfl (fun a h => opTo_int _ _ rfl (h.ev rfl) hst0 (h.ev rfl) r519 (by decide) hBstW) ?_
    rintro vV530 V530 ⟨hgr, hogV530⟩
    obtain ⟨aV530, cV530, rfl⟩ := own_slice hogV530
    have hOB : ∀ b, (.slice none 0 0 : Value).ownBlock = some b → Bst ≤ b := fun b hb => (blk_lt hst0 hb).1
    have b531 := below_grown b521 hgr.1 (fun b hb => Nat.le_trans hwBst (hOB b hb)) b521.size
    have r532 := rowAt_keep r522 hgr.1 (fun e => by have := hOB _ e.symm; omega)
    have r533 := rowAt_keep r523 hgr.1 (fun e => by have := hOB _ e.symm; omega)
    have r534 := rowAt_keep r524 hgr.1 (fun e => by have := hOB _ e.symm; omega)
    have r535 := rowAt_keep r525 hgr.1 (fun e => by have := hOB _ e.symm; omega)
    have r536 := rowAt_keep r526 hgr.1 (fun e => by have := hOB _ e.symm; omega)
    have r537 := rowAt_keep r527 hgr.1 (fun e => by have := hOB _ e.symm; omega)
    have r538 := rowAt_keep r528 hgr.1 (fun e => by have := hOB _ e.symm; omega)
    have f539 := tch_grown f529 hgr.1 (fun b hb => (nomatch hb))
    have hBstV : Bst ≤ V530.heap.size := Nat.le_trans hBstW hgr.1.size
    have hszS := Nat.le_refl V530.heap.size
    refine fw_pu rfl ?_
    refine fw_dt ?_
    refine fw_sq ?_
    refine fw_rg rfl ?_
    refine fw_pu rfl ?_
    refine fw_ld r536 rfl rfl ?_
    refine fw_pu rfl ?_
    refine fw_st r537 rfl rfl ?_
    intro W540 s541 r542
    have b543 := below_chg b531 s541 (by omega) b531.size
    have r544 := r532.chg s541 (by omega)
    have r545 := r533.chg s541 (by omega)
    have r546 := r534.chg s541 (by omega)
    have r547 := r535.chg s541 (by omega)
    have r548 := r536.chg s541 (by omega)
    have r549 := r538.chg s541 (by omega)
    have f550 := (Tch.chg f539 s541 (.inl (by omega)))
    have f551 := (own_chg hogV530 s541 (by omega))
    have f552 := (Nat.le_trans hszS s541.size)
    refine fw_dt ?_
    refine fw_sq ?_
    refine fw_rg rfl ?_
    refine fw_pu rfl ?_
    refine fw_st r542 rfl rfl ?_
    intro W553 s554 r555
    have b556 := below_chg b543 s554 (by omega) b543.size
    have r557 := r544.chg s554 (by omega)
    have r558 := r545.chg s554 (by omega)
    have r559 := r546.chg s554 (by omega)
    have r560 := r547.chg s554 (by omega)
    have r561 := r548.chg s554 (by omega)
    have r562 := r549.chg s554 (by omega)
    have f563 := (Tch.chg f550 s554 (.inl (by omega)))
    have f564 := (own_chg f551 s554 (by omega))
    have f565 := (Nat.le_trans f552 s554.size)
    refine fw_dt ?_
    refine fw_sq ?_
    refine fw_rg rfl ?_
    refine fw_ld r560 rfl rfl ?_
    refine fw_ld r555 rfl rfl ?_
    have := r557.2.2
    have := r558.2.2
    have := r559.2.2
    have := r560.2.2
    have := r561.2.2
    have := r555.2.2
    have := r562.2.2
    obtain ⟨Bz567, hBz567⟩ : ∃ x, x = W553.heap.size := ⟨_, rfl⟩
    have hwB567 : w.heap.size ≤ Bz567 := by rw [hBz567]; exact b556.size
    have hsk567 : ∀ b, (.slice aV530 1 cV530 : Value).ownBlock = some b → b < Bz567 := fun b hb => by rw [hBz567]; exact (blk_lt f564 hb).2
    refine fw_ca Try.func36 rfl rfl rfl (pTake (cV (low32 isv) (low32 (isv / 512)) 3 1 2 1 true (tmS 3)) ao496 ap496 co496 cp496 W553 (mine_reads hM496 f563).1 (mine_reads hM496 f563).2.1 (Nat.zero_le _) (fun x hx => (nomatch hx)) (eM (low32 isv) (low32 (isv / 512))) none 0 (mayTk (ok3 (low32 isv) (low32 (isv / 512))) (okE (low32 isv) (low32 (isv / 512))).2.2.2.1 rfl) (Sl_nil _) (tE_1b (low32 isv) (low32 (isv / 512)))) ?_
    rintro _ V567 ⟨ao567, co567, ap567, cp567, al567, cl567, vt567, rfl, hM567, hb566⟩
    refine ⟨_, rfl, ?_⟩
    have hT567 := Tch.refl (fun k => k < Bz567) V567
    rw [← hBz567] at hM567
    have hz567 := mine_size hM567
    have b568 := b556.trans (hb566.mono b556.size)
    have r569 := r557.below hb566
    have r570 := r558.below hb566
    have r571 := r559.below hb566
    have r572 := r560.below hb566
    have r573 := r561.below hb566
    have r574 := r555.below hb566
    have r575 := r562.below hb566
    have f576 := (below_own f564 hb566)
    have f577 := (Nat.le_trans f565 hb566.size)
    iterate 5 refine fw_pu rfl ?_
    refine fw_st r572 rfl rfl ?_
    intro W578 s579 r580
    have b581 := below_chg b568 s579 (by omega) b568.size
    have r582 := r569.chg s579 (by omega)
    have r583 := r570.chg s579 (by omega)
    have r584 := r571.chg s579 (by omega)
    have r585 := r573.chg s579 (by omega)
    have r586 := r574.chg s579 (by omega)
    have r587 := r575.chg s579 (by omega)
    have f588 := (own_chg f576 s579 (by omega))
    have f589 := (Nat.le_trans f577 s579.size)
    have f590 := (Tch.chg hT567 s579 (.inl (by omega)))
    refine fw_pu rfl ?_
    refine fw_dt ?_
    refine fw_sq ?_
    refine fw_rg rfl ?_
    iterate 2 refine fw_pu rfl ?_
    refine fw_ld r580 rfl rfl ?_
    refine fw_al (t := 3) (u := fun q => .slice (some ⟨q, 0, none⟩) 1 1) 140 [.int .i64 (cV (low32 isv) (low32 (isv / 512)) 4 2 2 1 true tm0).st] rfl rfl rfl (fun a h => (bsI1 _ (h.ev rfl))) ?_
    intro q591 W592 g595 s593 r594
    have := Nat.le_trans b581.size g595
    have := r582.lt g595
    have := r583.lt g595
    have := r584.lt g595
    have := r580.lt g595
    have := r585.lt g595
    have := r586.lt g595
    have := r587.lt g595
    have hsq_q591 : ∀ b, (.slice aV530 1 cV530 : Value).ownBlock = some b → b < q591 := fun b hb => Nat.lt_of_lt_of_le (blk_lt f588 hb).2 g595
    have := Nat.le_trans f590.size g595
    have b596 := b581.trans (s593.mono b581.size)
    have r597 := r582.below s593
    have r598 := r583.below s593
    have r599 := r584.below s593
    have r600 := r580.below s593
    have r601 := r585.below s593
    have r602 := r586.below s593
    have r603 := r587.below s593
    have f604 := (below_own f588 s593)
    have f605 := (Nat.le_trans f589 s593.size)
    have f606 := (Tch.grow f590 s593)
    refine fw_to 141 rfl rfl rfl (fun a h => opTo_int _ _ rfl (h.ev rfl) f604 (h.ev rfl) r594 (by decide) (Nat.le_trans hBstV f605)) ?_
    rintro vV607 V607 ⟨hgr, hogV607⟩
    obtain ⟨aV607, cV607, rfl⟩ := own_slice hogV607
    have hOB : ∀ b, (.slice aV530 1 cV530 : Value).ownBlock = some b → Bst ≤ b := fun b hb => (blk_lt f604 hb).1
    have b608 := below_grown b596 hgr.1 (fun b hb => Nat.le_trans hwBst (hOB b hb)) b596.size
    have r609 := rowAt_keep r597 hgr.1 (fun e => by have := hOB _ e.symm; omega)
    have r610 := rowAt_keep r598 hgr.1 (fun e => by have := hOB _ e.symm; omega)
    have r611 := rowAt_keep r599 hgr.1 (fun e => by have := hOB _ e.symm; omega)
    have r612 := rowAt_keep r600 hgr.1 (fun e => by have := hOB _ e.symm; omega)
    have r613 := rowAt_keep r601 hgr.1 (fun e => by have := hOB _ e.symm; omega)
    have r614 := rowAt_keep r602 hgr.1 (fun e => by have := hOB _ e.symm; omega)
    have r615 := rowAt_keep r603 hgr.1 (fun e => by have := hOB _ e.symm; omega)
    have f616 := tch_grown f606 hgr.1 (hsk567)
    have hBstV : Bst ≤ V607.heap.size := Nat.le_trans (Nat.le_trans hBstV f605) hgr.1.size
    have hszS := Nat.le_refl V607.heap.size
    refine fw_pu rfl ?_
    refine fw_dt ?_
    refine fw_sq ?_
    refine fw_rg rfl ?_
    refine fw_pu rfl ?_
    refine fw_st r614 rfl rfl ?_
    intro W617 s618 r619
    have b620 := below_chg b608 s618 (by omega) b608.size
    have r621 := r609.chg s618 (by omega)
    have r622 := r610.chg s618 (by omega)
    have r623 := r611.chg s618 (by omega)
    have r624 := r612.chg s618 (by omega)
    have r625 := r613.chg s618 (by omega)
    have r626 := r615.chg s618 (by omega)
    have f627 := (Tch.chg f616 s618 (.inl (by omega)))
    have f628 := (own_chg hogV607 s618 (by omega))
    have f629 := (Nat.le_trans hszS s618.size)
    refine fw_dt ?_
    refine fw_sq ?_
    refine fw_rg rfl ?_
    refine fw_ld r624 rfl rfl ?_
    refine fw_ld r619 rfl rfl ?_
    have := r621.2.2
    have := r622.2.2
    have := r623.2.2
    have := r624.2.2
    have := r625.2.2
    have := r619.2.2
    have := r626.2.2
    obtain ⟨Bz631, hBz631⟩ : ∃ x, x = W617.heap.size := ⟨_, rfl⟩
    have hwB631 : w.heap.size ≤ Bz631 := by rw [hBz631]; exact b620.size
    have hsk631 : ∀ b, (.slice aV607 2 cV607 : Value).ownBlock = some b → b < Bz631 := fun b hb => by rw [hBz631]; exact (blk_lt f628 hb).2
    refine fw_ca Try.func36 rfl rfl rfl (pTake (cV (low32 isv) (low32 (isv / 512)) 4 2 2 1 true tm0) ao567 ap567 co567 cp567 W617 (mine_reads hM567 f627).1 (mine_reads hM567 f627).2.1 (Nat.zero_le _) (fun x hx => (nomatch hx)) (eN (low32 isv) (low32 (isv / 512))) none 0 (mayTk (ok4 (low32 isv) (low32 (isv / 512))) (okE (low32 isv) (low32 (isv / 512))).2.2.2.2 rfl) (Sl_nil _) (tE_1c (low32 isv) (low32 (isv / 512)))) ?_
    rintro _ V631 ⟨ao631, co631, ap631, cp631, al631, cl631, vt631, rfl, hM631, hb630⟩
    refine ⟨_, rfl, ?_⟩
    have hT631 := Tch.refl (fun k => k < Bz631) V631
    rw [← hBz631] at hM631
    have hz631 := mine_size hM631
    have b632 := b620.trans (hb630.mono b620.size)
    have r633 := r621.below hb630
    have r634 := r622.below hb630
    have r635 := r623.below hb630
    have r636 := r624.below hb630
    have r637 := r625.below hb630
    have r638 := r619.below hb630
    have r639 := r626.below hb630
    have f640 := (below_own f628 hb630)
    have f641 := (Nat.le_trans f629 hb630.size)
    iterate 5 refine fw_pu rfl ?_
    refine fw_st r636 rfl rfl ?_
    intro W642 s643 r644
    have b645 := below_chg b632 s643 (by omega) b632.size
    have r646 := r633.chg s643 (by omega)
    have r647 := r634.chg s643 (by omega)
    have r648 := r635.chg s643 (by omega)
    have r649 := r637.chg s643 (by omega)
    have r650 := r638.chg s643 (by omega)
    have r651 := r639.chg s643 (by omega)
    have f652 := (own_chg f640 s643 (by omega))
    have f653 := (Nat.le_trans f641 s643.size)
    have f654 := (Tch.chg hT631 s643 (.inl (by omega)))
    refine fw_pu rfl ?_
    refine fw_dt ?_
    refine fw_rg rfl ?_
    refine fw_al (t := 3) (u := fun q => .slice (some ⟨q, 0, none⟩) 3 3) 151 [.int .i64 3, .int .i64 4, .int .i64 8] rfl rfl rfl (fun a h => (bsI3 _)) ?_
    intro q655 W656 g659 s657 r658
    have := Nat.le_trans b645.size g659
    have := r646.lt g659
    have := r647.lt g659
    have := r648.lt g659
    have := r644.lt g659
    have := r649.lt g659
    have := r650.lt g659
    have := r651.lt g659
    have hsq_q655 : ∀ b, (.slice aV607 2 cV607 : Value).ownBlock = some b → b < q655 := fun b hb => Nat.lt_of_lt_of_le (blk_lt f652 hb).2 g659
    have := Nat.le_trans f654.size g659
    have b660 := b645.trans (s657.mono b645.size)
    have r661 := r646.below s657
    have r662 := r647.below s657
    have r663 := r648.below s657
    have r664 := r644.below s657
    have r665 := r649.below s657
    have r666 := r650.below s657
    have r667 := r651.below s657
    have f668 := (below_own f652 s657)
    have f669 := (Nat.le_trans f653 s657.size)
    have f670 := (Tch.grow f654 s657)
    refine fw_pu rfl ?_
    refine fw_dn ?_
    refine fw_bn ?_
    refine fw_th ?_
    refine fw_sq ?_
    refine fw_rg rfl ?_
    iterate 2 refine fw_pu rfl ?_
    refine fw_ld r664 rfl rfl ?_
    refine fw_al (t := 3) (u := fun q => .slice (some ⟨q, 0, none⟩) 1 1) 228 [.int .i64 (cV (low32 isv) (low32 (isv / 512)) 8 2 2 2 true (tmS 20)).st] rfl rfl rfl (fun a h => (bsI1 _ (h.ev rfl))) ?_
    intro q671 W672 g675 s673 r674
    have := Nat.le_trans b660.size g675
    have := r661.lt g675
    have := r662.lt g675
    have := r663.lt g675
    have := r664.lt g675
    have := r665.lt g675
    have := r666.lt g675
    have := r667.lt g675
    have := r658.lt g675
    have hsq_q671 : ∀ b, (.slice aV607 2 cV607 : Value).ownBlock = some b → b < q671 := fun b hb => Nat.lt_of_lt_of_le (blk_lt f668 hb).2 g675
    have := Nat.le_trans f670.size g675
    have b676 := b660.trans (s673.mono b660.size)
    have r677 := r661.below s673
    have r678 := r662.below s673
    have r679 := r663.below s673
    have r680 := r664.below s673
    have r681 := r665.below s673
    have r682 := r666.below s673
    have r683 := r667.below s673
    have r684 := r658.below s673
    have f685 := (below_own f668 s673)
    have f686 := (Nat.le_trans f669 s673.size)
    have f687 := (Tch.grow f670 s673)
    refine fw_to 229 rfl rfl rfl (fun a h => opTo_int _ _ rfl (h.ev rfl) f685 (h.ev rfl) r674 (by decide) (Nat.le_trans hBstV f686)) ?_
    rintro vV688 V688 ⟨hgr, hogV688⟩
    obtain ⟨aV688, cV688, rfl⟩ := own_slice hogV688
    have hOB : ∀ b, (.slice aV607 2 cV607 : Value).ownBlock = some b → Bst ≤ b := fun b hb => (blk_lt f685 hb).1
    have b689 := below_grown b676 hgr.1 (fun b hb => Nat.le_trans hwBst (hOB b hb)) b676.size
    have r690 := rowAt_keep r677 hgr.1 (fun e => by have := hOB _ e.symm; omega)
    have r691 := rowAt_keep r678 hgr.1 (fun e => by have := hOB _ e.symm; omega)
    have r692 := rowAt_keep r679 hgr.1 (fun e => by have := hOB _ e.symm; omega)
    have r693 := rowAt_keep r680 hgr.1 (fun e => by have := hOB _ e.symm; omega)
    have r694 := rowAt_keep r681 hgr.1 (fun e => by have := hOB _ e.symm; omega)
    have r695 := rowAt_keep r682 hgr.1 (fun e => by have := hOB _ e.symm; omega)
    have r696 := rowAt_keep r683 hgr.1 (fun e => by have := hOB _ e.symm; omega)
    have r697 := rowAt_keep r684 hgr.1 (fun e => by have := hsq_q655 _ e.symm; omega)
    have f698 := tch_grown f687 hgr.1 (hsk631)
    have hBstV : Bst ≤ V688.heap.size := Nat.le_trans (Nat.le_trans hBstV f686) hgr.1.size
    have hszS := Nat.le_refl V688.heap.size
    refine fw_pu rfl ?_
    refine fw_dt ?_
    refine fw_sq ?_
    refine fw_sq ?_
    refine fw_rg rfl ?_
    refine fw_pu rfl ?_
    refine fw_ca Try.func38 rfl rfl rfl ((num16_any 0 V688)) ?_
    rintro _ _ ⟨rfl, rfl⟩
    refine ⟨(.int .i64 0), rfl, ?_⟩
    iterate 3 refine fw_pu rfl ?_
    refine fw_ca Try.func38 rfl rfl rfl ((num16_any 0 V688)) ?_
    rintro _ _ ⟨rfl, rfl⟩
    refine ⟨(.int .i64 0), rfl, ?_⟩
    iterate 4 refine fw_pu rfl ?_
    refine fw_ca Try.func38 rfl rfl rfl ((num16_any 0 V688)) ?_
    rintro _ _ ⟨rfl, rfl⟩
    refine ⟨(.int .i64 0), rfl, ?_⟩
    iterate 5 refine fw_pu rfl ?_
    refine fw_ca Try.func43 rfl rfl rfl ((eqInts3 (slR_own3 (a := 3) (b := 4) (c := 8) hogV688) (slR_row3 r697))) ?_
    rintro _ V700 ⟨rfl, hb699⟩
    refine ⟨(.bool true), rfl, ?_⟩
    have b701 := b689.trans (hb699.mono b689.size)
    have r702 := r690.below hb699
    have r703 := r691.below hb699
    have r704 := r692.below hb699
    have r705 := r693.below hb699
    have r706 := r694.below hb699
    have r707 := r695.below hb699
    have r708 := r696.below hb699
    have r709 := r697.below hb699
    have f710 := (Tch.grow f698 hb699)
    have f711 := (below_own hogV688 hb699)
    have f712 := (Nat.le_trans hszS hb699.size)
    iterate 2 refine fw_pu rfl ?_
    refine fw_dt ?_
    refine fw_fg [(1, _), (3, _), (4, _), (5, _), (6, _), (7, _), (8, _), (248, _)] ⟨rfl, rfl, rfl, rfl, rfl, rfl, rfl, rfl, trivial⟩ ?_
    refine fw_cF rfl rfl ?_
    refine fw_sk ?_
    refine fw_th ?_
    refine fw_sq ?_
    refine fw_sq ?_
    refine fw_rg rfl ?_
    refine fw_pu rfl ?_
    refine fw_dt ?_
    refine fw_bk ?_
    refine fw_lp (fun N K W => ∃ (t : Nat) (Bzt : Nat) (Vt : World) (aot : Option Addr) (apt : Option Addr) (alt : Option Addr) (cot : Nat) (cpt : Nat) (clt : Nat) (vtt : Value) (lt : List ES), N = 21 - t ∧ t ≤ 21 ∧ Mine Bzt (cWt (low32 isv) (low32 (isv / 512)) (0 + t)) lt [] aot cot apt cpt alt clt vtt Vt ∧ w.heap.size ≤ Bzt ∧ q386 < Bzt ∧ K = [(1, .pointer (some ⟨q1, 0, none⟩)), (3, .int .i64 (low32 isv)), (4, .int .i64 (low32 (isv / 512))), (5, .pointer (some ⟨q11, 0, none⟩)), (6, .pointer (some ⟨q23, 0, none⟩)), (7, .int .i64 1), (8, .pointer (some ⟨q386, 0, none⟩)), (19, .int .i64 ((t : Nat) : Int))] ∧ Below w.heap.size w W ∧ RowAt W q1 [.slice aA A.length cA, .slice aB B.length cB, .int .i64 sz, .int .i64 isv, .slice aL nL cL, .slice aW nW cW] ∧ RowAt W q11 [.int .i64 3, .int .i64 4, .int .i64 (addv (low32 (isv / 512)) 1), .int .i64 (addv (low32 isv) 1), .int .i64 16, .int .i64 1000, .slice none 0 0] ∧ RowAt W q23 [.int .i64 3, .int .i64 4, .int .i64 (addv (low32 (isv / 512)) 1), .int .i64 (addv (low32 isv) 1), .int .i64 17, .int .i64 1000, .slice none 0 0] ∧ RowAt W q386 [.int .i64 (cWt (low32 isv) (low32 (isv / 512)) (0 + t)).link, .int .i64 (cWt (low32 isv) (low32 (isv / 512)) (0 + t)).ip, .int .i64 (cWt (low32 isv) (low32 (isv / 512)) (0 + t)).pp, .int .i64 (cWt (low32 isv) (low32 (isv / 512)) (0 + t)).po, .int .i64 (cWt (low32 isv) (low32 (isv / 512)) (0 + t)).st, .int .i64 (cWt (low32 isv) (low32 (isv / 512)) (0 + t)).una, .int .i64 (cWt (low32 isv) (low32 (isv / 512)) (0 + t)).nxt, .int .i64 (cWt (low32 isv) (low32 (isv / 512)) (0 + t)).win, .slice aot (cWt (low32 isv) (low32 (isv / 512)) (0 + t)).out.length cot, .int .i64 (cWt (low32 isv) (low32 (isv / 512)) (0 + t)).rn, .slice apt (cWt (low32 isv) (low32 (isv / 512)) (0 + t)).ps.length cpt, .bool (cWt (low32 isv) (low32 (isv / 512)) (0 + t)).cl, .bool (cWt (low32 isv) (low32 (isv / 512)) (0 + t)).tm.on, .int .i64 (cWt (low32 isv) (low32 (isv / 512)) (0 + t)).tm.left, .int .i64 (cWt (low32 isv) (low32 (isv / 512)) (0 + t)).tm.wait, .int .i64 (cWt (low32 isv) (low32 (isv / 512)) (0 + t)).tm.tries] ∧ Tch (fun k => k < Bzt) Vt W) _ _ ⟨0, Bz631, V631, ao631, ap631, al631, co631, cp631, cl631, vt631, ([⟨4, 3, addv (low32 isv) 2, addv (low32 (isv / 512)) 2, 16, 2048, []⟩] : List ES), rfl, (by decide), hM631, hwB631, (by omega), rfl, b701, r702, r703, r704, r705, f710⟩ ⟨rfl, rfl, rfl, rfl, rfl, rfl, rfl, (by first | rfl | (simp only [Look, cond, Nat.beq]; first | rfl | (congr 2; first | rfl | omega | (push_cast; omega)) | (simp; try omega))), trivial⟩ ?_
    rintro N _ W713 ⟨t, Bzt, Vt, aot, apt, alt, cot, cpt, clt, vtt, lt, rfl, ht, hMt, hBt, hqt, rfl, bW713, rW713_0, rW713_1, rW713_2, rW713_3, gW713_0⟩
    intro K715 hK715
    have hzt := mine_size hMt
    refine fw_sq ?_
    refine fw_sq ?_
    refine fw_rg rfl ?_
    iterate 2 refine fw_pu rfl ?_
    refine fw_dt ?_
    rcases Bool.eq_false_or_eq_true ((decide (((t : Nat) : Int) < 21))) with hb_716 | hb_716
    · skip
      refine fw_cT rfl hb_716 ?_
      refine fw_sk ?_
      refine fw_th ?_
      refine fw_sq ?_
      refine fw_bk ?_
      refine fw_sq ?_
      refine fw_rg rfl ?_
      refine fw_ld rW713_3 rfl rfl ?_
      have := rW713_0.2.2
      have := rW713_1.2.2
      have := rW713_2.2.2
      have := rW713_3.2.2
      obtain ⟨Bz718, hBz718⟩ : ∃ x, x = W713.heap.size := ⟨_, rfl⟩
      have hwB718 : w.heap.size ≤ Bz718 := by rw [hBz718]; exact bW713.size
      refine fw_ca Try.func35 rfl rfl rfl (pTick (cWt (low32 isv) (low32 (isv / 512)) (0 + t)) aot apt cot cpt W713 (okW (low32 isv) (low32 (isv / 512)) _) (mine_reads hMt gW713_0).1 (mine_reads hMt gW713_0).2.1 (by rw [psW]; exact Nat.zero_le _) (by rw [psW]; exact fun x hx => (nomatch hx)) (tickW (low32 isv) (low32 (isv / 512)) (0 + t))) ?_
      rintro _ V718 ⟨ao718, co718, ap718, cp718, al718, cl718, rfl, hM718, hb717⟩
      refine ⟨_, rfl, ?_⟩
      have hT718 := Tch.refl (fun k => k < Bz718) V718
      rw [← hBz718] at hM718
      have hz718 := mine_size hM718
      have b719 := bW713.trans (hb717.mono bW713.size)
      have r720 := rW713_0.below hb717
      have r721 := rW713_1.below hb717
      have r722 := rW713_2.below hb717
      have r723 := rW713_3.below hb717
      iterate 4 refine fw_pu rfl ?_
      refine fw_al (t := 62) (u := fun q => .pointer (some ⟨q, 0, none⟩)) 20 [.int .i64 0, .int .i64 0, .int .i64 0, .int .i64 0, .int .i64 0, .int .i64 0, .int .i64 0, .int .i64 0, .slice none 0 0, .int .i64 0, .slice none 0 0, .bool false, .bool false, .int .i64 0, .int .i64 0, .int .i64 0] rfl rfl rfl (fun a h => (run_allocOp (by simp [go_sem, Instr.alloc]))) ?_
      intro q724 W725 g728 s726 r727
      have := Nat.le_trans b719.size g728
      have := r720.lt g728
      have := r721.lt g728
      have := r722.lt g728
      have := r723.lt g728
      have := Nat.le_trans hT718.size g728
      have b729 := b719.trans (s726.mono b719.size)
      have r730 := r720.below s726
      have r731 := r721.below s726
      have r732 := r722.below s726
      have r733 := r723.below s726
      have f734 := (Tch.grow hT718 s726)
      refine fw_st r727 rfl rfl ?_
      intro W735 s736 r737
      have b738 := below_chg b729 s736 (by omega) b729.size
      have r739 := r730.chg s736 (by omega)
      have r740 := r731.chg s736 (by omega)
      have r741 := r732.chg s736 (by omega)
      have r742 := r733.chg s736 (by omega)
      have f743 := (Tch.chg f734 s736 (.inr (by omega)))
      iterate 2 refine fw_pu rfl ?_
      refine fw_dt ?_
      refine fw_sq ?_
      refine fw_sq ?_
      refine fw_rg rfl ?_
      refine fw_pu rfl ?_
      refine fw_ca Try.func38 rfl rfl rfl ((num16_any 0 W735)) ?_
      rintro _ _ ⟨rfl, rfl⟩
      refine ⟨(.int .i64 0), rfl, ?_⟩
      refine fw_pu rfl ?_
      refine fw_dt ?_
      refine fw_cF rfl rfl ?_
      refine fw_sk ?_
      refine fw_th ?_
      refine fw_rg rfl ?_
      refine fw_ld r737 rfl rfl ?_
      refine fw_st r742 rfl rfl ?_
      intro W744 s745 r746
      have b747 := below_chg b738 s745 (by omega) b738.size
      have r748 := r739.chg s745 (by omega)
      have r749 := r740.chg s745 (by omega)
      have r750 := r741.chg s745 (by omega)
      have r751 := r737.chg s745 (by omega)
      have f752 := (Tch.chg f743 s745 (.inl (by omega)))
      refine fw_dn ?_
      refine fw_bn ?_
      refine fw_th ?_
      refine fw_rg rfl ?_
      refine fw_pu rfl ?_
      refine fw_ex 252 (.int .i64 (((t + 1) : Nat) : Int)) rfl rfl rfl (fun a h => (run_binOp (h.ev rfl) (h.ev rfl) (by simp [go_sem]) (addIw _ _ _ _ (by omega) (by omega) (by omega)))) ?_
      refine fw_pu rfl ?_
      refine fw_dn ?_
      have ht21 := of_decide_eq_true hb_716
      exact fw_th (fw_gf (hK715 _ _ _ (by omega) ⟨(t + 1), Bz718, V718, ao718, ap718, al718, co718, cp718, cl718, (.slice none 0 0), [], rfl, (by omega), hM718, (by omega), (by omega), rfl, b747, r748, r749, r750, r746, f752⟩) ⟨rfl, rfl, rfl, rfl, rfl, rfl, rfl, (by first | rfl | (simp only [Look, cond, Nat.beq]; first | rfl | (congr 2; first | rfl | omega | (push_cast; omega)) | (simp; try omega))), trivial⟩)
    refine fw_cF rfl hb_716 ?_
    refine fw_xt ?_
    refine fw_te ?_
    refine fw_te ?_
    refine fw_be ?_
    refine fw_th ?_
    refine fw_sq ?_
    refine fw_rg rfl ?_
    refine fw_pu rfl ?_
    refine fw_ld rW713_3 rfl rfl ?_
    refine fw_pu rfl ?_
    refine fw_dt ?_
    refine fw_cF rfl (not_of (cWt_st _ _ (by have h0 := of_decide_eq_false hb_716; omega))) ?_
    refine fw_sk ?_
    refine fw_bn ?_
    refine fw_th ?_
    refine fw_rg rfl ?_
    refine fw_pu rfl ?_
    refine fw_ex 42 (.int .i64 2) rfl rfl rfl (fun a h => (run_binOp (h.ev rfl) (h.ev rfl) (by simp [go_sem]) (addIw _ _ _ _ (by omega) (by omega) (by omega)))) ?_
    refine fw_pu rfl ?_
    refine fw_dn ?_
    exact fw_th (fw_gf (hK45 _ _ _ (by decide) ⟨2, rfl, (by decide), rfl, bW713, rW713_0, rW713_1, rW713_2⟩) ⟨rfl, rfl, rfl, rfl, rfl, (by first | rfl | (simp only [Look, cond, Nat.beq]; first | rfl | (congr 2; first | rfl | omega | (push_cast; omega)) | (simp; try omega))), trivial⟩)
  · skip
    refine fw_rg rfl ?_
    iterate 2 refine fw_pu rfl ?_
    refine fw_dt ?_
    refine fw_cT rfl rfl ?_
    refine fw_sk ?_
    refine fw_th ?_
    refine fw_sq ?_
    refine fw_bk ?_
    refine fw_sq ?_
    refine fw_rg rfl ?_
    iterate 2 refine fw_pu rfl ?_
    refine fw_ex 46 (.agg #[.int .i64 3, .int .i64 4, .int .i64 (low32 (isv / 512)), .int .i64 0, .int .i64 2, .int .i64 1000, .slice none 0 0]) rfl rfl rfl (fun a h => (run_buildOp (bp5 (h.ev rfl) (h.ev rfl) (h.ev rfl) (h.ev rfl) (h.ev rfl)) (by first | kernel_rfl | rfl))) ?_
    have := rW43_0.2.2
    have := rW43_1.2.2
    have := rW43_2.2.2
    obtain ⟨Bz754, hBz754⟩ : ∃ x, x = W43.heap.size := ⟨_, rfl⟩
    have hwB754 : w.heap.size ≤ Bz754 := by rw [hBz754]; exact bW43.size
    refine fw_ca Try.func41 rfl rfl rfl (pOpen 1 2 (low32 isv) (eO (low32 (isv / 512))) none 0 W43 (mayE (low32 isv) (low32 (isv / 512)) hls hrs) (openE (low32 isv) (low32 (isv / 512)))) ?_
    rintro _ V754 ⟨ao754, co754, ap754, cp754, al754, cl754, rfl, hM754, hb753⟩
    refine ⟨_, rfl, ?_⟩
    have hT754 := Tch.refl (fun k => k < Bz754) V754
    rw [← hBz754] at hM754
    have hz754 := mine_size hM754
    have b755 := bW43.trans (hb753.mono bW43.size)
    have r756 := rW43_0.below hb753
    have r757 := rW43_1.below hb753
    have r758 := rW43_2.below hb753
    iterate 4 refine fw_pu rfl ?_
    refine fw_al (t := 62) (u := fun q => .pointer (some ⟨q, 0, none⟩)) 8 [.int .i64 0, .int .i64 0, .int .i64 0, .int .i64 0, .int .i64 0, .int .i64 0, .int .i64 0, .int .i64 0, .slice none 0 0, .int .i64 0, .slice none 0 0, .bool false, .bool false, .int .i64 0, .int .i64 0, .int .i64 0] rfl rfl rfl (fun a h => (run_allocOp (by simp [go_sem, Instr.alloc]))) ?_
    intro q759 W760 g763 s761 r762
    have := Nat.le_trans b755.size g763
    have := r756.lt g763
    have := r757.lt g763
    have := r758.lt g763
    have := Nat.le_trans hT754.size g763
    have b764 := b755.trans (s761.mono b755.size)
    have r765 := r756.below s761
    have r766 := r757.below s761
    have r767 := r758.below s761
    have f768 := (Tch.grow hT754 s761)
    refine fw_st r762 rfl rfl ?_
    intro W769 s770 r771
    have b772 := below_chg b764 s770 (by omega) b764.size
    have r773 := r765.chg s770 (by omega)
    have r774 := r766.chg s770 (by omega)
    have r775 := r767.chg s770 (by omega)
    have f776 := (Tch.chg f768 s770 (.inr (by omega)))
    iterate 2 refine fw_pu rfl ?_
    refine fw_dt ?_
    refine fw_sq ?_
    refine fw_rg rfl ?_
    refine fw_ld r771 rfl rfl ?_
    refine fw_ld r774 rfl rfl ?_
    have := r773.2.2
    have := r774.2.2
    have := r775.2.2
    have := r771.2.2
    obtain ⟨Bz778, hBz778⟩ : ∃ x, x = W769.heap.size := ⟨_, rfl⟩
    have hwB778 : w.heap.size ≤ Bz778 := by rw [hBz778]; exact b772.size
    refine fw_ca Try.func36 rfl rfl rfl (pTake (cE (low32 isv) (low32 (isv / 512))) ao754 ap754 co754 cp754 W769 (mine_reads hM754 f776).1 (mine_reads hM754 f776).2.1 (Nat.zero_le _) (fun x hx => (nomatch hx)) (eS (low32 isv) (low32 (isv / 512))) none 0 (mayTk (okcE (low32 isv) (low32 (isv / 512)) hls) (okE (low32 isv) (low32 (isv / 512))).1 rfl) (Sl_nil _) (tE1 (low32 isv) (low32 (isv / 512)))) ?_
    rintro _ V778 ⟨ao778, co778, ap778, cp778, al778, cl778, vt778, rfl, hM778, hb777⟩
    refine ⟨_, rfl, ?_⟩
    have hT778 := Tch.refl (fun k => k < Bz778) V778
    rw [← hBz778] at hM778
    have hz778 := mine_size hM778
    have b779 := b772.trans (hb777.mono b772.size)
    have r780 := r773.below hb777
    have r781 := r774.below hb777
    have r782 := r775.below hb777
    have r783 := r771.below hb777
    iterate 5 refine fw_pu rfl ?_
    refine fw_st r783 rfl rfl ?_
    intro W784 s785 r786
    have b787 := below_chg b779 s785 (by omega) b779.size
    have r788 := r780.chg s785 (by omega)
    have r789 := r781.chg s785 (by omega)
    have r790 := r782.chg s785 (by omega)
    have f791 := (Tch.chg hT778 s785 (.inl (by omega)))
    iterate 3 refine fw_pu rfl ?_
    refine fw_dt ?_
    refine fw_sq ?_
    refine fw_sq ?_
    refine fw_rg rfl ?_
    refine fw_pu rfl ?_
    refine fw_ca Try.func38 rfl rfl rfl ((num16_any 0 W784)) ?_
    rintro _ _ ⟨rfl, rfl⟩
    refine ⟨(.int .i64 0), rfl, ?_⟩
    iterate 3 refine fw_pu rfl ?_
    refine fw_ca Try.func38 rfl rfl rfl ((num16_any 0 W784)) ?_
    rintro _ _ ⟨rfl, rfl⟩
    refine ⟨(.int .i64 0), rfl, ?_⟩
    iterate 2 refine fw_pu rfl ?_
    refine fw_dt ?_
    refine fw_cF rfl rfl ?_
    refine fw_sk ?_
    refine fw_th ?_
    refine fw_sq ?_
    refine fw_hr (fun X => Below w.heap.size w X ∧ RowAt X q1 [.slice aA A.length cA, .slice aB B.length cB, .int .i64 sz, .int .i64 isv, .slice aL nL cL, .slice aW nW cW] ∧ RowAt X q11 [.int .i64 3, .int .i64 4, .int .i64 (addv (low32 (isv / 512)) 1), .int .i64 (addv (low32 isv) 1), .int .i64 16, .int .i64 1000, .slice none 0 0] ∧ RowAt X q23 [.int .i64 3, .int .i64 4, .int .i64 (addv (low32 (isv / 512)) 1), .int .i64 (addv (low32 isv) 1), .int .i64 17, .int .i64 1000, .slice none 0 0] ∧ RowAt X q759 [.int .i64 (cV (low32 isv) (low32 (isv / 512)) 2 1 1 1 false tm0).link, .int .i64 (cV (low32 isv) (low32 (isv / 512)) 2 1 1 1 false tm0).ip, .int .i64 (cV (low32 isv) (low32 (isv / 512)) 2 1 1 1 false tm0).pp, .int .i64 (cV (low32 isv) (low32 (isv / 512)) 2 1 1 1 false tm0).po, .int .i64 (cV (low32 isv) (low32 (isv / 512)) 2 1 1 1 false tm0).st, .int .i64 (cV (low32 isv) (low32 (isv / 512)) 2 1 1 1 false tm0).una, .int .i64 (cV (low32 isv) (low32 (isv / 512)) 2 1 1 1 false tm0).nxt, .int .i64 (cV (low32 isv) (low32 (isv / 512)) 2 1 1 1 false tm0).win, .slice ao778 (cV (low32 isv) (low32 (isv / 512)) 2 1 1 1 false tm0).out.length co778, .int .i64 (cV (low32 isv) (low32 (isv / 512)) 2 1 1 1 false tm0).rn, .slice ap778 (cV (low32 isv) (low32 (isv / 512)) 2 1 1 1 false tm0).ps.length cp778, .bool (cV (low32 isv) (low32 (isv / 512)) 2 1 1 1 false tm0).cl, .bool (cV (low32 isv) (low32 (isv / 512)) 2 1 1 1 false tm0).tm.on, .int .i64 (cV (low32 isv) (low32 (isv / 512)) 2 1 1 1 false tm0).tm.left, .int .i64 (cV (low32 isv) (low32 (isv / 512)) 2 1 1 1 false tm0).tm.wait, .int .i64 (cV (low32 isv) (low32 (isv / 512)) 2 1 1 1 false tm0).tm.tries] ∧ Tch (fun k => k < Bz778) V778 X) (by kernel_rfl) 6 rfl ?_
    intro W792 s793
    have b794 := b787.trans (s793.mono b787.size)
    have r795 := r788.below s793
    have r796 := r789.below s793
    have r797 := r790.below s793
    have r798 := r786.below s793
    have f799 := (Tch.grow f791 s793)
    refine ⟨⟨b794, r795, r796, r797, r798, f799⟩, ?_⟩
    refine fw_tl 0 (fun _ h => h.2.2.1) rfl rfl rfl (by kernel_rfl) (fun _ _ _ _ _ h => h) ?_
    refine fw_tl 1 (fun _ h => h.2.2.2.1) rfl rfl rfl (by kernel_rfl) (fun _ _ _ _ _ h => h) ?_
    refine fw_aa (t1 := 70) (t2 := 70) 2 3 14 15 [.int .i64 0, .int .i64 0, .int .i64 0, .int .i64 0, .int .i64 0, .int .i64 0, .slice none 0 0] [.int .i64 0, .int .i64 0, .int .i64 0, .int .i64 0, .int .i64 0, .int .i64 0, .slice none 0 0] (by kernel_rfl) (by kernel_rfl) (by kernel_rfl) rfl rfl rfl (fun _ => rfl) (fun _ => rfl) rfl rfl rfl rfl rfl (fun a W => (run_allocOp (by simp [go_sem, Instr.alloc]))) (fun a W => (run_allocOp (by simp [go_sem, Instr.alloc]))) (fun X hX => ⟨b794.trans (hX.mono b794.size), r795.below hX, r796.below hX, r797.below hX, r798.below hX, (Tch.grow f799 hX)⟩) ?_
    intro q800 q801 W802 hne803 g804 g805 s806 r807 r808
    have := Nat.le_trans b794.size g804
    have := r795.lt g804
    have := r796.lt g804
    have := r797.lt g804
    have := r798.lt g804
    have := Nat.le_trans f799.size g804
    have := Nat.le_trans b794.size g805
    have := r795.lt g805
    have := r796.lt g805
    have := r797.lt g805
    have := r798.lt g805
    have := Nat.le_trans f799.size g805
    have b809 := b794.trans (s806.mono b794.size)
    have r810 := r795.below s806
    have r811 := r796.below s806
    have r812 := r797.below s806
    have r813 := r798.below s806
    have f814 := (Tch.grow f799 s806)
    refine fw_o1 4 (by kernel_rfl) ?_
    refine fw_os rfl r807 rfl rfl ?_
    intro W815 s816 r817
    have b818 := below_chg b809 s816 (by omega) b809.size
    have r819 := r810.chg s816 (by omega)
    have r820 := r811.chg s816 (by omega)
    have r821 := r812.chg s816 (by omega)
    have r822 := r813.chg s816 (by omega)
    have r823 := r808.chg s816 (by omega)
    have f824 := (Tch.chg f814 s816 (.inr (by omega)))
    refine ⟨⟨b818, r819, r820, r821, r822, f824⟩, ?_⟩
    refine fw_o1 5 (by kernel_rfl) ?_
    refine fw_os rfl r823 rfl rfl ?_
    intro W825 s826 r827
    have b828 := below_chg b818 s826 (by omega) b818.size
    have r829 := r819.chg s826 (by omega)
    have r830 := r820.chg s826 (by omega)
    have r831 := r821.chg s826 (by omega)
    have r832 := r822.chg s826 (by omega)
    have r833 := r817.chg s826 (by omega)
    have f834 := (Tch.chg f824 s826 (.inr (by omega)))
    refine ⟨⟨b828, r829, r830, r831, r832, f834⟩, ?_⟩
    refine fw_ht (by kernel_rfl) ?_
    refine fw_sq ?_
    refine fw_rg rfl ?_
    refine fw_pu rfl ?_
    refine fw_ca Try.func18 rfl rfl rfl ((rAdd_q (low32 (isv / 512)) 2 W825)) ?_
    rintro _ _ ⟨rfl, rfl⟩
    refine ⟨(.int .i64 (addv (low32 (isv / 512)) 2)), rfl, ?_⟩
    refine fw_pu rfl ?_
    refine fw_ca Try.func18 rfl rfl rfl ((rAdd_q (low32 isv) 2 W825)) ?_
    rintro _ _ ⟨rfl, rfl⟩
    refine ⟨(.int .i64 (addv (low32 isv) 2)), rfl, ?_⟩
    refine fw_pu rfl ?_
    refine fw_st r833 rfl rfl ?_
    intro W835 s836 r837
    have b838 := below_chg b828 s836 (by omega) b828.size
    have r839 := r829.chg s836 (by omega)
    have r840 := r830.chg s836 (by omega)
    have r841 := r831.chg s836 (by omega)
    have r842 := r832.chg s836 (by omega)
    have r843 := r827.chg s836 (by omega)
    have f844 := (Tch.chg f834 s836 (.inr (by omega)))
    refine fw_pu rfl ?_
    refine fw_st r837 rfl rfl ?_
    intro W845 s846 r847
    have b848 := below_chg b838 s846 (by omega) b838.size
    have r849 := r839.chg s846 (by omega)
    have r850 := r840.chg s846 (by omega)
    have r851 := r841.chg s846 (by omega)
    have r852 := r842.chg s846 (by omega)
    have r853 := r843.chg s846 (by omega)
    have f854 := (Tch.chg f844 s846 (.inr (by omega)))
    refine fw_dt ?_
    refine fw_sq ?_
    refine fw_rg rfl ?_
    refine fw_pu rfl ?_
    refine fw_dt ?_
    refine fw_sq ?_
    refine fw_rg rfl ?_
    refine fw_al (t := 3) (u := fun q => .slice (some ⟨q, 0, none⟩) 0 0) 75 [] rfl rfl rfl (fun a h => (bsI0 _)) ?_
    intro q855 W856 g859 s857 r858
    have := Nat.le_trans b848.size g859
    have := r849.lt g859
    have := r850.lt g859
    have := r851.lt g859
    have := r852.lt g859
    have := r847.lt g859
    have := r853.lt g859
    have := Nat.le_trans f854.size g859
    have b860 := b848.trans (s857.mono b848.size)
    have r861 := r849.below s857
    have r862 := r850.below s857
    have r863 := r851.below s857
    have r864 := r852.below s857
    have r865 := r847.below s857
    have r866 := r853.below s857
    have f867 := (Tch.grow f854 s857)
    refine fw_pu rfl ?_
    refine fw_dt ?_
    refine fw_sq ?_
    refine fw_rg rfl ?_
    refine fw_pu rfl ?_
    refine fw_dt ?_
    refine fw_sq ?_
    refine fw_sq ?_
    refine fw_rg rfl ?_
    refine fw_pu rfl ?_
    refine fw_dt ?_
    refine fw_bk ?_
    refine fw_sq ?_
    refine fw_rg rfl ?_
    iterate 2 refine fw_pu rfl ?_
    refine fw_dt ?_
    refine fw_cF rfl rfl ?_
    refine fw_sq ?_
    refine fw_rg rfl ?_
    iterate 2 refine fw_pu rfl ?_
    refine fw_dt ?_
    refine fw_cF rfl rfl ?_
    refine fw_sq ?_
    refine fw_rg rfl ?_
    iterate 2 refine fw_pu rfl ?_
    refine fw_dt ?_
    refine fw_cT rfl rfl ?_
    refine fw_sq ?_
    refine fw_rg rfl ?_
    refine fw_ld r864 rfl rfl ?_
    have := r861.2.2
    have := r862.2.2
    have := r863.2.2
    have := r864.2.2
    have := r865.2.2
    have := r866.2.2
    have := r858.2.2
    obtain ⟨Bz869, hBz869⟩ : ∃ x, x = W856.heap.size := ⟨_, rfl⟩
    have hwB869 : w.heap.size ≤ Bz869 := by rw [hBz869]; exact b860.size
    refine fw_ca Try.func34 rfl rfl rfl (pClose (cV (low32 isv) (low32 (isv / 512)) 2 1 1 1 false tm0) ao778 ap778 co778 cp778 W856 (ok2 (low32 isv) (low32 (isv / 512))) (mine_reads hM778 f867).1 (mine_reads hM778 f867).2.1 (Nat.zero_le _) (fun x hx => (nomatch hx)) rfl (close_V (low32 isv) (low32 (isv / 512)) (.inl rfl))) ?_
    rintro _ V869 ⟨ao869, co869, ap869, cp869, al869, cl869, rfl, hM869, hb868⟩
    refine ⟨_, rfl, ?_⟩
    have hT869 := Tch.refl (fun k => k < Bz869) V869
    rw [← hBz869] at hM869
    have hz869 := mine_size hM869
    have b870 := b860.trans (hb868.mono b860.size)
    have r871 := r861.below hb868
    have r872 := r862.below hb868
    have r873 := r863.below hb868
    have r874 := r864.below hb868
    have r875 := r865.below hb868
    have r876 := r866.below hb868
    have r877 := r858.below hb868
    iterate 4 refine fw_pu rfl ?_
    refine fw_st r874 rfl rfl ?_
    intro W878 s879 r880
    have b881 := below_chg b870 s879 (by omega) b870.size
    have r882 := r871.chg s879 (by omega)
    have r883 := r872.chg s879 (by omega)
    have r884 := r873.chg s879 (by omega)
    have r885 := r875.chg s879 (by omega)
    have r886 := r876.chg s879 (by omega)
    have r887 := r877.chg s879 (by omega)
    have f888 := (Tch.chg hT869 s879 (.inl (by omega)))
    refine fw_pu rfl ?_
    refine fw_dt ?_
    refine fw_fg [(1, _), (3, _), (4, _), (5, _), (6, _), (7, _), (8, _), (14, _), (16, _), (18, _)] ⟨rfl, rfl, rfl, rfl, rfl, rfl, rfl, rfl, rfl, rfl, trivial⟩ ?_
    refine fw_sq ?_
    refine fw_rg rfl ?_
    iterate 2 refine fw_pu rfl ?_
    refine fw_ld r880 rfl rfl ?_
    refine fw_al (t := 3) (u := fun q => .slice (some ⟨q, 0, none⟩) 1 1) 163 [.int .i64 (cV (low32 isv) (low32 (isv / 512)) 3 1 2 1 true (tmS 3)).st] rfl rfl rfl (fun a h => (bsI1 _ (h.ev rfl))) ?_
    intro q889 W890 g893 s891 r892
    have := Nat.le_trans b881.size g893
    have := r882.lt g893
    have := r883.lt g893
    have := r884.lt g893
    have := r880.lt g893
    have := r885.lt g893
    have := r886.lt g893
    have := r887.lt g893
    have := Nat.le_trans f888.size g893
    have b894 := b881.trans (s891.mono b881.size)
    have r895 := r882.below s891
    have r896 := r883.below s891
    have r897 := r884.below s891
    have r898 := r880.below s891
    have r899 := r885.below s891
    have r900 := r886.below s891
    have r901 := r887.below s891
    have f902 := (Tch.grow f888 s891)
    obtain ⟨Bst, hBst⟩ : ∃ x, x = q889 := ⟨_, rfl⟩
    have hwBst : w.heap.size ≤ Bst := by omega
    have hBstW : Bst ≤ W890.heap.size := by rw [hBst]; exact Nat.le_of_lt r892.2.2
    have hst0 : W890.ownsRow Bst 3 1 (.slice none 0 0) 0 [] := World.ownsRow_nil _ _ _ _
    refine fw_to 164 rfl rfl rfl (fun a h => opTo_int _ _ rfl (h.ev rfl) hst0 (h.ev rfl) r892 (by decide) hBstW) ?_
    rintro vV903 V903 ⟨hgr, hogV903⟩
    obtain ⟨aV903, cV903, rfl⟩ := own_slice hogV903
    have hOB : ∀ b, (.slice none 0 0 : Value).ownBlock = some b → Bst ≤ b := fun b hb => (blk_lt hst0 hb).1
    have b904 := below_grown b894 hgr.1 (fun b hb => Nat.le_trans hwBst (hOB b hb)) b894.size
    have r905 := rowAt_keep r895 hgr.1 (fun e => by have := hOB _ e.symm; omega)
    have r906 := rowAt_keep r896 hgr.1 (fun e => by have := hOB _ e.symm; omega)
    have r907 := rowAt_keep r897 hgr.1 (fun e => by have := hOB _ e.symm; omega)
    have r908 := rowAt_keep r898 hgr.1 (fun e => by have := hOB _ e.symm; omega)
    have r909 := rowAt_keep r899 hgr.1 (fun e => by have := hOB _ e.symm; omega)
    have r910 := rowAt_keep r900 hgr.1 (fun e => by have := hOB _ e.symm; omega)
    have r911 := rowAt_keep r901 hgr.1 (fun e => by have := hOB _ e.symm; omega)
    have f912 := tch_grown f902 hgr.1 (fun b hb => (nomatch hb))
    have hBstV : Bst ≤ V903.heap.size := Nat.le_trans hBstW hgr.1.size
    have hszS := Nat.le_refl V903.heap.size
    refine fw_pu rfl ?_
    refine fw_dt ?_
    refine fw_sq ?_
    refine fw_rg rfl ?_
    refine fw_ld r908 rfl rfl ?_
    refine fw_ld r907 rfl rfl ?_
    have := r905.2.2
    have := r906.2.2
    have := r907.2.2
    have := r908.2.2
    have := r909.2.2
    have := r910.2.2
    have := r911.2.2
    obtain ⟨Bz914, hBz914⟩ : ∃ x, x = V903.heap.size := ⟨_, rfl⟩
    have hwB914 : w.heap.size ≤ Bz914 := by rw [hBz914]; exact b904.size
    have hsk914 : ∀ b, (.slice aV903 1 cV903 : Value).ownBlock = some b → b < Bz914 := fun b hb => by rw [hBz914]; exact (blk_lt hogV903 hb).2
    refine fw_ca Try.func36 rfl rfl rfl (pTake (cV (low32 isv) (low32 (isv / 512)) 3 1 2 1 true (tmS 3)) ao869 ap869 co869 cp869 V903 (mine_reads hM869 f912).1 (mine_reads hM869 f912).2.1 (Nat.zero_le _) (fun x hx => (nomatch hx)) (eF (low32 isv) (low32 (isv / 512))) none 0 (mayTk (ok3 (low32 isv) (low32 (isv / 512))) (okE (low32 isv) (low32 (isv / 512))).2.1 rfl) (Sl_nil _) (tE_2b (low32 isv) (low32 (isv / 512)))) ?_
    rintro _ V914 ⟨ao914, co914, ap914, cp914, al914, cl914, vt914, rfl, hM914, hb913⟩
    refine ⟨_, rfl, ?_⟩
    have hT914 := Tch.refl (fun k => k < Bz914) V914
    rw [← hBz914] at hM914
    have hz914 := mine_size hM914
    have b915 := b904.trans (hb913.mono b904.size)
    have r916 := r905.below hb913
    have r917 := r906.below hb913
    have r918 := r907.below hb913
    have r919 := r908.below hb913
    have r920 := r909.below hb913
    have r921 := r910.below hb913
    have r922 := r911.below hb913
    have f923 := (below_own hogV903 hb913)
    have f924 := (Nat.le_trans hszS hb913.size)
    iterate 5 refine fw_pu rfl ?_
    refine fw_st r919 rfl rfl ?_
    intro W925 s926 r927
    have b928 := below_chg b915 s926 (by omega) b915.size
    have r929 := r916.chg s926 (by omega)
    have r930 := r917.chg s926 (by omega)
    have r931 := r918.chg s926 (by omega)
    have r932 := r920.chg s926 (by omega)
    have r933 := r921.chg s926 (by omega)
    have r934 := r922.chg s926 (by omega)
    have f935 := (own_chg f923 s926 (by omega))
    have f936 := (Nat.le_trans f924 s926.size)
    have f937 := (Tch.chg hT914 s926 (.inl (by omega)))
    refine fw_pu rfl ?_
    refine fw_dt ?_
    refine fw_sq ?_
    refine fw_rg rfl ?_
    iterate 2 refine fw_pu rfl ?_
    refine fw_ld r927 rfl rfl ?_
    refine fw_al (t := 3) (u := fun q => .slice (some ⟨q, 0, none⟩) 1 1) 176 [.int .i64 (cV (low32 isv) (low32 (isv / 512)) 6 1 2 2 true (tmS 3)).st] rfl rfl rfl (fun a h => (bsI1 _ (h.ev rfl))) ?_
    intro q938 W939 g942 s940 r941
    have := Nat.le_trans b928.size g942
    have := r929.lt g942
    have := r930.lt g942
    have := r931.lt g942
    have := r927.lt g942
    have := r932.lt g942
    have := r933.lt g942
    have := r934.lt g942
    have hsq_q938 : ∀ b, (.slice aV903 1 cV903 : Value).ownBlock = some b → b < q938 := fun b hb => Nat.lt_of_lt_of_le (blk_lt f935 hb).2 g942
    have := Nat.le_trans f937.size g942
    have b943 := b928.trans (s940.mono b928.size)
    have r944 := r929.below s940
    have r945 := r930.below s940
    have r946 := r931.below s940
    have r947 := r927.below s940
    have r948 := r932.below s940
    have r949 := r933.below s940
    have r950 := r934.below s940
    have f951 := (below_own f935 s940)
    have f952 := (Nat.le_trans f936 s940.size)
    have f953 := (Tch.grow f937 s940)
    refine fw_to 177 rfl rfl rfl (fun a h => opTo_int _ _ rfl (h.ev rfl) f951 (h.ev rfl) r941 (by decide) (Nat.le_trans hBstV f952)) ?_
    rintro vV954 V954 ⟨hgr, hogV954⟩
    obtain ⟨aV954, cV954, rfl⟩ := own_slice hogV954
    have hOB : ∀ b, (.slice aV903 1 cV903 : Value).ownBlock = some b → Bst ≤ b := fun b hb => (blk_lt f951 hb).1
    have b955 := below_grown b943 hgr.1 (fun b hb => Nat.le_trans hwBst (hOB b hb)) b943.size
    have r956 := rowAt_keep r944 hgr.1 (fun e => by have := hOB _ e.symm; omega)
    have r957 := rowAt_keep r945 hgr.1 (fun e => by have := hOB _ e.symm; omega)
    have r958 := rowAt_keep r946 hgr.1 (fun e => by have := hOB _ e.symm; omega)
    have r959 := rowAt_keep r947 hgr.1 (fun e => by have := hOB _ e.symm; omega)
    have r960 := rowAt_keep r948 hgr.1 (fun e => by have := hOB _ e.symm; omega)
    have r961 := rowAt_keep r949 hgr.1 (fun e => by have := hOB _ e.symm; omega)
    have r962 := rowAt_keep r950 hgr.1 (fun e => by have := hOB _ e.symm; omega)
    have f963 := tch_grown f953 hgr.1 (hsk914)
    have hBstV : Bst ≤ V954.heap.size := Nat.le_trans (Nat.le_trans hBstV f952) hgr.1.size
    have hszS := Nat.le_refl V954.heap.size
    refine fw_pu rfl ?_
    refine fw_dt ?_
    refine fw_sq ?_
    refine fw_rg rfl ?_
    refine fw_ld r959 rfl rfl ?_
    refine fw_ld r960 rfl rfl ?_
    have := r956.2.2
    have := r957.2.2
    have := r958.2.2
    have := r959.2.2
    have := r960.2.2
    have := r961.2.2
    have := r962.2.2
    obtain ⟨Bz965, hBz965⟩ : ∃ x, x = V954.heap.size := ⟨_, rfl⟩
    have hwB965 : w.heap.size ≤ Bz965 := by rw [hBz965]; exact b955.size
    have hsk965 : ∀ b, (.slice aV954 2 cV954 : Value).ownBlock = some b → b < Bz965 := fun b hb => by rw [hBz965]; exact (blk_lt hogV954 hb).2
    refine fw_ca Try.func36 rfl rfl rfl (pTake (cV (low32 isv) (low32 (isv / 512)) 6 1 2 2 true (tmS 3)) ao914 ap914 co914 cp914 V954 (mine_reads hM914 f963).1 (mine_reads hM914 f963).2.1 (Nat.zero_le _) (fun x hx => (nomatch hx)) (eL (low32 isv) (low32 (isv / 512))) none 0 (mayTk (ok6 (low32 isv) (low32 (isv / 512))) (okE (low32 isv) (low32 (isv / 512))).2.2.1 rfl) (Sl_nil _) (tE_2c (low32 isv) (low32 (isv / 512)))) ?_
    rintro _ V965 ⟨ao965, co965, ap965, cp965, al965, cl965, vt965, rfl, hM965, hb964⟩
    refine ⟨_, rfl, ?_⟩
    have hT965 := Tch.refl (fun k => k < Bz965) V965
    rw [← hBz965] at hM965
    have hz965 := mine_size hM965
    have b966 := b955.trans (hb964.mono b955.size)
    have r967 := r956.below hb964
    have r968 := r957.below hb964
    have r969 := r958.below hb964
    have r970 := r959.below hb964
    have r971 := r960.below hb964
    have r972 := r961.below hb964
    have r973 := r962.below hb964
    have f974 := (below_own hogV954 hb964)
    have f975 := (Nat.le_trans hszS hb964.size)
    iterate 5 refine fw_pu rfl ?_
    refine fw_st r970 rfl rfl ?_
    intro W976 s977 r978
    have b979 := below_chg b966 s977 (by omega) b966.size
    have r980 := r967.chg s977 (by omega)
    have r981 := r968.chg s977 (by omega)
    have r982 := r969.chg s977 (by omega)
    have r983 := r971.chg s977 (by omega)
    have r984 := r972.chg s977 (by omega)
    have r985 := r973.chg s977 (by omega)
    have f986 := (own_chg f974 s977 (by omega))
    have f987 := (Nat.le_trans f975 s977.size)
    have f988 := (Tch.chg hT965 s977 (.inl (by omega)))
    refine fw_pu rfl ?_
    refine fw_dt ?_
    refine fw_rg rfl ?_
    refine fw_al (t := 3) (u := fun q => .slice (some ⟨q, 0, none⟩) 3 3) 186 [.int .i64 3, .int .i64 6, .int .i64 8] rfl rfl rfl (fun a h => (bsI3 _)) ?_
    intro q989 W990 g993 s991 r992
    have := Nat.le_trans b979.size g993
    have := r980.lt g993
    have := r981.lt g993
    have := r982.lt g993
    have := r978.lt g993
    have := r983.lt g993
    have := r984.lt g993
    have := r985.lt g993
    have hsq_q989 : ∀ b, (.slice aV954 2 cV954 : Value).ownBlock = some b → b < q989 := fun b hb => Nat.lt_of_lt_of_le (blk_lt f986 hb).2 g993
    have := Nat.le_trans f988.size g993
    have b994 := b979.trans (s991.mono b979.size)
    have r995 := r980.below s991
    have r996 := r981.below s991
    have r997 := r982.below s991
    have r998 := r978.below s991
    have r999 := r983.below s991
    have r1000 := r984.below s991
    have r1001 := r985.below s991
    have f1002 := (below_own f986 s991)
    have f1003 := (Nat.le_trans f987 s991.size)
    have f1004 := (Tch.grow f988 s991)
    refine fw_pu rfl ?_
    refine fw_dn ?_
    refine fw_bn ?_
    refine fw_th ?_
    refine fw_sq ?_
    refine fw_rg rfl ?_
    iterate 2 refine fw_pu rfl ?_
    refine fw_ld r998 rfl rfl ?_
    refine fw_al (t := 3) (u := fun q => .slice (some ⟨q, 0, none⟩) 1 1) 228 [.int .i64 (cV (low32 isv) (low32 (isv / 512)) 8 2 2 2 true (tmS 20)).st] rfl rfl rfl (fun a h => (bsI1 _ (h.ev rfl))) ?_
    intro q1005 W1006 g1009 s1007 r1008
    have := Nat.le_trans b994.size g1009
    have := r995.lt g1009
    have := r996.lt g1009
    have := r997.lt g1009
    have := r998.lt g1009
    have := r999.lt g1009
    have := r1000.lt g1009
    have := r1001.lt g1009
    have := r992.lt g1009
    have hsq_q1005 : ∀ b, (.slice aV954 2 cV954 : Value).ownBlock = some b → b < q1005 := fun b hb => Nat.lt_of_lt_of_le (blk_lt f1002 hb).2 g1009
    have := Nat.le_trans f1004.size g1009
    have b1010 := b994.trans (s1007.mono b994.size)
    have r1011 := r995.below s1007
    have r1012 := r996.below s1007
    have r1013 := r997.below s1007
    have r1014 := r998.below s1007
    have r1015 := r999.below s1007
    have r1016 := r1000.below s1007
    have r1017 := r1001.below s1007
    have r1018 := r992.below s1007
    have f1019 := (below_own f1002 s1007)
    have f1020 := (Nat.le_trans f1003 s1007.size)
    have f1021 := (Tch.grow f1004 s1007)
    refine fw_to 229 rfl rfl rfl (fun a h => opTo_int _ _ rfl (h.ev rfl) f1019 (h.ev rfl) r1008 (by decide) (Nat.le_trans hBstV f1020)) ?_
    rintro vV1022 V1022 ⟨hgr, hogV1022⟩
    obtain ⟨aV1022, cV1022, rfl⟩ := own_slice hogV1022
    have hOB : ∀ b, (.slice aV954 2 cV954 : Value).ownBlock = some b → Bst ≤ b := fun b hb => (blk_lt f1019 hb).1
    have b1023 := below_grown b1010 hgr.1 (fun b hb => Nat.le_trans hwBst (hOB b hb)) b1010.size
    have r1024 := rowAt_keep r1011 hgr.1 (fun e => by have := hOB _ e.symm; omega)
    have r1025 := rowAt_keep r1012 hgr.1 (fun e => by have := hOB _ e.symm; omega)
    have r1026 := rowAt_keep r1013 hgr.1 (fun e => by have := hOB _ e.symm; omega)
    have r1027 := rowAt_keep r1014 hgr.1 (fun e => by have := hOB _ e.symm; omega)
    have r1028 := rowAt_keep r1015 hgr.1 (fun e => by have := hOB _ e.symm; omega)
    have r1029 := rowAt_keep r1016 hgr.1 (fun e => by have := hOB _ e.symm; omega)
    have r1030 := rowAt_keep r1017 hgr.1 (fun e => by have := hOB _ e.symm; omega)
    have r1031 := rowAt_keep r1018 hgr.1 (fun e => by have := hsq_q989 _ e.symm; omega)
    have f1032 := tch_grown f1021 hgr.1 (hsk965)
    have hBstV : Bst ≤ V1022.heap.size := Nat.le_trans (Nat.le_trans hBstV f1020) hgr.1.size
    have hszS := Nat.le_refl V1022.heap.size
    refine fw_pu rfl ?_
    refine fw_dt ?_
    refine fw_sq ?_
    refine fw_sq ?_
    refine fw_rg rfl ?_
    refine fw_pu rfl ?_
    refine fw_ca Try.func38 rfl rfl rfl ((num16_any 0 V1022)) ?_
    rintro _ _ ⟨rfl, rfl⟩
    refine ⟨(.int .i64 0), rfl, ?_⟩
    iterate 3 refine fw_pu rfl ?_
    refine fw_ca Try.func38 rfl rfl rfl ((num16_any 0 V1022)) ?_
    rintro _ _ ⟨rfl, rfl⟩
    refine ⟨(.int .i64 0), rfl, ?_⟩
    iterate 4 refine fw_pu rfl ?_
    refine fw_ca Try.func38 rfl rfl rfl ((num16_any 0 V1022)) ?_
    rintro _ _ ⟨rfl, rfl⟩
    refine ⟨(.int .i64 0), rfl, ?_⟩
    iterate 5 refine fw_pu rfl ?_
    refine fw_ca Try.func43 rfl rfl rfl ((eqInts3 (slR_own3 (a := 3) (b := 6) (c := 8) hogV1022) (slR_row3 r1031))) ?_
    rintro _ V1034 ⟨rfl, hb1033⟩
    refine ⟨(.bool true), rfl, ?_⟩
    have b1035 := b1023.trans (hb1033.mono b1023.size)
    have r1036 := r1024.below hb1033
    have r1037 := r1025.below hb1033
    have r1038 := r1026.below hb1033
    have r1039 := r1027.below hb1033
    have r1040 := r1028.below hb1033
    have r1041 := r1029.below hb1033
    have r1042 := r1030.below hb1033
    have r1043 := r1031.below hb1033
    have f1044 := (Tch.grow f1032 hb1033)
    have f1045 := (below_own hogV1022 hb1033)
    have f1046 := (Nat.le_trans hszS hb1033.size)
    iterate 2 refine fw_pu rfl ?_
    refine fw_dt ?_
    refine fw_fg [(1, _), (3, _), (4, _), (5, _), (6, _), (7, _), (8, _), (248, _)] ⟨rfl, rfl, rfl, rfl, rfl, rfl, rfl, rfl, trivial⟩ ?_
    refine fw_cF rfl rfl ?_
    refine fw_sk ?_
    refine fw_th ?_
    refine fw_sq ?_
    refine fw_sq ?_
    refine fw_rg rfl ?_
    refine fw_pu rfl ?_
    refine fw_dt ?_
    refine fw_bk ?_
    refine fw_lp (fun N K W => ∃ (t : Nat) (Bzt : Nat) (Vt : World) (aot : Option Addr) (apt : Option Addr) (alt : Option Addr) (cot : Nat) (cpt : Nat) (clt : Nat) (vtt : Value) (lt : List ES), N = 21 - t ∧ t ≤ 21 ∧ Mine Bzt (cWt (low32 isv) (low32 (isv / 512)) (0 + t)) lt [] aot cot apt cpt alt clt vtt Vt ∧ w.heap.size ≤ Bzt ∧ q759 < Bzt ∧ K = [(1, .pointer (some ⟨q1, 0, none⟩)), (3, .int .i64 (low32 isv)), (4, .int .i64 (low32 (isv / 512))), (5, .pointer (some ⟨q11, 0, none⟩)), (6, .pointer (some ⟨q23, 0, none⟩)), (7, .int .i64 2), (8, .pointer (some ⟨q759, 0, none⟩)), (19, .int .i64 ((t : Nat) : Int))] ∧ Below w.heap.size w W ∧ RowAt W q1 [.slice aA A.length cA, .slice aB B.length cB, .int .i64 sz, .int .i64 isv, .slice aL nL cL, .slice aW nW cW] ∧ RowAt W q11 [.int .i64 3, .int .i64 4, .int .i64 (addv (low32 (isv / 512)) 1), .int .i64 (addv (low32 isv) 1), .int .i64 16, .int .i64 1000, .slice none 0 0] ∧ RowAt W q23 [.int .i64 3, .int .i64 4, .int .i64 (addv (low32 (isv / 512)) 1), .int .i64 (addv (low32 isv) 1), .int .i64 17, .int .i64 1000, .slice none 0 0] ∧ RowAt W q759 [.int .i64 (cWt (low32 isv) (low32 (isv / 512)) (0 + t)).link, .int .i64 (cWt (low32 isv) (low32 (isv / 512)) (0 + t)).ip, .int .i64 (cWt (low32 isv) (low32 (isv / 512)) (0 + t)).pp, .int .i64 (cWt (low32 isv) (low32 (isv / 512)) (0 + t)).po, .int .i64 (cWt (low32 isv) (low32 (isv / 512)) (0 + t)).st, .int .i64 (cWt (low32 isv) (low32 (isv / 512)) (0 + t)).una, .int .i64 (cWt (low32 isv) (low32 (isv / 512)) (0 + t)).nxt, .int .i64 (cWt (low32 isv) (low32 (isv / 512)) (0 + t)).win, .slice aot (cWt (low32 isv) (low32 (isv / 512)) (0 + t)).out.length cot, .int .i64 (cWt (low32 isv) (low32 (isv / 512)) (0 + t)).rn, .slice apt (cWt (low32 isv) (low32 (isv / 512)) (0 + t)).ps.length cpt, .bool (cWt (low32 isv) (low32 (isv / 512)) (0 + t)).cl, .bool (cWt (low32 isv) (low32 (isv / 512)) (0 + t)).tm.on, .int .i64 (cWt (low32 isv) (low32 (isv / 512)) (0 + t)).tm.left, .int .i64 (cWt (low32 isv) (low32 (isv / 512)) (0 + t)).tm.wait, .int .i64 (cWt (low32 isv) (low32 (isv / 512)) (0 + t)).tm.tries] ∧ Tch (fun k => k < Bzt) Vt W) _ _ ⟨0, Bz965, V965, ao965, ap965, al965, co965, cp965, cl965, vt965, ([] : List ES), rfl, (by decide), hM965, hwB965, (by omega), rfl, b1035, r1036, r1037, r1038, r1039, f1044⟩ ⟨rfl, rfl, rfl, rfl, rfl, rfl, rfl, (by first | rfl | (simp only [Look, cond, Nat.beq]; first | rfl | (congr 2; first | rfl | omega | (push_cast; omega)) | (simp; try omega))), trivial⟩ ?_
    rintro N _ W1047 ⟨t, Bzt, Vt, aot, apt, alt, cot, cpt, clt, vtt, lt, rfl, ht, hMt, hBt, hqt, rfl, bW1047, rW1047_0, rW1047_1, rW1047_2, rW1047_3, gW1047_0⟩
    intro K1049 hK1049
    have hzt := mine_size hMt
    refine fw_sq ?_
    refine fw_sq ?_
    refine fw_rg rfl ?_
    iterate 2 refine fw_pu rfl ?_
    refine fw_dt ?_
    rcases Bool.eq_false_or_eq_true ((decide (((t : Nat) : Int) < 21))) with hb_1050 | hb_1050
    · skip
      refine fw_cT rfl hb_1050 ?_
      refine fw_sk ?_
      refine fw_th ?_
      refine fw_sq ?_
      refine fw_bk ?_
      refine fw_sq ?_
      refine fw_rg rfl ?_
      refine fw_ld rW1047_3 rfl rfl ?_
      have := rW1047_0.2.2
      have := rW1047_1.2.2
      have := rW1047_2.2.2
      have := rW1047_3.2.2
      obtain ⟨Bz1052, hBz1052⟩ : ∃ x, x = W1047.heap.size := ⟨_, rfl⟩
      have hwB1052 : w.heap.size ≤ Bz1052 := by rw [hBz1052]; exact bW1047.size
      refine fw_ca Try.func35 rfl rfl rfl (pTick (cWt (low32 isv) (low32 (isv / 512)) (0 + t)) aot apt cot cpt W1047 (okW (low32 isv) (low32 (isv / 512)) _) (mine_reads hMt gW1047_0).1 (mine_reads hMt gW1047_0).2.1 (by rw [psW]; exact Nat.zero_le _) (by rw [psW]; exact fun x hx => (nomatch hx)) (tickW (low32 isv) (low32 (isv / 512)) (0 + t))) ?_
      rintro _ V1052 ⟨ao1052, co1052, ap1052, cp1052, al1052, cl1052, rfl, hM1052, hb1051⟩
      refine ⟨_, rfl, ?_⟩
      have hT1052 := Tch.refl (fun k => k < Bz1052) V1052
      rw [← hBz1052] at hM1052
      have hz1052 := mine_size hM1052
      have b1053 := bW1047.trans (hb1051.mono bW1047.size)
      have r1054 := rW1047_0.below hb1051
      have r1055 := rW1047_1.below hb1051
      have r1056 := rW1047_2.below hb1051
      have r1057 := rW1047_3.below hb1051
      iterate 4 refine fw_pu rfl ?_
      refine fw_al (t := 62) (u := fun q => .pointer (some ⟨q, 0, none⟩)) 20 [.int .i64 0, .int .i64 0, .int .i64 0, .int .i64 0, .int .i64 0, .int .i64 0, .int .i64 0, .int .i64 0, .slice none 0 0, .int .i64 0, .slice none 0 0, .bool false, .bool false, .int .i64 0, .int .i64 0, .int .i64 0] rfl rfl rfl (fun a h => (run_allocOp (by simp [go_sem, Instr.alloc]))) ?_
      intro q1058 W1059 g1062 s1060 r1061
      have := Nat.le_trans b1053.size g1062
      have := r1054.lt g1062
      have := r1055.lt g1062
      have := r1056.lt g1062
      have := r1057.lt g1062
      have := Nat.le_trans hT1052.size g1062
      have b1063 := b1053.trans (s1060.mono b1053.size)
      have r1064 := r1054.below s1060
      have r1065 := r1055.below s1060
      have r1066 := r1056.below s1060
      have r1067 := r1057.below s1060
      have f1068 := (Tch.grow hT1052 s1060)
      refine fw_st r1061 rfl rfl ?_
      intro W1069 s1070 r1071
      have b1072 := below_chg b1063 s1070 (by omega) b1063.size
      have r1073 := r1064.chg s1070 (by omega)
      have r1074 := r1065.chg s1070 (by omega)
      have r1075 := r1066.chg s1070 (by omega)
      have r1076 := r1067.chg s1070 (by omega)
      have f1077 := (Tch.chg f1068 s1070 (.inr (by omega)))
      iterate 2 refine fw_pu rfl ?_
      refine fw_dt ?_
      refine fw_sq ?_
      refine fw_sq ?_
      refine fw_rg rfl ?_
      refine fw_pu rfl ?_
      refine fw_ca Try.func38 rfl rfl rfl ((num16_any 0 W1069)) ?_
      rintro _ _ ⟨rfl, rfl⟩
      refine ⟨(.int .i64 0), rfl, ?_⟩
      refine fw_pu rfl ?_
      refine fw_dt ?_
      refine fw_cF rfl rfl ?_
      refine fw_sk ?_
      refine fw_th ?_
      refine fw_rg rfl ?_
      refine fw_ld r1071 rfl rfl ?_
      refine fw_st r1076 rfl rfl ?_
      intro W1078 s1079 r1080
      have b1081 := below_chg b1072 s1079 (by omega) b1072.size
      have r1082 := r1073.chg s1079 (by omega)
      have r1083 := r1074.chg s1079 (by omega)
      have r1084 := r1075.chg s1079 (by omega)
      have r1085 := r1071.chg s1079 (by omega)
      have f1086 := (Tch.chg f1077 s1079 (.inl (by omega)))
      refine fw_dn ?_
      refine fw_bn ?_
      refine fw_th ?_
      refine fw_rg rfl ?_
      refine fw_pu rfl ?_
      refine fw_ex 252 (.int .i64 (((t + 1) : Nat) : Int)) rfl rfl rfl (fun a h => (run_binOp (h.ev rfl) (h.ev rfl) (by simp [go_sem]) (addIw _ _ _ _ (by omega) (by omega) (by omega)))) ?_
      refine fw_pu rfl ?_
      refine fw_dn ?_
      have ht21 := of_decide_eq_true hb_1050
      exact fw_th (fw_gf (hK1049 _ _ _ (by omega) ⟨(t + 1), Bz1052, V1052, ao1052, ap1052, al1052, co1052, cp1052, cl1052, (.slice none 0 0), [], rfl, (by omega), hM1052, (by omega), (by omega), rfl, b1081, r1082, r1083, r1084, r1080, f1086⟩) ⟨rfl, rfl, rfl, rfl, rfl, rfl, rfl, (by first | rfl | (simp only [Look, cond, Nat.beq]; first | rfl | (congr 2; first | rfl | omega | (push_cast; omega)) | (simp; try omega))), trivial⟩)
    refine fw_cF rfl hb_1050 ?_
    refine fw_xt ?_
    refine fw_te ?_
    refine fw_te ?_
    refine fw_be ?_
    refine fw_th ?_
    refine fw_sq ?_
    refine fw_rg rfl ?_
    refine fw_pu rfl ?_
    refine fw_ld rW1047_3 rfl rfl ?_
    refine fw_pu rfl ?_
    refine fw_dt ?_
    refine fw_cF rfl (not_of (cWt_st _ _ (by have h0 := of_decide_eq_false hb_1050; omega))) ?_
    refine fw_sk ?_
    refine fw_bn ?_
    refine fw_th ?_
    refine fw_rg rfl ?_
    refine fw_pu rfl ?_
    refine fw_ex 42 (.int .i64 3) rfl rfl rfl (fun a h => (run_binOp (h.ev rfl) (h.ev rfl) (by simp [go_sem]) (addIw _ _ _ _ (by omega) (by omega) (by omega)))) ?_
    refine fw_pu rfl ?_
    refine fw_dn ?_
    exact fw_th (fw_gf (hK45 _ _ _ (by decide) ⟨3, rfl, (by decide), rfl, bW1047, rW1047_0, rW1047_1, rW1047_2⟩) ⟨rfl, rfl, rfl, rfl, rfl, (by first | rfl | (simp only [Look, cond, Nat.beq]; first | rfl | (congr 2; first | rfl | omega | (push_cast; omega)) | (simp; try omega))), trivial⟩)
  · skip
    refine fw_rg rfl ?_
    iterate 2 refine fw_pu rfl ?_
    refine fw_dt ?_
    refine fw_cT rfl rfl ?_
    refine fw_sk ?_
    refine fw_th ?_
    refine fw_sq ?_
    refine fw_bk ?_
    refine fw_sq ?_
    refine fw_rg rfl ?_
    iterate 2 refine fw_pu rfl ?_
    refine fw_ex 46 (.agg #[.int .i64 3, .int .i64 4, .int .i64 (low32 (isv / 512)), .int .i64 0, .int .i64 2, .int .i64 1000, .slice none 0 0]) rfl rfl rfl (fun a h => (run_buildOp (bp5 (h.ev rfl) (h.ev rfl) (h.ev rfl) (h.ev rfl) (h.ev rfl)) (by first | kernel_rfl | rfl))) ?_
    have := rW43_0.2.2
    have := rW43_1.2.2
    have := rW43_2.2.2
    obtain ⟨Bz1088, hBz1088⟩ : ∃ x, x = W43.heap.size := ⟨_, rfl⟩
    have hwB1088 : w.heap.size ≤ Bz1088 := by rw [hBz1088]; exact bW43.size
    refine fw_ca Try.func41 rfl rfl rfl (pOpen 1 2 (low32 isv) (eO (low32 (isv / 512))) none 0 W43 (mayE (low32 isv) (low32 (isv / 512)) hls hrs) (openE (low32 isv) (low32 (isv / 512)))) ?_
    rintro _ V1088 ⟨ao1088, co1088, ap1088, cp1088, al1088, cl1088, rfl, hM1088, hb1087⟩
    refine ⟨_, rfl, ?_⟩
    have hT1088 := Tch.refl (fun k => k < Bz1088) V1088
    rw [← hBz1088] at hM1088
    have hz1088 := mine_size hM1088
    have b1089 := bW43.trans (hb1087.mono bW43.size)
    have r1090 := rW43_0.below hb1087
    have r1091 := rW43_1.below hb1087
    have r1092 := rW43_2.below hb1087
    iterate 4 refine fw_pu rfl ?_
    refine fw_al (t := 62) (u := fun q => .pointer (some ⟨q, 0, none⟩)) 8 [.int .i64 0, .int .i64 0, .int .i64 0, .int .i64 0, .int .i64 0, .int .i64 0, .int .i64 0, .int .i64 0, .slice none 0 0, .int .i64 0, .slice none 0 0, .bool false, .bool false, .int .i64 0, .int .i64 0, .int .i64 0] rfl rfl rfl (fun a h => (run_allocOp (by simp [go_sem, Instr.alloc]))) ?_
    intro q1093 W1094 g1097 s1095 r1096
    have := Nat.le_trans b1089.size g1097
    have := r1090.lt g1097
    have := r1091.lt g1097
    have := r1092.lt g1097
    have := Nat.le_trans hT1088.size g1097
    have b1098 := b1089.trans (s1095.mono b1089.size)
    have r1099 := r1090.below s1095
    have r1100 := r1091.below s1095
    have r1101 := r1092.below s1095
    have f1102 := (Tch.grow hT1088 s1095)
    refine fw_st r1096 rfl rfl ?_
    intro W1103 s1104 r1105
    have b1106 := below_chg b1098 s1104 (by omega) b1098.size
    have r1107 := r1099.chg s1104 (by omega)
    have r1108 := r1100.chg s1104 (by omega)
    have r1109 := r1101.chg s1104 (by omega)
    have f1110 := (Tch.chg f1102 s1104 (.inr (by omega)))
    iterate 2 refine fw_pu rfl ?_
    refine fw_dt ?_
    refine fw_sq ?_
    refine fw_rg rfl ?_
    refine fw_ld r1105 rfl rfl ?_
    refine fw_ld r1108 rfl rfl ?_
    have := r1107.2.2
    have := r1108.2.2
    have := r1109.2.2
    have := r1105.2.2
    obtain ⟨Bz1112, hBz1112⟩ : ∃ x, x = W1103.heap.size := ⟨_, rfl⟩
    have hwB1112 : w.heap.size ≤ Bz1112 := by rw [hBz1112]; exact b1106.size
    refine fw_ca Try.func36 rfl rfl rfl (pTake (cE (low32 isv) (low32 (isv / 512))) ao1088 ap1088 co1088 cp1088 W1103 (mine_reads hM1088 f1110).1 (mine_reads hM1088 f1110).2.1 (Nat.zero_le _) (fun x hx => (nomatch hx)) (eS (low32 isv) (low32 (isv / 512))) none 0 (mayTk (okcE (low32 isv) (low32 (isv / 512)) hls) (okE (low32 isv) (low32 (isv / 512))).1 rfl) (Sl_nil _) (tE1 (low32 isv) (low32 (isv / 512)))) ?_
    rintro _ V1112 ⟨ao1112, co1112, ap1112, cp1112, al1112, cl1112, vt1112, rfl, hM1112, hb1111⟩
    refine ⟨_, rfl, ?_⟩
    have hT1112 := Tch.refl (fun k => k < Bz1112) V1112
    rw [← hBz1112] at hM1112
    have hz1112 := mine_size hM1112
    have b1113 := b1106.trans (hb1111.mono b1106.size)
    have r1114 := r1107.below hb1111
    have r1115 := r1108.below hb1111
    have r1116 := r1109.below hb1111
    have r1117 := r1105.below hb1111
    iterate 5 refine fw_pu rfl ?_
    refine fw_st r1117 rfl rfl ?_
    intro W1118 s1119 r1120
    have b1121 := below_chg b1113 s1119 (by omega) b1113.size
    have r1122 := r1114.chg s1119 (by omega)
    have r1123 := r1115.chg s1119 (by omega)
    have r1124 := r1116.chg s1119 (by omega)
    have f1125 := (Tch.chg hT1112 s1119 (.inl (by omega)))
    iterate 3 refine fw_pu rfl ?_
    refine fw_dt ?_
    refine fw_sq ?_
    refine fw_sq ?_
    refine fw_rg rfl ?_
    refine fw_pu rfl ?_
    refine fw_ca Try.func38 rfl rfl rfl ((num16_any 0 W1118)) ?_
    rintro _ _ ⟨rfl, rfl⟩
    refine ⟨(.int .i64 0), rfl, ?_⟩
    iterate 3 refine fw_pu rfl ?_
    refine fw_ca Try.func38 rfl rfl rfl ((num16_any 0 W1118)) ?_
    rintro _ _ ⟨rfl, rfl⟩
    refine ⟨(.int .i64 0), rfl, ?_⟩
    iterate 2 refine fw_pu rfl ?_
    refine fw_dt ?_
    refine fw_cF rfl rfl ?_
    refine fw_sk ?_
    refine fw_th ?_
    refine fw_sq ?_
    refine fw_hr (fun X => Below w.heap.size w X ∧ RowAt X q1 [.slice aA A.length cA, .slice aB B.length cB, .int .i64 sz, .int .i64 isv, .slice aL nL cL, .slice aW nW cW] ∧ RowAt X q11 [.int .i64 3, .int .i64 4, .int .i64 (addv (low32 (isv / 512)) 1), .int .i64 (addv (low32 isv) 1), .int .i64 16, .int .i64 1000, .slice none 0 0] ∧ RowAt X q23 [.int .i64 3, .int .i64 4, .int .i64 (addv (low32 (isv / 512)) 1), .int .i64 (addv (low32 isv) 1), .int .i64 17, .int .i64 1000, .slice none 0 0] ∧ RowAt X q1093 [.int .i64 (cV (low32 isv) (low32 (isv / 512)) 2 1 1 1 false tm0).link, .int .i64 (cV (low32 isv) (low32 (isv / 512)) 2 1 1 1 false tm0).ip, .int .i64 (cV (low32 isv) (low32 (isv / 512)) 2 1 1 1 false tm0).pp, .int .i64 (cV (low32 isv) (low32 (isv / 512)) 2 1 1 1 false tm0).po, .int .i64 (cV (low32 isv) (low32 (isv / 512)) 2 1 1 1 false tm0).st, .int .i64 (cV (low32 isv) (low32 (isv / 512)) 2 1 1 1 false tm0).una, .int .i64 (cV (low32 isv) (low32 (isv / 512)) 2 1 1 1 false tm0).nxt, .int .i64 (cV (low32 isv) (low32 (isv / 512)) 2 1 1 1 false tm0).win, .slice ao1112 (cV (low32 isv) (low32 (isv / 512)) 2 1 1 1 false tm0).out.length co1112, .int .i64 (cV (low32 isv) (low32 (isv / 512)) 2 1 1 1 false tm0).rn, .slice ap1112 (cV (low32 isv) (low32 (isv / 512)) 2 1 1 1 false tm0).ps.length cp1112, .bool (cV (low32 isv) (low32 (isv / 512)) 2 1 1 1 false tm0).cl, .bool (cV (low32 isv) (low32 (isv / 512)) 2 1 1 1 false tm0).tm.on, .int .i64 (cV (low32 isv) (low32 (isv / 512)) 2 1 1 1 false tm0).tm.left, .int .i64 (cV (low32 isv) (low32 (isv / 512)) 2 1 1 1 false tm0).tm.wait, .int .i64 (cV (low32 isv) (low32 (isv / 512)) 2 1 1 1 false tm0).tm.tries] ∧ Tch (fun k => k < Bz1112) V1112 X) (by kernel_rfl) 6 rfl ?_
    intro W1126 s1127
    have b1128 := b1121.trans (s1127.mono b1121.size)
    have r1129 := r1122.below s1127
    have r1130 := r1123.below s1127
    have r1131 := r1124.below s1127
    have r1132 := r1120.below s1127
    have f1133 := (Tch.grow f1125 s1127)
    refine ⟨⟨b1128, r1129, r1130, r1131, r1132, f1133⟩, ?_⟩
    refine fw_tl 0 (fun _ h => h.2.2.1) rfl rfl rfl (by kernel_rfl) (fun _ _ _ _ _ h => h) ?_
    refine fw_tl 1 (fun _ h => h.2.2.2.1) rfl rfl rfl (by kernel_rfl) (fun _ _ _ _ _ h => h) ?_
    refine fw_aa (t1 := 70) (t2 := 70) 2 3 14 15 [.int .i64 0, .int .i64 0, .int .i64 0, .int .i64 0, .int .i64 0, .int .i64 0, .slice none 0 0] [.int .i64 0, .int .i64 0, .int .i64 0, .int .i64 0, .int .i64 0, .int .i64 0, .slice none 0 0] (by kernel_rfl) (by kernel_rfl) (by kernel_rfl) rfl rfl rfl (fun _ => rfl) (fun _ => rfl) rfl rfl rfl rfl rfl (fun a W => (run_allocOp (by simp [go_sem, Instr.alloc]))) (fun a W => (run_allocOp (by simp [go_sem, Instr.alloc]))) (fun X hX => ⟨b1128.trans (hX.mono b1128.size), r1129.below hX, r1130.below hX, r1131.below hX, r1132.below hX, (Tch.grow f1133 hX)⟩) ?_
    intro q1134 q1135 W1136 hne1137 g1138 g1139 s1140 r1141 r1142
    have := Nat.le_trans b1128.size g1138
    have := r1129.lt g1138
    have := r1130.lt g1138
    have := r1131.lt g1138
    have := r1132.lt g1138
    have := Nat.le_trans f1133.size g1138
    have := Nat.le_trans b1128.size g1139
    have := r1129.lt g1139
    have := r1130.lt g1139
    have := r1131.lt g1139
    have := r1132.lt g1139
    have := Nat.le_trans f1133.size g1139
    have b1143 := b1128.trans (s1140.mono b1128.size)
    have r1144 := r1129.below s1140
    have r1145 := r1130.below s1140
    have r1146 := r1131.below s1140
    have r1147 := r1132.below s1140
    have f1148 := (Tch.grow f1133 s1140)
    refine fw_o1 4 (by kernel_rfl) ?_
    refine fw_os rfl r1141 rfl rfl ?_
    intro W1149 s1150 r1151
    have b1152 := below_chg b1143 s1150 (by omega) b1143.size
    have r1153 := r1144.chg s1150 (by omega)
    have r1154 := r1145.chg s1150 (by omega)
    have r1155 := r1146.chg s1150 (by omega)
    have r1156 := r1147.chg s1150 (by omega)
    have r1157 := r1142.chg s1150 (by omega)
    have f1158 := (Tch.chg f1148 s1150 (.inr (by omega)))
    refine ⟨⟨b1152, r1153, r1154, r1155, r1156, f1158⟩, ?_⟩
    refine fw_o1 5 (by kernel_rfl) ?_
    refine fw_os rfl r1157 rfl rfl ?_
    intro W1159 s1160 r1161
    have b1162 := below_chg b1152 s1160 (by omega) b1152.size
    have r1163 := r1153.chg s1160 (by omega)
    have r1164 := r1154.chg s1160 (by omega)
    have r1165 := r1155.chg s1160 (by omega)
    have r1166 := r1156.chg s1160 (by omega)
    have r1167 := r1151.chg s1160 (by omega)
    have f1168 := (Tch.chg f1158 s1160 (.inr (by omega)))
    refine ⟨⟨b1162, r1163, r1164, r1165, r1166, f1168⟩, ?_⟩
    refine fw_ht (by kernel_rfl) ?_
    refine fw_sq ?_
    refine fw_rg rfl ?_
    refine fw_pu rfl ?_
    refine fw_ca Try.func18 rfl rfl rfl ((rAdd_q (low32 (isv / 512)) 2 W1159)) ?_
    rintro _ _ ⟨rfl, rfl⟩
    refine ⟨(.int .i64 (addv (low32 (isv / 512)) 2)), rfl, ?_⟩
    refine fw_pu rfl ?_
    refine fw_ca Try.func18 rfl rfl rfl ((rAdd_q (low32 isv) 2 W1159)) ?_
    rintro _ _ ⟨rfl, rfl⟩
    refine ⟨(.int .i64 (addv (low32 isv) 2)), rfl, ?_⟩
    refine fw_pu rfl ?_
    refine fw_st r1167 rfl rfl ?_
    intro W1169 s1170 r1171
    have b1172 := below_chg b1162 s1170 (by omega) b1162.size
    have r1173 := r1163.chg s1170 (by omega)
    have r1174 := r1164.chg s1170 (by omega)
    have r1175 := r1165.chg s1170 (by omega)
    have r1176 := r1166.chg s1170 (by omega)
    have r1177 := r1161.chg s1170 (by omega)
    have f1178 := (Tch.chg f1168 s1170 (.inr (by omega)))
    refine fw_pu rfl ?_
    refine fw_st r1171 rfl rfl ?_
    intro W1179 s1180 r1181
    have b1182 := below_chg b1172 s1180 (by omega) b1172.size
    have r1183 := r1173.chg s1180 (by omega)
    have r1184 := r1174.chg s1180 (by omega)
    have r1185 := r1175.chg s1180 (by omega)
    have r1186 := r1176.chg s1180 (by omega)
    have r1187 := r1177.chg s1180 (by omega)
    have f1188 := (Tch.chg f1178 s1180 (.inr (by omega)))
    refine fw_dt ?_
    refine fw_sq ?_
    refine fw_rg rfl ?_
    refine fw_pu rfl ?_
    refine fw_dt ?_
    refine fw_sq ?_
    refine fw_rg rfl ?_
    refine fw_al (t := 3) (u := fun q => .slice (some ⟨q, 0, none⟩) 0 0) 75 [] rfl rfl rfl (fun a h => (bsI0 _)) ?_
    intro q1189 W1190 g1193 s1191 r1192
    have := Nat.le_trans b1182.size g1193
    have := r1183.lt g1193
    have := r1184.lt g1193
    have := r1185.lt g1193
    have := r1186.lt g1193
    have := r1181.lt g1193
    have := r1187.lt g1193
    have := Nat.le_trans f1188.size g1193
    have b1194 := b1182.trans (s1191.mono b1182.size)
    have r1195 := r1183.below s1191
    have r1196 := r1184.below s1191
    have r1197 := r1185.below s1191
    have r1198 := r1186.below s1191
    have r1199 := r1181.below s1191
    have r1200 := r1187.below s1191
    have f1201 := (Tch.grow f1188 s1191)
    refine fw_pu rfl ?_
    refine fw_dt ?_
    refine fw_sq ?_
    refine fw_rg rfl ?_
    refine fw_pu rfl ?_
    refine fw_dt ?_
    refine fw_sq ?_
    refine fw_sq ?_
    refine fw_rg rfl ?_
    refine fw_pu rfl ?_
    refine fw_dt ?_
    refine fw_bk ?_
    refine fw_sq ?_
    refine fw_rg rfl ?_
    iterate 2 refine fw_pu rfl ?_
    refine fw_dt ?_
    refine fw_cF rfl rfl ?_
    refine fw_sq ?_
    refine fw_rg rfl ?_
    iterate 2 refine fw_pu rfl ?_
    refine fw_dt ?_
    refine fw_cF rfl rfl ?_
    refine fw_sq ?_
    refine fw_rg rfl ?_
    iterate 2 refine fw_pu rfl ?_
    refine fw_dt ?_
    refine fw_cF rfl rfl ?_
    refine fw_sq ?_
    refine fw_rg rfl ?_
    iterate 2 refine fw_pu rfl ?_
    refine fw_dt ?_
    refine fw_fg [(1, _), (3, _), (4, _), (5, _), (6, _), (7, _), (8, _), (10, _), (13, _), (14, _), (15, _), (16, _), (17, _), (18, _), (187, _)] ⟨rfl, rfl, rfl, rfl, rfl, rfl, rfl, rfl, rfl, rfl, rfl, rfl, rfl, rfl, rfl, trivial⟩ ?_
    refine fw_cT rfl rfl ?_
    refine fw_sq ?_
    refine fw_rg rfl ?_
    refine fw_ld r1198 rfl rfl ?_
    have := r1195.2.2
    have := r1196.2.2
    have := r1197.2.2
    have := r1198.2.2
    have := r1199.2.2
    have := r1200.2.2
    have := r1192.2.2
    obtain ⟨Bz1203, hBz1203⟩ : ∃ x, x = W1190.heap.size := ⟨_, rfl⟩
    have hwB1203 : w.heap.size ≤ Bz1203 := by rw [hBz1203]; exact b1194.size
    refine fw_ca Try.func34 rfl rfl rfl (pClose (cV (low32 isv) (low32 (isv / 512)) 2 1 1 1 false tm0) ao1112 ap1112 co1112 cp1112 W1190 (ok2 (low32 isv) (low32 (isv / 512))) (mine_reads hM1112 f1201).1 (mine_reads hM1112 f1201).2.1 (Nat.zero_le _) (fun x hx => (nomatch hx)) rfl (close_V (low32 isv) (low32 (isv / 512)) (.inl rfl))) ?_
    rintro _ V1203 ⟨ao1203, co1203, ap1203, cp1203, al1203, cl1203, rfl, hM1203, hb1202⟩
    refine ⟨_, rfl, ?_⟩
    have hT1203 := Tch.refl (fun k => k < Bz1203) V1203
    rw [← hBz1203] at hM1203
    have hz1203 := mine_size hM1203
    have b1204 := b1194.trans (hb1202.mono b1194.size)
    have r1205 := r1195.below hb1202
    have r1206 := r1196.below hb1202
    have r1207 := r1197.below hb1202
    have r1208 := r1198.below hb1202
    have r1209 := r1199.below hb1202
    have r1210 := r1200.below hb1202
    have r1211 := r1192.below hb1202
    iterate 4 refine fw_pu rfl ?_
    refine fw_st r1208 rfl rfl ?_
    intro W1212 s1213 r1214
    have b1215 := below_chg b1204 s1213 (by omega) b1204.size
    have r1216 := r1205.chg s1213 (by omega)
    have r1217 := r1206.chg s1213 (by omega)
    have r1218 := r1207.chg s1213 (by omega)
    have r1219 := r1209.chg s1213 (by omega)
    have r1220 := r1210.chg s1213 (by omega)
    have r1221 := r1211.chg s1213 (by omega)
    have f1222 := (Tch.chg hT1203 s1213 (.inl (by omega)))
    refine fw_pu rfl ?_
    refine fw_dt ?_
    refine fw_sq ?_
    refine fw_rg rfl ?_
    iterate 2 refine fw_pu rfl ?_
    refine fw_ld r1214 rfl rfl ?_
    refine fw_al (t := 3) (u := fun q => .slice (some ⟨q, 0, none⟩) 1 1) 198 [.int .i64 (cV (low32 isv) (low32 (isv / 512)) 3 1 2 1 true (tmS 3)).st] rfl rfl rfl (fun a h => (bsI1 _ (h.ev rfl))) ?_
    intro q1223 W1224 g1227 s1225 r1226
    have := Nat.le_trans b1215.size g1227
    have := r1216.lt g1227
    have := r1217.lt g1227
    have := r1218.lt g1227
    have := r1214.lt g1227
    have := r1219.lt g1227
    have := r1220.lt g1227
    have := r1221.lt g1227
    have := Nat.le_trans f1222.size g1227
    have b1228 := b1215.trans (s1225.mono b1215.size)
    have r1229 := r1216.below s1225
    have r1230 := r1217.below s1225
    have r1231 := r1218.below s1225
    have r1232 := r1214.below s1225
    have r1233 := r1219.below s1225
    have r1234 := r1220.below s1225
    have r1235 := r1221.below s1225
    have f1236 := (Tch.grow f1222 s1225)
    obtain ⟨Bst, hBst⟩ : ∃ x, x = q1223 := ⟨_, rfl⟩
    have hwBst : w.heap.size ≤ Bst := by omega
    have hBstW : Bst ≤ W1224.heap.size := by rw [hBst]; exact Nat.le_of_lt r1226.2.2
    have hst0 : W1224.ownsRow Bst 3 1 (.slice none 0 0) 0 [] := World.ownsRow_nil _ _ _ _
    refine fw_to 199 rfl rfl rfl (fun a h => opTo_int _ _ rfl (h.ev rfl) hst0 (h.ev rfl) r1226 (by decide) hBstW) ?_
    rintro vV1237 V1237 ⟨hgr, hogV1237⟩
    obtain ⟨aV1237, cV1237, rfl⟩ := own_slice hogV1237
    have hOB : ∀ b, (.slice none 0 0 : Value).ownBlock = some b → Bst ≤ b := fun b hb => (blk_lt hst0 hb).1
    have b1238 := below_grown b1228 hgr.1 (fun b hb => Nat.le_trans hwBst (hOB b hb)) b1228.size
    have r1239 := rowAt_keep r1229 hgr.1 (fun e => by have := hOB _ e.symm; omega)
    have r1240 := rowAt_keep r1230 hgr.1 (fun e => by have := hOB _ e.symm; omega)
    have r1241 := rowAt_keep r1231 hgr.1 (fun e => by have := hOB _ e.symm; omega)
    have r1242 := rowAt_keep r1232 hgr.1 (fun e => by have := hOB _ e.symm; omega)
    have r1243 := rowAt_keep r1233 hgr.1 (fun e => by have := hOB _ e.symm; omega)
    have r1244 := rowAt_keep r1234 hgr.1 (fun e => by have := hOB _ e.symm; omega)
    have r1245 := rowAt_keep r1235 hgr.1 (fun e => by have := hOB _ e.symm; omega)
    have f1246 := tch_grown f1236 hgr.1 (fun b hb => (nomatch hb))
    have hBstV : Bst ≤ V1237.heap.size := Nat.le_trans hBstW hgr.1.size
    have hszS := Nat.le_refl V1237.heap.size
    refine fw_pu rfl ?_
    refine fw_dt ?_
    refine fw_sq ?_
    refine fw_rg rfl ?_
    refine fw_pu rfl ?_
    refine fw_ld r1243 rfl rfl ?_
    refine fw_pu rfl ?_
    refine fw_st r1244 rfl rfl ?_
    intro W1247 s1248 r1249
    have b1250 := below_chg b1238 s1248 (by omega) b1238.size
    have r1251 := r1239.chg s1248 (by omega)
    have r1252 := r1240.chg s1248 (by omega)
    have r1253 := r1241.chg s1248 (by omega)
    have r1254 := r1242.chg s1248 (by omega)
    have r1255 := r1243.chg s1248 (by omega)
    have r1256 := r1245.chg s1248 (by omega)
    have f1257 := (Tch.chg f1246 s1248 (.inl (by omega)))
    have f1258 := (own_chg hogV1237 s1248 (by omega))
    have f1259 := (Nat.le_trans hszS s1248.size)
    refine fw_dt ?_
    refine fw_sq ?_
    refine fw_rg rfl ?_
    refine fw_ld r1254 rfl rfl ?_
    refine fw_ld r1249 rfl rfl ?_
    have := r1251.2.2
    have := r1252.2.2
    have := r1253.2.2
    have := r1254.2.2
    have := r1255.2.2
    have := r1249.2.2
    have := r1256.2.2
    obtain ⟨Bz1261, hBz1261⟩ : ∃ x, x = W1247.heap.size := ⟨_, rfl⟩
    have hwB1261 : w.heap.size ≤ Bz1261 := by rw [hBz1261]; exact b1250.size
    have hsk1261 : ∀ b, (.slice aV1237 1 cV1237 : Value).ownBlock = some b → b < Bz1261 := fun b hb => by rw [hBz1261]; exact (blk_lt f1258 hb).2
    refine fw_ca Try.func36 rfl rfl rfl (pTake (cV (low32 isv) (low32 (isv / 512)) 3 1 2 1 true (tmS 3)) ao1203 ap1203 co1203 cp1203 W1247 (mine_reads hM1203 f1257).1 (mine_reads hM1203 f1257).2.1 (Nat.zero_le _) (fun x hx => (nomatch hx)) (eN (low32 isv) (low32 (isv / 512))) none 0 (mayTk (ok3 (low32 isv) (low32 (isv / 512))) (okE (low32 isv) (low32 (isv / 512))).2.2.2.2 rfl) (Sl_nil _) (tE_3b (low32 isv) (low32 (isv / 512)))) ?_
    rintro _ V1261 ⟨ao1261, co1261, ap1261, cp1261, al1261, cl1261, vt1261, rfl, hM1261, hb1260⟩
    refine ⟨_, rfl, ?_⟩
    have hT1261 := Tch.refl (fun k => k < Bz1261) V1261
    rw [← hBz1261] at hM1261
    have hz1261 := mine_size hM1261
    have b1262 := b1250.trans (hb1260.mono b1250.size)
    have r1263 := r1251.below hb1260
    have r1264 := r1252.below hb1260
    have r1265 := r1253.below hb1260
    have r1266 := r1254.below hb1260
    have r1267 := r1255.below hb1260
    have r1268 := r1249.below hb1260
    have r1269 := r1256.below hb1260
    have f1270 := (below_own f1258 hb1260)
    have f1271 := (Nat.le_trans f1259 hb1260.size)
    iterate 5 refine fw_pu rfl ?_
    refine fw_st r1266 rfl rfl ?_
    intro W1272 s1273 r1274
    have b1275 := below_chg b1262 s1273 (by omega) b1262.size
    have r1276 := r1263.chg s1273 (by omega)
    have r1277 := r1264.chg s1273 (by omega)
    have r1278 := r1265.chg s1273 (by omega)
    have r1279 := r1267.chg s1273 (by omega)
    have r1280 := r1268.chg s1273 (by omega)
    have r1281 := r1269.chg s1273 (by omega)
    have f1282 := (own_chg f1270 s1273 (by omega))
    have f1283 := (Nat.le_trans f1271 s1273.size)
    have f1284 := (Tch.chg hT1261 s1273 (.inl (by omega)))
    refine fw_pu rfl ?_
    refine fw_dt ?_
    refine fw_sq ?_
    refine fw_rg rfl ?_
    iterate 2 refine fw_pu rfl ?_
    refine fw_ld r1274 rfl rfl ?_
    refine fw_al (t := 3) (u := fun q => .slice (some ⟨q, 0, none⟩) 1 1) 214 [.int .i64 (cV (low32 isv) (low32 (isv / 512)) 8 2 2 2 true (tmS 20)).st] rfl rfl rfl (fun a h => (bsI1 _ (h.ev rfl))) ?_
    intro q1285 W1286 g1289 s1287 r1288
    have := Nat.le_trans b1275.size g1289
    have := r1276.lt g1289
    have := r1277.lt g1289
    have := r1278.lt g1289
    have := r1274.lt g1289
    have := r1279.lt g1289
    have := r1280.lt g1289
    have := r1281.lt g1289
    have hsq_q1285 : ∀ b, (.slice aV1237 1 cV1237 : Value).ownBlock = some b → b < q1285 := fun b hb => Nat.lt_of_lt_of_le (blk_lt f1282 hb).2 g1289
    have := Nat.le_trans f1284.size g1289
    have b1290 := b1275.trans (s1287.mono b1275.size)
    have r1291 := r1276.below s1287
    have r1292 := r1277.below s1287
    have r1293 := r1278.below s1287
    have r1294 := r1274.below s1287
    have r1295 := r1279.below s1287
    have r1296 := r1280.below s1287
    have r1297 := r1281.below s1287
    have f1298 := (below_own f1282 s1287)
    have f1299 := (Nat.le_trans f1283 s1287.size)
    have f1300 := (Tch.grow f1284 s1287)
    refine fw_to 215 rfl rfl rfl (fun a h => opTo_int _ _ rfl (h.ev rfl) f1298 (h.ev rfl) r1288 (by decide) (Nat.le_trans hBstV f1299)) ?_
    rintro vV1301 V1301 ⟨hgr, hogV1301⟩
    obtain ⟨aV1301, cV1301, rfl⟩ := own_slice hogV1301
    have hOB : ∀ b, (.slice aV1237 1 cV1237 : Value).ownBlock = some b → Bst ≤ b := fun b hb => (blk_lt f1298 hb).1
    have b1302 := below_grown b1290 hgr.1 (fun b hb => Nat.le_trans hwBst (hOB b hb)) b1290.size
    have r1303 := rowAt_keep r1291 hgr.1 (fun e => by have := hOB _ e.symm; omega)
    have r1304 := rowAt_keep r1292 hgr.1 (fun e => by have := hOB _ e.symm; omega)
    have r1305 := rowAt_keep r1293 hgr.1 (fun e => by have := hOB _ e.symm; omega)
    have r1306 := rowAt_keep r1294 hgr.1 (fun e => by have := hOB _ e.symm; omega)
    have r1307 := rowAt_keep r1295 hgr.1 (fun e => by have := hOB _ e.symm; omega)
    have r1308 := rowAt_keep r1296 hgr.1 (fun e => by have := hOB _ e.symm; omega)
    have r1309 := rowAt_keep r1297 hgr.1 (fun e => by have := hOB _ e.symm; omega)
    have f1310 := tch_grown f1300 hgr.1 (hsk1261)
    have hBstV : Bst ≤ V1301.heap.size := Nat.le_trans (Nat.le_trans hBstV f1299) hgr.1.size
    have hszS := Nat.le_refl V1301.heap.size
    refine fw_pu rfl ?_
    refine fw_dt ?_
    refine fw_sq ?_
    refine fw_rg rfl ?_
    refine fw_ld r1306 rfl rfl ?_
    refine fw_ld r1307 rfl rfl ?_
    have := r1303.2.2
    have := r1304.2.2
    have := r1305.2.2
    have := r1306.2.2
    have := r1307.2.2
    have := r1308.2.2
    have := r1309.2.2
    obtain ⟨Bz1312, hBz1312⟩ : ∃ x, x = V1301.heap.size := ⟨_, rfl⟩
    have hwB1312 : w.heap.size ≤ Bz1312 := by rw [hBz1312]; exact b1302.size
    have hsk1312 : ∀ b, (.slice aV1301 2 cV1301 : Value).ownBlock = some b → b < Bz1312 := fun b hb => by rw [hBz1312]; exact (blk_lt hogV1301 hb).2
    refine fw_ca Try.func36 rfl rfl rfl (pTake (cV (low32 isv) (low32 (isv / 512)) 8 2 2 2 true (tmS 20)) ao1261 ap1261 co1261 cp1261 V1301 (mine_reads hM1261 f1310).1 (mine_reads hM1261 f1310).2.1 (Nat.zero_le _) (fun x hx => (nomatch hx)) (eL (low32 isv) (low32 (isv / 512))) none 0 (mayTk (ok8 (low32 isv) (low32 (isv / 512)) rfl) (okE (low32 isv) (low32 (isv / 512))).2.2.1 rfl) (Sl_nil _) (tE_3c (low32 isv) (low32 (isv / 512)))) ?_
    rintro _ V1312 ⟨ao1312, co1312, ap1312, cp1312, al1312, cl1312, vt1312, rfl, hM1312, hb1311⟩
    refine ⟨_, rfl, ?_⟩
    have hT1312 := Tch.refl (fun k => k < Bz1312) V1312
    rw [← hBz1312] at hM1312
    have hz1312 := mine_size hM1312
    have b1313 := b1302.trans (hb1311.mono b1302.size)
    have r1314 := r1303.below hb1311
    have r1315 := r1304.below hb1311
    have r1316 := r1305.below hb1311
    have r1317 := r1306.below hb1311
    have r1318 := r1307.below hb1311
    have r1319 := r1308.below hb1311
    have r1320 := r1309.below hb1311
    have f1321 := (below_own hogV1301 hb1311)
    have f1322 := (Nat.le_trans hszS hb1311.size)
    iterate 5 refine fw_pu rfl ?_
    refine fw_st r1317 rfl rfl ?_
    intro W1323 s1324 r1325
    have b1326 := below_chg b1313 s1324 (by omega) b1313.size
    have r1327 := r1314.chg s1324 (by omega)
    have r1328 := r1315.chg s1324 (by omega)
    have r1329 := r1316.chg s1324 (by omega)
    have r1330 := r1318.chg s1324 (by omega)
    have r1331 := r1319.chg s1324 (by omega)
    have r1332 := r1320.chg s1324 (by omega)
    have f1333 := (own_chg f1321 s1324 (by omega))
    have f1334 := (Nat.le_trans f1322 s1324.size)
    have f1335 := (Tch.chg hT1312 s1324 (.inl (by omega)))
    refine fw_pu rfl ?_
    refine fw_dt ?_
    refine fw_rg rfl ?_
    refine fw_al (t := 3) (u := fun q => .slice (some ⟨q, 0, none⟩) 3 3) 224 [.int .i64 3, .int .i64 8, .int .i64 8] rfl rfl rfl (fun a h => (bsI3 _)) ?_
    intro q1336 W1337 g1340 s1338 r1339
    have := Nat.le_trans b1326.size g1340
    have := r1327.lt g1340
    have := r1328.lt g1340
    have := r1329.lt g1340
    have := r1325.lt g1340
    have := r1330.lt g1340
    have := r1331.lt g1340
    have := r1332.lt g1340
    have hsq_q1336 : ∀ b, (.slice aV1301 2 cV1301 : Value).ownBlock = some b → b < q1336 := fun b hb => Nat.lt_of_lt_of_le (blk_lt f1333 hb).2 g1340
    have := Nat.le_trans f1335.size g1340
    have b1341 := b1326.trans (s1338.mono b1326.size)
    have r1342 := r1327.below s1338
    have r1343 := r1328.below s1338
    have r1344 := r1329.below s1338
    have r1345 := r1325.below s1338
    have r1346 := r1330.below s1338
    have r1347 := r1331.below s1338
    have r1348 := r1332.below s1338
    have f1349 := (below_own f1333 s1338)
    have f1350 := (Nat.le_trans f1334 s1338.size)
    have f1351 := (Tch.grow f1335 s1338)
    refine fw_pu rfl ?_
    refine fw_dn ?_
    refine fw_bn ?_
    refine fw_th ?_
    refine fw_sq ?_
    refine fw_rg rfl ?_
    iterate 2 refine fw_pu rfl ?_
    refine fw_ld r1345 rfl rfl ?_
    refine fw_al (t := 3) (u := fun q => .slice (some ⟨q, 0, none⟩) 1 1) 228 [.int .i64 (cV (low32 isv) (low32 (isv / 512)) 8 2 2 2 true (tmS 20)).st] rfl rfl rfl (fun a h => (bsI1 _ (h.ev rfl))) ?_
    intro q1352 W1353 g1356 s1354 r1355
    have := Nat.le_trans b1341.size g1356
    have := r1342.lt g1356
    have := r1343.lt g1356
    have := r1344.lt g1356
    have := r1345.lt g1356
    have := r1346.lt g1356
    have := r1347.lt g1356
    have := r1348.lt g1356
    have := r1339.lt g1356
    have hsq_q1352 : ∀ b, (.slice aV1301 2 cV1301 : Value).ownBlock = some b → b < q1352 := fun b hb => Nat.lt_of_lt_of_le (blk_lt f1349 hb).2 g1356
    have := Nat.le_trans f1351.size g1356
    have b1357 := b1341.trans (s1354.mono b1341.size)
    have r1358 := r1342.below s1354
    have r1359 := r1343.below s1354
    have r1360 := r1344.below s1354
    have r1361 := r1345.below s1354
    have r1362 := r1346.below s1354
    have r1363 := r1347.below s1354
    have r1364 := r1348.below s1354
    have r1365 := r1339.below s1354
    have f1366 := (below_own f1349 s1354)
    have f1367 := (Nat.le_trans f1350 s1354.size)
    have f1368 := (Tch.grow f1351 s1354)
    refine fw_to 229 rfl rfl rfl (fun a h => opTo_int _ _ rfl (h.ev rfl) f1366 (h.ev rfl) r1355 (by decide) (Nat.le_trans hBstV f1367)) ?_
    rintro vV1369 V1369 ⟨hgr, hogV1369⟩
    obtain ⟨aV1369, cV1369, rfl⟩ := own_slice hogV1369
    have hOB : ∀ b, (.slice aV1301 2 cV1301 : Value).ownBlock = some b → Bst ≤ b := fun b hb => (blk_lt f1366 hb).1
    have b1370 := below_grown b1357 hgr.1 (fun b hb => Nat.le_trans hwBst (hOB b hb)) b1357.size
    have r1371 := rowAt_keep r1358 hgr.1 (fun e => by have := hOB _ e.symm; omega)
    have r1372 := rowAt_keep r1359 hgr.1 (fun e => by have := hOB _ e.symm; omega)
    have r1373 := rowAt_keep r1360 hgr.1 (fun e => by have := hOB _ e.symm; omega)
    have r1374 := rowAt_keep r1361 hgr.1 (fun e => by have := hOB _ e.symm; omega)
    have r1375 := rowAt_keep r1362 hgr.1 (fun e => by have := hOB _ e.symm; omega)
    have r1376 := rowAt_keep r1363 hgr.1 (fun e => by have := hOB _ e.symm; omega)
    have r1377 := rowAt_keep r1364 hgr.1 (fun e => by have := hOB _ e.symm; omega)
    have r1378 := rowAt_keep r1365 hgr.1 (fun e => by have := hsq_q1336 _ e.symm; omega)
    have f1379 := tch_grown f1368 hgr.1 (hsk1312)
    have hBstV : Bst ≤ V1369.heap.size := Nat.le_trans (Nat.le_trans hBstV f1367) hgr.1.size
    have hszS := Nat.le_refl V1369.heap.size
    refine fw_pu rfl ?_
    refine fw_dt ?_
    refine fw_sq ?_
    refine fw_sq ?_
    refine fw_rg rfl ?_
    refine fw_pu rfl ?_
    refine fw_ca Try.func38 rfl rfl rfl ((num16_any 0 V1369)) ?_
    rintro _ _ ⟨rfl, rfl⟩
    refine ⟨(.int .i64 0), rfl, ?_⟩
    iterate 3 refine fw_pu rfl ?_
    refine fw_ca Try.func38 rfl rfl rfl ((num16_any 0 V1369)) ?_
    rintro _ _ ⟨rfl, rfl⟩
    refine ⟨(.int .i64 0), rfl, ?_⟩
    iterate 4 refine fw_pu rfl ?_
    refine fw_ca Try.func38 rfl rfl rfl ((num16_any 0 V1369)) ?_
    rintro _ _ ⟨rfl, rfl⟩
    refine ⟨(.int .i64 0), rfl, ?_⟩
    iterate 5 refine fw_pu rfl ?_
    refine fw_ca Try.func43 rfl rfl rfl ((eqInts3 (slR_own3 (a := 3) (b := 8) (c := 8) hogV1369) (slR_row3 r1378))) ?_
    rintro _ V1381 ⟨rfl, hb1380⟩
    refine ⟨(.bool true), rfl, ?_⟩
    have b1382 := b1370.trans (hb1380.mono b1370.size)
    have r1383 := r1371.below hb1380
    have r1384 := r1372.below hb1380
    have r1385 := r1373.below hb1380
    have r1386 := r1374.below hb1380
    have r1387 := r1375.below hb1380
    have r1388 := r1376.below hb1380
    have r1389 := r1377.below hb1380
    have r1390 := r1378.below hb1380
    have f1391 := (Tch.grow f1379 hb1380)
    have f1392 := (below_own hogV1369 hb1380)
    have f1393 := (Nat.le_trans hszS hb1380.size)
    iterate 2 refine fw_pu rfl ?_
    refine fw_dt ?_
    refine fw_fg [(1, _), (3, _), (4, _), (5, _), (6, _), (7, _), (8, _), (248, _)] ⟨rfl, rfl, rfl, rfl, rfl, rfl, rfl, rfl, trivial⟩ ?_
    refine fw_cF rfl rfl ?_
    refine fw_sk ?_
    refine fw_th ?_
    refine fw_sq ?_
    refine fw_sq ?_
    refine fw_rg rfl ?_
    refine fw_pu rfl ?_
    refine fw_dt ?_
    refine fw_bk ?_
    refine fw_lp (fun N K W => ∃ (t : Nat) (Bzt : Nat) (Vt : World) (aot : Option Addr) (apt : Option Addr) (alt : Option Addr) (cot : Nat) (cpt : Nat) (clt : Nat) (vtt : Value) (lt : List ES), N = 21 - t ∧ t ≤ 21 ∧ Mine Bzt (cWt (low32 isv) (low32 (isv / 512)) (0 + t)) lt [] aot cot apt cpt alt clt vtt Vt ∧ w.heap.size ≤ Bzt ∧ q1093 < Bzt ∧ K = [(1, .pointer (some ⟨q1, 0, none⟩)), (3, .int .i64 (low32 isv)), (4, .int .i64 (low32 (isv / 512))), (5, .pointer (some ⟨q11, 0, none⟩)), (6, .pointer (some ⟨q23, 0, none⟩)), (7, .int .i64 3), (8, .pointer (some ⟨q1093, 0, none⟩)), (19, .int .i64 ((t : Nat) : Int))] ∧ Below w.heap.size w W ∧ RowAt W q1 [.slice aA A.length cA, .slice aB B.length cB, .int .i64 sz, .int .i64 isv, .slice aL nL cL, .slice aW nW cW] ∧ RowAt W q11 [.int .i64 3, .int .i64 4, .int .i64 (addv (low32 (isv / 512)) 1), .int .i64 (addv (low32 isv) 1), .int .i64 16, .int .i64 1000, .slice none 0 0] ∧ RowAt W q23 [.int .i64 3, .int .i64 4, .int .i64 (addv (low32 (isv / 512)) 1), .int .i64 (addv (low32 isv) 1), .int .i64 17, .int .i64 1000, .slice none 0 0] ∧ RowAt W q1093 [.int .i64 (cWt (low32 isv) (low32 (isv / 512)) (0 + t)).link, .int .i64 (cWt (low32 isv) (low32 (isv / 512)) (0 + t)).ip, .int .i64 (cWt (low32 isv) (low32 (isv / 512)) (0 + t)).pp, .int .i64 (cWt (low32 isv) (low32 (isv / 512)) (0 + t)).po, .int .i64 (cWt (low32 isv) (low32 (isv / 512)) (0 + t)).st, .int .i64 (cWt (low32 isv) (low32 (isv / 512)) (0 + t)).una, .int .i64 (cWt (low32 isv) (low32 (isv / 512)) (0 + t)).nxt, .int .i64 (cWt (low32 isv) (low32 (isv / 512)) (0 + t)).win, .slice aot (cWt (low32 isv) (low32 (isv / 512)) (0 + t)).out.length cot, .int .i64 (cWt (low32 isv) (low32 (isv / 512)) (0 + t)).rn, .slice apt (cWt (low32 isv) (low32 (isv / 512)) (0 + t)).ps.length cpt, .bool (cWt (low32 isv) (low32 (isv / 512)) (0 + t)).cl, .bool (cWt (low32 isv) (low32 (isv / 512)) (0 + t)).tm.on, .int .i64 (cWt (low32 isv) (low32 (isv / 512)) (0 + t)).tm.left, .int .i64 (cWt (low32 isv) (low32 (isv / 512)) (0 + t)).tm.wait, .int .i64 (cWt (low32 isv) (low32 (isv / 512)) (0 + t)).tm.tries] ∧ Tch (fun k => k < Bzt) Vt W) _ _ ⟨0, Bz1312, V1312, ao1312, ap1312, al1312, co1312, cp1312, cl1312, vt1312, ([] : List ES), rfl, (by decide), hM1312, hwB1312, (by omega), rfl, b1382, r1383, r1384, r1385, r1386, f1391⟩ ⟨rfl, rfl, rfl, rfl, rfl, rfl, rfl, (by first | rfl | (simp only [Look, cond, Nat.beq]; first | rfl | (congr 2; first | rfl | omega | (push_cast; omega)) | (simp; try omega))), trivial⟩ ?_
    rintro N _ W1394 ⟨t, Bzt, Vt, aot, apt, alt, cot, cpt, clt, vtt, lt, rfl, ht, hMt, hBt, hqt, rfl, bW1394, rW1394_0, rW1394_1, rW1394_2, rW1394_3, gW1394_0⟩
    intro K1396 hK1396
    have hzt := mine_size hMt
    refine fw_sq ?_
    refine fw_sq ?_
    refine fw_rg rfl ?_
    iterate 2 refine fw_pu rfl ?_
    refine fw_dt ?_
    rcases Bool.eq_false_or_eq_true ((decide (((t : Nat) : Int) < 21))) with hb_1397 | hb_1397
    · skip
      refine fw_cT rfl hb_1397 ?_
      refine fw_sk ?_
      refine fw_th ?_
      refine fw_sq ?_
      refine fw_bk ?_
      refine fw_sq ?_
      refine fw_rg rfl ?_
      refine fw_ld rW1394_3 rfl rfl ?_
      have := rW1394_0.2.2
      have := rW1394_1.2.2
      have := rW1394_2.2.2
      have := rW1394_3.2.2
      obtain ⟨Bz1399, hBz1399⟩ : ∃ x, x = W1394.heap.size := ⟨_, rfl⟩
      have hwB1399 : w.heap.size ≤ Bz1399 := by rw [hBz1399]; exact bW1394.size
      refine fw_ca Try.func35 rfl rfl rfl (pTick (cWt (low32 isv) (low32 (isv / 512)) (0 + t)) aot apt cot cpt W1394 (okW (low32 isv) (low32 (isv / 512)) _) (mine_reads hMt gW1394_0).1 (mine_reads hMt gW1394_0).2.1 (by rw [psW]; exact Nat.zero_le _) (by rw [psW]; exact fun x hx => (nomatch hx)) (tickW (low32 isv) (low32 (isv / 512)) (0 + t))) ?_
      rintro _ V1399 ⟨ao1399, co1399, ap1399, cp1399, al1399, cl1399, rfl, hM1399, hb1398⟩
      refine ⟨_, rfl, ?_⟩
      have hT1399 := Tch.refl (fun k => k < Bz1399) V1399
      rw [← hBz1399] at hM1399
      have hz1399 := mine_size hM1399
      have b1400 := bW1394.trans (hb1398.mono bW1394.size)
      have r1401 := rW1394_0.below hb1398
      have r1402 := rW1394_1.below hb1398
      have r1403 := rW1394_2.below hb1398
      have r1404 := rW1394_3.below hb1398
      iterate 4 refine fw_pu rfl ?_
      refine fw_al (t := 62) (u := fun q => .pointer (some ⟨q, 0, none⟩)) 20 [.int .i64 0, .int .i64 0, .int .i64 0, .int .i64 0, .int .i64 0, .int .i64 0, .int .i64 0, .int .i64 0, .slice none 0 0, .int .i64 0, .slice none 0 0, .bool false, .bool false, .int .i64 0, .int .i64 0, .int .i64 0] rfl rfl rfl (fun a h => (run_allocOp (by simp [go_sem, Instr.alloc]))) ?_
      intro q1405 W1406 g1409 s1407 r1408
      have := Nat.le_trans b1400.size g1409
      have := r1401.lt g1409
      have := r1402.lt g1409
      have := r1403.lt g1409
      have := r1404.lt g1409
      have := Nat.le_trans hT1399.size g1409
      have b1410 := b1400.trans (s1407.mono b1400.size)
      have r1411 := r1401.below s1407
      have r1412 := r1402.below s1407
      have r1413 := r1403.below s1407
      have r1414 := r1404.below s1407
      have f1415 := (Tch.grow hT1399 s1407)
      refine fw_st r1408 rfl rfl ?_
      intro W1416 s1417 r1418
      have b1419 := below_chg b1410 s1417 (by omega) b1410.size
      have r1420 := r1411.chg s1417 (by omega)
      have r1421 := r1412.chg s1417 (by omega)
      have r1422 := r1413.chg s1417 (by omega)
      have r1423 := r1414.chg s1417 (by omega)
      have f1424 := (Tch.chg f1415 s1417 (.inr (by omega)))
      iterate 2 refine fw_pu rfl ?_
      refine fw_dt ?_
      refine fw_sq ?_
      refine fw_sq ?_
      refine fw_rg rfl ?_
      refine fw_pu rfl ?_
      refine fw_ca Try.func38 rfl rfl rfl ((num16_any 0 W1416)) ?_
      rintro _ _ ⟨rfl, rfl⟩
      refine ⟨(.int .i64 0), rfl, ?_⟩
      refine fw_pu rfl ?_
      refine fw_dt ?_
      refine fw_cF rfl rfl ?_
      refine fw_sk ?_
      refine fw_th ?_
      refine fw_rg rfl ?_
      refine fw_ld r1418 rfl rfl ?_
      refine fw_st r1423 rfl rfl ?_
      intro W1425 s1426 r1427
      have b1428 := below_chg b1419 s1426 (by omega) b1419.size
      have r1429 := r1420.chg s1426 (by omega)
      have r1430 := r1421.chg s1426 (by omega)
      have r1431 := r1422.chg s1426 (by omega)
      have r1432 := r1418.chg s1426 (by omega)
      have f1433 := (Tch.chg f1424 s1426 (.inl (by omega)))
      refine fw_dn ?_
      refine fw_bn ?_
      refine fw_th ?_
      refine fw_rg rfl ?_
      refine fw_pu rfl ?_
      refine fw_ex 252 (.int .i64 (((t + 1) : Nat) : Int)) rfl rfl rfl (fun a h => (run_binOp (h.ev rfl) (h.ev rfl) (by simp [go_sem]) (addIw _ _ _ _ (by omega) (by omega) (by omega)))) ?_
      refine fw_pu rfl ?_
      refine fw_dn ?_
      have ht21 := of_decide_eq_true hb_1397
      exact fw_th (fw_gf (hK1396 _ _ _ (by omega) ⟨(t + 1), Bz1399, V1399, ao1399, ap1399, al1399, co1399, cp1399, cl1399, (.slice none 0 0), [], rfl, (by omega), hM1399, (by omega), (by omega), rfl, b1428, r1429, r1430, r1431, r1427, f1433⟩) ⟨rfl, rfl, rfl, rfl, rfl, rfl, rfl, (by first | rfl | (simp only [Look, cond, Nat.beq]; first | rfl | (congr 2; first | rfl | omega | (push_cast; omega)) | (simp; try omega))), trivial⟩)
    refine fw_cF rfl hb_1397 ?_
    refine fw_xt ?_
    refine fw_te ?_
    refine fw_te ?_
    refine fw_be ?_
    refine fw_th ?_
    refine fw_sq ?_
    refine fw_rg rfl ?_
    refine fw_pu rfl ?_
    refine fw_ld rW1394_3 rfl rfl ?_
    refine fw_pu rfl ?_
    refine fw_dt ?_
    refine fw_cF rfl (not_of (cWt_st _ _ (by have h0 := of_decide_eq_false hb_1397; omega))) ?_
    refine fw_sk ?_
    refine fw_bn ?_
    refine fw_th ?_
    refine fw_rg rfl ?_
    refine fw_pu rfl ?_
    refine fw_ex 42 (.int .i64 4) rfl rfl rfl (fun a h => (run_binOp (h.ev rfl) (h.ev rfl) (by simp [go_sem]) (addIw _ _ _ _ (by omega) (by omega) (by omega)))) ?_
    refine fw_pu rfl ?_
    refine fw_dn ?_
    exact fw_th (fw_gf (hK45 _ _ _ (by decide) ⟨4, rfl, (by decide), rfl, bW1394, rW1394_0, rW1394_1, rW1394_2⟩) ⟨rfl, rfl, rfl, rfl, rfl, (by first | rfl | (simp only [Look, cond, Nat.beq]; first | rfl | (congr 2; first | rfl | omega | (push_cast; omega)) | (simp; try omega))), trivial⟩)
  refine fw_rg rfl ?_
  iterate 2 refine fw_pu rfl ?_
  refine fw_dt ?_
  refine fw_cF rfl rfl ?_
  refine fw_xt ?_
  refine fw_te ?_
  refine fw_te ?_
  refine fw_be ?_
  refine fw_th ?_
  refine fw_sq ?_
  refine fw_rg rfl ?_
  refine fw_pu rfl ?_
  refine fw_ld rW43_0 rfl rfl ?_
  iterate 3 refine fw_pu rfl ?_
  refine fw_kn 270 rfl (decide_eq_true (by omega)) ?_
  refine fw_ca Try.func40 rfl rfl rfl ((wakes16_any W43)) ?_
  rintro _ V1435 ⟨rfl, hb1434⟩
  refine ⟨(.bool true), rfl, ?_⟩
  have b1436 := bW43.trans (hb1434.mono bW43.size)
  have r1437 := rW43_0.below hb1434
  have r1438 := rW43_1.below hb1434
  have r1439 := rW43_2.below hb1434
  iterate 2 refine fw_pu rfl ?_
  refine fw_dt ?_
  refine fw_rt ?_
  refine ⟨fun a h => ?_⟩
  exact ow_ret1 rfl h.df (h.g 2 rfl) ⟨rfl, b1436⟩
namespace tcpEnds
open Go.ChangeShapes Go.WideShapes Go.ChangeAt
theorem own : ownKnob Try.prog.godebug = none := by kernel_rfl
theorem laidOut : laidOutB Try.prog = true := by kernel_rfl
set_option maxRecDepth 100000 in
theorem lifted (os : Os) (started : os.Started) (H : Type) (enc : TypeId × Value → H) :
    ReturnsInHanded {} Try.checked os 9 .any (Rows.tcpEndsSpec.pre6 enc Try.prog Try.f9 Rows.tcpEndsRow.domain false) (Rows.tcpEndsSpec.post enc Try.prog Try.f9 false true false false) := by
  refine returnsInHanded_of_change_sized (C := Try.checked) own started (by kernel_rfl) Try.func9
    (ChangeSpec.witness6 (enc := enc) (C := Try.checked) false ⟨#[], #[.agg #[.slice none 0 0, .slice none 0 0, .int .i64 0, .int .i64 0, .slice none 0 0, .slice none 0 0]], []⟩ 12 (by kernel_rfl) (by kernel_rfl) (by kernel_rfl) (by kernel_rfl)) ?_
  intro W base args ds gs before hval0 hW _ hsz0 _
  have hsz : (DataW.weightsEach Try.prog (Try.f9.params.toList ++ Rows.tcpEndsSpec.plain.varTypes Try.prog) (ds ++ gs)).all (· ≤ reachBytes) = true := hsz0
  clear hsz0
  have hval : ∀ (j : Nat) t v, Try.f9.params[j]? = some t → args[j]? = some v → Value.okWide Try.prog W .any base t v := hval0
  have hW' := hW
  obtain ⟨p, q, hA0, hV, rfl, hfz, hnd⟩ := hW
  have hA : DataW.TrodAll enc Try.prog W 0 (fun _ => true) true Try.f9.params.toList args.toList ds p := hA0
  rw [Try.params9] at hA hval
  obtain ⟨v0, vs0, d0, ds0, p0, q0, hargs, rfl, rfl, h0, r0⟩ := trodAll_cons hA
  obtain ⟨rfl, rfl, rfl⟩ := trodAll_nil r0
  obtain rfl : args = #[v0] := by cases args; simp_all
  obtain ⟨rfl, rfl⟩ := trodVars_none hV
  obtain ⟨cs0, rfl⟩ : ∃ cs0 : Array Value, v0 = .agg cs0 := by
    have h := hval 0 82 v0 rfl rfl
    unfold Value.okWide at h
    rw [Try.underlying82] at h
    exact ⟨h.choose, h.choose_spec.1⟩
  have k0 := h0
  have lt0 : ∀ x ∈ p0, x.block < W.heap.size := by obtain ⟨m, hm⟩ := k0; exact DataW.trod_lt m _ _ _ hm
  have hrd : RdZ Try.prog W 82 cs0.toList := by obtain ⟨fuel, hf⟩ := h0; exact ⟨H, enc, 0, _, true, fuel, _, hf, by simp only [List.all_eq_true]; intro n hn; exact List.all_eq_true.1 hsz n (DataW.weights_mem_each (j := 0) rfl rfl n hn)⟩
  clear hA0 hval0
  refine (show Calls Try.prog 9 _ W (fun e W' => e = .returned (.bool true) ∧ Below W.heap.size W W') from by have := tcpEnds_walk W _ hrd; rwa [Array.toArray_toList] at this).mono fun e W' ⟨he, bel⟩ => ?_
  subst he
  exact ⟨_, rfl, _, _, _, [], _, [], hW', trodAll_mk1 (shut_bool Try.underlying4 _), (trodAll_cons_mk (Below.trod laidOut (by kernel_rfl) (of_decide_eq_true (by kernel_rfl)) k0 bel lt0) trodAll_mk0), rfl, bel.frame _, fun h => by cases h⟩
theorem over : Rows.tcpEndsRow.holds Try.pinned (OpenSpec.ofChange Rows.tcpEndsSpec) :=
  OpenClaim.holds_of_wide 9 Try.f9 rfl rfl rfl rfl rfl rfl rfl ⟨rfl, rfl, rfl, rfl, rfl⟩ rfl rfl rfl rfl rfl (by kernel_rfl) Try.func9 (by kernel_rfl)
    (of_decide_eq_true (by kernel_rfl)) (by unfold Func.isWrapper; first | (rw [if_pos (by decide +kernel)]; kernel_rfl) | (rw [if_neg (by decide +kernel)]; exact ⟨rfl, rfl⟩))
    (fun os started H enc _ => lifted os started H enc)
/-- THE STATEMENT. -/
theorem proved : Rows.TcpEndsSaid := over
end tcpEnds
-- CLAIM: TcpEnds tcpEnds.proved
end Go.Proofs.Ytjgbiffgmafhmaa
