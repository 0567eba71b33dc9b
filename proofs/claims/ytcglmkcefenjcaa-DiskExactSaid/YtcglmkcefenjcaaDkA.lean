/-
  A disk: what it is, what comes of what is asked, how it lies in memory.
-/
import Derived.Test.YtcglmkcefenjcaaDkD
import Derived.Test.YtcglmkcefenjcaaClone
import Derived.Test.YtcglmkcefenjcaaOwy
import Derived.Laws.CopyOwn
namespace Go.Proofs.Ytcglmkcefenjcaa
open Go.RowKit Go.Lib
def tblD : List TE := [⟨3, false, 1, [], 0⟩, ⟨4, false, 1, [], 0⟩, ⟨5, false, 1, [], 0⟩, ⟨29, false, 1, [], 1⟩, ⟨39, false, 1, [], 0⟩, ⟨46, false, 1, [], 1⟩, ⟨48, true, 2, [0, 1], 0⟩, ⟨50, false, 1, [], 0⟩, ⟨53, false, 1, [], 0⟩, ⟨55, false, 1, [], 1⟩, ⟨57, true, 4, [0, 1, 2, 3], 0⟩, ⟨125, false, 1, [], 1⟩, ⟨126, false, 1, [], 1⟩, ⟨128, true, 9, [0, 1, 2, 3, 4, 5, 6, 7, 8], 0⟩, ⟨129, false, 1, [], 1⟩, ⟨131, true, 8, [0, 1, 2, 3, 4, 5, 6, 7], 0⟩, ⟨136, true, 4, [0, 1, 2, 3], 0⟩, ⟨140, true, 4, [0, 1, 2, 3], 0⟩]
theorem tblD_ok : tblD.all (TE.okB Try.prog) = true := by kernel_rfl
instance : TOk Try.prog tblD := ⟨tblD_ok⟩
/-- A request. -/
structure Rq where
  id : Int
  k : Int
  n : Int
  b : List UInt8
def Rq.row (r : Rq) (v : Value) : List Value := [.int .i64 r.id, .int .i64 r.k, .int .i64 r.n, v]
/-- A disk: as it was written last, what is kept, which sectors are dirty, in which order; what waits. -/
structure ED where
  now : List UInt8
  dur : List UInt8
  dy : List Bool
  wr : List Nat
  ps : List Rq
  last : Int
  off : Bool
  arm : Bool
  left : Int
def ED.row (d : ED) (vn vd vy vw vp : Value) : List Value := [vn, vd, vy, vw, vp, .int .i64 d.last, .bool d.off, .bool d.arm, .int .i64 d.left]
def cN (x : Nat) : Value := .int .i64 (x : Int)
/-- What a disk owns: five rows, and each request's bytes. -/
def Rs (vn vd vy vw vp : Value) (d : ED) (PL : List (Rq × Value)) : List OR :=
  [⟨5, 1, vn, d.now.length, d.now.map B8⟩, ⟨5, 1, vd, d.dur.length, d.dur.map B8⟩, ⟨4, 1, vy, d.dy.length, d.dy.map Value.bool⟩, ⟨3, 1, vw, d.wr.length, d.wr.map cN⟩, ⟨136, 4, vp, PL.length, (PL.map fun p => p.1.row p.2).flatten⟩] ++ PL.map fun p => ⟨5, 1, p.2, p.1.b.length, p.1.b.map B8⟩
def Dk (B : Nat) (H : List Nat) (q : Nat) (d : ED) (W : World) : Prop :=
  ∃ an cn ad cd ay cy aw cw ap cp PL, RowAt W q (d.row (.slice an d.now.length cn) (.slice ad d.dur.length cd) (.slice ay d.dy.length cy) (.slice aw d.wr.length cw) (.slice ap PL.length cp)) ∧ PL.map Prod.fst = d.ps ∧ B ≤ q ∧
    Owns B (q :: H) (Rs (.slice an d.now.length cn) (.slice ad d.dur.length cd) (.slice ay d.dy.length cy) (.slice aw d.wr.length cw) (.slice ap PL.length cp) d PL) W
theorem Dk.mk {B q : Nat} {H : List Nat} {d : ED} {W : World} {an ad ay aw ap : Option Addr} {cn cd cy cw cp : Nat} {PL : List (Rq × Value)} (hr : RowAt W q (d.row (.slice an d.now.length cn) (.slice ad d.dur.length cd) (.slice ay d.dy.length cy) (.slice aw d.wr.length cw) (.slice ap PL.length cp))) (hp : PL.map Prod.fst = d.ps) (hq : B ≤ q)
    (ho : Owns B (q :: H) (Rs (.slice an d.now.length cn) (.slice ad d.dur.length cd) (.slice ay d.dy.length cy) (.slice aw d.wr.length cw) (.slice ap PL.length cp) d PL) W) : Dk B H q d W := ⟨an, cn, ad, cd, ay, cy, aw, cw, ap, cp, PL, hr, hp, hq, ho⟩
theorem Dk.opn {B q : Nat} {H : List Nat} {d : ED} {W : World} (h : Dk B H q d W) : ∃ an cn ad cd ay cy aw cw ap cp PL, RowAt W q (d.row (.slice an d.now.length cn) (.slice ad d.dur.length cd) (.slice ay d.dy.length cy) (.slice aw d.wr.length cw) (.slice ap PL.length cp)) ∧ PL.map Prod.fst = d.ps ∧ B ≤ q ∧
    Owns B (q :: H) (Rs (.slice an d.now.length cn) (.slice ad d.dur.length cd) (.slice ay d.dy.length cy) (.slice aw d.wr.length cw) (.slice ap PL.length cp) d PL) W := h
theorem Dk.subH {B q : Nat} {H H' : List Nat} {d : ED} {W : World} (h : Dk B H' q d W) (hs : ∀ k ∈ H, k ∈ H') : Dk B H q d W := by
  obtain ⟨an, cn, ad, cd, ay, cy, aw, cw, ap, cp, PL, h1, h2, h3, h4⟩ := h
  exact ⟨an, cn, ad, cd, ay, cy, aw, cw, ap, cp, PL, h1, h2, h3, h4.subH (fun k hk => by
    rcases List.mem_cons.1 hk with rfl | hk
    · exact List.mem_cons_self ..
    · exact List.mem_cons_of_mem _ (hs k hk))⟩
/-- A disk's method: what comes of it. -/
def DDoes (f : FuncId) (args : Array Value) (B : Nat) (H : List Nat) (q : Nat) (v : Value) (d : ED) (W : World) : Prop :=
  Calls Try.prog f args W fun e W' => e = .returned v ∧ Dk B H q d W' ∧ Kz H W W' ∧ Below B W W'
/-! what comes of what is asked -/
def powD (d : ED) : ED := if d.arm && !d.off then { d with left := d.left - 1, off := decide (d.left - 1 < 1) } else d
def mayK (d : ED) (k n : Int) (bl : Nat) : Bool := !((!(k == 2) && (decide (n < 0) || decide ((d.dy.length : Int) ≤ n))) || (k == 0 && !((bl : Int) == 64)))
def askE (d : ED) (k n : Int) (bl : Nat) : Int := if (powD d).off then 10 else if !mayK d k n bl then 1 else if 16 ≤ d.ps.length then 5 else 0
def askD (d : ED) (k n : Int) (b : List UInt8) : ED := if askE d k n b.length = 0 then { powD d with last := d.last + 1, ps := d.ps ++ [⟨d.last + 1, k, n, b⟩] } else powD d
def askI (d : ED) (k n : Int) (bl : Nat) : Int := if askE d k n bl = 0 then d.last + 1 else 0
def secD (l : List UInt8) (n : Nat) : List UInt8 := (l.drop (n * 64)).take 64
def offD (d : ED) (n : Int) : ED := { d with off := d.off || decide (n < 1), arm := true, left := n }
def flushL (now : List UInt8) : List Nat → List UInt8 × List Bool → List UInt8 × List Bool
  | [], p => p
  | i :: r, p => flushL now r (splice p.1 (i * 64) (secD now i), p.2.set i false)
def perfD (d : ED) (r : Rq) : ED :=
  if r.k = 1 then d
  else if r.k = 0 then (if d.dy[r.n.toNat]? = some true then { d with now := splice d.now (r.n.toNat * 64) r.b } else { d with now := splice d.now (r.n.toNat * 64) r.b, dy := d.dy.set r.n.toNat true, wr := d.wr ++ [r.n.toNat] })
  else if r.k = 2 then { d with dur := (flushL d.now d.wr (d.dur, d.dy)).1, dy := (flushL d.now d.wr (d.dur, d.dy)).2, wr := [] }
  else d
def perfB (d : ED) (r : Rq) : List UInt8 := if r.k = 1 then secD d.now r.n.toNat else []
def keptI (p : Int) : Int := if p % 66 = 0 then 0 else if p % 66 = 1 then 64 else p % 66 - 1
end Go.Proofs.Ytcglmkcefenjcaa
