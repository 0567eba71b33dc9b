/-
  Connections: what a connection is, whether it may be, and what comes of it.
-/
import Derived.Test.YtjgbiffgmafhmaaLtOReB
import Derived.Test.YtjgbiffgmafhmaaLtOTimB
import Derived.Test.YtjgbiffgmafhmaaLtOSpanG
namespace Go.Proofs.Ytjgbiffgmafhmaa
open Go.RowKit
/-- A segment. -/
structure ES where
  sp : Int
  dp : Int
  sq : Int
  ak : Int
  fl : Int
  wn : Int
  d : List UInt8
/-- A connection. -/
structure EC where
  link : Int
  ip : Int
  pp : Int
  po : Int
  st : Int
  una : Int
  nxt : Int
  win : Int
  out : List UInt8
  rn : Int
  ps : List EP
  cl : Bool
  tm : Tm
def EC.row (c : EC) (vo vp : Value) : List Value := [.int .i64 c.link, .int .i64 c.ip, .int .i64 c.pp, .int .i64 c.po, .int .i64 c.st, .int .i64 c.una, .int .i64 c.nxt, .int .i64 c.win, vo, .int .i64 c.rn, vp, .bool c.cl, .bool c.tm.on, .int .i64 c.tm.left, .int .i64 c.tm.wait, .int .i64 c.tm.tries]
def ES.row (s : ES) (v : Value) : List Value := [.int .i64 s.sp, .int .i64 s.dp, .int .i64 s.sq, .int .i64 s.ak, .int .i64 s.fl, .int .i64 s.wn, v]
def tm0 : Tm := ⟨false, 0, 0, 0⟩
def tmS (n : Int) : Tm := ⟨true, n, n, 0⟩
def sentv (c : EC) : Int := diffv c.nxt c.una
def okNum (c : EC) : Bool := decide (0 ≤ c.link ∧ c.link ≤ 1099511627776 ∧ 0 ≤ c.ip ∧ c.ip < 4294967296 ∧ 0 ≤ c.pp ∧ c.pp < 65536 ∧ 0 ≤ c.po ∧ c.po < 65536 ∧ 0 ≤ c.st ∧ c.st ≤ 8 ∧ 0 ≤ c.una ∧ c.una < 4294967296 ∧ 0 ≤ c.nxt ∧ c.nxt < 4294967296 ∧ 0 ≤ c.win ∧ c.win < 65536 ∧ c.out.length ≤ 8192) && (bufB c.rn c.ps && tv c.tm)
def okSt (c : EC) : Bool :=
  if c.st = 0 then decide (c.out.length = 0 ∧ c.ps.length = 0) && (!c.tm.on && decide (c.tm.left = 0 ∧ c.tm.wait = 0 ∧ c.tm.tries = 0))
  else if c.st = 1 then decide (sentv c = 1)
  else if c.st = 2 ∨ c.st = 5 then decide (0 ≤ sentv c ∧ sentv c ≤ c.out.length)
  else if c.st = 3 ∨ c.st = 6 ∨ c.st = 7 then c.cl && decide (sentv c = c.out.length + 1)
  else c.cl && decide (sentv c = 0 ∧ c.out.length = 0)
def okC (c : EC) : Bool := okNum c && okSt c
def okS (s : ES) : Bool := decide (0 ≤ s.sp ∧ s.sp < 65536 ∧ 0 ≤ s.dp ∧ s.dp < 65536 ∧ 0 ≤ s.sq ∧ s.sq < 4294967296 ∧ 0 ≤ s.ak ∧ s.ak < 4294967296 ∧ 0 ≤ s.fl ∧ s.fl ≤ 63 ∧ 0 ≤ s.wn ∧ s.wn < 65536 ∧ s.d.length ≤ 1460)
def mkS (c : EC) (sq fl : Int) (d : List UInt8) : ES := ⟨c.po, c.pp, sq, c.rn, fl, 2048, d⟩
def shutC (c : EC) : EC := { c with st := 0, out := [], ps := [], tm := tm0 }
def pumpN (c : EC) : Int := min 536 (min (c.out.length - sentv c) (c.win - sentv c))
def pumpL : Nat → EC → List ES → EC × List ES
  | 0, c, l => (c, l)
  | f + 1, c, l => if pumpN c ≤ 0 then (c, l) else pumpL f { c with nxt := addv c.nxt (pumpN c) } (l ++ [mkS c c.nxt 24 ((c.out.drop (sentv c).toNat).take (pumpN c).toNat)])
def pumpF (c : EC) (l : List ES) : EC × List ES := if c.cl && decide (sentv c = c.out.length) then ({ c with nxt := addv c.nxt 1, st := if c.st = 2 then 3 else 7 }, l ++ [mkS c c.nxt 17 []]) else (c, l)
def pumpT (c : EC) : EC := if !c.tm.on && (decide (0 < sentv c) || decide (sentv c < c.out.length)) then { c with tm := tmS 3 } else c
def pumpA (c : EC) (l : List ES) : EC × List ES := let p := pumpL (c.out.length + 1) c l; let q := pumpF p.1 p.2; (pumpT q.1, q.2)
def mayP (c : EC) : Bool := decide (c.st = 2) || decide (c.st = 5)
def pumpS (c : EC) (l : List ES) : EC × List ES := if mayP c then pumpA c l else (c, l)
def abortS (c : EC) (l : List ES) : EC × List ES := (shutC c, if c.st = 0 then l else l ++ [mkS c c.nxt 20 []])
def expireS (c : EC) (l : List ES) : EC × List ES :=
  if c.st = 8 then (shutC c, l)
  else if c.tm.tries = 8 then abortS c l
  else if c.st = 1 then ({ c with tm := backv c.tm }, l ++ [mkS c c.una 18 []])
  else if 0 < sentv c then (if 0 < c.out.length then ({ c with tm := backv c.tm }, l ++ [mkS c c.una 24 (c.out.take (min 536 (min (sentv c) c.out.length)).toNat)]) else ({ c with tm := backv c.tm }, l ++ [mkS c c.una 17 []]))
  else if 0 < c.out.length then ({ c with tm := backv c.tm, nxt := addv c.nxt 1 }, l ++ [mkS c c.nxt 24 (c.out.take 1)])
  else ({ c with tm := tm0 }, l)
def tickS (c : EC) : EC × List ES := if ringv c.tm then expireS { c with tm := tickv c.tm } [] else ({ c with tm := tickv c.tm }, [])
/-- A flag of a segment. -/
def fb (fl m : Int) : Bool := !(bits .and .i64 fl m == 0)
def segLen (s : ES) : Int := (s.d.length : Int) + (if fb s.fl 2 then 1 else 0) + (if fb s.fl 1 then 1 else 0)
def accS (c : EC) (s : ES) : Bool := hasB c.rn 2048 s.sq || (decide (0 < segLen s) && hasB c.rn 2048 (addv s.sq (segLen s - 1)))
def ackN (c : EC) (l : List ES) : List ES := l ++ [mkS c c.nxt 16 []]
def outS (c : EC) (l : List ES) (s : ES) : EC × List ES := if fb s.fl 4 then (c, l) else (if c.st = 8 then { c with tm := tmS 20 } else c, ackN c l)
def finA (c : EC) : EC := if c.st = 3 then { c with st := 4 } else if c.st = 6 then { c with st := 8, tm := tmS 20 } else if c.st = 7 then shutC c else c
def ackU (c : EC) (s : ES) : EC := if 0 < diffv s.ak c.una then { c with out := c.out.drop (min (diffv s.ak c.una) c.out.length).toNat, una := s.ak, tm := tm0 } else c
def ackF (c : EC) : EC := if sentv c = 0 then finA c else c
def ackB (c : EC) (s : ES) : Bool := if c.st = 1 then s.ak == c.nxt else !decide (0 < diffv s.ak c.nxt)
def ackC (c : EC) (s : ES) : EC := if c.st = 1 then (if s.ak == c.nxt then { c with una := c.nxt, st := 2, tm := tm0 } else c) else if 0 < diffv s.ak c.nxt then c else ackF (ackU c s)
def ackL (c : EC) (l : List ES) (s : ES) : List ES := if c.st = 1 then (if s.ak == c.nxt then l else l ++ [⟨c.po, c.pp, s.ak, 0, 4, 0, []⟩]) else if 0 < diffv s.ak c.nxt then ackN c l else l
def hearsC (c : EC) : Bool := decide (c.st = 2) || (decide (c.st = 3) || decide (c.st = 4))
def finS (c : EC) (s : ES) : EC := if fb s.fl 1 && (addv s.sq s.d.length == c.rn && decide (c.ps.length = 0)) then (if c.st = 2 then { c with rn := addv c.rn 1, st := 5 } else if c.st = 3 then { c with rn := addv c.rn 1, st := 6 } else if c.st = 4 then { c with rn := addv c.rn 1, st := 8, tm := tmS 20 } else { c with rn := addv c.rn 1 }) else c
def hearC (c : EC) (s : ES) : EC := if hearsC c then finS { c with rn := addNext c.rn c.ps s.sq s.d, ps := addParts c.rn c.ps s.sq s.d } s else c
def hearT (c : EC) (s : ES) : List UInt8 := if hearsC c then addTold c.rn c.ps s.sq s.d else []
def lenL (c : EC) (l : List ES) (s : ES) : List ES := if 0 < segLen s then ackN c l else l
def lastT (c : EC) : EC := if !c.tm.on && (decide (0 < sentv c) && (!(c.st == 0) && !(c.st == 8))) then { c with tm := tmS 3 } else c
/-- What comes of a segment that fits. -/
def takeS (c : EC) (s : ES) : EC × List ES × List UInt8 :=
  if c.st = 0 then (c, [], [])
  else if accS c s then
    if fb s.fl 4 then (shutC c, [], [])
    else if fb s.fl 2 then (c, ackN c [], [])
    else if fb s.fl 16 then
      if ackB c s then
        let c1 := { ackC c s with win := s.wn }
        let c2 := hearC c1 s
        let p := pumpS c2 (lenL c2 (ackL c [] s) s)
        (lastT p.1, p.2, hearT c1 s)
      else (ackC c s, ackL c [] s, [])
    else (c, [], [])
  else ((outS c [] s).1, (outS c [] s).2, [])
def openS (link ip iss : Int) (s : ES) : EC × List ES :=
  let c : EC := ⟨link, ip, s.sp, s.dp, 1, iss, addv iss 1, s.wn, [], addv s.sq 1, [], false, tmS 3⟩
  (c, [mkS c iss 18 []])
def mayOpen (link ip iss : Int) (s : ES) : Bool := decide (0 ≤ link ∧ link ≤ 1099511627776 ∧ 0 ≤ ip ∧ ip < 4294967296 ∧ 0 ≤ iss ∧ iss < 4294967296) && (okS s && (fb s.fl 2 && !fb s.fl 20))
def sendE (c : EC) (n : Nat) : Int := if mayP c && !c.cl then (if n ≤ 8192 - c.out.length then 0 else 5) else 6
end Go.Proofs.Ytjgbiffgmafhmaa
