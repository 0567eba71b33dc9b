/-
  A connection in memory, with its row.
-/
import Derived.Test.YtjgbiffgmafhmaaLtOTcB
import Derived.Test.YtjgbiffgmafhmaaLtOOv2
import Derived.Test.YtjgbiffgmafhmaaLtOClone
import Derived.Test.YtjgbiffgmafhmaaLtOSpanD
namespace Go.Proofs.Ytjgbiffgmafhmaa
open Go.RowKit
/-- What stands behind a connection's cells: what is sent, and (the page's) what is told. -/
def tailOf : Bool → Value → Value → List Value
  | false, vl, _ => [vl]
  | true, vl, vt => [vl, vt]
/-- What is told: its bytes, and where they lie. -/
structure Td where
  b : List UInt8
  v : Value
def Mch (B : Nat) (H : List Nat) (q : Nat) (rf : Bool) (c : EC) (l : List ES) (T : Td) (W : World) : Prop :=
  ∃ ao co ap PL cp al SL cl, RowAt W q (c.row (.slice ao c.out.length co) (.slice ap PL.length cp) ++ tailOf rf (.slice al SL.length cl) T.v) ∧ PL.map Prod.fst = c.ps ∧ SL.map Prod.fst = l ∧
    MO B H q (.slice ao c.out.length co) (.slice ap PL.length cp) (.slice al SL.length cl) T.v PL SL c.out T.b W
theorem Mch.mk {B q : Nat} {H : List Nat} {rf : Bool} {c : EC} {l : List ES} {T : Td} {W : World} {ao ap al : Option Addr} {co cp cl : Nat} {PL : List (EP × Value)} {SL : List (ES × Value)} (hr : RowAt W q (c.row (.slice ao c.out.length co) (.slice ap PL.length cp) ++ tailOf rf (.slice al SL.length cl) T.v)) (hp : PL.map Prod.fst = c.ps) (hs : SL.map Prod.fst = l)
    (hm : MO B H q (.slice ao c.out.length co) (.slice ap PL.length cp) (.slice al SL.length cl) T.v PL SL c.out T.b W) : Mch B H q rf c l T W := ⟨ao, co, ap, PL, cp, al, SL, cl, hr, hp, hs, hm⟩
theorem Mch.opn {B q : Nat} {H : List Nat} {rf : Bool} {c : EC} {l : List ES} {T : Td} {W : World} (h : Mch B H q rf c l T W) : ∃ ao co ap PL cp al SL cl, RowAt W q (c.row (.slice ao c.out.length co) (.slice ap PL.length cp) ++ tailOf rf (.slice al SL.length cl) T.v) ∧ PL.map Prod.fst = c.ps ∧ SL.map Prod.fst = l ∧
    MO B H q (.slice ao c.out.length co) (.slice ap PL.length cp) (.slice al SL.length cl) T.v PL SL c.out T.b W := h
theorem Kp.sub {H H' : List Nat} {W W' : World} (h : Kp H' W W') (hs : ∀ k ∈ H, k ∈ H') : Kp H W W' := ⟨h.size, fun k hk hl => h.blk k (hs k hk) hl⟩
theorem MO.facts {B q : Nat} {H : List Nat} {vo vp vl vt : Value} {PL : List (EP × Value)} {SL : List (ES × Value)} {out T : List UInt8} {W : World} (h : MO B H q vo vp vl vt PL SL out T W) : B ≤ q ∧ B ≤ W.heap.size ∧ q < W.heap.size ∧ q ∉ H ∧ (∀ k ∈ H, k < W.heap.size) ∧ W.ownsRow B 5 1 vo out.length (out.map B8) := by
  have hn := h.notH
  obtain ⟨col, h⟩ := h
  have h1 := h.bq
  have h2 := h.qw
  exact ⟨h1, by omega, h2, hn, fun k hk => (h.hH k hk).1, h.o⟩
theorem MO.subH {B q : Nat} {H H' : List Nat} {vo vp vl vt : Value} {PL : List (EP × Value)} {SL : List (ES × Value)} {out T : List UInt8} {W : World} (h : MO B H' q vo vp vl vt PL SL out T W) (hs : ∀ k ∈ H, k ∈ H') : MO B H q vo vp vl vt PL SL out T W := by
  obtain ⟨col, h⟩ := h
  exact ⟨col, h.bq, h.qw, fun k hk => h.hH k (hs k hk), h.hq, h.o, h.oc, h.p, h.pc, h.s, h.sc, h.t, h.tc⟩
/-- A method of a connection: what comes of it. -/
def Does (f : FuncId) (args : Array Value) (B : Nat) (H : List Nat) (q : Nat) (rf : Bool) (v : Value) (c : EC) (l : List ES) (T : Td) (W : World) : Prop :=
  Calls Try.prog f args W fun e W' => e = .returned v ∧ Mch B H q rf c l T W' ∧ Kp H W W' ∧ Below B W W'
end Go.Proofs.Ytjgbiffgmafhmaa
