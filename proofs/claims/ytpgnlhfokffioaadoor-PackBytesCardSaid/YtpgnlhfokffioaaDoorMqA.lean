/-
  Packets: what they are; reading a packet that lies in a block of its own.
-/
import Derived.Test.YtpgnlhfokffioaaDoorOw

import Derived.Test.YtpgnlhfokffioaaDoorPackA
import Derived.Test.YtpgnlhfokffioaaDoorStructW
import Derived.Laws.StructEq
namespace Go.Proofs.YtpgnlhfokffioaaDoor
open Go.RowKit
structure Mq where
  k : Int
  cl : ByteArray
  clean : Bool
  keep : Int
  wI : Bool
  wT : ByteArray
  wP : ByteArray
  wQ : Int
  wR : Bool
  us : ByteArray
  hu : Bool
  pa : ByteArray
  hp : Bool
  pres : Bool
  code : Int
  cs : List Int
  dup : Bool
  q : Int
  re : Bool
  top : ByteArray
  id : Int
  pay : ByteArray
  ws : List EWish
  fs : List ByteArray
/-- A packet's cells; its three slices' values beside it. -/
abbrev Mq.row (m : Mq) (vc vw vf : Value) : List Value :=
  [.int .i64 m.k, .string m.cl, .bool m.clean, .int .i64 m.keep, .bool m.wI, .string m.wT, .string m.wP, .int .i64 m.wQ, .bool m.wR, .string m.us, .bool m.hu, .string m.pa, .bool m.hp, .bool m.pres, .int .i64 m.code, vc,
   .bool m.dup, .int .i64 m.q, .bool m.re, .string m.top, .int .i64 m.id, .string m.pay, vw, vf]
abbrev Mq.val (m : Mq) (vc vw vf : Value) : Value := .agg (m.row vc vw vf).toArray
/-- The slices of a packet. -/
structure Mq.Lists (W : World) (m : Mq) (vc vw vf : Value) : Prop where
  c : SlR W 1 vc (m.cs.map cn)
  w : SlR W 2 vw (m.ws.map rowWish)
  f : SlR W 1 vf (m.fs.map cs1)
theorem Mq.Lists.below {W W' : World} {m : Mq} {vc vw vf : Value} (h : m.Lists W vc vw vf) (hb : Below W.heap.size W W') : m.Lists W' vc vw vf := ⟨h.c.below hb, h.w.below hb, h.f.below hb⟩
def isE (s : ByteArray) : Bool := s.toList == ([] : List UInt8)
theorem ba_nil : ByteArray.empty.toList = [] := by rw [ByteArray.toList_eq]; rfl
theorem isE_iff (s : ByteArray) : isE s = true ↔ s = ByteArray.empty := by
  unfold isE
  constructor
  · intro h
    refine ba_inj _ _ ?_
    rw [beq_iff_eq] at h; rw [h, ba_nil]
  · rintro rfl; simp
theorem isE_size (s : ByteArray) : isE s = (s.size == 0) := by
  unfold isE
  rw [ByteArray.toList_eq]
  obtain ⟨⟨l⟩⟩ := s
  cases l <;> rfl
/-! the operations on a packet's fields -/
section
variable (q : Nat) (w : World)
theorem eqStr (x y : Operand) (s t : ByteArray) : (eqGuard .eql 9 x y (.string s) (.string t)).run Tryd.prog w = .ok () w := by simp [go_sem]
theorem eqInt (x y : Operand) (s t : Int) : (eqGuard .eql 3 x y (.int .i64 s) (.int .i64 t)).run Tryd.prog w = .ok () w := by simp [go_sem]
theorem eqBool (x y : Operand) (s t : Bool) : (eqGuard .eql 4 x y (.bool s) (.bool t)).run Tryd.prog w = .ok () w := by simp [go_sem]
theorem eqWill (x y : Operand) (xs ys : Array Value) : (eqGuard .eql 25 x y (.agg xs) (.agg ys)).run Tryd.prog w = .ok () w := run_eqGuard_agg w .eql _ x y xs ys (by kernel_rfl)
theorem strE (s : ByteArray) : (binOp .eql 9 (.string s) (.string { data := #[] })).run Tryd.prog w = .ok (.bool (isE s)) w := by simp [go_sem, isE]
theorem strEq (s t : ByteArray) : (binOp .eql 9 (.string s) (.string t)).run Tryd.prog w = .ok (.bool (s.toList == t.toList)) w := by simp [go_sem]
theorem intEq (s t : Int) : (binOp .eql 3 (.int .i64 s) (.int .i64 t)).run Tryd.prog w = .ok (.bool (s == t)) w := by simp [go_sem]
theorem intEqB (s t : Int) (b : Bool) (h : (s == t) = b) : (binOp .eql 3 (.int .i64 s) (.int .i64 t)).run Tryd.prog w = .ok (.bool b) w := by rw [← h]; exact intEq w s t
theorem intNe (s t : Int) : (binOp .neq 3 (.int .i64 s) (.int .i64 t)).run Tryd.prog w = .ok (.bool (!(s == t))) w := by simp [go_sem, bne]
theorem boolEq (s t : Bool) : (binOp .eql 4 (.bool s) (.bool t)).run Tryd.prog w = .ok (.bool (s == t)) w := by simp [go_sem]
theorem willEq (b b' : Bool) (s s' t t' : ByteArray) (n n' : Int) (c c' : Bool) : (binOp .eql 25 (.agg #[.bool b, .string s, .string t, .int .i64 n, .bool c]) (.agg #[.bool b', .string s', .string t', .int .i64 n', .bool c'])).run Tryd.prog w =
    .ok (.bool ((b == b') && (s.toList == s'.toList) && (t.toList == t'.toList) && (n == n') && (c == c'))) w := by
  rw [run_eql_struct, show (10000 : Nat) = 9999 + 1 from rfl, run_equalIn_agg w 9999 _ _ _ (by kernel_rfl) (by kernel_rfl)]
  simp [go_sem, Program.fieldsOf, Tryd.underlying25, Op.eqFields, part, Tryd.underlying4, Tryd.underlying3, Tryd.underlying9]
  by_cases h0 : b = b' <;> by_cases h1 : s.toList = s'.toList <;> by_cases h2 : t.toList = t'.toList <;> by_cases h3 : n = n' <;> by_cases h4 : c = c' <;> simp [*]
end
end Go.Proofs.YtpgnlhfokffioaaDoor
