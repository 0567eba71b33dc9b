/-
  What is wanted of a kind of packets, for the law of its kind.
-/
import Derived.Test.YtodmcjeffhkofaaDoorMqR
namespace Go.Proofs.YtodmcjeffhkofaaDoor
open Go.RowKit
theorem eqB_refl (m : Mq) : m.eqB m = true := by simp [Mq.eqB]
/-- Nothing of a packet is long. -/
structure Mq.Near (B : Nat) (m : Mq) : Prop where
  cl : m.cl.size ≤ B
  wT : m.wT.size ≤ B
  wP : m.wP.size ≤ B
  us : m.us.size ≤ B
  pa : m.pa.size ≤ B
  cs : m.cs.length ≤ B
  top : m.top.size ≤ B
  pay : m.pay.size ≤ B
  ws : m.ws.length ≤ B
  fs : m.fs.length ≤ B
  wsf : ∀ s ∈ m.ws, s.f.size ≤ B
  fsf : ∀ s ∈ m.fs, s.size ≤ B
theorem Mq.Near.mono {B B' : Nat} {m : Mq} (h : m.Near B) (hb : B ≤ B') : m.Near B' :=
  ⟨Nat.le_trans h.cl hb, Nat.le_trans h.wT hb, Nat.le_trans h.wP hb, Nat.le_trans h.us hb, Nat.le_trans h.pa hb, Nat.le_trans h.cs hb, Nat.le_trans h.top hb, Nat.le_trans h.pay hb, Nat.le_trans h.ws hb, Nat.le_trans h.fs hb,
    fun s hs => Nat.le_trans (h.wsf s hs) hb, fun s hs => Nat.le_trans (h.fsf s hs) hb⟩
/-- The first byte turned. -/
def flipB (l : List UInt8) (j : UInt8) : List UInt8 := match l with
  | [] => []
  | x :: t => (x ^^^ j) :: t
/-- A kind of packets: whether one may be, its bytes, as the code and as the reference have them. -/
structure KindOK (k : Int) (mayB : Mq → Bool) (enc : Mq → List UInt8) : Prop where
  len : ∀ m, mayB m = true → m.k = k → 2 ≤ (enc m).length ∧ (enc m).length ≤ 100000
  head : ∀ m x l, mayB m = true → m.k = k → enc m = x :: l → (x.toNat : Int) / 16 = k
  bytes : ∀ (m : Mq) vc vw vf w, m.k = k → m.Near 4000 → m.Lists w vc vw vf → Calls Tryd.prog 32 #[m.val vc vw vf] w fun e w' => ∃ v, e = .returned (.tuple #[v, .int .i64 (if mayB m = true then 0 else 1)]) ∧ Below w.heap.size w w' ∧ (mayB m = true → Sl w' v (enc m))
  check : ∀ (m : Mq) vc vw vf w, m.k = k → m.Near 4000 → m.Lists w vc vw vf → Calls Tryd.prog 34 #[m.val vc vw vf] w fun e w' => e = .returned (.int .i64 (if mayB m = true then 0 else 1)) ∧ Below w.heap.size w w'
  may : ∀ (m : Mq) vc vw vf w, m.k = k → m.Near 4000 → m.Lists w vc vw vf → Calls Tryd.prog 33 #[m.val vc vw vf] w fun e w' => e = .returned (.bool (mayB m)) ∧ Below w.heap.size w w'
  rbytes : ∀ (m : Mq) vc vw vf w, m.k = k → m.Near 4000 → mayB m = true → m.Lists w vc vw vf → Calls Tryd.prog 35 #[m.val vc vw vf] w fun e w' => ∃ v, e = .returned v ∧ Below w.heap.size w w' ∧ Sl w' v (enc m)
  parse : ∀ (m : Mq) v w, m.k = k → m.Near 4000 → mayB m = true → Sl w v (enc m) → Calls Tryd.prog 24 #[v] w fun e w' => ∃ vc vw vf, e = .returned (.tuple #[m.val vc vw vf, .int .i64 ((enc m).length : Int), .int .i64 0]) ∧ Below w.heap.size w w' ∧ m.Lists w' vc vw vf
  flip : ∀ (m : Mq) (j : UInt8), m.k = k → m.Near 4000 → mayB m = true → 0 < j.toNat → j.toNat < 16 → ∃ ev : Int,
    (∀ v w, Sl w v (flipB (enc m) j) → Calls Tryd.prog 24 #[v] w fun e w' => ∃ (m2 : Mq) (ac aw af : Option Addr) (nc nw nf cc cw cf : Nat) (n : Int), e = .returned (.tuple #[m2.val (.slice ac nc cc) (.slice aw nw cw) (.slice af nf cf), .int .i64 n, .int .i64 ev]) ∧ Below w.heap.size w w') ∧
    (∀ v w, Sl w v (flipB (enc m) j) → Calls Tryd.prog 25 #[v] w fun e w' => ∃ (m2 : Mq) (ac aw af : Option Addr) (nc nw nf cc cw cf : Nat) (n : Int), e = .returned (.tuple #[m2.val (.slice ac nc cc) (.slice aw nw cw) (.slice af nf cf), .int .i64 n, .int .i64 ev]) ∧ Below w.heap.size w w')
end Go.Proofs.YtodmcjeffhkofaaDoor
