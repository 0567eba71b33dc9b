/-
  Words of our own, of no program: the reckoner: functions of the library that have no Go text.
-/
import Derived.Test.YtlkchdbbpnkbfaaGreatDoorRkC
namespace Go.Rk
noncomputable section
def fstN (l : List Nat) (c i : Nat) (k : K1) : Bool :=
  List.rec (motive := fun _ => Nat → Bool) (fun _ => k (.i .i64 (.negSucc 0))) (fun x _ ih i => iff_ (Nat.beq x c) (k (.i .i64 (.ofNat i))) (forceN (Nat.succ i) ih)) l i
def exByte (vs : List AV) (σ : Heap) (k : K2) : Bool :=
  match vs with
  | [x, y] => asS x fun l => asI y fun q c => guard_ (Nat.beq (kc q) 4) (natK c fun c => fstN l c 0 fun v => k v σ)
  | _ => false
def exCmp (vs : List AV) (σ : Heap) (k : K2) : Bool :=
  match vs with
  | [x, y] => asS x fun l => asS y fun r => iff_ (ltN l r) (k (.i .i64 (.negSucc 0)) σ) (iff_ (eqN l r) (k (.i .i64 (.ofNat 0)) σ) (k (.i .i64 (.ofNat 1)) σ))
  | _ => false
end
end Go.Rk
