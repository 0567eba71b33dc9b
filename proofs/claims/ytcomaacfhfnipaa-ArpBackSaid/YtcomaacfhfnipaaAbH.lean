/-
  What ARP says, as bytes: the mathematics of reading back, of a cut, of a turned bit.
-/
import Derived.Test.YtcomaacfhfnipaaAbG
namespace Go.Proofs.Ytcomaacfhfnipaa
open Go.RowKit
theorem ofvB6 (v : Int) (h0 : 0 ≤ v) (h1 : v < 281474976710656) : ofv (bigv v 6) = v := by
  simp only [bigv, ofv, List.foldl_cons, List.foldl_nil, byteAt_toNat]
  simp only [Nat.reduceMul, Int.reducePow]
  omega
theorem ofvB4 (v : Int) (h0 : 0 ≤ v) (h1 : v < 4294967296) : ofv (bigv v 4) = v := by
  simp only [bigv, ofv, List.foldl_cons, List.foldl_nil, byteAt_toNat]
  simp only [Nat.reduceMul, Int.reducePow]
  omega
theorem arBytes_take8 (a : Ar) (X : List UInt8) : (arBytes a ++ X).take 8 = arHead (arKind a.rep) := rfl
theorem arBytes_kind (a : Ar) (X : List UInt8) : ((arBytes a ++ X).drop 6).take 2 = bigv (arKind a.rep) 2 := rfl
theorem arBytes_sm (a : Ar) (X : List UInt8) : ((arBytes a ++ X).drop 8).take 6 = bigv a.sm 6 := rfl
theorem arBytes_si (a : Ar) (X : List UInt8) : ((arBytes a ++ X).drop 14).take 4 = bigv a.si 4 := rfl
theorem arBytes_dm (a : Ar) (X : List UInt8) : ((arBytes a ++ X).drop 18).take 6 = bigv a.dm 6 := rfl
theorem arBytes_di (a : Ar) (X : List UInt8) : ((arBytes a ++ X).drop 24).take 4 = bigv a.di 4 := rfl
theorem arKind_ofv (b : Bool) : ofv (bigv (arKind b) 2) = arKind b := by cases b <;> decide +kernel
/-- What ARP says, and bytes behind: read back. -/
theorem par_back (a : Ar) (h : arOk a = true) (X : List UInt8) : parA (arBytes a ++ X) = a ∧ parE (arBytes a ++ X) = 0 := by
  have hk : arKindOf (arBytes a ++ X) = arKind a.rep := by unfold arKindOf; rw [arBytes_kind]; exact arKind_ofv _
  have hg : arGood (arBytes a ++ X) = true := by
    unfold arGood; rw [hk, arBytes_take8]; cases a.rep <;> simp [arKind]
  have hl : 28 ≤ (arBytes a ++ X).length := by rw [List.length_append, arBytes_len]; omega
  obtain ⟨p1, p2⟩ := par_ok hl hg
  refine ⟨p1.trans ?_, p2⟩
  simp only [arOk, macB, ipB, Bool.and_eq_true, decide_eq_true_eq] at h
  obtain ⟨⟨⟨⟨a1, a2⟩, b1, b2⟩, c1, c2⟩, d1, d2⟩ := h
  unfold arOf
  rw [hk, arBytes_sm, arBytes_si, arBytes_dm, arBytes_di, ofvB6 _ a1 a2, ofvB4 _ c1 c2, ofvB6 _ b1 b2, ofvB4 _ d1 d2]
  obtain ⟨rep, sm, si, dm, di⟩ := a
  cases rep <;> rfl
theorem par_cut (a : Ar) : parE ((arBytes a).take 27) = 7 := (par_short (by rw [List.length_take, arBytes_len]; decide)).2
theorem arGood_take (l : List UInt8) : arGood l = arGood (l.take 8) := by
  unfold arGood arKindOf
  rw [List.take_take, List.drop_take, List.take_take]
  rfl
theorem head_flip : ∀ b : Bool, ∀ k : Fin 8, arGood ((arHead (arKind b)).set k.val ((arHead (arKind b))[k.val]?.getD 0 ^^^ 16)) = false := by decide +kernel
/-- A bit of what stands ahead turned: an error. -/
theorem par_flip (a : Ar) (k : Nat) (hk : k < 8) (x : UInt8) (hx : (arBytes a)[k]? = some x) : parE ((arBytes a).set k (x ^^^ 16)) = 1 := by
  refine (par_bad (by rw [List.length_set, arBytes_len]; decide) ?_).2
  have ht : ((arBytes a).set k (x ^^^ 16)).take 8 = (arHead (arKind a.rep)).set k (x ^^^ 16) := by
    rw [List.take_set]
    have := arBytes_take8 a []
    rw [List.append_nil] at this
    rw [this]
  have hx' : (arHead (arKind a.rep))[k]? = some x := by
    have := arBytes_take8 a []
    rw [List.append_nil] at this
    rw [← this, List.getElem?_take_of_lt hk, hx]
  rw [arGood_take, ht]
  have := head_flip a.rep ⟨k, hk⟩
  dsimp only at this
  rw [hx'] at this
  exact this
theorem flip16 (x : UInt8) : (((x ^^^ 16 : UInt8).toNat : Nat) : Int) = bits .xor .u8 (x.toNat : Int) 16 := by
  have hx := x.toNat_lt
  rw [show (16 : Int) = ((16 : Nat) : Int) from rfl, u8_xor_nat _ _ (by omega) (by omega), UInt8.toNat_xor]
  rfl
theorem rowAt_ar (W : World) : RowAt (W.alloc (.cells #[.bool false, .int .i64 0, .int .i64 0, .int .i64 0, .int .i64 0] 33)) W.heap.size [.bool false, .int .i64 0, .int .i64 0, .int .i64 0, .int .i64 0] := by
  refine ⟨fun j v hj => ?_, fun j => by simp [go_sem], by simp⟩
  match j, hj with
  | 0, hj => simp at hj; subst hj; simp [go_sem]
  | 1, hj => simp at hj; subst hj; simp [go_sem]
  | 2, hj => simp at hj; subst hj; simp [go_sem]
  | 3, hj => simp at hj; subst hj; simp [go_sem]
  | 4, hj => simp at hj; subst hj; simp [go_sem]
end Go.Proofs.Ytcomaacfhfnipaa
