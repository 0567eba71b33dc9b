/-
  Timers: the script of TimerExact, read; comparing two timers.
-/
import Derived.Test.YtkljlgmidmlmlaaTimD
import Derived.Laws.StructEq
namespace Go.Proofs.Ytkljlgmidmlmlaa
open Go.RowKit
theorem Rd.array {P : Program} {w : World} {t e : TypeId} {cs : List Value} {n : Nat} (ht : P.underlying t = some (.array n e)) (h : Rd P w t cs) : cs.length = P.cellsOf t ∧ ∀ i, i < n → Rd P w e ((cs.drop (i * P.cellsOf e)).take (P.cellsOf e)) := by
  obtain ⟨H, enc, base, spare, held, fuel, x, h⟩ := h
  obtain ⟨xs, m, _, _, h1, hsz, h2⟩ := DataW.trod_array ht h
  refine ⟨h1, fun i hi => ?_⟩
  exact ⟨H, enc, base, spare, held, m, xs[i]'(by omega), by rw [h2 i hi, List.getElem?_eq_getElem (by omega)]⟩
theorem cA2 : Try.prog.cellsOf 56 = 2 := by kernel_rfl
theorem cI2 : Try.prog.cellsOf 3 = 1 := by kernel_rfl
/-- An act of layer 15: two numbers. -/
def Act15 (w : World) (b off : Nat) (q : Int × Int) : Prop :=
  w.cell? ⟨b, off, none⟩ = some (.int .i64 q.1) ∧ w.cell? ⟨b, off + 1, none⟩ = some (.int .i64 q.2) ∧ (-9223372036854775808 ≤ q.1 ∧ q.1 < 9223372036854775808) ∧ (-9223372036854775808 ≤ q.2 ∧ q.2 < 9223372036854775808)
def Acts15 (w : World) (v : Value) (L : List (Int × Int)) : Prop :=
  ∃ ao cap, v = .slice ao L.length cap ∧ L.length ≤ maxLen ∧ (L ≠ [] → ∃ b off, ao = some ⟨b, off, none⟩ ∧ b < w.heap.size ∧ ∀ i (q : Int × Int), L[i]? = some q → Act15 w b (off + i * 2) q)
theorem acts15_of (W : World) (v : Value) (h : Rd Try.prog W 51 [v]) : ∃ L, Acts15 W v L := by
  obtain ⟨v', L, hv, ao, cap, rfl, h1, h2, h3, h4⟩ := h.slOf (p := fun w b off q => Act15 w b off q) (size := 2) Try.underlying51 cA2 (by decide) (by
    intro b off cs' hb hc hr
    obtain ⟨hlen, hf⟩ := hr.array Try.underlying56
    match cs', hc.1 with
    | [c0, c1], _ =>
      obtain ⟨s, hs, hs1, hs2⟩ := (hf 0 (by omega)).i64 Try.underlying3
      obtain ⟨t, ht, ht1, ht2⟩ := (hf 1 (by omega)).i64 Try.underlying3
      have e0 : c0 = .int .i64 s := by simpa [cI2] using hs
      have e1 : c1 = .int .i64 t := by simpa [cI2] using ht
      subst e0 e1
      refine ⟨(s, t), hc.2 0 (by omega), hc.2 1 (by omega), ⟨hs1, hs2⟩, ⟨ht1, ht2⟩⟩)
  obtain rfl : v = _ := by simpa using hv
  exact ⟨L, ao, cap, rfl, Nat.le_trans h1 h2, h4⟩
theorem wp_gen {P : Program} {c : Code} {Q' : Exit → Act → World → Prop} {a : Act} {W : World} (Q : World → Prop) (h : Q W) (k : ∀ W, Q W → c.wp P Q' a W) : c.wp P Q' a W := k W h
theorem tmNe (o : Bool) (x y z : Int) (w : World) : (binOp .neq 50 (.agg #[.bool o, .int .i64 x, .int .i64 y, .int .i64 z]) (.agg #[.bool o, .int .i64 x, .int .i64 y, .int .i64 z])).run Try.prog w = .ok (.bool false) w := by
  rw [run_neq_struct, show (10000 : Nat) = 9999 + 1 from rfl, run_equalIn_agg w 9999 _ _ _ (by kernel_rfl) (by kernel_rfl)]
  simp [go_sem, Program.fieldsOf, Try.underlying50, Op.eqFields, part, Try.underlying4, Try.underlying3]
theorem tmNe2 (n : Int) (w : World) : (binOp .neq 50 (.agg #[.bool true, .int .i64 n, .int .i64 n, .int .i64 0]) (.agg #[.bool false, .int .i64 0, .int .i64 0, .int .i64 0])).run Try.prog w = .ok (.bool true) w := by
  rw [run_neq_struct, show (10000 : Nat) = 9999 + 1 from rfl, run_equalIn_agg w 9999 _ _ _ (by kernel_rfl) (by kernel_rfl)]
  simp [go_sem, Program.fieldsOf, Try.underlying50, Op.eqFields, part, Try.underlying4, Try.underlying3]
theorem tmGuard (x y : Operand) (xs ys : Array Value) (w : World) : (eqGuard .neq 50 x y (.agg xs) (.agg ys)).run Try.prog w = .ok () w := run_eqGuard_agg w .neq _ x y xs ys (by kernel_rfl)
end Go.Proofs.Ytkljlgmidmlmlaa
