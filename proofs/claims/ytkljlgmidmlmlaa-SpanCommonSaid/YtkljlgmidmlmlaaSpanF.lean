/-
  The asks of layer 12 with their floats, read; kiosklaw12.wakes, num.
-/
import Derived.Test.YtkljlgmidmlmlaaSpanD
import Derived.Test.YtkljlgmidmlmlaaRead
namespace Go.Proofs.Ytkljlgmidmlmlaa
open Go.RowKit
section
variable {P : Program} {w : World} {t e : TypeId} {cs : List Value}
theorem Rd.float {k : FloatKind} (ht : P.underlying t = some (.float k)) (h : Rd P w t cs) : ∃ b, cs = [.float k b] := by
  obtain ⟨H, enc, base, spare, held, fuel, x, h⟩ := h
  cases fuel with
  | zero => simp [DataW.trod] at h
  | succ n =>
    unfold DataW.trod at h
    rw [ht] at h
    split at h <;> simp_all
theorem Rd.array {n : Nat} (ht : P.underlying t = some (.array n e)) (h : Rd P w t cs) : cs.length = P.cellsOf t ∧ ∀ i, i < n → Rd P w e ((cs.drop (i * P.cellsOf e)).take (P.cellsOf e)) := by
  obtain ⟨H, enc, base, spare, held, fuel, x, h⟩ := h
  obtain ⟨xs, m, _, _, h1, hsz, h2⟩ := DataW.trod_array ht h
  exact ⟨h1, fun i hi => ⟨H, enc, base, spare, held, m, xs[i], by rw [h2 i hi, List.getElem?_eq_getElem (by omega)]⟩⟩
end
/-- One of the asks of layer 12. -/
structure AskF where
  S : Int
  T : Int
  N : Int
  M : Int
  X : Int
  a : Nat
  b : Nat
  c : Nat
  d : Nat
def I64 (n : Int) : Prop := -9223372036854775808 ≤ n ∧ n < 9223372036854775808
def AskF.At (w : World) (b off : Nat) (q : AskF) : Prop :=
  w.cell? ⟨b, off, none⟩ = some (.int .i64 q.S) ∧ w.cell? ⟨b, off + 1, none⟩ = some (.int .i64 q.T) ∧ w.cell? ⟨b, off + 2, none⟩ = some (.int .i64 q.N) ∧
  w.cell? ⟨b, off + 3, none⟩ = some (.int .i64 q.M) ∧ w.cell? ⟨b, off + 4, none⟩ = some (.int .i64 q.X) ∧
  w.cell? ⟨b, off + 5, none⟩ = some (.float .f64 q.a) ∧ w.cell? ⟨b, off + 6, none⟩ = some (.float .f64 q.b) ∧ w.cell? ⟨b, off + 7, none⟩ = some (.float .f64 q.c) ∧ w.cell? ⟨b, off + 8, none⟩ = some (.float .f64 q.d) ∧
  I64 q.S ∧ I64 q.T ∧ I64 q.N ∧ I64 q.M ∧ I64 q.X
theorem cI : Try.prog.cellsOf 3 = 1 := by kernel_rfl
theorem cF : Try.prog.cellsOf 27 = 1 := by kernel_rfl
theorem cFF : Try.prog.cellsOf 28 = 2 := by kernel_rfl
theorem asksF_of (W : World) (v : Value) (h : Rd Try.prog W 22 [v]) : ∃ L : List AskF, SlOf W 9 (fun w b off q => AskF.At w b off q) v L := by
  obtain ⟨v', L, hv, hL⟩ := h.slOf (p := fun w b off q => AskF.At w b off q) (size := 9) Try.underlying22 (by kernel_rfl) (by decide) (by
    intro b off cs' hb hc hr
    obtain ⟨hlen, hf⟩ := hr.struct Try.underlying30
    match cs', hc.1 with
    | [c0, c1, c2, c3, c4, c5, c6, c7, c8], _ =>
      obtain ⟨s, h0, k0⟩ := (hf 0 _ rfl).i64 Try.underlying3
      obtain ⟨t, h1, k1⟩ := (hf 1 _ rfl).i64 Try.underlying3
      obtain ⟨n, h2, k2⟩ := (hf 2 _ rfl).i64 Try.underlying3
      obtain ⟨m, h3, k3⟩ := (hf 3 _ rfl).i64 Try.underlying3
      obtain ⟨x, h4, k4⟩ := (hf 4 _ rfl).i64 Try.underlying3
      obtain ⟨_, hP⟩ := (hf 5 _ rfl).array Try.underlying28
      obtain ⟨_, hQ⟩ := (hf 6 _ rfl).array Try.underlying28
      obtain ⟨p0, g0⟩ := (hP 0 (by omega)).float Try.underlying27
      obtain ⟨p1, g1⟩ := (hP 1 (by omega)).float Try.underlying27
      obtain ⟨q0, g2⟩ := (hQ 0 (by omega)).float Try.underlying27
      obtain ⟨q1, g3⟩ := (hQ 1 (by omega)).float Try.underlying27
      have e0 : c0 = .int .i64 s := by simpa [cI] using h0
      have e1 : c1 = .int .i64 t := by simpa [cI] using h1
      have e2 : c2 = .int .i64 n := by simpa [cI] using h2
      have e3 : c3 = .int .i64 m := by simpa [cI] using h3
      have e4 : c4 = .int .i64 x := by simpa [cI] using h4
      have e5 : c5 = .float .f64 p0 := by simpa [cF, cFF] using g0
      have e6 : c6 = .float .f64 p1 := by simpa [cF, cFF] using g1
      have e7 : c7 = .float .f64 q0 := by simpa [cF, cFF] using g2
      have e8 : c8 = .float .f64 q1 := by simpa [cF, cFF] using g3
      subst e0 e1 e2 e3 e4 e5 e6 e7 e8
      exact ⟨⟨s, t, n, m, x, p0, p1, q0, q1⟩, hc.2 0 (by omega), hc.2 1 (by omega), hc.2 2 (by omega), hc.2 3 (by omega), hc.2 4 (by omega), hc.2 5 (by omega), hc.2 6 (by omega), hc.2 7 (by omega), hc.2 8 (by omega), k0, k1, k2, k3, k4⟩)
  obtain rfl : v = v' := by simpa using hv
  exact ⟨L, hL⟩
theorem whole12_any (s : Int) (w : World) :
    Calls Try.prog 21 #[.int .i64 s] w fun e w' => e = .returned (.int .i64 (s % 4294967296)) ∧ w = w' := by
  go_enter Try.func21, Try.ntmps21
  go_wp2
  go_ret
  exact ⟨by rfl, rfl⟩
theorem wakes12_any (w : World) :
    Calls Try.prog 15 #[] w fun e w' => e = .returned (.bool true) ∧ w = w' := by
  have e1 : (diffv 0 4294967295 == 1) = true := by decide
  have e2 : (addv 4294967295 1 == 0) = true := by decide
  go_enter Try.func15, Try.ntmps15
  go_wp2_with (first
    | (go_at_call 36; refine (spanDiff_any _ _ _).mono ?_; rintro e w' ⟨rfl, rfl⟩)
    | (go_at_call 23; refine (spanAdd_any _ _ _).mono ?_; rintro e w' ⟨rfl, rfl⟩))
  go_ret
  exact ⟨rfl, rfl⟩
theorem num12_any (n : Int) (w : World) : Calls Try.prog 11 #[.int .i64 n] w fun e w' => e = .returned (.int .i64 n) ∧ w = w' := by
  go_enter Try.func11, Try.ntmps11
  go_wp2
  go_ret
  exact ⟨by rfl, rfl⟩
end Go.Proofs.Ytkljlgmidmlmlaa
