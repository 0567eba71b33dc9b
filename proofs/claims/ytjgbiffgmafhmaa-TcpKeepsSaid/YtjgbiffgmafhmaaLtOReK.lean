/-
  Pieces of a stream: Add, its places counted from what is waited for.
-/
import Derived.Test.YtjgbiffgmafhmaaLtOReJ
import Derived.Test.YtjgbiffgmafhmaaLtOWithin
import Derived.Lib.SlBytesConst
import Derived.Laws.IdiomStrings
namespace Go.Proofs.Ytjgbiffgmafhmaa
open Go.RowKit
def okR : Nat → List (Nat × List UInt8) → Bool
  | _, [] => true
  | last, q :: r => decide (0 < q.2.length ∧ q.2.length ≤ 2048 ∧ last < q.1 ∧ q.1 < 2048 ∧ q.1 + q.2.length ≤ 2048) && okR (q.1 + q.2.length) r
theorem off_add {next : Int} {k : Nat} (h : k < 4294967296) : offv (addv next k) next = k := by unfold offv addv; omega
theorem okR_okP (next : Int) : ∀ (R : List (Nat × List UInt8)) (last : Nat), okR last R = true → okP next last (R.map (toP next)) = true
  | [], _, _ => rfl
  | q :: r, last, h => by
    unfold okR at h
    rw [Bool.and_eq_true, decide_eq_true_eq] at h
    obtain ⟨⟨h1, h2, h3, h4, h5⟩, h6⟩ := h
    have ho := off_add (next := next) (k := q.1) (by omega)
    have hb := addv_bd next q.1
    have ih := okR_okP next r (q.1 + q.2.length) h6
    show (decide (0 ≤ addv next q.1 ∧ addv next q.1 < 4294967296 ∧ 0 < q.2.length ∧ q.2.length ≤ 2048 ∧ (last : Int) < offv (addv next q.1) next ∧ offv (addv next q.1) next < 2048 ∧ offv (addv next q.1) next + q.2.length ≤ 2048) && okP next (offv (addv next q.1) next + q.2.length) (r.map (toP next))) = true
    rw [ho, show ((q.1 : Int) + (q.2.length : Int)) = ((q.1 + q.2.length : Nat) : Int) by omega, ih, Bool.and_true, decide_eq_true_eq]
    omega
theorem okR_bufB {next : Int} (hn : 0 ≤ next ∧ next < 4294967296) {R : List (Nat × List UInt8)} (h : okR 0 R = true) (hl : R.length ≤ 8) : bufB next (R.map (toP next)) = true := by
  unfold bufB
  have h0 : okP next 0 (R.map (toP next)) = true := okR_okP next R 0 h
  rw [h0, Bool.and_true, decide_eq_true_eq, List.length_map]
  exact ⟨hn.1, hn.2, hl⟩
theorem radd12_any (s n : Int) (w : World) : Calls Try.prog 18 #[.int .i64 s, .int .i64 n] w fun e w' => e = .returned (.int .i64 (addv s n)) ∧ w = w' := by
  go_enter Try.func18, Try.ntmps18
  go_wp2
  go_ret
  refine ⟨?_, rfl⟩
  show Ending.returned (Value.int .i64 _) = _
  rfl
theorem k1 : okR 0 [] = true ∧ okR 0 [(2, [99])] = true := by decide +kernel
theorem kc2 (w : World) (o : Obj) (C : Array Value) (n c : Nat) : (convert 34 34 (.slice (some ⟨w.heap.size + 1, 0, none⟩) n c)).run Try.prog ((w.alloc o).alloc (.cells C 5)) = .ok (.slice (some ⟨w.heap.size + 1, 0, none⟩) n c) ((w.alloc o).alloc (.cells C 5 (C.size, C.size + 1))) := by
  have h := Lib.run_convert_bytes_const (P := Try.prog) (w.alloc o) 34 5 C n c Try.underlying34 Try.underlying5
  rw [World.size_alloc] at h
  exact h
end Go.Proofs.Ytjgbiffgmafhmaa
