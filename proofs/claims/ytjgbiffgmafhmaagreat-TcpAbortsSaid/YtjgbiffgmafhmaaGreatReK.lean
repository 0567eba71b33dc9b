/-
  Pieces of a stream: Add, its places counted from what is waited for.
-/
import Derived.Test.YtjgbiffgmafhmaaGreatReJ
import Derived.Test.YtjgbiffgmafhmaaGreatWithin
import Derived.Lib.SlBytesConst
import Derived.Laws.IdiomStrings
namespace Go.Proofs.YtjgbiffgmafhmaaGreat
open Go.RowKit
def okR : Nat → List (Nat × List UInt8) → Bool
  | _, [] => true
  | last, q :: r => decide (0 < q.2.length ∧ q.2.length ≤ 2048 ∧ last < q.1 ∧ q.1 < 2048 ∧ q.1 + q.2.length ≤ 2048) && okR (q.1 + q.2.length) r
theorem off_add {next : Int} {k : Nat} (h : k < 4294967296) : offv (addv next k) next = k := by unfold offv addv; omega
theorem okR_okP (next : Int) : ∀ (R : List (Nat × List UInt8)) (last : Nat), okR last R = true → okP next last (R.map (toP next)) = true
  | [], _, _ => rfl
  | q :: r, last, h => by
    unfold okR at h
    rw [Bool.and_eq_true, decide_eq_true_eq] at h
    obtain ⟨⟨h1, h2, h3, h4, h5⟩, h6⟩ := h
    have ho := off_add (next := next) (k := q.1) (by omega)
    have hb := addv_bd next q.1
    have ih := okR_okP next r (q.1 + q.2.length) h6
    show (decide (0 ≤ addv next q.1 ∧ addv next q.1 < 4294967296 ∧ 0 < q.2.length ∧ q.2.length ≤ 2048 ∧ (last : Int) < offv (addv next q.1) next ∧ offv (addv next q.1) next < 2048 ∧ offv (addv next q.1) next + q.2.length ≤ 2048) && okP next (offv (addv next q.1) next + q.2.length) (r.map (toP next))) = true
    rw [ho, show ((q.1 : Int) + (q.2.length : Int)) = ((q.1 + q.2.length : Nat) : Int) by omega, ih, Bool.and_true, decide_eq_true_eq]
    omega
theorem okR_bufB {next : Int} (hn : 0 ≤ next ∧ next < 4294967296) {R : List (Nat × List UInt8)} (h : okR 0 R = true) (hl : R.length ≤ 8) : bufB next (R.map (toP next)) = true := by
  unfold bufB
  have h0 : okP next 0 (R.map (toP next)) = true := okR_okP next R 0 h
  rw [h0, Bool.and_true, decide_eq_true_eq, List.length_map]
  exact ⟨hn.1, hn.2, hl⟩
theorem okR_lt : ∀ (R : List (Nat × List UInt8)) (last : Nat), okR last R = true → ∀ q ∈ R, q.1 < 2147483648
  | [], _, _, q, hq => by simp at hq
  | p :: r, last, h, q, hq => by
    unfold okR at h
    rw [Bool.and_eq_true, decide_eq_true_eq] at h
    rcases List.mem_cons.1 hq with rfl | hq
    · omega
    · exact okR_lt r _ h.2 q hq
/-- Add, where all is well, its places counted from what is waited for. -/
theorem radd_rel {next o : Int} {R R' : List (Nat × List UInt8)} {D T : List UInt8} (hn : 0 ≤ next ∧ next < 4294967296) (ho : -2147483648 ≤ o ∧ o < 2147483648) (hR : okR 0 R = true) (hl : R.length ≤ 8) (hD : D.length ≤ 65536) (h1 : relP R o D = R') (h2 : relT R o D = T) (h3 : R'.length ≤ 8)
    (v vd : Value) (w : World) (hv : KPart.Sl w v (R.map (toP next))) (hd : Sl w vd D) :
    Calls Tryz.prog 113 #[.agg #[.int .i64 next, v], .int .i64 (addv next o), vd] w fun e w' => ∃ v' vt PL, e = .returned (.tuple #[.agg #[.int .i64 (addv next T.length), v'], vt, .int .i64 0]) ∧ PL.map Prod.fst = R'.map (toP next) ∧ DOwn KPart 83 w' w.heap.size v' PL ∧ w'.ownsRow w.heap.size 5 1 vt T.length (T.map B8) ∧ Apart vt v' PL ∧ Below w.heap.size w w' := by
  obtain ⟨f1, f2, f3⟩ := rel_facts (D := D) hn ho (okR_lt R 0 hR) h1 h2 h3
  have hb := addv_bd next o
  have hok : addOk next (R.map (toP next)) (addv next o) D = true := by
    unfold addOk
    rw [okR_bufB hn hR hl, decide_eq_true hb.1, decide_eq_true hb.2, decide_eq_true hD]; rfl
  have := radd_good v vd next (addv next o) (R.map (toP next)) D w hv hd hok
  rw [f1, f2, f3] at this
  exact this
theorem radd12_any (s n : Int) (w : World) : Calls Tryz.prog 80 #[.int .i64 s, .int .i64 n] w fun e w' => e = .returned (.int .i64 (addv s n)) ∧ w = w' := by
  go_enter Tryz.func80, Tryz.ntmps80
  go_wp2
  go_ret
  refine ⟨?_, rfl⟩
  show Ending.returned (Value.int .i64 _) = _
  rfl
theorem k1 : okR 0 [] = true ∧ okR 0 [(2, [99])] = true := by decide +kernel
theorem ev_w1 : relP [] 2 [99] = [(2, [99])] ∧ relT [] 2 [99] = [] := by decide +kernel
theorem ev_w2 : relP [(2, [99])] 0 [97, 98] = [] ∧ relT [(2, [99])] 0 [97, 98] = [97, 98, 99] := by decide +kernel
theorem Sl.litm (w : World) (l : List UInt8) (e : TypeId) (fr : Nat × Nat) (hm : l.length ≤ maxLen) : Sl (w.alloc (.cells (l.map B8).toArray e fr)) (.slice (some ⟨w.heap.size, 0, none⟩) l.length l.length) l := by
  refine ⟨_, _, rfl, Nat.le_refl _, hm, by simp, fun _ => ⟨w.heap.size, 0, rfl, by simp, fun i x hi => ?_⟩⟩
  have hl := (List.getElem?_eq_some_iff.1 hi).1
  rw [Nat.zero_add]
  rw [World.cell?_alloc_mark, List.getElem?_toArray, List.getElem?_map, hi]; rfl
theorem kc2 (w : World) (o : Obj) (C : Array Value) (n c : Nat) : (convert 22 22 (.slice (some ⟨w.heap.size + 1, 0, none⟩) n c)).run Tryz.prog ((w.alloc o).alloc (.cells C 5)) = .ok (.slice (some ⟨w.heap.size + 1, 0, none⟩) n c) ((w.alloc o).alloc (.cells C 5 (C.size, C.size + 1))) := by
  have h := Lib.run_convert_bytes_const (P := Tryz.prog) (w.alloc o) 22 5 C n c Tryz.underlying22 Tryz.underlying5
  rw [World.size_alloc] at h
  exact h
theorem conv_of_sl {w : World} {v : Value} {l : List UInt8} (h : Sl w v l) (hne : l ≠ []) : (convert 22 9 v).run Tryz.prog w = .ok (.string ⟨l.toArray⟩) w := by
  obtain ⟨ao, cap, rfl, -, -, -, h4⟩ := h
  obtain ⟨b, off, rfl, -, hB⟩ := h4 hne
  refine run_convert_bytes_back w _ _ _ _ cap l Tryz.underlying22 Tryz.underlying5 Tryz.underlying9 fun j hj => ?_
  rw [add_off]
  exact hB j _ (List.getElem?_eq_getElem hj)
end Go.Proofs.YtjgbiffgmafhmaaGreat
