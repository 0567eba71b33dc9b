/-
  Pieces of a stream: Add, its places counted from what is waited for.
-/
import Derived.Test.YtjgbiffgmafhmaaReJ
import Derived.Test.YtjgbiffgmafhmaaWithin
import Derived.Lib.SlBytesConst
import Derived.Laws.IdiomStrings
namespace Go.Proofs.Ytjgbiffgmafhmaa
open Go.RowKit
def okR : Nat → List (Nat × List UInt8) → Bool
  | _, [] => true
  | last, q :: r => decide (0 < q.2.length ∧ q.2.length ≤ 2048 ∧ last < q.1 ∧ q.1 < 2048 ∧ q.1 + q.2.length ≤ 2048) && okR (q.1 + q.2.length) r
theorem off_add {next : Int} {k : Nat} (h : k < 4294967296) : offv (addv next k) next = k := by unfold offv addv; omega
theorem okR_okP (next : Int) : ∀ (R : List (Nat × List UInt8)) (last : Nat), okR last R = true → okP next last (R.map (toP next)) = true
  | [], _, _ => rfl
  | q :: r, last, h => by
    unfold okR at h
    rw [Bool.and_eq_true, decide_eq_true_eq] at h
    obtain ⟨⟨h1, h2, h3, h4, h5⟩, h6⟩ := h
    have ho := off_add (next := next) (k := q.1) (by omega)
    have hb := addv_bd next q.1
    have ih := okR_okP next r (q.1 + q.2.length) h6
    show (decide (0 ≤ addv next q.1 ∧ addv next q.1 < 4294967296 ∧ 0 < q.2.length ∧ q.2.length ≤ 2048 ∧ (last : Int) < offv (addv next q.1) next ∧ offv (addv next q.1) next < 2048 ∧ offv (addv next q.1) next + q.2.length ≤ 2048) && okP next (offv (addv next q.1) next + q.2.length) (r.map (toP next))) = true
    rw [ho, show ((q.1 : Int) + (q.2.length : Int)) = ((q.1 + q.2.length : Nat) : Int) by omega, ih, Bool.and_true, decide_eq_true_eq]
    omega
theorem okR_bufB {next : Int} (hn : 0 ≤ next ∧ next < 4294967296) {R : List (Nat × List UInt8)} (h : okR 0 R = true) (hl : R.length ≤ 8) : bufB next (R.map (toP next)) = true := by
  unfold bufB
  have h0 : okP next 0 (R.map (toP next)) = true := okR_okP next R 0 h
  rw [h0, Bool.and_true, decide_eq_true_eq, List.length_map]
  exact ⟨hn.1, hn.2, hl⟩
theorem okR_lt : ∀ (R : List (Nat × List UInt8)) (last : Nat), okR last R = true → ∀ q ∈ R, q.1 < 2147483648
  | [], _, _, q, hq => by simp at hq
  | p :: r, last, h, q, hq => by
    unfold okR at h
    rw [Bool.and_eq_true, decide_eq_true_eq] at h
    rcases List.mem_cons.1 hq with rfl | hq
    · omega
    · exact okR_lt r _ h.2 q hq
/-- Add, where all is well, its places counted from what is waited for. -/
theorem radd_rel {next o : Int} {R R' : List (Nat × List UInt8)} {D T : List UInt8} (hn : 0 ≤ next ∧ next < 4294967296) (ho : -2147483648 ≤ o ∧ o < 2147483648) (hR : okR 0 R = true) (hl : R.length ≤ 8) (hD : D.length ≤ 65536) (h1 : relP R o D = R') (h2 : relT R o D = T) (h3 : R'.length ≤ 8)
    (v vd : Value) (w : World) (hv : KPart.Sl w v (R.map (toP next))) (hd : Sl w vd D) :
    Calls Try.prog 20 #[.agg #[.int .i64 next, v], .int .i64 (addv next o), vd] w fun e w' => ∃ v' vt PL, e = .returned (.tuple #[.agg #[.int .i64 (addv next T.length), v'], vt, .int .i64 0]) ∧ PL.map Prod.fst = R'.map (toP next) ∧ DOwn KPart 58 w' w.heap.size v' PL ∧ w'.ownsRow w.heap.size 5 1 vt T.length (T.map B8) ∧ Apart vt v' PL ∧ Below w.heap.size w w' := by
  obtain ⟨f1, f2, f3⟩ := rel_facts (D := D) hn ho (okR_lt R 0 hR) h1 h2 h3
  have hb := addv_bd next o
  have hok : addOk next (R.map (toP next)) (addv next o) D = true := by
    unfold addOk
    rw [okR_bufB hn hR hl, decide_eq_true hb.1, decide_eq_true hb.2, decide_eq_true hD]; rfl
  have := radd_good v vd next (addv next o) (R.map (toP next)) D w hv hd hok
  rw [f1, f2, f3] at this
  exact this
theorem radd12_any (s n : Int) (w : World) : Calls Try.prog 18 #[.int .i64 s, .int .i64 n] w fun e w' => e = .returned (.int .i64 (addv s n)) ∧ w = w' := by
  go_enter Try.func18, Try.ntmps18
  go_wp2
  go_ret
  refine ⟨?_, rfl⟩
  show Ending.returned (Value.int .i64 _) = _
  rfl
theorem num14_any (n : Int) (w : World) : Calls Try.prog 16 #[.int .i64 n] w fun e w' => e = .returned (.int .i64 n) ∧ w = w' := by
  go_enter Try.func16, Try.ntmps16
  go_wp2
  go_ret
  exact ⟨rfl, rfl⟩
theorem k1 : okR 0 [] = true ∧ okR 0 [(2, [99])] = true := by decide +kernel
theorem ev_w1 : relP [] 2 [99] = [(2, [99])] ∧ relT [] 2 [99] = [] := by decide +kernel
theorem ev_w2 : relP [(2, [99])] 0 [97, 98] = [] ∧ relT [(2, [99])] 0 [97, 98] = [97, 98, 99] := by decide +kernel
theorem Sl.litm (w : World) (l : List UInt8) (e : TypeId) (fr : Nat × Nat) (hm : l.length ≤ maxLen) : Sl (w.alloc (.cells (l.map B8).toArray e fr)) (.slice (some ⟨w.heap.size, 0, none⟩) l.length l.length) l := by
  refine ⟨_, _, rfl, Nat.le_refl _, hm, by simp, fun _ => ⟨w.heap.size, 0, rfl, by simp, fun i x hi => ?_⟩⟩
  have hl := (List.getElem?_eq_some_iff.1 hi).1
  rw [Nat.zero_add]
  rw [World.cell?_alloc_mark, List.getElem?_toArray, List.getElem?_map, hi]; rfl
theorem kc2 (w : World) (o : Obj) (C : Array Value) (n c : Nat) : (convert 34 34 (.slice (some ⟨w.heap.size + 1, 0, none⟩) n c)).run Try.prog ((w.alloc o).alloc (.cells C 5)) = .ok (.slice (some ⟨w.heap.size + 1, 0, none⟩) n c) ((w.alloc o).alloc (.cells C 5 (C.size, C.size + 1))) := by
  have h := Lib.run_convert_bytes_const (P := Try.prog) (w.alloc o) 34 5 C n c Try.underlying34 Try.underlying5
  rw [World.size_alloc] at h
  exact h
theorem conv_of_sl {w : World} {v : Value} {l : List UInt8} (h : Sl w v l) (hne : l ≠ []) : (convert 34 9 v).run Try.prog w = .ok (.string ⟨l.toArray⟩) w := by
  obtain ⟨ao, cap, rfl, -, -, -, h4⟩ := h
  obtain ⟨b, off, rfl, -, hB⟩ := h4 hne
  refine run_convert_bytes_back w _ _ _ _ cap l Try.underlying34 Try.underlying5 Try.underlying9 fun j hj => ?_
  rw [add_off]
  exact hB j _ (List.getElem?_eq_getElem hj)
set_option maxRecDepth 100000 in
set_option maxHeartbeats 2000000 in
theorem wakes14_any (w : World) : Calls Try.prog 27 #[] w fun e w' => e = .returned (.bool true) ∧ Below w.heap.size w w' := by
  have A1 := Lib.hid (fun (v vd : Value) (W : World) (hv : KPart.Sl W v []) (hd : Sl W vd [99]) => radd_rel (next := 5) (o := 2) (R := []) (by decide) (by decide) k1.1 (by decide) (by decide) ev_w1.1 ev_w1.2 (by decide) v vd W hv hd)
  have A2 := Lib.hid (fun (v vd : Value) (W : World) (hv : KPart.Sl W v ([(2, [99])].map (toP 5))) (hd : Sl W vd [97, 98]) => radd_rel (next := 5) (o := 0) (R := [(2, [99])]) (by decide) (by decide) k1.2 (by decide) (by decide) ev_w2.1 ev_w2.2 (by decide) v vd W hv hd)
  simp only [show addv 5 (([] : List UInt8).length : Int) = 5 from rfl] at A1
  rw [show addv 5 2 = 7 from rfl] at A1
  rw [show addv 5 0 = 5 from rfl] at A2
  have kc := fun (w : World) (C : Array Value) (n c : Nat) => Lib.run_convert_bytes_const (P := Try.prog) w 34 5 C n c Try.underlying34 Try.underlying5
  have kcc := kc2
  go_enter Try.func27, Try.ntmps27
  go_wp2_with fail
  refine calls_gen (fun W => Below w.heap.size w W ∧ Sl W (.slice (some ⟨w.heap.size, 0, none⟩) 1 1) [99]) ⟨(Below.refl _ w).alloc (Nat.le_refl _) _, Sl.litm w [99] _ _ (by decide)⟩ ?_
  rintro W1 ⟨hb1, hs1⟩
  (with_reducible refine (A1.out _ _ W1 (DK.Sl.nil _ _) hs1).mono ?_)
  rintro e W2 ⟨v2, vt2, PL, rfl, hPL, hown, hto, -, hb2⟩
  have HB2 := Lib.hid (hb1.trans (hb2.mono hb1.size))
  have hs2 : KPart.Sl W2 v2 ([(2, [99])].map (toP 5)) := by have h := hown.of; rwa [hPL] at h
  have hpl : PL.length = 1 := by have := congrArg List.length hPL; simpa using this
  obtain ⟨b2, d2, rfl⟩ := hown.slice
  rw [hpl] at hs2 ⊢
  have HS2 := Lib.hid hs2
  obtain ⟨a2, c2, rfl⟩ := own_slice hto
  clear hb1 hs1 hown hto hb2 hPL hpl hs2 A1
  go_wp2_with fail
  refine calls_gen (fun W => Below w.heap.size w W ∧ KPart.Sl W (.slice b2 1 d2) ([(2, [99])].map (toP 5)) ∧ Sl W (.slice (some ⟨W2.heap.size + 1, 0, none⟩) 2 2) [97, 98]) ⟨(HB2.out.alloc HB2.out.size _).alloc (by have := HB2.out.size; simp; omega) _, HS2.out.below (((Below.refl _ _).alloc (Nat.le_refl _) _).alloc (by simp) _), by have h := Sl.litm (W2.alloc (.cells #[.int .i64 5, .slice b2 1 d2] 24)) [97, 98] 5 (2, 3) (by decide); rw [World.size_alloc] at h; exact h⟩ ?_
  rintro W3 ⟨hb3, hs3, hl3⟩
  (with_reducible refine (A2.out _ _ W3 hs3 hl3).mono ?_)
  rintro e W4 ⟨v4, vt4, P4, rfl, -, hown, hto, -, hb4⟩
  have HB4 := Lib.hid (hb3.trans (hb4.mono hb3.size))
  have HT4 := Lib.hid ((Sl.of_own hto).1)
  obtain ⟨a4, d4, rfl⟩ := hown.slice
  obtain ⟨x4, y4, rfl⟩ := own_slice hto
  clear hb3 hs3 hl3 hown hto hb4 A2
  have N0 := Lib.hid (fun W => num14_any 0 W)
  go_wp2_with fail
  refine calls_gen (fun W => Below w.heap.size w W ∧ Sl W (.slice x4 3 y4) [97, 98, 99]) ⟨HB4.out.alloc HB4.out.size _, HT4.out.alloc _⟩ ?_
  rintro W5 ⟨hb5, hs5⟩
  have hcv := conv_of_sl hs5 (by simp)
  have HB5 := Lib.hid hb5
  clear hb5 hs5
  go_wp2_with (first | ((with_reducible refine (N0.out _).mono ?_); rintro e w' ⟨rfl, rfl⟩))
  go_ret
  exact ⟨by first | rfl | simp, HB5.out⟩
end Go.Proofs.Ytjgbiffgmafhmaa
