/-
  The law TimerExact: whatever is done with any timer, each call answers what the page says; for every script, no condition.
-/
import Derived.Test.YtkljlgmidmlmlaaTimE
import Derived.RegionTactic
import Derived.Deep.RegionHeld3
import Derived.Deep.QuietTactic
import Derived.Deep.DeepCutAuto
namespace Go.Proofs.Ytkljlgmidmlmlaa
open Go.RowKit
/-- Where the script, the timer, and an act of the round lie. -/
def TSt (w W : World) (sl : Value) (t : Tm) (b o : Nat) (a n : Int) : Prop :=
  Below w.heap.size w W ∧ W.cell? ⟨w.heap.size, 4, none⟩ = some sl ∧ TmAt W (w.heap.size + 1) t ∧ b < W.heap.size ∧ W.cell? ⟨b, o, none⟩ = some (.int .i64 a) ∧ W.cell? ⟨b, o + 1, none⟩ = some (.int .i64 n) ∧ w.heap.size + 1 < W.heap.size
theorem TSt.below {w W W' : World} {sl : Value} {t : Tm} {b o : Nat} {a n : Int} (h : TSt w W sl t b o a n) (hb : Below W.heap.size W W') : TSt w W' sl t b o a n := by
  obtain ⟨h1, h2, h3, h4, h5, h6, h7⟩ := h
  exact ⟨h1.trans (hb.mono h1.size), (hb.cell (p := ⟨w.heap.size, 4, none⟩) (Nat.lt_of_succ_lt h7)).trans h2, h3.congr (hb.block _ h7), Nat.lt_of_lt_of_le h4 hb.size, (hb.cell (p := ⟨b, o, none⟩) h4).trans h5, (hb.cell (p := ⟨b, o + 1, none⟩) h4).trans h6, Nat.lt_of_lt_of_le h7 hb.size⟩
theorem TmAt.below {w w' : World} {b : Nat} {t : Tm} (h : TmAt w b t) (hb : Below w.heap.size w w') : TmAt w' b t := h.congr (hb.block _ h.cells.2.2)
set_option maxRecDepth 100000 in
set_option maxHeartbeats 40000000 in
theorem timerExact_any (t0 : Tm) (v : Value) (L : List (Int × Int)) (w : World) (hv : Acts15 w v L) :
    Calls Try.prog 8 #[.agg #[.bool t0.on, .int .i64 t0.left, .int .i64 t0.wait, .int .i64 t0.tries, v]] w fun e w' => e = .returned (.bool true) ∧ Below w.heap.size w w' := by
  obtain ⟨ao, cap, rfl, hlen, hB⟩ := hv
  have hlen' : L.length ≤ 9223372036854775807 := by simpa [maxLen] using hlen
  have HB := Lib.hid hB; clear hB hlen
  go_enter Try.func8, Try.ntmps8
  by_cases h300 : L.length ≤ 300
  · go_wp2
    go_loopw [4] (fun i wr => ∃ (k : Nat) (t : Tm), k ≤ L.length ∧ i = .int .i64 k ∧ Below w.heap.size w wr ∧ wr.cell? ⟨w.heap.size, 4, none⟩ = some (.slice ao L.length cap) ∧ TmAt wr (w.heap.size + 1) t) (fun i _ => L.length - (intOf i).toNat)
    case atStart =>
      refine ⟨0, t0, by omega, rfl, ((Below.refl _ w).alloc (Nat.le_refl _) _).alloc (by simp) _, by simp [go_sem], ?_⟩
      have := TmAt.new (w.alloc (.cells #[.bool t0.on, .int .i64 t0.left, .int .i64 t0.wait, .int .i64 t0.tries, .slice ao L.length cap] 53)) t0
      simpa using this
    case round =>
      obtain ⟨k, t, hk, rfl, hbl, hcell, hT⟩ := hrel
      by_cases hlt : k < L.length
      · by_cases h60 : k < 60
        · obtain ⟨b, off, rfl, hbw, hBB⟩ := HB.out (by intro h; simp [h] at hlt)
          obtain ⟨⟨a, n⟩, hq⟩ : ∃ q, L[k]? = some q := ⟨_, List.getElem?_eq_getElem hlt⟩
          obtain ⟨hc0, hc1, -, -⟩ := hBB k _ hq
          clear hBB hq
          dsimp only at hc0 hc1
          have d0 := (hbl.cell (p := ⟨b, off + k * 2, none⟩) hbw).trans hc0
          have d1 := (hbl.cell (p := ⟨b, off + k * 2 + 1, none⟩) hbw).trans hc1
          have hsz := hbl.size
          have hlt1 := hT.cells.2.2
          have S0 := Lib.hid (show TSt w wr (.slice (some ⟨b, off, none⟩) L.length cap) t b (off + k * 2) a n from ⟨hbl, hcell, hT, Nat.lt_of_lt_of_le hbw hsz, d0, d1, hlt1⟩)
          have FIN := Lib.hid (show ∀ (t' : Tm) W, Below w.heap.size w W → W.cell? ⟨w.heap.size, 4, none⟩ = some (.slice (some ⟨b, off, none⟩) L.length cap) → TmAt W (w.heap.size + 1) t' → ∃ (k' : Nat) (t : Tm), k' ≤ L.length ∧ (Value.int .i64 ((k : Int) + 1)) = .int .i64 k' ∧ Below w.heap.size w W ∧ W.cell? ⟨w.heap.size, 4, none⟩ = some (.slice (some ⟨b, off, none⟩) L.length cap) ∧ TmAt W (w.heap.size + 1) t from fun t' W h1 h2 h3 => ⟨k + 1, t', by omega, by go_num, h1, h2, h3⟩)
          obtain ⟨⟨c0, c1, c2, c3⟩, -, -⟩ := hT.cells
          have CK := Lib.hid (fun W => tcheck_any t W)
          have RK := Lib.hid (fun W => rtimer_any t W)
          simp only [Tm.v] at CK RK
          obtain ⟨on, l, wt, tr⟩ := t
          dsimp only at c0 c1 c2 c3 CK RK
          generalize hB : tv ⟨on, l, wt, tr⟩ = B at CK RK
          have HBV := Lib.hid hB
          clear hB hT hbl hc0 hc1 d0 d1
          cases B
          · simp only [Bool.false_eq_true, if_false] at CK
            go_wp2_with fail
            refine (RK.out _).mono ?_
            rintro e w1 ⟨rfl, rfl⟩
            go_wp2_with fail
            refine (CK.out _).mono ?_
            rintro e w1 ⟨rfl, rfl⟩
            have S1 := Lib.hid (S0.out.below (((Below.refl _ wr).alloc (Nat.le_refl _) (Tm.mk on l wt tr).o).alloc (by simp) (Tm.mk on l wt tr).o))
            clear c0 c1 c2 c3 RK CK S0 hcell
            go_wp2_with fail
            refine calls_gen (fun W => TSt w W (.slice (some ⟨b, off, none⟩) L.length cap) ⟨on, l, wt, tr⟩ b (off + k * 2) a n) S1.out ?_
            rintro W hS
            have S2 := Lib.hid hS
            clear S1 hS
            refine (num15_any _ _).mono ?_
            rintro e w' ⟨rfl, rfl⟩
            have p4 := S2.out.2.1; have eW0 := S2.out.2.2.2.2.1; have eW1 := S2.out.2.2.2.2.2.1
            by_cases ha0 : a = 0
            · subst ha0
              by_cases hn : 1 ≤ n ∧ n ≤ 48
              · obtain ⟨hn0, hn1⟩ := hn
                as_aux_lemma =>
                  go_wp2_with fail
                  go_at_call 27
                  refine (start_any n W hn0 hn1).mono ?_
                  rintro e w1 ⟨rfl, hb1⟩
                  simp only [Tm.v]
                  have S3 := Lib.hid (S2.out.below hb1)
                  have f4 := (S3.out.below (Below.refl _ _ |>.alloc (Nat.le_refl _) (.cells #[.bool true, .int .i64 n, .int .i64 n, .int .i64 0] 50))).2.1
                  have f1 := (S3.out.below (Below.refl _ _ |>.alloc (Nat.le_refl _) (.cells #[.bool true, .int .i64 n, .int .i64 n, .int .i64 0] 50))).2.2.2.2.2.1
                  clear S2 p4 eW0 eW1 hb1
                  go_wp2_with fail
                  refine wp_gen (fun W => TSt w W (.slice (some ⟨b, off, none⟩) L.length cap) ⟨on, l, wt, tr⟩ b (off + k * 2) 0 n ∧ TmAt W w1.heap.size ⟨true, n, n, 0⟩ ∧ w1.heap.size < W.heap.size) ⟨S3.out.below ((Below.refl _ _).alloc (Nat.le_refl _) _), TmAt.new w1 ⟨true, n, n, 0⟩, by simp⟩ ?_
                  rintro W2 ⟨hS4, hX2, hs2⟩
                  clear f4 f1 S3
                  have S4 := Lib.hid hS4
                  have h4 := hS4.2.1; have h1 := hS4.2.2.2.2.2.1
                  have hw2 := hS4.2.2.2.2.2.2; have hbw2 := hS4.2.2.2.1
                  have hw1 : w.heap.size < W2.heap.size := Nat.lt_of_succ_lt hw2
                  clear hS4
                  obtain ⟨⟨x0, x1, x2, x3⟩, -, -⟩ := hX2.cells
                  dsimp only at x0 x1 x2 x3
                  have A1 := Lib.hid (num15_any 0 W2.drew)
                  have A2 := Lib.hid (rstart_any n W2.drew)
                  simp only [Tm.v] at A2
                  clear hX2
                  have hgu := tmGuard

                  have hne := tmNe true n n 0
                  have hS0 := And.intro h4 (And.intro h1 (And.intro x0 (And.intro x1 (And.intro x2 x3))))
                  refine wp_region_held_drew (S := (fun W' => W'.cell? ⟨w.heap.size, 4, none⟩ = some (.slice (some ⟨b, off, none⟩) L.length cap) ∧ W'.cell? ⟨b, off + k * 2 + 1, none⟩ = some (.int .i64 n) ∧ W'.cell? ⟨w1.heap.size, 0, none⟩ = some (.bool true) ∧ W'.cell? ⟨w1.heap.size, 1, none⟩ = some (.int .i64 n) ∧ W'.cell? ⟨w1.heap.size, 2, none⟩ = some (.int .i64 n) ∧ W'.cell? ⟨w1.heap.size, 3, none⟩ = some (.int .i64 0))) (by kernel_rfl) hS0 (fun hHeld => ?_)
                  refine wpAnyH_take (i := 0) (oi := { dst := some 118, op := Go.Op.move (Go.Operand.tmp 9), type := 4, pos := "law.go:45", after := #[], guard := none }) (v := ?vv0) rfl (by kernel_rfl) (by kernel_rfl) (by kernel_rfl) (fun _ _ _ h => h) (Or.inl ⟨by rfl, ?hy0⟩) (by assumption) ?rest0
                  case hy0 => (intro w hSw; (try dsimp only at hSw); go_simp; (try with_reducible rfl))
                  try simp only [Act.put, List.setIfInBounds_toArray, List.set_cons_zero, List.set_cons_succ]
                  refine wpAnyH_take (i := 1) (oi := { dst := some 119, op := Go.Op.move (Go.Operand.tmp 8), type := 24, pos := "law.go:45", after := #[], guard := none }) (v := ?vv1) rfl (by kernel_rfl) (by kernel_rfl) (by kernel_rfl) (fun _ _ _ h => h) (Or.inl ⟨by rfl, ?hy1⟩) (by assumption) ?rest1
                  case hy1 => (intro w hSw; (try dsimp only at hSw); go_simp; (try with_reducible rfl))
                  try simp only [Act.put, List.setIfInBounds_toArray, List.set_cons_zero, List.set_cons_succ]
                  refine wpAnyH_ready (rs := [2]) (by kernel_rfl) (by simp) ?_
                  refine AllReadyH.cons (o := { dst := some 120, op := Go.Op.call { callee := Go.Callee.value (Go.Operand.func 25), args := #[Go.Operand.tmp 119], argTypes := #[24] }, type := 3, pos := "law.go:45", after := #[{ on := 1, ground := Go.Ground.data }], guard := none }) rfl (fun K hK => ?_) AllReadyH.nil
                  go_simp
                  with_reducible refine A1.out.mono ?_
                  rintro e w' ⟨rfl, rfl⟩
                  go_wp2_with fail
                  refine hK.out _ _ (by exact hS0) (fun hHeld => ?_)
                  clear hK K
                  try simp only [Act.put, List.setIfInBounds_toArray, List.set_cons_zero, List.set_cons_succ]
                  refine wpAnyH_take (i := 3) (oi := { dst := some 121, op := Go.Op.binOp Go.BinOp.eql 3 (Go.Operand.tmp 120) (Go.Operand.const (Go.Value.int Go.IntKind.i64 0)) 3, type := 4, pos := "law.go:45", after := #[{ on := 2, ground := Go.Ground.data }], guard := none }) (v := ?vv3) rfl (by kernel_rfl) (by kernel_rfl) (by kernel_rfl) (fun _ _ _ h => h) (Or.inl ⟨by rfl, ?hy3⟩) (by assumption) ?rest3
                  case hy3 => (intro w hSw; (try dsimp only at hSw); go_simp; (try with_reducible rfl))
                  try simp only [Act.put, List.setIfInBounds_toArray, List.set_cons_zero, List.set_cons_succ]
                  refine wpAnyH_take (i := 4) (oi := { dst := some 122, op := Go.Op.binOp Go.BinOp.neq 4 (Go.Operand.tmp 118) (Go.Operand.tmp 121) 4, type := 4, pos := "law.go:45", after := #[{ on := 0, ground := Go.Ground.data }, { on := 3, ground := Go.Ground.data }], guard := none }) (v := ?vv4) rfl (by kernel_rfl) (by kernel_rfl) (by kernel_rfl) (fun _ _ _ h => h) (Or.inl ⟨by rfl, ?hy4⟩) (by assumption) ?rest4
                  case hy4 => (intro w hSw; (try dsimp only at hSw); go_simp; (try with_reducible rfl))
                  try simp only [Act.put, List.setIfInBounds_toArray, List.set_cons_zero, List.set_cons_succ]
                  refine wpAnyH_take (i := 5) (oi := { dst := some 123, op := Go.Op.move (Go.Operand.tmp 122), type := 4, pos := "law.go:45", after := #[{ on := 4, ground := Go.Ground.data }, { on := 2, ground := Go.Ground.chain }], guard := none }) (v := ?vv5) rfl (by kernel_rfl) (by kernel_rfl) (by kernel_rfl) (fun _ _ _ h => h) (Or.inl ⟨by rfl, ?hy5⟩) (by assumption) ?rest5
                  case hy5 => (intro w hSw; (try dsimp only at hSw); go_simp; (try with_reducible rfl))
                  try simp only [Act.put, List.setIfInBounds_toArray, List.set_cons_zero, List.set_cons_succ]
                  refine wpAnyH_take (i := 6) (oi := { dst := some 124, op := Go.Op.move (Go.Operand.tmp 9), type := 4, pos := "law.go:45", after := #[{ on := 5, ground := Go.Ground.guard }], guard := some (5, false) }) (v := ?vv6) rfl (by kernel_rfl) (by kernel_rfl) (by kernel_rfl) (fun _ _ _ h => h) (Or.inl ⟨by rfl, ?hy6⟩) (by assumption) ?rest6
                  case hy6 => (intro w hSw; (try dsimp only at hSw); go_simp; (try with_reducible rfl))
                  try simp only [Act.put, List.setIfInBounds_toArray, List.set_cons_zero, List.set_cons_succ]
                  refine wpAnyH_take (i := 7) (oi := { dst := some 125, op := Go.Op.unOp Go.UnOp.not 4 (Go.Operand.tmp 124), type := 4, pos := "law.go:45", after := #[{ on := 6, ground := Go.Ground.data }, { on := 5, ground := Go.Ground.guard }], guard := some (5, false) }) (v := ?vv7) rfl (by kernel_rfl) (by kernel_rfl) (by kernel_rfl) (fun _ _ _ h => h) (Or.inl ⟨by rfl, ?hy7⟩) (by assumption) ?rest7
                  case hy7 => (intro w hSw; (try dsimp only at hSw); go_simp; (try with_reducible rfl))
                  try simp only [Act.put, List.setIfInBounds_toArray, List.set_cons_zero, List.set_cons_succ]
                  refine wpAnyH_take (i := 8) (oi := { dst := some 126, op := Go.Op.move (Go.Operand.tmp 125), type := 4, pos := "law.go:45", after := #[{ on := 7, ground := Go.Ground.data }, { on := 5, ground := Go.Ground.chain }, { on := 5, ground := Go.Ground.guard }], guard := some (5, false) }) (v := ?vv8) rfl (by kernel_rfl) (by kernel_rfl) (by kernel_rfl) (fun _ _ _ h => h) (Or.inl ⟨by rfl, ?hy8⟩) (by assumption) ?rest8
                  case hy8 => (intro w hSw; (try dsimp only at hSw); go_simp; (try with_reducible rfl))
                  try simp only [Act.put, List.setIfInBounds_toArray, List.set_cons_zero, List.set_cons_succ]
                  refine wpAnyH_take (i := 9) (oi := { dst := some 127, op := Go.Op.move (Go.Operand.tmp 8), type := 24, pos := "law.go:45", after := #[{ on := 8, ground := Go.Ground.guard }], guard := some (8, true) }) (v := undef) rfl (by kernel_rfl) (by kernel_rfl) (by kernel_rfl) (fun _ _ _ h => h) (Or.inr ⟨by rfl, rfl⟩) (by assumption) ?_
                  try simp only [Act.put, List.setIfInBounds_toArray, List.set_cons_zero, List.set_cons_succ]
                  refine wpAnyH_take (i := 10) (oi := { dst := some 128, op := Go.Op.call { callee := Go.Callee.value (Go.Operand.func 25), args := #[Go.Operand.tmp 127], argTypes := #[24] }, type := 3, pos := "law.go:45", after := #[{ on := 9, ground := Go.Ground.data }, { on := 8, ground := Go.Ground.chain }, { on := 8, ground := Go.Ground.guard }], guard := some (8, true) }) (v := undef) rfl (by kernel_rfl) (by kernel_rfl) (by kernel_rfl) (fun _ _ _ h => h) (Or.inr ⟨by rfl, rfl⟩) (by assumption) ?_
                  try simp only [Act.put, List.setIfInBounds_toArray, List.set_cons_zero, List.set_cons_succ]
                  refine wpAnyH_take (i := 11) (oi := { dst := some 129, op := Go.Op.binOp Go.BinOp.neq 3 (Go.Operand.tmp 128) (Go.Operand.const (Go.Value.int Go.IntKind.i64 1)) 3, type := 4, pos := "law.go:45", after := #[{ on := 10, ground := Go.Ground.data }, { on := 8, ground := Go.Ground.guard }], guard := some (8, true) }) (v := undef) rfl (by kernel_rfl) (by kernel_rfl) (by kernel_rfl) (fun _ _ _ h => h) (Or.inr ⟨by rfl, rfl⟩) (by assumption) ?_
                  try simp only [Act.put, List.setIfInBounds_toArray, List.set_cons_zero, List.set_cons_succ]
                  refine wpAnyH_take (i := 12) (oi := { dst := some 130, op := Go.Op.move (Go.Operand.tmp 129), type := 4, pos := "law.go:45", after := #[{ on := 11, ground := Go.Ground.data }, { on := 10, ground := Go.Ground.chain }, { on := 8, ground := Go.Ground.guard }], guard := some (8, true) }) (v := undef) rfl (by kernel_rfl) (by kernel_rfl) (by kernel_rfl) (fun _ _ _ h => h) (Or.inr ⟨by rfl, rfl⟩) (by assumption) ?_
                  try simp only [Act.put, List.setIfInBounds_toArray, List.set_cons_zero, List.set_cons_succ]
                  refine wpAnyH_take (i := 13) (oi := { dst := some 131, op := Go.Op.load 50 (Go.Operand.tmp 7), type := 50, pos := "law.go:45", after := #[{ on := 12, ground := Go.Ground.guard }], guard := some (12, false) }) (v := undef) rfl (by kernel_rfl) (by kernel_rfl) (by kernel_rfl) (fun _ _ _ h => h) (Or.inr ⟨by rfl, rfl⟩) (by assumption) ?_
                  try simp only [Act.put, List.setIfInBounds_toArray, List.set_cons_zero, List.set_cons_succ]
                  refine wpAnyH_take (i := 14) (oi := { dst := some 132, op := Go.Op.build 50 #[], type := 50, pos := "law.go:45", after := #[{ on := 12, ground := Go.Ground.guard }], guard := some (12, false) }) (v := undef) rfl (by kernel_rfl) (by kernel_rfl) (by kernel_rfl) (fun _ _ _ h => h) (Or.inr ⟨by rfl, rfl⟩) (by assumption) ?_
                  try simp only [Act.put, List.setIfInBounds_toArray, List.set_cons_zero, List.set_cons_succ]
                  refine wpAnyH_take (i := 15) (oi := { dst := some 133, op := Go.Op.binOp Go.BinOp.neq 50 (Go.Operand.tmp 131) (Go.Operand.tmp 132) 50, type := 4, pos := "law.go:45", after := #[{ on := 13, ground := Go.Ground.data }, { on := 14, ground := Go.Ground.data }, { on := 12, ground := Go.Ground.guard }], guard := some (12, false) }) (v := undef) rfl (by kernel_rfl) (by kernel_rfl) (by kernel_rfl) (fun _ _ _ h => h) (Or.inr ⟨by rfl, rfl⟩) (by assumption) ?_
                  try simp only [Act.put, List.setIfInBounds_toArray, List.set_cons_zero, List.set_cons_succ]
                  refine wpAnyH_take (i := 16) (oi := { dst := some 134, op := Go.Op.pick (Go.Operand.tmp 130) (Go.Operand.const (Go.Value.bool true)) (Go.Operand.tmp 133), type := 4, pos := "law.go:45", after := #[{ on := 12, ground := Go.Ground.data }, { on := 15, ground := Go.Ground.data }, { on := 8, ground := Go.Ground.guard }], guard := some (8, true) }) (v := undef) rfl (by kernel_rfl) (by kernel_rfl) (by kernel_rfl) (fun _ _ _ h => h) (Or.inr ⟨by rfl, rfl⟩) (by assumption) ?_
                  try simp only [Act.put, List.setIfInBounds_toArray, List.set_cons_zero, List.set_cons_succ]
                  refine wpAnyH_take (i := 17) (oi := { dst := some 135, op := Go.Op.pick (Go.Operand.tmp 126) (Go.Operand.tmp 134) (Go.Operand.const (Go.Value.bool false)), type := 4, pos := "law.go:45", after := #[{ on := 8, ground := Go.Ground.data }, { on := 16, ground := Go.Ground.data }, { on := 5, ground := Go.Ground.guard }], guard := some (5, false) }) (v := ?vv17) rfl (by kernel_rfl) (by kernel_rfl) (by kernel_rfl) (fun _ _ _ h => h) (Or.inl ⟨by rfl, ?hy17⟩) (by assumption) ?rest17
                  case hy17 => (intro w hSw; (try dsimp only at hSw); go_simp; (try with_reducible rfl))
                  try simp only [Act.put, List.setIfInBounds_toArray, List.set_cons_zero, List.set_cons_succ]
                  refine wpAnyH_take (i := 18) (oi := { dst := some 136, op := Go.Op.pick (Go.Operand.tmp 123) (Go.Operand.const (Go.Value.bool true)) (Go.Operand.tmp 135), type := 4, pos := "law.go:45", after := #[{ on := 5, ground := Go.Ground.data }, { on := 17, ground := Go.Ground.data }], guard := none }) (v := ?vv18) rfl (by kernel_rfl) (by kernel_rfl) (by kernel_rfl) (fun _ _ _ h => h) (Or.inl ⟨by rfl, ?hy18⟩) (by assumption) ?rest18
                  case hy18 => (intro w hSw; (try dsimp only at hSw); go_simp; (try with_reducible rfl))
                  try simp only [Act.put, List.setIfInBounds_toArray, List.set_cons_zero, List.set_cons_succ]
                  refine wpAnyH_take (i := 19) (oi := { dst := some 137, op := Go.Op.move (Go.Operand.tmp 136), type := 4, pos := "law.go:45", after := #[{ on := 18, ground := Go.Ground.data }, { on := 12, ground := Go.Ground.chain }], guard := none }) (v := ?vv19) rfl (by kernel_rfl) (by kernel_rfl) (by kernel_rfl) (fun _ _ _ h => h) (Or.inl ⟨by rfl, ?hy19⟩) (by assumption) ?rest19
                  case hy19 => (intro w hSw; (try dsimp only at hSw); go_simp; (try with_reducible rfl))
                  try simp only [Act.put, List.setIfInBounds_toArray, List.set_cons_zero, List.set_cons_succ]
                  refine wpAnyH_take (i := 20) (oi := { dst := some 138, op := Go.Op.move (Go.Operand.tmp 9), type := 4, pos := "law.go:45", after := #[{ on := 19, ground := Go.Ground.guard }], guard := some (19, false) }) (v := ?vv20) rfl (by kernel_rfl) (by kernel_rfl) (by kernel_rfl) (fun _ _ _ h => h) (Or.inl ⟨by rfl, ?hy20⟩) (by assumption) ?rest20
                  case hy20 => (intro w hSw; (try dsimp only at hSw); go_simp; (try with_reducible rfl))
                  try simp only [Act.put, List.setIfInBounds_toArray, List.set_cons_zero, List.set_cons_succ]
                  refine wpAnyH_take (i := 21) (oi := { dst := some 139, op := Go.Op.move (Go.Operand.tmp 138), type := 4, pos := "law.go:45", after := #[{ on := 20, ground := Go.Ground.data }, { on := 19, ground := Go.Ground.chain }, { on := 19, ground := Go.Ground.guard }], guard := some (19, false) }) (v := ?vv21) rfl (by kernel_rfl) (by kernel_rfl) (by kernel_rfl) (fun _ _ _ h => h) (Or.inl ⟨by rfl, ?hy21⟩) (by assumption) ?rest21
                  case hy21 => (intro w hSw; (try dsimp only at hSw); go_simp; (try with_reducible rfl))
                  try simp only [Act.put, List.setIfInBounds_toArray, List.set_cons_zero, List.set_cons_succ]
                  refine wpAnyH_take (i := 22) (oi := { dst := some 140, op := Go.Op.load 50 (Go.Operand.tmp 7), type := 50, pos := "law.go:45", after := #[{ on := 21, ground := Go.Ground.guard }], guard := some (21, true) }) (v := ?vv22) rfl (by kernel_rfl) (by kernel_rfl) (by kernel_rfl) (fun _ _ _ h => h) (Or.inl ⟨by rfl, ?hy22⟩) (by assumption) ?rest22
                  case hy22 => (intro w hSw; (try dsimp only at hSw); go_simp; (try with_reducible rfl))
                  try simp only [Act.put, List.setIfInBounds_toArray, List.set_cons_zero, List.set_cons_succ]
                  refine wpAnyH_take (i := 23) (oi := { dst := some 141, op := Go.Op.fieldAddr 53 (Go.Operand.tmp 1) 1, type := 0, pos := "law.go:45", after := #[{ on := 21, ground := Go.Ground.guard }], guard := some (21, true) }) (v := ?vv23) rfl (by kernel_rfl) (by kernel_rfl) (by kernel_rfl) (fun _ _ _ h => h) (Or.inl ⟨by rfl, ?hy23⟩) (by assumption) ?rest23
                  case hy23 => (intro w hSw; (try dsimp only at hSw); go_simp; (try with_reducible rfl))
                  try simp only [Act.put, List.setIfInBounds_toArray, List.set_cons_zero, List.set_cons_succ]
                  refine wpAnyH_take (i := 24) (oi := { dst := some 142, op := Go.Op.load 51 (Go.Operand.tmp 141), type := 51, pos := "law.go:45", after := #[{ on := 23, ground := Go.Ground.data }, { on := 21, ground := Go.Ground.guard }], guard := some (21, true) }) (v := ?vv24) rfl (by kernel_rfl) (by kernel_rfl) (by kernel_rfl) (fun _ _ _ h => h) (Or.inl ⟨by rfl, ?hy24⟩) (by assumption) ?rest24
                  case hy24 => (intro w hSw; (try dsimp only at hSw); go_simp; (try with_reducible rfl))
                  try simp only [Act.put, List.setIfInBounds_toArray, List.set_cons_zero, List.set_cons_succ]
                  refine wpAnyH_take (i := 25) (oi := { dst := some 143, op := Go.Op.move (Go.Operand.tmp 4), type := 3, pos := "law.go:45", after := #[{ on := 21, ground := Go.Ground.guard }], guard := some (21, true) }) (v := ?vv25) rfl (by kernel_rfl) (by kernel_rfl) (by kernel_rfl) (fun _ _ _ h => h) (Or.inl ⟨by rfl, ?hy25⟩) (by assumption) ?rest25
                  case hy25 => (intro w hSw; (try dsimp only at hSw); go_simp; (try with_reducible rfl))
                  try simp only [Act.put, List.setIfInBounds_toArray, List.set_cons_zero, List.set_cons_succ]
                  refine wpAnyH_take (i := 26) (oi := { dst := some 144, op := Go.Op.indexAddr 51 (Go.Operand.tmp 142) (Go.Operand.tmp 143), type := 0, pos := "law.go:45", after := #[{ on := 24, ground := Go.Ground.data }, { on := 25, ground := Go.Ground.data }, { on := 21, ground := Go.Ground.guard }], guard := some (21, true) }) (v := ?vv26) rfl (by kernel_rfl) (by kernel_rfl) (by kernel_rfl) (fun _ _ _ h => h) (Or.inl ⟨by rfl, ?hy26⟩) (by assumption) ?rest26
                  case hy26 => (intro w hSw; (try dsimp only at hSw); go_simp; (try with_reducible rfl))
                  try simp only [Act.put, List.setIfInBounds_toArray, List.set_cons_zero, List.set_cons_succ]
                  refine wpAnyH_take (i := 27) (oi := { dst := some 145, op := Go.Op.indexAddr 56 (Go.Operand.tmp 144) (Go.Operand.const (Go.Value.int Go.IntKind.i64 1)), type := 0, pos := "law.go:45", after := #[{ on := 26, ground := Go.Ground.data }, { on := 21, ground := Go.Ground.guard }], guard := some (21, true) }) (v := ?vv27) rfl (by kernel_rfl) (by kernel_rfl) (by kernel_rfl) (fun _ _ _ h => h) (Or.inl ⟨by rfl, ?hy27⟩) (by assumption) ?rest27
                  case hy27 => (intro w hSw; (try dsimp only at hSw); go_simp; (try with_reducible rfl))
                  try simp only [Act.put, List.setIfInBounds_toArray, List.set_cons_zero, List.set_cons_succ]
                  refine wpAnyH_take (i := 28) (oi := { dst := some 146, op := Go.Op.load 3 (Go.Operand.tmp 145), type := 3, pos := "law.go:45", after := #[{ on := 27, ground := Go.Ground.data }, { on := 21, ground := Go.Ground.guard }], guard := some (21, true) }) (v := ?vv28) rfl (by kernel_rfl) (by kernel_rfl) (by kernel_rfl) (fun _ _ _ h => h) (Or.inl ⟨by rfl, ?hy28⟩) (by assumption) ?rest28
                  case hy28 => (intro w hSw; (try dsimp only at hSw); go_simp; (try with_reducible rfl))
                  try simp only [Act.put, List.setIfInBounds_toArray, List.set_cons_zero, List.set_cons_succ]
                  refine wpAnyH_ready (rs := [29]) (by kernel_rfl) (by simp) ?_
                  refine AllReadyH.cons (o := { dst := some 147, op := Go.Op.call { callee := Go.Callee.value (Go.Operand.func 28), args := #[Go.Operand.tmp 146], argTypes := #[3] }, type := 50, pos := "law.go:45", after := #[{ on := 28, ground := Go.Ground.data }, { on := 21, ground := Go.Ground.chain }, { on := 21, ground := Go.Ground.guard }], guard := some (21, true) }) rfl (fun K hK => ?_) AllReadyH.nil
                  go_simp
                  with_reducible refine A2.out.mono ?_
                  rintro e w3 ⟨rfl, hb3⟩
                  have hkeep_29 := And.intro ((hb3.cell (p := ⟨w.heap.size, 4, none⟩) hw1).trans h4) (And.intro ((hb3.cell (p := ⟨b, off + k * 2 + 1, none⟩) hbw2).trans h1) (And.intro ((hb3.cell (p := ⟨w1.heap.size, 0, none⟩) hs2).trans x0) (And.intro ((hb3.cell (p := ⟨w1.heap.size, 1, none⟩) hs2).trans x1) (And.intro ((hb3.cell (p := ⟨w1.heap.size, 2, none⟩) hs2).trans x2) ((hb3.cell (p := ⟨w1.heap.size, 3, none⟩) hs2).trans x3)))))
                  go_wp2_with fail
                  refine hK.out _ _ (by exact hkeep_29) (fun hHeld => ?_)
                  clear hK K
                  try simp only [Act.put, List.setIfInBounds_toArray, List.set_cons_zero, List.set_cons_succ]
                  refine wpAnyH_take (i := 30) (oi := { dst := some 148, op := Go.Op.binOp Go.BinOp.neq 50 (Go.Operand.tmp 140) (Go.Operand.tmp 147) 50, type := 4, pos := "law.go:45", after := #[{ on := 22, ground := Go.Ground.data }, { on := 29, ground := Go.Ground.data }, { on := 21, ground := Go.Ground.guard }], guard := some (21, true) }) (v := ?vv30) rfl (by kernel_rfl) (by kernel_rfl) (by kernel_rfl) (fun _ _ _ h => h) (Or.inl ⟨by rfl, ?hy30⟩) (by assumption) ?rest30
                  case hy30 => (intro w hSw; (try dsimp only at hSw); go_simp; (try with_reducible rfl))
                  try simp only [Act.put, List.setIfInBounds_toArray, List.set_cons_zero, List.set_cons_succ]
                  refine wpAnyH_take (i := 31) (oi := { dst := some 149, op := Go.Op.pick (Go.Operand.tmp 139) (Go.Operand.tmp 148) (Go.Operand.const (Go.Value.bool false)), type := 4, pos := "law.go:45", after := #[{ on := 21, ground := Go.Ground.data }, { on := 30, ground := Go.Ground.data }, { on := 19, ground := Go.Ground.guard }], guard := some (19, false) }) (v := ?vv31) rfl (by kernel_rfl) (by kernel_rfl) (by kernel_rfl) (fun _ _ _ h => h) (Or.inl ⟨by rfl, ?hy31⟩) (by assumption) ?rest31
                  case hy31 => (intro w hSw; (try dsimp only at hSw); go_simp; (try with_reducible rfl))
                  try simp only [Act.put, List.setIfInBounds_toArray, List.set_cons_zero, List.set_cons_succ]
                  refine wpAnyH_take (i := 32) (oi := { dst := some 150, op := Go.Op.pick (Go.Operand.tmp 137) (Go.Operand.const (Go.Value.bool true)) (Go.Operand.tmp 149), type := 4, pos := "law.go:45", after := #[{ on := 19, ground := Go.Ground.data }, { on := 31, ground := Go.Ground.data }], guard := none }) (v := ?vv32) rfl (by kernel_rfl) (by kernel_rfl) (by kernel_rfl) (fun _ _ _ h => h) (Or.inl ⟨by rfl, ?hy32⟩) (by assumption) ?rest32
                  case hy32 => (intro w hSw; (try dsimp only at hSw); go_simp; (try with_reducible rfl))
                  try simp only [Act.put, List.setIfInBounds_toArray, List.set_cons_zero, List.set_cons_succ]
                  refine wpAnyH_done (by kernel_rfl) ?_ _
                  all_goals
                    have hb3' : Below W2.heap.size W2 w3 := ((Below.refl _ W2).drew).trans hb3
                    have S5 := S4.out.below hb3'
                    obtain ⟨⟨c0, c1, c2, c3⟩, hfr3, -⟩ := S5.2.2.1.cells
                    dsimp only at c0 c1 c2 c3
                    have f0 := hfr3 0
                    have f1 := hfr3 1
                    have f2 := hfr3 2
                    have f3 := hfr3 3
                    have hX := ((((Below.refl (w.heap.size + 1) w3).setCell (p := ⟨w.heap.size + 1, 0, none⟩) (Nat.le_refl _) (.bool true)).setCell (p := ⟨w.heap.size + 1, 1, none⟩) (Nat.le_refl _) (.int .i64 n)).setCell (p := ⟨w.heap.size + 1, 2, none⟩) (Nat.le_refl _) (.int .i64 n)).setCell (p := ⟨w.heap.size + 1, 3, none⟩) (Nat.le_refl _) (.int .i64 0)
                    have HR := Lib.hid (FIN.out ⟨true, n, n, 0⟩ _ (S5.1.trans (hX.mono (Nat.le_succ _))) ((hX.cell (p := ⟨w.heap.size, 4, none⟩) (Nat.lt_succ_self _)).trans S5.2.1) (S5.2.2.1.put true n n 0))
                    clear hX hfr3 hb3 hb3' S5 S4 A1 A2 hne x0 x1 x2 x3 h4 h1
                    go_wp2
                    go_roundw
                    case rel => exact HR.out
                    case measure => simp [intOf]; omega
              · have hbad : n < 1 ∨ 48 < n := by omega
                have hc : n < 1 ∨ (1 ≤ n ∧ 48 < n) := by omega
                clear hn
                rcases hc with hc | ⟨hc, hc2⟩
                all_goals
                  try (have hd48 : decide (n ≤ 48) = false := by simp; omega)
                  as_aux_lemma =>
                    go_wp2_with fail
                    go_at_call 27
                    refine (start_bad n W hbad).mono ?_
                    rintro e w1 ⟨rfl, hb1⟩
                    simp only [Tm.v]
                    have S3 := Lib.hid (S2.out.below hb1)
                    have f4 := (S3.out.below (Below.refl _ _ |>.alloc (Nat.le_refl _) (.cells #[.bool false, .int .i64 0, .int .i64 0, .int .i64 0] 50))).2.1
                    have f1 := (S3.out.below (Below.refl _ _ |>.alloc (Nat.le_refl _) (.cells #[.bool false, .int .i64 0, .int .i64 0, .int .i64 0] 50))).2.2.2.2.2.1
                    clear S2 p4 eW0 eW1 hb1
                    go_wp2_with fail
                    refine wp_gen (fun W => TSt w W (.slice (some ⟨b, off, none⟩) L.length cap) ⟨on, l, wt, tr⟩ b (off + k * 2) 0 n ∧ TmAt W w1.heap.size ⟨false, 0, 0, 0⟩ ∧ w1.heap.size < W.heap.size) ⟨S3.out.below ((Below.refl _ _).alloc (Nat.le_refl _) _), TmAt.new w1 ⟨false, 0, 0, 0⟩, by simp⟩ ?_
                    rintro W2 ⟨hS4, hX2, hs2⟩
                    clear f4 f1 S3
                    have S4 := Lib.hid hS4
                    have h4 := hS4.2.1; have h1 := hS4.2.2.2.2.2.1
                    have hw2 := hS4.2.2.2.2.2.2; have hbw2 := hS4.2.2.2.1
                    have hw1 : w.heap.size < W2.heap.size := Nat.lt_of_succ_lt hw2
                    clear hS4
                    obtain ⟨⟨x0, x1, x2, x3⟩, -, -⟩ := hX2.cells
                    dsimp only at x0 x1 x2 x3
                    have A1 := Lib.hid (num15_any 1 W2.drew)
                    have A2 := Lib.hid (rstart_any n W2.drew)
                    simp only [Tm.v] at A2
                    clear hX2
                    have hgu := tmGuard
                    have hund : undef = Value.tuple #[] := rfl
                    have hne := tmNe false 0 0 0
                    have N1 := Lib.hid (show ∀ m, Calls Try.prog 25 #[.int .i64 1] (W2.drewN m) fun e w' => e = .returned (.int .i64 1) ∧ W2.drewN m = w' from fun m => num15_any 1 _)
                    go_quiet (first | (with_reducible exact quiet_eq (N1.out _)))
                    clear hund hne A1 A2 x0 x1 x2 x3 N1
                    go_wp2
                    go_roundw
                    case rel => exact FIN.out ⟨on, l, wt, tr⟩ _ (bdrew S4.out.1 _) S4.out.2.1 S4.out.2.2.1
                    case measure => simp [intOf]; omega
            · have ha0' : (a == 0) = false := by simpa using ha0
              by_cases ha1 : a = 1
              · subst ha1
                have hno : tv ⟨on, l, wt, tr⟩ = false ∨ (⟨on, l, wt, tr⟩ : Tm).on = false := .inl HBV.out
                as_aux_lemma =>
                  have KM := Lib.hid (fun W => back_bad ⟨on, l, wt, tr⟩ W hno)
                  simp only [Tm.v] at KM
                  have N1 := Lib.hid num15_any
                  have hgu := tmGuard
                  have hne := tmNe false 0 0 0
                  obtain ⟨⟨c0, c1, c2, c3⟩, -, -⟩ := S2.out.2.2.1.cells
                  dsimp only at c0 c1 c2 c3
                  have b0 : Below W.heap.size W (W.alloc (.cells #[.bool false, .int .i64 0, .int .i64 0, .int .i64 0] 50)) := (Below.refl _ W).alloc (Nat.le_refl _) _
                  obtain ⟨⟨m0, m1, m2, m3⟩, -, -⟩ := (S2.out.below b0).2.2.1.cells
                  dsimp only at m0 m1 m2 m3
                  have hwW := S2.out.2.2.2.2.2.2
                  go_wp2_with fail
                  clear c0 c1 c2 c3 p4 eW0 eW1 m0 m1 m2 m3
                  refine calls_gen (fun W5 => TSt w W5 (.slice (some ⟨b, off, none⟩) L.length cap) ⟨on, l, wt, tr⟩ b (off + k * 2) 1 n ∧ TmAt W5 W.heap.size ⟨false, 0, 0, 0⟩) ⟨S2.out.below b0, TmAt.new W ⟨false, 0, 0, 0⟩⟩ ?_
                  rintro W5 ⟨hS5, hz5⟩
                  have S5 := Lib.hid hS5
                  clear hS5 b0
                  refine (KM.out _).mono ?_
                  rintro e w6 ⟨rfl, hb6⟩
                  have S6 := Lib.hid (S5.out.below hb6)
                  have hz6 := hz5.below hb6
                  have b6 : Below w6.heap.size w6 (w6.alloc (.cells #[.bool false, .int .i64 0, .int .i64 0, .int .i64 0] 50)) := (Below.refl _ w6).alloc (Nat.le_refl _) _
                  have ny := TmAt.new w6 ⟨false, 0, 0, 0⟩
                  have S7 := Lib.hid (S6.out.below b6)
                  have hz7 := hz6.below b6
                  clear hz5 hb6 S5 hz6 KM
                  obtain ⟨⟨q0, q1, q2, q3⟩, -, -⟩ := hz7.cells
                  dsimp only at q0 q1 q2 q3
                  obtain ⟨⟨y0, y1, y2, y3⟩, -, -⟩ := ny.cells
                  dsimp only at y0 y1 y2 y3
                  have HR := Lib.hid (FIN.out ⟨on, l, wt, tr⟩ _ S7.out.1 S7.out.2.1 S7.out.2.2.1)
                  clear S7 S6 b6 ny hz7
                  go_wp2_with (first | ((with_reducible refine (N1.out _ _).mono ?_); rintro e w' ⟨rfl, rfl⟩))
                  go_roundw
                  case rel => exact HR.out
                  case measure => simp [intOf]; omega
              · have ha1' : (a == 1) = false := by simpa using ha1
                clear ha0 ha1
                as_aux_lemma =>
                  have KM := Lib.hid (fun W => tick_bad ⟨on, l, wt, tr⟩ W HBV.out)
                  simp only [Tm.v] at KM
                  have N1 := Lib.hid num15_any
                  have hgu := tmGuard
                  have hne := tmNe false 0 0 0
                  obtain ⟨⟨c0, c1, c2, c3⟩, -, -⟩ := S2.out.2.2.1.cells
                  dsimp only at c0 c1 c2 c3
                  have b0 : Below W.heap.size W (W.alloc (.cells #[.bool false, .int .i64 0, .int .i64 0, .int .i64 0] 50)) := (Below.refl _ W).alloc (Nat.le_refl _) _
                  obtain ⟨⟨m0, m1, m2, m3⟩, -, -⟩ := (S2.out.below b0).2.2.1.cells
                  dsimp only at m0 m1 m2 m3
                  have hwW := S2.out.2.2.2.2.2.2
                  go_wp2_with fail
                  clear c0 c1 c2 c3 p4 eW0 eW1 m0 m1 m2 m3
                  refine calls_gen (fun W5 => TSt w W5 (.slice (some ⟨b, off, none⟩) L.length cap) ⟨on, l, wt, tr⟩ b (off + k * 2) a n ∧ TmAt W5 W.heap.size ⟨false, 0, 0, 0⟩) ⟨S2.out.below b0, TmAt.new W ⟨false, 0, 0, 0⟩⟩ ?_
                  rintro W5 ⟨hS5, hz5⟩
                  have S5 := Lib.hid hS5
                  clear hS5 b0
                  refine (KM.out _).mono ?_
                  rintro e w6 ⟨rfl, hb6⟩
                  have S6 := Lib.hid (S5.out.below hb6)
                  have hz6 := hz5.below hb6
                  have b6 : Below w6.heap.size w6 (w6.alloc (.cells #[.bool false, .int .i64 0, .int .i64 0, .int .i64 0] 50)) := (Below.refl _ w6).alloc (Nat.le_refl _) _
                  have ny := TmAt.new w6 ⟨false, 0, 0, 0⟩
                  have S7 := Lib.hid (S6.out.below b6)
                  have hz7 := hz6.below b6
                  clear hz5 hb6 S5 hz6 KM
                  obtain ⟨⟨q0, q1, q2, q3⟩, -, -⟩ := hz7.cells
                  dsimp only at q0 q1 q2 q3
                  obtain ⟨⟨y0, y1, y2, y3⟩, -, -⟩ := ny.cells
                  dsimp only at y0 y1 y2 y3
                  have HR := Lib.hid (FIN.out ⟨on, l, wt, tr⟩ _ S7.out.1 S7.out.2.1 S7.out.2.2.1)
                  clear S7 S6 b6 ny hz7
                  go_wp2_with (first | ((with_reducible refine (N1.out _ _).mono ?_); rintro e w' ⟨rfl, rfl⟩))
                  go_roundw
                  case rel => exact HR.out
                  case measure => simp [intOf]; omega
          · simp only [if_true] at CK
            go_wp2_with fail
            refine (RK.out _).mono ?_
            rintro e w1 ⟨rfl, rfl⟩
            go_wp2_with fail
            refine (CK.out _).mono ?_
            rintro e w1 ⟨rfl, rfl⟩
            have S1 := Lib.hid (S0.out.below (((Below.refl _ wr).alloc (Nat.le_refl _) (Tm.mk on l wt tr).o).alloc (by simp) (Tm.mk on l wt tr).o))
            clear c0 c1 c2 c3 RK CK S0 hcell
            go_wp2_with fail
            refine calls_gen (fun W => TSt w W (.slice (some ⟨b, off, none⟩) L.length cap) ⟨on, l, wt, tr⟩ b (off + k * 2) a n) S1.out ?_
            rintro W hS
            have S2 := Lib.hid hS
            clear S1 hS
            refine (num15_any _ _).mono ?_
            rintro e w' ⟨rfl, rfl⟩
            have p4 := S2.out.2.1; have eW0 := S2.out.2.2.2.2.1; have eW1 := S2.out.2.2.2.2.2.1
            by_cases ha0 : a = 0
            · subst ha0
              by_cases hn : 1 ≤ n ∧ n ≤ 48
              · obtain ⟨hn0, hn1⟩ := hn
                as_aux_lemma =>
                  go_wp2_with fail
                  go_at_call 27
                  refine (start_any n W hn0 hn1).mono ?_
                  rintro e w1 ⟨rfl, hb1⟩
                  simp only [Tm.v]
                  have S3 := Lib.hid (S2.out.below hb1)
                  have f4 := (S3.out.below (Below.refl _ _ |>.alloc (Nat.le_refl _) (.cells #[.bool true, .int .i64 n, .int .i64 n, .int .i64 0] 50))).2.1
                  have f1 := (S3.out.below (Below.refl _ _ |>.alloc (Nat.le_refl _) (.cells #[.bool true, .int .i64 n, .int .i64 n, .int .i64 0] 50))).2.2.2.2.2.1
                  clear S2 p4 eW0 eW1 hb1
                  go_wp2_with fail
                  refine wp_gen (fun W => TSt w W (.slice (some ⟨b, off, none⟩) L.length cap) ⟨on, l, wt, tr⟩ b (off + k * 2) 0 n ∧ TmAt W w1.heap.size ⟨true, n, n, 0⟩ ∧ w1.heap.size < W.heap.size) ⟨S3.out.below ((Below.refl _ _).alloc (Nat.le_refl _) _), TmAt.new w1 ⟨true, n, n, 0⟩, by simp⟩ ?_
                  rintro W2 ⟨hS4, hX2, hs2⟩
                  clear f4 f1 S3
                  have S4 := Lib.hid hS4
                  have h4 := hS4.2.1; have h1 := hS4.2.2.2.2.2.1
                  have hw2 := hS4.2.2.2.2.2.2; have hbw2 := hS4.2.2.2.1
                  have hw1 : w.heap.size < W2.heap.size := Nat.lt_of_succ_lt hw2
                  clear hS4
                  obtain ⟨⟨x0, x1, x2, x3⟩, -, -⟩ := hX2.cells
                  dsimp only at x0 x1 x2 x3
                  have A1 := Lib.hid (num15_any 0 W2.drew)
                  have A2 := Lib.hid (rstart_any n W2.drew)
                  simp only [Tm.v] at A2
                  clear hX2
                  have hgu := tmGuard

                  have hne := tmNe true n n 0
                  have hS0 := And.intro h4 (And.intro h1 (And.intro x0 (And.intro x1 (And.intro x2 x3))))
                  refine wp_region_held_drew (S := (fun W' => W'.cell? ⟨w.heap.size, 4, none⟩ = some (.slice (some ⟨b, off, none⟩) L.length cap) ∧ W'.cell? ⟨b, off + k * 2 + 1, none⟩ = some (.int .i64 n) ∧ W'.cell? ⟨w1.heap.size, 0, none⟩ = some (.bool true) ∧ W'.cell? ⟨w1.heap.size, 1, none⟩ = some (.int .i64 n) ∧ W'.cell? ⟨w1.heap.size, 2, none⟩ = some (.int .i64 n) ∧ W'.cell? ⟨w1.heap.size, 3, none⟩ = some (.int .i64 0))) (by kernel_rfl) hS0 (fun hHeld => ?_)
                  refine wpAnyH_take (i := 0) (oi := { dst := some 118, op := Go.Op.move (Go.Operand.tmp 9), type := 4, pos := "law.go:45", after := #[], guard := none }) (v := ?vvB0) rfl (by kernel_rfl) (by kernel_rfl) (by kernel_rfl) (fun _ _ _ h => h) (Or.inl ⟨by rfl, ?hyB0⟩) (by assumption) ?restB0
                  case hyB0 => (intro w hSw; (try dsimp only at hSw); go_simp; (try with_reducible rfl))
                  try simp only [Act.put, List.setIfInBounds_toArray, List.set_cons_zero, List.set_cons_succ]
                  refine wpAnyH_take (i := 1) (oi := { dst := some 119, op := Go.Op.move (Go.Operand.tmp 8), type := 24, pos := "law.go:45", after := #[], guard := none }) (v := ?vvB1) rfl (by kernel_rfl) (by kernel_rfl) (by kernel_rfl) (fun _ _ _ h => h) (Or.inl ⟨by rfl, ?hyB1⟩) (by assumption) ?restB1
                  case hyB1 => (intro w hSw; (try dsimp only at hSw); go_simp; (try with_reducible rfl))
                  try simp only [Act.put, List.setIfInBounds_toArray, List.set_cons_zero, List.set_cons_succ]
                  refine wpAnyH_ready (rs := [2]) (by kernel_rfl) (by simp) ?_
                  refine AllReadyH.cons (o := { dst := some 120, op := Go.Op.call { callee := Go.Callee.value (Go.Operand.func 25), args := #[Go.Operand.tmp 119], argTypes := #[24] }, type := 3, pos := "law.go:45", after := #[{ on := 1, ground := Go.Ground.data }], guard := none }) rfl (fun K hK => ?_) AllReadyH.nil
                  go_simp
                  with_reducible refine A1.out.mono ?_
                  rintro e w' ⟨rfl, rfl⟩
                  go_wp2_with fail
                  refine hK.out _ _ (by exact hS0) (fun hHeld => ?_)
                  clear hK K
                  try simp only [Act.put, List.setIfInBounds_toArray, List.set_cons_zero, List.set_cons_succ]
                  refine wpAnyH_take (i := 3) (oi := { dst := some 121, op := Go.Op.binOp Go.BinOp.eql 3 (Go.Operand.tmp 120) (Go.Operand.const (Go.Value.int Go.IntKind.i64 0)) 3, type := 4, pos := "law.go:45", after := #[{ on := 2, ground := Go.Ground.data }], guard := none }) (v := ?vvB3) rfl (by kernel_rfl) (by kernel_rfl) (by kernel_rfl) (fun _ _ _ h => h) (Or.inl ⟨by rfl, ?hyB3⟩) (by assumption) ?restB3
                  case hyB3 => (intro w hSw; (try dsimp only at hSw); go_simp; (try with_reducible rfl))
                  try simp only [Act.put, List.setIfInBounds_toArray, List.set_cons_zero, List.set_cons_succ]
                  refine wpAnyH_take (i := 4) (oi := { dst := some 122, op := Go.Op.binOp Go.BinOp.neq 4 (Go.Operand.tmp 118) (Go.Operand.tmp 121) 4, type := 4, pos := "law.go:45", after := #[{ on := 0, ground := Go.Ground.data }, { on := 3, ground := Go.Ground.data }], guard := none }) (v := ?vvB4) rfl (by kernel_rfl) (by kernel_rfl) (by kernel_rfl) (fun _ _ _ h => h) (Or.inl ⟨by rfl, ?hyB4⟩) (by assumption) ?restB4
                  case hyB4 => (intro w hSw; (try dsimp only at hSw); go_simp; (try with_reducible rfl))
                  try simp only [Act.put, List.setIfInBounds_toArray, List.set_cons_zero, List.set_cons_succ]
                  refine wpAnyH_take (i := 5) (oi := { dst := some 123, op := Go.Op.move (Go.Operand.tmp 122), type := 4, pos := "law.go:45", after := #[{ on := 4, ground := Go.Ground.data }, { on := 2, ground := Go.Ground.chain }], guard := none }) (v := ?vvB5) rfl (by kernel_rfl) (by kernel_rfl) (by kernel_rfl) (fun _ _ _ h => h) (Or.inl ⟨by rfl, ?hyB5⟩) (by assumption) ?restB5
                  case hyB5 => (intro w hSw; (try dsimp only at hSw); go_simp; (try with_reducible rfl))
                  try simp only [Act.put, List.setIfInBounds_toArray, List.set_cons_zero, List.set_cons_succ]
                  refine wpAnyH_take (i := 6) (oi := { dst := some 124, op := Go.Op.move (Go.Operand.tmp 9), type := 4, pos := "law.go:45", after := #[{ on := 5, ground := Go.Ground.guard }], guard := some (5, false) }) (v := ?vvB6) rfl (by kernel_rfl) (by kernel_rfl) (by kernel_rfl) (fun _ _ _ h => h) (Or.inl ⟨by rfl, ?hyB6⟩) (by assumption) ?restB6
                  case hyB6 => (intro w hSw; (try dsimp only at hSw); go_simp; (try with_reducible rfl))
                  try simp only [Act.put, List.setIfInBounds_toArray, List.set_cons_zero, List.set_cons_succ]
                  refine wpAnyH_take (i := 7) (oi := { dst := some 125, op := Go.Op.unOp Go.UnOp.not 4 (Go.Operand.tmp 124), type := 4, pos := "law.go:45", after := #[{ on := 6, ground := Go.Ground.data }, { on := 5, ground := Go.Ground.guard }], guard := some (5, false) }) (v := ?vvB7) rfl (by kernel_rfl) (by kernel_rfl) (by kernel_rfl) (fun _ _ _ h => h) (Or.inl ⟨by rfl, ?hyB7⟩) (by assumption) ?restB7
                  case hyB7 => (intro w hSw; (try dsimp only at hSw); go_simp; (try with_reducible rfl))
                  try simp only [Act.put, List.setIfInBounds_toArray, List.set_cons_zero, List.set_cons_succ]
                  refine wpAnyH_take (i := 8) (oi := { dst := some 126, op := Go.Op.move (Go.Operand.tmp 125), type := 4, pos := "law.go:45", after := #[{ on := 7, ground := Go.Ground.data }, { on := 5, ground := Go.Ground.chain }, { on := 5, ground := Go.Ground.guard }], guard := some (5, false) }) (v := ?vvB8) rfl (by kernel_rfl) (by kernel_rfl) (by kernel_rfl) (fun _ _ _ h => h) (Or.inl ⟨by rfl, ?hyB8⟩) (by assumption) ?restB8
                  case hyB8 => (intro w hSw; (try dsimp only at hSw); go_simp; (try with_reducible rfl))
                  try simp only [Act.put, List.setIfInBounds_toArray, List.set_cons_zero, List.set_cons_succ]
                  refine wpAnyH_take (i := 9) (oi := { dst := some 127, op := Go.Op.move (Go.Operand.tmp 8), type := 24, pos := "law.go:45", after := #[{ on := 8, ground := Go.Ground.guard }], guard := some (8, true) }) (v := undef) rfl (by kernel_rfl) (by kernel_rfl) (by kernel_rfl) (fun _ _ _ h => h) (Or.inr ⟨by rfl, rfl⟩) (by assumption) ?_
                  try simp only [Act.put, List.setIfInBounds_toArray, List.set_cons_zero, List.set_cons_succ]
                  refine wpAnyH_take (i := 10) (oi := { dst := some 128, op := Go.Op.call { callee := Go.Callee.value (Go.Operand.func 25), args := #[Go.Operand.tmp 127], argTypes := #[24] }, type := 3, pos := "law.go:45", after := #[{ on := 9, ground := Go.Ground.data }, { on := 8, ground := Go.Ground.chain }, { on := 8, ground := Go.Ground.guard }], guard := some (8, true) }) (v := undef) rfl (by kernel_rfl) (by kernel_rfl) (by kernel_rfl) (fun _ _ _ h => h) (Or.inr ⟨by rfl, rfl⟩) (by assumption) ?_
                  try simp only [Act.put, List.setIfInBounds_toArray, List.set_cons_zero, List.set_cons_succ]
                  refine wpAnyH_take (i := 11) (oi := { dst := some 129, op := Go.Op.binOp Go.BinOp.neq 3 (Go.Operand.tmp 128) (Go.Operand.const (Go.Value.int Go.IntKind.i64 1)) 3, type := 4, pos := "law.go:45", after := #[{ on := 10, ground := Go.Ground.data }, { on := 8, ground := Go.Ground.guard }], guard := some (8, true) }) (v := undef) rfl (by kernel_rfl) (by kernel_rfl) (by kernel_rfl) (fun _ _ _ h => h) (Or.inr ⟨by rfl, rfl⟩) (by assumption) ?_
                  try simp only [Act.put, List.setIfInBounds_toArray, List.set_cons_zero, List.set_cons_succ]
                  refine wpAnyH_take (i := 12) (oi := { dst := some 130, op := Go.Op.move (Go.Operand.tmp 129), type := 4, pos := "law.go:45", after := #[{ on := 11, ground := Go.Ground.data }, { on := 10, ground := Go.Ground.chain }, { on := 8, ground := Go.Ground.guard }], guard := some (8, true) }) (v := undef) rfl (by kernel_rfl) (by kernel_rfl) (by kernel_rfl) (fun _ _ _ h => h) (Or.inr ⟨by rfl, rfl⟩) (by assumption) ?_
                  try simp only [Act.put, List.setIfInBounds_toArray, List.set_cons_zero, List.set_cons_succ]
                  refine wpAnyH_take (i := 13) (oi := { dst := some 131, op := Go.Op.load 50 (Go.Operand.tmp 7), type := 50, pos := "law.go:45", after := #[{ on := 12, ground := Go.Ground.guard }], guard := some (12, false) }) (v := undef) rfl (by kernel_rfl) (by kernel_rfl) (by kernel_rfl) (fun _ _ _ h => h) (Or.inr ⟨by rfl, rfl⟩) (by assumption) ?_
                  try simp only [Act.put, List.setIfInBounds_toArray, List.set_cons_zero, List.set_cons_succ]
                  refine wpAnyH_take (i := 14) (oi := { dst := some 132, op := Go.Op.build 50 #[], type := 50, pos := "law.go:45", after := #[{ on := 12, ground := Go.Ground.guard }], guard := some (12, false) }) (v := undef) rfl (by kernel_rfl) (by kernel_rfl) (by kernel_rfl) (fun _ _ _ h => h) (Or.inr ⟨by rfl, rfl⟩) (by assumption) ?_
                  try simp only [Act.put, List.setIfInBounds_toArray, List.set_cons_zero, List.set_cons_succ]
                  refine wpAnyH_take (i := 15) (oi := { dst := some 133, op := Go.Op.binOp Go.BinOp.neq 50 (Go.Operand.tmp 131) (Go.Operand.tmp 132) 50, type := 4, pos := "law.go:45", after := #[{ on := 13, ground := Go.Ground.data }, { on := 14, ground := Go.Ground.data }, { on := 12, ground := Go.Ground.guard }], guard := some (12, false) }) (v := undef) rfl (by kernel_rfl) (by kernel_rfl) (by kernel_rfl) (fun _ _ _ h => h) (Or.inr ⟨by rfl, rfl⟩) (by assumption) ?_
                  try simp only [Act.put, List.setIfInBounds_toArray, List.set_cons_zero, List.set_cons_succ]
                  refine wpAnyH_take (i := 16) (oi := { dst := some 134, op := Go.Op.pick (Go.Operand.tmp 130) (Go.Operand.const (Go.Value.bool true)) (Go.Operand.tmp 133), type := 4, pos := "law.go:45", after := #[{ on := 12, ground := Go.Ground.data }, { on := 15, ground := Go.Ground.data }, { on := 8, ground := Go.Ground.guard }], guard := some (8, true) }) (v := undef) rfl (by kernel_rfl) (by kernel_rfl) (by kernel_rfl) (fun _ _ _ h => h) (Or.inr ⟨by rfl, rfl⟩) (by assumption) ?_
                  try simp only [Act.put, List.setIfInBounds_toArray, List.set_cons_zero, List.set_cons_succ]
                  refine wpAnyH_take (i := 17) (oi := { dst := some 135, op := Go.Op.pick (Go.Operand.tmp 126) (Go.Operand.tmp 134) (Go.Operand.const (Go.Value.bool false)), type := 4, pos := "law.go:45", after := #[{ on := 8, ground := Go.Ground.data }, { on := 16, ground := Go.Ground.data }, { on := 5, ground := Go.Ground.guard }], guard := some (5, false) }) (v := ?vvB17) rfl (by kernel_rfl) (by kernel_rfl) (by kernel_rfl) (fun _ _ _ h => h) (Or.inl ⟨by rfl, ?hyB17⟩) (by assumption) ?restB17
                  case hyB17 => (intro w hSw; (try dsimp only at hSw); go_simp; (try with_reducible rfl))
                  try simp only [Act.put, List.setIfInBounds_toArray, List.set_cons_zero, List.set_cons_succ]
                  refine wpAnyH_take (i := 18) (oi := { dst := some 136, op := Go.Op.pick (Go.Operand.tmp 123) (Go.Operand.const (Go.Value.bool true)) (Go.Operand.tmp 135), type := 4, pos := "law.go:45", after := #[{ on := 5, ground := Go.Ground.data }, { on := 17, ground := Go.Ground.data }], guard := none }) (v := ?vvB18) rfl (by kernel_rfl) (by kernel_rfl) (by kernel_rfl) (fun _ _ _ h => h) (Or.inl ⟨by rfl, ?hyB18⟩) (by assumption) ?restB18
                  case hyB18 => (intro w hSw; (try dsimp only at hSw); go_simp; (try with_reducible rfl))
                  try simp only [Act.put, List.setIfInBounds_toArray, List.set_cons_zero, List.set_cons_succ]
                  refine wpAnyH_take (i := 19) (oi := { dst := some 137, op := Go.Op.move (Go.Operand.tmp 136), type := 4, pos := "law.go:45", after := #[{ on := 18, ground := Go.Ground.data }, { on := 12, ground := Go.Ground.chain }], guard := none }) (v := ?vvB19) rfl (by kernel_rfl) (by kernel_rfl) (by kernel_rfl) (fun _ _ _ h => h) (Or.inl ⟨by rfl, ?hyB19⟩) (by assumption) ?restB19
                  case hyB19 => (intro w hSw; (try dsimp only at hSw); go_simp; (try with_reducible rfl))
                  try simp only [Act.put, List.setIfInBounds_toArray, List.set_cons_zero, List.set_cons_succ]
                  refine wpAnyH_take (i := 20) (oi := { dst := some 138, op := Go.Op.move (Go.Operand.tmp 9), type := 4, pos := "law.go:45", after := #[{ on := 19, ground := Go.Ground.guard }], guard := some (19, false) }) (v := ?vvB20) rfl (by kernel_rfl) (by kernel_rfl) (by kernel_rfl) (fun _ _ _ h => h) (Or.inl ⟨by rfl, ?hyB20⟩) (by assumption) ?restB20
                  case hyB20 => (intro w hSw; (try dsimp only at hSw); go_simp; (try with_reducible rfl))
                  try simp only [Act.put, List.setIfInBounds_toArray, List.set_cons_zero, List.set_cons_succ]
                  refine wpAnyH_take (i := 21) (oi := { dst := some 139, op := Go.Op.move (Go.Operand.tmp 138), type := 4, pos := "law.go:45", after := #[{ on := 20, ground := Go.Ground.data }, { on := 19, ground := Go.Ground.chain }, { on := 19, ground := Go.Ground.guard }], guard := some (19, false) }) (v := ?vvB21) rfl (by kernel_rfl) (by kernel_rfl) (by kernel_rfl) (fun _ _ _ h => h) (Or.inl ⟨by rfl, ?hyB21⟩) (by assumption) ?restB21
                  case hyB21 => (intro w hSw; (try dsimp only at hSw); go_simp; (try with_reducible rfl))
                  try simp only [Act.put, List.setIfInBounds_toArray, List.set_cons_zero, List.set_cons_succ]
                  refine wpAnyH_take (i := 22) (oi := { dst := some 140, op := Go.Op.load 50 (Go.Operand.tmp 7), type := 50, pos := "law.go:45", after := #[{ on := 21, ground := Go.Ground.guard }], guard := some (21, true) }) (v := ?vvB22) rfl (by kernel_rfl) (by kernel_rfl) (by kernel_rfl) (fun _ _ _ h => h) (Or.inl ⟨by rfl, ?hyB22⟩) (by assumption) ?restB22
                  case hyB22 => (intro w hSw; (try dsimp only at hSw); go_simp; (try with_reducible rfl))
                  try simp only [Act.put, List.setIfInBounds_toArray, List.set_cons_zero, List.set_cons_succ]
                  refine wpAnyH_take (i := 23) (oi := { dst := some 141, op := Go.Op.fieldAddr 53 (Go.Operand.tmp 1) 1, type := 0, pos := "law.go:45", after := #[{ on := 21, ground := Go.Ground.guard }], guard := some (21, true) }) (v := ?vvB23) rfl (by kernel_rfl) (by kernel_rfl) (by kernel_rfl) (fun _ _ _ h => h) (Or.inl ⟨by rfl, ?hyB23⟩) (by assumption) ?restB23
                  case hyB23 => (intro w hSw; (try dsimp only at hSw); go_simp; (try with_reducible rfl))
                  try simp only [Act.put, List.setIfInBounds_toArray, List.set_cons_zero, List.set_cons_succ]
                  refine wpAnyH_take (i := 24) (oi := { dst := some 142, op := Go.Op.load 51 (Go.Operand.tmp 141), type := 51, pos := "law.go:45", after := #[{ on := 23, ground := Go.Ground.data }, { on := 21, ground := Go.Ground.guard }], guard := some (21, true) }) (v := ?vvB24) rfl (by kernel_rfl) (by kernel_rfl) (by kernel_rfl) (fun _ _ _ h => h) (Or.inl ⟨by rfl, ?hyB24⟩) (by assumption) ?restB24
                  case hyB24 => (intro w hSw; (try dsimp only at hSw); go_simp; (try with_reducible rfl))
                  try simp only [Act.put, List.setIfInBounds_toArray, List.set_cons_zero, List.set_cons_succ]
                  refine wpAnyH_take (i := 25) (oi := { dst := some 143, op := Go.Op.move (Go.Operand.tmp 4), type := 3, pos := "law.go:45", after := #[{ on := 21, ground := Go.Ground.guard }], guard := some (21, true) }) (v := ?vvB25) rfl (by kernel_rfl) (by kernel_rfl) (by kernel_rfl) (fun _ _ _ h => h) (Or.inl ⟨by rfl, ?hyB25⟩) (by assumption) ?restB25
                  case hyB25 => (intro w hSw; (try dsimp only at hSw); go_simp; (try with_reducible rfl))
                  try simp only [Act.put, List.setIfInBounds_toArray, List.set_cons_zero, List.set_cons_succ]
                  refine wpAnyH_take (i := 26) (oi := { dst := some 144, op := Go.Op.indexAddr 51 (Go.Operand.tmp 142) (Go.Operand.tmp 143), type := 0, pos := "law.go:45", after := #[{ on := 24, ground := Go.Ground.data }, { on := 25, ground := Go.Ground.data }, { on := 21, ground := Go.Ground.guard }], guard := some (21, true) }) (v := ?vvB26) rfl (by kernel_rfl) (by kernel_rfl) (by kernel_rfl) (fun _ _ _ h => h) (Or.inl ⟨by rfl, ?hyB26⟩) (by assumption) ?restB26
                  case hyB26 => (intro w hSw; (try dsimp only at hSw); go_simp; (try with_reducible rfl))
                  try simp only [Act.put, List.setIfInBounds_toArray, List.set_cons_zero, List.set_cons_succ]
                  refine wpAnyH_take (i := 27) (oi := { dst := some 145, op := Go.Op.indexAddr 56 (Go.Operand.tmp 144) (Go.Operand.const (Go.Value.int Go.IntKind.i64 1)), type := 0, pos := "law.go:45", after := #[{ on := 26, ground := Go.Ground.data }, { on := 21, ground := Go.Ground.guard }], guard := some (21, true) }) (v := ?vvB27) rfl (by kernel_rfl) (by kernel_rfl) (by kernel_rfl) (fun _ _ _ h => h) (Or.inl ⟨by rfl, ?hyB27⟩) (by assumption) ?restB27
                  case hyB27 => (intro w hSw; (try dsimp only at hSw); go_simp; (try with_reducible rfl))
                  try simp only [Act.put, List.setIfInBounds_toArray, List.set_cons_zero, List.set_cons_succ]
                  refine wpAnyH_take (i := 28) (oi := { dst := some 146, op := Go.Op.load 3 (Go.Operand.tmp 145), type := 3, pos := "law.go:45", after := #[{ on := 27, ground := Go.Ground.data }, { on := 21, ground := Go.Ground.guard }], guard := some (21, true) }) (v := ?vvB28) rfl (by kernel_rfl) (by kernel_rfl) (by kernel_rfl) (fun _ _ _ h => h) (Or.inl ⟨by rfl, ?hyB28⟩) (by assumption) ?restB28
                  case hyB28 => (intro w hSw; (try dsimp only at hSw); go_simp; (try with_reducible rfl))
                  try simp only [Act.put, List.setIfInBounds_toArray, List.set_cons_zero, List.set_cons_succ]
                  refine wpAnyH_ready (rs := [29]) (by kernel_rfl) (by simp) ?_
                  refine AllReadyH.cons (o := { dst := some 147, op := Go.Op.call { callee := Go.Callee.value (Go.Operand.func 28), args := #[Go.Operand.tmp 146], argTypes := #[3] }, type := 50, pos := "law.go:45", after := #[{ on := 28, ground := Go.Ground.data }, { on := 21, ground := Go.Ground.chain }, { on := 21, ground := Go.Ground.guard }], guard := some (21, true) }) rfl (fun K hK => ?_) AllReadyH.nil
                  go_simp
                  with_reducible refine A2.out.mono ?_
                  rintro e w3 ⟨rfl, hb3⟩
                  have hkeep_29 := And.intro ((hb3.cell (p := ⟨w.heap.size, 4, none⟩) hw1).trans h4) (And.intro ((hb3.cell (p := ⟨b, off + k * 2 + 1, none⟩) hbw2).trans h1) (And.intro ((hb3.cell (p := ⟨w1.heap.size, 0, none⟩) hs2).trans x0) (And.intro ((hb3.cell (p := ⟨w1.heap.size, 1, none⟩) hs2).trans x1) (And.intro ((hb3.cell (p := ⟨w1.heap.size, 2, none⟩) hs2).trans x2) ((hb3.cell (p := ⟨w1.heap.size, 3, none⟩) hs2).trans x3)))))
                  go_wp2_with fail
                  refine hK.out _ _ (by exact hkeep_29) (fun hHeld => ?_)
                  clear hK K
                  try simp only [Act.put, List.setIfInBounds_toArray, List.set_cons_zero, List.set_cons_succ]
                  refine wpAnyH_take (i := 30) (oi := { dst := some 148, op := Go.Op.binOp Go.BinOp.neq 50 (Go.Operand.tmp 140) (Go.Operand.tmp 147) 50, type := 4, pos := "law.go:45", after := #[{ on := 22, ground := Go.Ground.data }, { on := 29, ground := Go.Ground.data }, { on := 21, ground := Go.Ground.guard }], guard := some (21, true) }) (v := ?vvB30) rfl (by kernel_rfl) (by kernel_rfl) (by kernel_rfl) (fun _ _ _ h => h) (Or.inl ⟨by rfl, ?hyB30⟩) (by assumption) ?restB30
                  case hyB30 => (intro w hSw; (try dsimp only at hSw); go_simp; (try with_reducible rfl))
                  try simp only [Act.put, List.setIfInBounds_toArray, List.set_cons_zero, List.set_cons_succ]
                  refine wpAnyH_take (i := 31) (oi := { dst := some 149, op := Go.Op.pick (Go.Operand.tmp 139) (Go.Operand.tmp 148) (Go.Operand.const (Go.Value.bool false)), type := 4, pos := "law.go:45", after := #[{ on := 21, ground := Go.Ground.data }, { on := 30, ground := Go.Ground.data }, { on := 19, ground := Go.Ground.guard }], guard := some (19, false) }) (v := ?vvB31) rfl (by kernel_rfl) (by kernel_rfl) (by kernel_rfl) (fun _ _ _ h => h) (Or.inl ⟨by rfl, ?hyB31⟩) (by assumption) ?restB31
                  case hyB31 => (intro w hSw; (try dsimp only at hSw); go_simp; (try with_reducible rfl))
                  try simp only [Act.put, List.setIfInBounds_toArray, List.set_cons_zero, List.set_cons_succ]
                  refine wpAnyH_take (i := 32) (oi := { dst := some 150, op := Go.Op.pick (Go.Operand.tmp 137) (Go.Operand.const (Go.Value.bool true)) (Go.Operand.tmp 149), type := 4, pos := "law.go:45", after := #[{ on := 19, ground := Go.Ground.data }, { on := 31, ground := Go.Ground.data }], guard := none }) (v := ?vvB32) rfl (by kernel_rfl) (by kernel_rfl) (by kernel_rfl) (fun _ _ _ h => h) (Or.inl ⟨by rfl, ?hyB32⟩) (by assumption) ?restB32
                  case hyB32 => (intro w hSw; (try dsimp only at hSw); go_simp; (try with_reducible rfl))
                  try simp only [Act.put, List.setIfInBounds_toArray, List.set_cons_zero, List.set_cons_succ]
                  refine wpAnyH_done (by kernel_rfl) ?_ _
                  all_goals
                    have hb3' : Below W2.heap.size W2 w3 := ((Below.refl _ W2).drew).trans hb3
                    have S5 := S4.out.below hb3'
                    obtain ⟨⟨c0, c1, c2, c3⟩, hfr3, -⟩ := S5.2.2.1.cells
                    dsimp only at c0 c1 c2 c3
                    have f0 := hfr3 0
                    have f1 := hfr3 1
                    have f2 := hfr3 2
                    have f3 := hfr3 3
                    have hX := ((((Below.refl (w.heap.size + 1) w3).setCell (p := ⟨w.heap.size + 1, 0, none⟩) (Nat.le_refl _) (.bool true)).setCell (p := ⟨w.heap.size + 1, 1, none⟩) (Nat.le_refl _) (.int .i64 n)).setCell (p := ⟨w.heap.size + 1, 2, none⟩) (Nat.le_refl _) (.int .i64 n)).setCell (p := ⟨w.heap.size + 1, 3, none⟩) (Nat.le_refl _) (.int .i64 0)
                    have HR := Lib.hid (FIN.out ⟨true, n, n, 0⟩ _ (S5.1.trans (hX.mono (Nat.le_succ _))) ((hX.cell (p := ⟨w.heap.size, 4, none⟩) (Nat.lt_succ_self _)).trans S5.2.1) (S5.2.2.1.put true n n 0))
                    clear hX hfr3 hb3 hb3' S5 S4 A1 A2 hne x0 x1 x2 x3 h4 h1
                    go_wp2
                    go_roundw
                    case rel => exact HR.out
                    case measure => simp [intOf]; omega
              · have hbad : n < 1 ∨ 48 < n := by omega
                have hc : n < 1 ∨ (1 ≤ n ∧ 48 < n) := by omega
                clear hn
                rcases hc with hc | ⟨hc, hc2⟩
                all_goals
                  try (have hd48 : decide (n ≤ 48) = false := by simp; omega)
                  as_aux_lemma =>
                    go_wp2_with fail
                    go_at_call 27
                    refine (start_bad n W hbad).mono ?_
                    rintro e w1 ⟨rfl, hb1⟩
                    simp only [Tm.v]
                    have S3 := Lib.hid (S2.out.below hb1)
                    have f4 := (S3.out.below (Below.refl _ _ |>.alloc (Nat.le_refl _) (.cells #[.bool false, .int .i64 0, .int .i64 0, .int .i64 0] 50))).2.1
                    have f1 := (S3.out.below (Below.refl _ _ |>.alloc (Nat.le_refl _) (.cells #[.bool false, .int .i64 0, .int .i64 0, .int .i64 0] 50))).2.2.2.2.2.1
                    clear S2 p4 eW0 eW1 hb1
                    go_wp2_with fail
                    refine wp_gen (fun W => TSt w W (.slice (some ⟨b, off, none⟩) L.length cap) ⟨on, l, wt, tr⟩ b (off + k * 2) 0 n ∧ TmAt W w1.heap.size ⟨false, 0, 0, 0⟩ ∧ w1.heap.size < W.heap.size) ⟨S3.out.below ((Below.refl _ _).alloc (Nat.le_refl _) _), TmAt.new w1 ⟨false, 0, 0, 0⟩, by simp⟩ ?_
                    rintro W2 ⟨hS4, hX2, hs2⟩
                    clear f4 f1 S3
                    have S4 := Lib.hid hS4
                    have h4 := hS4.2.1; have h1 := hS4.2.2.2.2.2.1
                    have hw2 := hS4.2.2.2.2.2.2; have hbw2 := hS4.2.2.2.1
                    have hw1 : w.heap.size < W2.heap.size := Nat.lt_of_succ_lt hw2
                    clear hS4
                    obtain ⟨⟨x0, x1, x2, x3⟩, -, -⟩ := hX2.cells
                    dsimp only at x0 x1 x2 x3
                    have A1 := Lib.hid (num15_any 1 W2.drew)
                    have A2 := Lib.hid (rstart_any n W2.drew)
                    simp only [Tm.v] at A2
                    clear hX2
                    have hgu := tmGuard
                    have hund : undef = Value.tuple #[] := rfl
                    have hne := tmNe false 0 0 0
                    have N1 := Lib.hid (show ∀ m, Calls Try.prog 25 #[.int .i64 1] (W2.drewN m) fun e w' => e = .returned (.int .i64 1) ∧ W2.drewN m = w' from fun m => num15_any 1 _)
                    go_quiet (first | (with_reducible exact quiet_eq (N1.out _)))
                    clear hund hne A1 A2 x0 x1 x2 x3 N1
                    go_wp2
                    go_roundw
                    case rel => exact FIN.out ⟨on, l, wt, tr⟩ _ (bdrew S4.out.1 _) S4.out.2.1 S4.out.2.2.1
                    case measure => simp [intOf]; omega
            · have ha0' : (a == 0) = false := by simpa using ha0
              by_cases ha1 : a = 1
              · subst ha1
                cases on
                · have hno : tv ⟨false, l, wt, tr⟩ = false ∨ (⟨false, l, wt, tr⟩ : Tm).on = false := .inr rfl
                  as_aux_lemma =>
                    have KM := Lib.hid (fun W => back_bad ⟨false, l, wt, tr⟩ W hno)
                    simp only [Tm.v] at KM
                    have N1 := Lib.hid num15_any
                    have hgu := tmGuard
                    have hne := tmNe false 0 0 0
                    obtain ⟨⟨c0, c1, c2, c3⟩, -, -⟩ := S2.out.2.2.1.cells
                    dsimp only at c0 c1 c2 c3
                    have b0 : Below W.heap.size W (W.alloc (.cells #[.bool false, .int .i64 0, .int .i64 0, .int .i64 0] 50)) := (Below.refl _ W).alloc (Nat.le_refl _) _
                    obtain ⟨⟨m0, m1, m2, m3⟩, -, -⟩ := (S2.out.below b0).2.2.1.cells
                    dsimp only at m0 m1 m2 m3
                    have hwW := S2.out.2.2.2.2.2.2
                    go_wp2_with fail
                    clear c0 c1 c2 c3 p4 eW0 eW1 m0 m1 m2 m3
                    refine calls_gen (fun W5 => TSt w W5 (.slice (some ⟨b, off, none⟩) L.length cap) ⟨false, l, wt, tr⟩ b (off + k * 2) 1 n ∧ TmAt W5 W.heap.size ⟨false, 0, 0, 0⟩) ⟨S2.out.below b0, TmAt.new W ⟨false, 0, 0, 0⟩⟩ ?_
                    rintro W5 ⟨hS5, hz5⟩
                    have S5 := Lib.hid hS5
                    clear hS5 b0
                    refine (KM.out _).mono ?_
                    rintro e w6 ⟨rfl, hb6⟩
                    have S6 := Lib.hid (S5.out.below hb6)
                    have hz6 := hz5.below hb6
                    have b6 : Below w6.heap.size w6 (w6.alloc (.cells #[.bool false, .int .i64 0, .int .i64 0, .int .i64 0] 50)) := (Below.refl _ w6).alloc (Nat.le_refl _) _
                    have ny := TmAt.new w6 ⟨false, 0, 0, 0⟩
                    have S7 := Lib.hid (S6.out.below b6)
                    have hz7 := hz6.below b6
                    clear hz5 hb6 S5 hz6 KM
                    obtain ⟨⟨q0, q1, q2, q3⟩, -, -⟩ := hz7.cells
                    dsimp only at q0 q1 q2 q3
                    obtain ⟨⟨y0, y1, y2, y3⟩, -, -⟩ := ny.cells
                    dsimp only at y0 y1 y2 y3
                    have HR := Lib.hid (FIN.out ⟨false, l, wt, tr⟩ _ S7.out.1 S7.out.2.1 S7.out.2.2.1)
                    clear S7 S6 b6 ny hz7
                    go_wp2_with (first | ((with_reducible refine (N1.out _ _).mono ?_); rintro e w' ⟨rfl, rfl⟩))
                    go_roundw
                    case rel => exact HR.out
                    case measure => simp [intOf]; omega
                · by_cases htr : tr = 8
                  · subst htr
                    as_aux_lemma =>
                      have KR := Lib.hid (fun W => rback_any ⟨true, l, wt, 8⟩ W HBV.out rfl)
                      have KM := Lib.hid (fun W => back_any ⟨true, l, wt, 8⟩ W HBV.out rfl)
                      simp only [Tm.v, if_true] at KR KM
                      have N1 := Lib.hid num15_any
                      have hgu := tmGuard
                      have hne := tmNe false 0 0 0
                      obtain ⟨⟨c0, c1, c2, c3⟩, -, -⟩ := S2.out.2.2.1.cells
                      dsimp only at c0 c1 c2 c3
                      have b0 : Below W.heap.size W (W.alloc (.cells #[.bool false, .int .i64 0, .int .i64 0, .int .i64 0] 50)) := (Below.refl _ W).alloc (Nat.le_refl _) _
                      obtain ⟨⟨m0, m1, m2, m3⟩, -, -⟩ := (S2.out.below b0).2.2.1.cells
                      dsimp only at m0 m1 m2 m3
                      have hwW := S2.out.2.2.2.2.2.2
                      go_wp2_with fail
                      clear c0 c1 c2 c3 p4 eW0 eW1 m0 m1 m2 m3
                      refine calls_gen (fun W1 => TSt w W1 (.slice (some ⟨b, off, none⟩) L.length cap) ⟨true, l, wt, 8⟩ b (off + k * 2) 1 n ∧ TmAt W1 W.heap.size ⟨false, 0, 0, 0⟩ ∧ Below W.heap.size W W1 ∧ W.heap.size < W1.heap.size) ⟨S2.out.below b0, TmAt.new W ⟨false, 0, 0, 0⟩, b0, by simp⟩ ?_
                      rintro W1 ⟨hS3, hz1, hb1, hg1⟩
                      have S3 := Lib.hid hS3
                      clear hS3 b0
                      refine (KR.out _).mono ?_
                      rintro e w2 ⟨rfl, hb2⟩
                      have S4 := Lib.hid (S3.out.below hb2)
                      have hz2 := hz1.below hb2
                      obtain ⟨⟨q0, q1, q2, q3⟩, hfz, -⟩ := hz2.cells
                      dsimp only at q0 q1 q2 q3
                      have g0 := hfz 0
                      have g1 := hfz 1
                      have g2 := hfz 2
                      have g3 := hfz 3
                      have hgz := hz2.cells.2.2
                      have hT4 := S4.out.2.2.1
                      have hput := ((((Below.refl W.heap.size w2).setCell (p := ⟨W.heap.size, 0, none⟩) (Nat.le_refl _) (.bool true)).setCell (p := ⟨W.heap.size, 1, none⟩) (Nat.le_refl _) (.int .i64 l)).setCell (p := ⟨W.heap.size, 2, none⟩) (Nat.le_refl _) (.int .i64 wt)).setCell (p := ⟨W.heap.size, 3, none⟩) (Nat.le_refl _) (.int .i64 8)
                      have hpz := hz2.put true l wt 8
                      have P5 := Lib.hid (show TSt w _ (.slice (some ⟨b, off, none⟩) L.length cap) ⟨true, l, wt, 8⟩ b (off + k * 2) 1 n from ⟨(S4.out.1).trans (hput.mono S2.out.1.size), (hput.cell (p := ⟨w.heap.size, 4, none⟩) (Nat.lt_of_succ_lt S2.out.2.2.2.2.2.2)).trans S4.out.2.1, hT4.congr (hput.block _ S2.out.2.2.2.2.2.2), Nat.lt_of_lt_of_le S4.out.2.2.2.1 hput.size, (hput.cell (p := ⟨b, off + k * 2, none⟩) S2.out.2.2.2.1).trans S4.out.2.2.2.2.1, (hput.cell (p := ⟨b, off + k * 2 + 1, none⟩) S2.out.2.2.2.1).trans S4.out.2.2.2.2.2.1, Nat.lt_of_lt_of_le S4.out.2.2.2.2.2.2 hput.size⟩)
                      have PZ := Lib.hid hpz
                      obtain ⟨⟨c0, c1, c2, c3⟩, -, -⟩ := P5.out.2.2.1.cells
                      dsimp only at c0 c1 c2 c3
                      clear hz1 hz2 hb1 hb2 hfz hpz S3 hT4 KR
                      go_wp2_with fail
                      clear c0 c1 c2 c3 q0 q1 q2 q3 g0 g1 g2 g3
                      refine calls_gen (fun W5 => TSt w W5 (.slice (some ⟨b, off, none⟩) L.length cap) ⟨true, l, wt, 8⟩ b (off + k * 2) 1 n ∧ TmAt W5 W.heap.size ⟨true, l, wt, 8⟩) ⟨P5.out, PZ.out⟩ ?_
                      rintro W5 ⟨hS5, hz5⟩
                      have S5 := Lib.hid hS5
                      clear hS5 P5 PZ hput S4
                      refine (KM.out _).mono ?_
                      rintro e w6 ⟨rfl, hb6⟩
                      have S6 := Lib.hid (S5.out.below hb6)
                      have hz6 := hz5.below hb6
                      have b6 : Below w6.heap.size w6 (w6.alloc (.cells #[.bool false, .int .i64 0, .int .i64 0, .int .i64 0] 50)) := (Below.refl _ w6).alloc (Nat.le_refl _) _
                      have ny := TmAt.new w6 ⟨false, 0, 0, 0⟩
                      have S7 := Lib.hid (S6.out.below b6)
                      have hz7 := hz6.below b6
                      clear hz5 hb6 S5 hz6 KM
                      obtain ⟨⟨q0, q1, q2, q3⟩, -, -⟩ := hz7.cells
                      dsimp only at q0 q1 q2 q3
                      obtain ⟨⟨y0, y1, y2, y3⟩, -, -⟩ := ny.cells
                      dsimp only at y0 y1 y2 y3
                      have HR := Lib.hid (FIN.out ⟨true, l, wt, 8⟩ _ S7.out.1 S7.out.2.1 S7.out.2.2.1)
                      clear S7 S6 b6 ny hz7
                      go_wp2_with (first | ((with_reducible refine (N1.out _ _).mono ?_); rintro e w' ⟨rfl, rfl⟩))
                      go_roundw
                      case rel => exact HR.out
                      case measure => simp [intOf]; omega
                  · have htr' : (tr == 8) = false := by simpa using htr
                    as_aux_lemma =>
                      have KR := Lib.hid (fun W => rback_any ⟨true, l, wt, tr⟩ W HBV.out rfl)
                      have KM := Lib.hid (fun W => back_any ⟨true, l, wt, tr⟩ W HBV.out rfl)
                      simp only [Tm.v, backv, htr, if_false] at KR KM
                      generalize backw wt = bw at KR KM
                      have N1 := Lib.hid num15_any
                      have hgu := tmGuard
                      have hne := tmNe true bw bw (tr + 1)
                      obtain ⟨⟨c0, c1, c2, c3⟩, -, -⟩ := S2.out.2.2.1.cells
                      dsimp only at c0 c1 c2 c3
                      have b0 : Below W.heap.size W (W.alloc (.cells #[.bool false, .int .i64 0, .int .i64 0, .int .i64 0] 50)) := (Below.refl _ W).alloc (Nat.le_refl _) _
                      obtain ⟨⟨m0, m1, m2, m3⟩, -, -⟩ := (S2.out.below b0).2.2.1.cells
                      dsimp only at m0 m1 m2 m3
                      have hwW := S2.out.2.2.2.2.2.2
                      go_wp2_with fail
                      clear c0 c1 c2 c3 p4 eW0 eW1 m0 m1 m2 m3
                      refine calls_gen (fun W1 => TSt w W1 (.slice (some ⟨b, off, none⟩) L.length cap) ⟨true, l, wt, tr⟩ b (off + k * 2) 1 n ∧ TmAt W1 W.heap.size ⟨false, 0, 0, 0⟩ ∧ Below W.heap.size W W1 ∧ W.heap.size < W1.heap.size) ⟨S2.out.below b0, TmAt.new W ⟨false, 0, 0, 0⟩, b0, by simp⟩ ?_
                      rintro W1 ⟨hS3, hz1, hb1, hg1⟩
                      have S3 := Lib.hid hS3
                      clear hS3 b0
                      refine (KR.out _).mono ?_
                      rintro e w2 ⟨rfl, hb2⟩
                      have S4 := Lib.hid (S3.out.below hb2)
                      have hz2 := hz1.below hb2
                      obtain ⟨⟨q0, q1, q2, q3⟩, hfz, -⟩ := hz2.cells
                      dsimp only at q0 q1 q2 q3
                      have g0 := hfz 0
                      have g1 := hfz 1
                      have g2 := hfz 2
                      have g3 := hfz 3
                      have hgz := hz2.cells.2.2
                      have hT4 := S4.out.2.2.1
                      have hput := ((((Below.refl W.heap.size w2).setCell (p := ⟨W.heap.size, 0, none⟩) (Nat.le_refl _) (.bool true)).setCell (p := ⟨W.heap.size, 1, none⟩) (Nat.le_refl _) (.int .i64 bw)).setCell (p := ⟨W.heap.size, 2, none⟩) (Nat.le_refl _) (.int .i64 bw)).setCell (p := ⟨W.heap.size, 3, none⟩) (Nat.le_refl _) (.int .i64 (tr + 1))
                      have hpz := hz2.put true bw bw (tr + 1)
                      have P5 := Lib.hid (show TSt w _ (.slice (some ⟨b, off, none⟩) L.length cap) ⟨true, l, wt, tr⟩ b (off + k * 2) 1 n from ⟨(S4.out.1).trans (hput.mono S2.out.1.size), (hput.cell (p := ⟨w.heap.size, 4, none⟩) (Nat.lt_of_succ_lt S2.out.2.2.2.2.2.2)).trans S4.out.2.1, hT4.congr (hput.block _ S2.out.2.2.2.2.2.2), Nat.lt_of_lt_of_le S4.out.2.2.2.1 hput.size, (hput.cell (p := ⟨b, off + k * 2, none⟩) S2.out.2.2.2.1).trans S4.out.2.2.2.2.1, (hput.cell (p := ⟨b, off + k * 2 + 1, none⟩) S2.out.2.2.2.1).trans S4.out.2.2.2.2.2.1, Nat.lt_of_lt_of_le S4.out.2.2.2.2.2.2 hput.size⟩)
                      have PZ := Lib.hid hpz
                      obtain ⟨⟨c0, c1, c2, c3⟩, -, -⟩ := P5.out.2.2.1.cells
                      dsimp only at c0 c1 c2 c3
                      clear hz1 hz2 hb1 hb2 hfz hpz S3 hT4 KR
                      go_wp2_with fail
                      clear c0 c1 c2 c3 q0 q1 q2 q3 g0 g1 g2 g3
                      refine calls_gen (fun W5 => TSt w W5 (.slice (some ⟨b, off, none⟩) L.length cap) ⟨true, l, wt, tr⟩ b (off + k * 2) 1 n ∧ TmAt W5 W.heap.size ⟨true, bw, bw, (tr + 1)⟩) ⟨P5.out, PZ.out⟩ ?_
                      rintro W5 ⟨hS5, hz5⟩
                      have S5 := Lib.hid hS5
                      clear hS5 P5 PZ hput S4
                      refine (KM.out _).mono ?_
                      rintro e w6 ⟨rfl, hb6⟩
                      have S6 := Lib.hid (S5.out.below hb6)
                      have hz6 := hz5.below hb6
                      have b6 : Below w6.heap.size w6 (w6.alloc (.cells #[.bool true, .int .i64 bw, .int .i64 bw, .int .i64 (tr + 1)] 50)) := (Below.refl _ w6).alloc (Nat.le_refl _) _
                      have ny := TmAt.new w6 ⟨true, bw, bw, (tr + 1)⟩
                      have S7 := Lib.hid (S6.out.below b6)
                      have hz7 := hz6.below b6
                      clear hz5 hb6 S5 hz6 KM
                      obtain ⟨⟨q0, q1, q2, q3⟩, -, -⟩ := hz7.cells
                      dsimp only at q0 q1 q2 q3
                      obtain ⟨⟨y0, y1, y2, y3⟩, -, -⟩ := ny.cells
                      dsimp only at y0 y1 y2 y3
                      obtain ⟨⟨c0, c1, c2, c3⟩, hfr, -⟩ := S7.out.2.2.1.cells
                      dsimp only at c0 c1 c2 c3
                      have f0 := hfr 0
                      have f1 := hfr 1
                      have f2 := hfr 2
                      have f3 := hfr 3
                      have hX := ((((Below.refl (w.heap.size + 1) (w6.alloc (.cells #[.bool true, .int .i64 bw, .int .i64 bw, .int .i64 (tr + 1)] 50))).setCell (p := ⟨(w.heap.size + 1), 0, none⟩) (Nat.le_refl _) (.bool true)).setCell (p := ⟨(w.heap.size + 1), 1, none⟩) (Nat.le_refl _) (.int .i64 bw)).setCell (p := ⟨(w.heap.size + 1), 2, none⟩) (Nat.le_refl _) (.int .i64 bw)).setCell (p := ⟨(w.heap.size + 1), 3, none⟩) (Nat.le_refl _) (.int .i64 (tr + 1))
                      have HR := Lib.hid (FIN.out ⟨true, bw, bw, (tr + 1)⟩ _ (S7.out.1.trans (hX.mono (Nat.le_succ _))) ((hX.cell (p := ⟨w.heap.size, 4, none⟩) (Nat.lt_succ_self _)).trans S7.out.2.1) (S7.out.2.2.1.put true bw bw (tr + 1)))
                      clear hX hfr S7 S6 b6 ny hz7
                      go_wp2_with (first | ((with_reducible refine (N1.out _ _).mono ?_); rintro e w' ⟨rfl, rfl⟩))
                      go_roundw
                      case rel => exact HR.out
                      case measure => simp [intOf]; omega
              · have ha1' : (a == 1) = false := by simpa using ha1
                clear ha0 ha1
                as_aux_lemma =>
                  have KR := Lib.hid (fun W => rtick_any ⟨on, l, wt, tr⟩ W HBV.out)
                  have KM := Lib.hid (fun W => tick_any ⟨on, l, wt, tr⟩ W HBV.out)
                  simp only [Tm.v] at KR KM
                  generalize ringv ⟨on, l, wt, tr⟩ = rg at KR KM
                  generalize tickv ⟨on, l, wt, tr⟩ = T2 at KR KM
                  obtain ⟨on2, l2, wt2, tr2⟩ := T2
                  dsimp only at KR KM
                  have hrg : (rg != rg) = false := by simp
                  have N1 := Lib.hid num15_any
                  have hgu := tmGuard
                  have hne := tmNe on2 l2 wt2 tr2
                  obtain ⟨⟨c0, c1, c2, c3⟩, -, -⟩ := S2.out.2.2.1.cells
                  dsimp only at c0 c1 c2 c3
                  have b0 : Below W.heap.size W (W.alloc (.cells #[.bool false, .int .i64 0, .int .i64 0, .int .i64 0] 50)) := (Below.refl _ W).alloc (Nat.le_refl _) _
                  obtain ⟨⟨m0, m1, m2, m3⟩, -, -⟩ := (S2.out.below b0).2.2.1.cells
                  dsimp only at m0 m1 m2 m3
                  have hwW := S2.out.2.2.2.2.2.2
                  go_wp2_with fail
                  clear c0 c1 c2 c3 p4 eW0 eW1 m0 m1 m2 m3
                  refine calls_gen (fun W1 => TSt w W1 (.slice (some ⟨b, off, none⟩) L.length cap) ⟨on, l, wt, tr⟩ b (off + k * 2) a n ∧ TmAt W1 W.heap.size ⟨false, 0, 0, 0⟩ ∧ Below W.heap.size W W1 ∧ W.heap.size < W1.heap.size) ⟨S2.out.below b0, TmAt.new W ⟨false, 0, 0, 0⟩, b0, by simp⟩ ?_
                  rintro W1 ⟨hS3, hz1, hb1, hg1⟩
                  have S3 := Lib.hid hS3
                  clear hS3 b0
                  refine (KR.out _).mono ?_
                  rintro e w2 ⟨rfl, hb2⟩
                  have S4 := Lib.hid (S3.out.below hb2)
                  have hz2 := hz1.below hb2
                  obtain ⟨⟨q0, q1, q2, q3⟩, hfz, -⟩ := hz2.cells
                  dsimp only at q0 q1 q2 q3
                  have g0 := hfz 0
                  have g1 := hfz 1
                  have g2 := hfz 2
                  have g3 := hfz 3
                  have hgz := hz2.cells.2.2
                  have hT4 := S4.out.2.2.1
                  have hput := ((((Below.refl W.heap.size w2).setCell (p := ⟨W.heap.size, 0, none⟩) (Nat.le_refl _) (.bool on2)).setCell (p := ⟨W.heap.size, 1, none⟩) (Nat.le_refl _) (.int .i64 l2)).setCell (p := ⟨W.heap.size, 2, none⟩) (Nat.le_refl _) (.int .i64 wt2)).setCell (p := ⟨W.heap.size, 3, none⟩) (Nat.le_refl _) (.int .i64 tr2)
                  have hpz := hz2.put on2 l2 wt2 tr2
                  have P5 := Lib.hid (show TSt w _ (.slice (some ⟨b, off, none⟩) L.length cap) ⟨on, l, wt, tr⟩ b (off + k * 2) a n from ⟨(S4.out.1).trans (hput.mono S2.out.1.size), (hput.cell (p := ⟨w.heap.size, 4, none⟩) (Nat.lt_of_succ_lt S2.out.2.2.2.2.2.2)).trans S4.out.2.1, hT4.congr (hput.block _ S2.out.2.2.2.2.2.2), Nat.lt_of_lt_of_le S4.out.2.2.2.1 hput.size, (hput.cell (p := ⟨b, off + k * 2, none⟩) S2.out.2.2.2.1).trans S4.out.2.2.2.2.1, (hput.cell (p := ⟨b, off + k * 2 + 1, none⟩) S2.out.2.2.2.1).trans S4.out.2.2.2.2.2.1, Nat.lt_of_lt_of_le S4.out.2.2.2.2.2.2 hput.size⟩)
                  have PZ := Lib.hid hpz
                  obtain ⟨⟨c0, c1, c2, c3⟩, -, -⟩ := P5.out.2.2.1.cells
                  dsimp only at c0 c1 c2 c3
                  clear hz1 hz2 hb1 hb2 hfz hpz S3 hT4 KR
                  go_wp2_with fail
                  clear c0 c1 c2 c3 q0 q1 q2 q3 g0 g1 g2 g3
                  refine calls_gen (fun W5 => TSt w W5 (.slice (some ⟨b, off, none⟩) L.length cap) ⟨on, l, wt, tr⟩ b (off + k * 2) a n ∧ TmAt W5 W.heap.size ⟨on2, l2, wt2, tr2⟩) ⟨P5.out, PZ.out⟩ ?_
                  rintro W5 ⟨hS5, hz5⟩
                  have S5 := Lib.hid hS5
                  clear hS5 P5 PZ hput S4
                  refine (KM.out _).mono ?_
                  rintro e w6 ⟨rfl, hb6⟩
                  have S6 := Lib.hid (S5.out.below hb6)
                  have hz6 := hz5.below hb6
                  have b6 : Below w6.heap.size w6 (w6.alloc (.cells #[.bool on2, .int .i64 l2, .int .i64 wt2, .int .i64 tr2] 50)) := (Below.refl _ w6).alloc (Nat.le_refl _) _
                  have ny := TmAt.new w6 ⟨on2, l2, wt2, tr2⟩
                  have S7 := Lib.hid (S6.out.below b6)
                  have hz7 := hz6.below b6
                  clear hz5 hb6 S5 hz6 KM
                  obtain ⟨⟨q0, q1, q2, q3⟩, -, -⟩ := hz7.cells
                  dsimp only at q0 q1 q2 q3
                  obtain ⟨⟨y0, y1, y2, y3⟩, -, -⟩ := ny.cells
                  dsimp only at y0 y1 y2 y3
                  obtain ⟨⟨c0, c1, c2, c3⟩, hfr, -⟩ := S7.out.2.2.1.cells
                  dsimp only at c0 c1 c2 c3
                  have f0 := hfr 0
                  have f1 := hfr 1
                  have f2 := hfr 2
                  have f3 := hfr 3
                  have hX := ((((Below.refl (w.heap.size + 1) (w6.alloc (.cells #[.bool on2, .int .i64 l2, .int .i64 wt2, .int .i64 tr2] 50))).setCell (p := ⟨(w.heap.size + 1), 0, none⟩) (Nat.le_refl _) (.bool on2)).setCell (p := ⟨(w.heap.size + 1), 1, none⟩) (Nat.le_refl _) (.int .i64 l2)).setCell (p := ⟨(w.heap.size + 1), 2, none⟩) (Nat.le_refl _) (.int .i64 wt2)).setCell (p := ⟨(w.heap.size + 1), 3, none⟩) (Nat.le_refl _) (.int .i64 tr2)
                  have HR := Lib.hid (FIN.out ⟨on2, l2, wt2, tr2⟩ _ (S7.out.1.trans (hX.mono (Nat.le_succ _))) ((hX.cell (p := ⟨w.heap.size, 4, none⟩) (Nat.lt_succ_self _)).trans S7.out.2.1) (S7.out.2.2.1.put on2 l2 wt2 tr2))
                  clear hX hfr S7 S6 b6 ny hz7
                  go_wp2_with (first | ((with_reducible refine (N1.out _ _).mono ?_); rintro e w' ⟨rfl, rfl⟩))
                  go_roundw
                  case rel => exact HR.out
                  case measure => simp [intOf]; omega
        · go_wp2_with fail
          refine (wakes15_any _).mono ?_
          rintro e w1 ⟨rfl, hb1⟩
          go_wp2
          go_ret
          exact ⟨rfl, hbl.trans (hb1.mono hbl.size)⟩
      · go_wp2_with fail
        refine (wakes15_any _).mono ?_
        rintro e w1 ⟨rfl, hb1⟩
        go_wp2
        go_ret
        exact ⟨rfl, hbl.trans (hb1.mono hbl.size)⟩
  · go_wp2
    go_ret
    exact ⟨rfl, (Below.refl _ w).alloc (Nat.le_refl _) _⟩
theorem timerExact_walk (W : World) (cs : List Value) (h : Rd Try.prog W 53 cs) :
    Calls Try.prog 8 #[.agg cs.toArray] W fun e W' => e = .returned (.bool true) ∧ Below W.heap.size W W' := by
  obtain ⟨t, v, rfl, hr⟩ := script15 W cs h
  obtain ⟨L, hv⟩ := acts15_of W v hr
  exact timerExact_any t v L W hv
namespace timerExact
open Go.ChangeShapes Go.WideShapes Go.ChangeAt
theorem own : ownKnob Try.prog.godebug = none := by kernel_rfl
theorem laidOut : laidOutB Try.prog = true := by kernel_rfl
set_option maxRecDepth 100000 in
theorem lifted (os : Os) (started : os.Started) (H : Type) (enc : TypeId × Value → H) :
    ReturnsInHanded {} Try.checked os 8 .any (Rows.timerExactSpec.pre6 enc Try.prog Try.f8 Rows.timerExactRow.domain false) (Rows.timerExactSpec.post enc Try.prog Try.f8 false true false false) := by
  refine returnsInHanded_of_change (C := Try.checked) own started (by kernel_rfl) Try.func8
    (ChangeSpec.witness6 (enc := enc) (C := Try.checked) false ⟨#[], #[.agg #[.bool false, .int .i64 0, .int .i64 0, .int .i64 0, .slice none 0 0]], []⟩ 12 (by kernel_rfl) (by kernel_rfl) (by kernel_rfl) (by kernel_rfl)) ?_
  intro W base args ds gs before hval0 hW _ _
  have hval : ∀ (j : Nat) t v, Try.f8.params[j]? = some t → args[j]? = some v → Value.okWide Try.prog W .any base t v := hval0
  have hW' := hW
  obtain ⟨p, q, hA0, hV, rfl, hfz, hnd⟩ := hW
  have hA : DataW.TrodAll enc Try.prog W 0 (fun _ => true) true Try.f8.params.toList args.toList ds p := hA0
  rw [Try.params8] at hA hval
  obtain ⟨v0, vs0, d0, ds0, p0, q0, hargs, rfl, rfl, h0, r0⟩ := trodAll_cons hA
  obtain ⟨rfl, rfl, rfl⟩ := trodAll_nil r0
  obtain rfl : args = #[v0] := by cases args; simp_all
  obtain ⟨rfl, rfl⟩ := trodVars_none hV
  obtain ⟨cs0, rfl⟩ : ∃ cs0 : Array Value, v0 = .agg cs0 := by
    have h := hval 0 53 v0 rfl rfl
    unfold Value.okWide at h
    rw [Try.underlying53] at h
    exact ⟨h.choose, h.choose_spec.1⟩
  have k0 := h0
  have lt0 : ∀ x ∈ p0, x.block < W.heap.size := by obtain ⟨m, hm⟩ := k0; exact DataW.trod_lt m _ _ _ hm
  have hrd : Rd Try.prog W 53 cs0.toList := by obtain ⟨fuel, hf⟩ := h0; exact ⟨H, enc, 0, _, true, fuel, _, hf⟩
  clear hA0 hval0
  refine (show Calls Try.prog 8 _ W (fun e W' => e = .returned (.bool true) ∧ Below W.heap.size W W') from by have := timerExact_walk W _ hrd; rwa [Array.toArray_toList] at this).mono fun e W' ⟨he, bel⟩ => ?_
  subst he
  exact ⟨_, rfl, _, _, _, [], _, [], hW', trodAll_mk1 (shut_bool Try.underlying4 _), (trodAll_cons_mk (Below.trod laidOut (by kernel_rfl) (of_decide_eq_true (by kernel_rfl)) k0 bel lt0) trodAll_mk0), rfl, bel.frame _, fun h => by cases h⟩
theorem over : Rows.timerExactRow.holds Try.pinned (OpenSpec.ofChange Rows.timerExactSpec) :=
  OpenClaim.holds_of_wide 8 Try.f8 rfl rfl rfl rfl rfl rfl rfl ⟨rfl, rfl, rfl, rfl, rfl⟩ rfl rfl rfl rfl rfl (by kernel_rfl) Try.func8 (by kernel_rfl)
    (of_decide_eq_true (by kernel_rfl)) (by unfold Func.isWrapper; first | (rw [if_pos (by decide +kernel)]; kernel_rfl) | (rw [if_neg (by decide +kernel)]; exact ⟨rfl, rfl⟩))
    (fun os started H enc _ => lifted os started H enc)
/-- THE STATEMENT. -/
theorem proved : Rows.TimerExactSaid := over
end timerExact
-- CLAIM: TimerExact timerExact.proved
end Go.Proofs.Ytkljlgmidmlmlaa
