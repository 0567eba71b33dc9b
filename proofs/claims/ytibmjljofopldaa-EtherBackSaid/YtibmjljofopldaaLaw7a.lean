/-
  The law SumAdds: whatever sums and bytes are asked, sum.Add and sum.Check answer as the reference does, and the bytes stay. No condition.
-/
import Derived.Test.YtibmjljofopldaaSum
import Derived.Test.YtibmjljofopldaaRead
namespace Go.Proofs.Ytibmjljofopldaa
open Go.RowKit
/-- One of the asks of layer 7: a sum, bytes, a place. -/
structure Ask7 where
  S : Int
  B : List UInt8
  N : Int
def Ask7.At (w : World) (b off : Nat) (q : Ask7) : Prop :=
  w.cell? ⟨b, off, none⟩ = some (.int .i64 q.S) ∧ (∃ v, w.cell? ⟨b, off + 1, none⟩ = some v ∧ Sl w v q.B) ∧ w.cell? ⟨b, off + 2, none⟩ = some (.int .i64 q.N) ∧
    (-9223372036854775808 ≤ q.S ∧ q.S < 9223372036854775808) ∧ (-9223372036854775808 ≤ q.N ∧ q.N < 9223372036854775808)
def Asks7 (w : World) (v : Value) (L : List Ask7) : Prop :=
  ∃ ao cap, v = .slice ao L.length cap ∧ L.length ≤ maxLen ∧ (L ≠ [] → ∃ b off, ao = some ⟨b, off, none⟩ ∧ b < w.heap.size ∧ ∀ i (q : Ask7), L[i]? = some q → q.At w b (off + i * 3))
set_option maxRecDepth 100000 in
set_option maxHeartbeats 2000000 in
theorem sumAdds_any (v : Value) (L : List Ask7) (w : World) (hv : Asks7 w v L) :
    Calls Try.prog 6 #[v] w fun e w' => e = .returned (.bool true) ∧ Below w.heap.size w w' := by
  obtain ⟨ao, cap, rfl, hlen, hB⟩ := hv
  have HB := Lib.hid hB; clear hB
  go_enter Try.func6, Try.ntmps6
  go_wp2
  go_loopw [3] (fun i wr => ∃ k : Nat, k ≤ L.length ∧ i = .int .i64 k ∧ Below w.heap.size w wr) (fun i _ => L.length - (intOf i).toNat)
  case atStart => exact ⟨0, by omega, rfl, Below.refl _ _⟩
  case round =>
    obtain ⟨k, hk, rfl, hbl⟩ := hrel
    by_cases hlt : k < L.length
    · by_cases h20 : k < 20
      · obtain ⟨b, off, rfl, hbw, hBB⟩ := HB.out (by intro h; simp [h] at hlt)
        obtain ⟨⟨S, B, N⟩, hq⟩ : ∃ q, L[k]? = some q := ⟨_, List.getElem?_eq_getElem hlt⟩
        obtain ⟨hc0, ⟨vb, hc1, hS⟩, -, -, -⟩ := hBB k _ hq
        clear hBB hq
        dsimp only at hc0 hc1 hS
        obtain ⟨ao2, cap2, rfl, -⟩ := id hS
        have HS := Lib.hid hS; clear hS
        have hd0 := (hbl.cell (p := ⟨b, off + k * 3, none⟩) hbw).trans hc0
        have hd1 := (hbl.cell (p := ⟨b, off + k * 3 + 1, none⟩) hbw).trans hc1
        clear hc0 hc1
        by_cases h3 : B.length ≤ 3000
        · have andm := and_65535 S
          have hsz := hbl.size
          have HS1 := Lib.hid (HS.out.below hbl)
          obtain ⟨s, hs⟩ : ∃ s, s = S % 65536 := ⟨_, rfl⟩
          have hs0 : 0 ≤ s := by omega
          have hs1 : s ≤ 65535 := by omega
          rw [← hs] at andm
          clear hs
          go_wp2_with fail
          refine (copyBytes_any _ B _ (by omega) HS1.out).mono ?_
          rintro e w1 ⟨vc, rfl, hb1, hown⟩
          have hf0 := (hb1.cell (p := ⟨b, off + k * 3, none⟩) (by simp; omega)).trans hd0
          have hf1 := (hb1.cell (p := ⟨b, off + k * 3 + 1, none⟩) (by simp; omega)).trans hd1
          have hC := (Sl.of_own hown).1
          obtain ⟨ao3, cap3, rfl, -⟩ := id hC
          have HC := Lib.hid hC; have HS2 := Lib.hid (HS1.out.below hb1)
          have hbl1 : Below w.heap.size w w1 := hbl.trans (hb1.mono hsz)
          clear hd0 hd1 hC hown hb1 hbl
          have neq : (sumv s B != sumv s B) = false := by simp
          have neq2 : (65535 - sumv 0 B != 65535 - sumv 0 B) = false := by simp
          go_wp2
          go_quiet (first
            | (go_at_call 31; exact Calls.quiet_of (add_any s _ B _ hs0 hs1 (by omega) (HC.out.drewN _)))
            | (go_at_call 32; exact Calls.quiet_of_same ((radd_any s _ B _ hs0 hs1 (by omega) (HS2.out.drewN _)).mono fun _ _ h => ⟨h.1, h.2.symm⟩))
            | (go_at_call 33; exact Calls.quiet_of (check_any _ B _ (by omega) (HC.out.drewN _)))
            | (go_at_call 34; exact Calls.quiet_of_same ((rcheck_any _ B _ (by omega) (HS2.out.drewN _)).mono fun _ _ h => ⟨h.1, h.2.symm⟩))
            | (go_at_call 23; exact Calls.quiet_of (eqBytes_any _ _ B B _ (by omega) (by omega) (HC.out.drewN _) (HS2.out.drewN _))))
          go_wp2
          go_roundw
          case rel => exact ⟨k + 1, by omega, by go_num, bdrew hbl1 _⟩
          case measure => simp [intOf]; omega
        · go_wp2
          go_ret
          exact ⟨rfl, hbl⟩
      · go_wp2_with fail
        refine (wakes7_any _).mono ?_
        rintro e w1 ⟨rfl, hb1⟩
        go_wp2
        go_ret
        exact ⟨rfl, hbl.trans (hb1.mono hbl.size)⟩
    · go_wp2_with fail
      refine (wakes7_any _).mono ?_
      rintro e w1 ⟨rfl, hb1⟩
      go_wp2
      go_ret
      exact ⟨rfl, hbl.trans (hb1.mono hbl.size)⟩
theorem cI : Try.prog.cellsOf 3 = 1 := by kernel_rfl
theorem cB : Try.prog.cellsOf 34 = 1 := by kernel_rfl
theorem asks7_of (W : World) (v : Value) (h : Rd Try.prog W 59 [v]) : ∃ L, Asks7 W v L := by
  obtain ⟨v', L, hv, ao, cap, rfl, h1, h2, h3, h4⟩ := h.slOf (p := fun w b off q => Ask7.At w b off q) (size := 3) Try.underlying59 (by kernel_rfl) (by decide) (by
    intro b off cs' hb hc hr
    obtain ⟨hlen, hf⟩ := hr.struct Try.underlying61
    match cs', hc.1 with
    | [c0, c1, c2], _ =>
      obtain ⟨s, hs, hs1, hs2⟩ := (hf 0 _ rfl).i64 Try.underlying3
      obtain ⟨vb, l, hvb, hS⟩ := (hf 1 _ rfl).bytes Try.underlying34 (by kernel_rfl) Try.underlying5
      obtain ⟨n, hn, hn1, hn2⟩ := (hf 2 _ rfl).i64 Try.underlying3
      have e0 : c0 = .int .i64 s := by simpa [cI] using hs
      have e1 : c1 = vb := by simpa [cB] using hvb
      have e2 : c2 = .int .i64 n := by simpa [cI] using hn
      subst e0 e1 e2
      refine ⟨⟨s, l, n⟩, hc.2 0 (by omega), ⟨_, hc.2 1 (by omega), hS⟩, hc.2 2 (by omega), ⟨hs1, hs2⟩, ⟨hn1, hn2⟩⟩)
  obtain rfl : v = _ := by simpa using hv
  exact ⟨L, ao, cap, rfl, Nat.le_trans h1 h2, h4⟩
theorem sumAdds_walk (W : World) (v : Value) (h : Rd Try.prog W 59 [v]) :
    Calls Try.prog 6 #[v] W fun e W' => e = .returned (.bool true) ∧ Below W.heap.size W W' := by
  obtain ⟨L, hL⟩ := asks7_of W v h
  exact sumAdds_any v L W hL
namespace sumAdds
open Go.ChangeShapes Go.WideShapes Go.ChangeAt
theorem own : ownKnob Try.prog.godebug = none := by kernel_rfl
theorem laidOut : laidOutB Try.prog = true := by kernel_rfl
set_option maxRecDepth 100000 in
theorem lifted (os : Os) (started : os.Started) (H : Type) (enc : TypeId × Value → H) :
    ReturnsInHanded {} Try.checked os 6 .any (Rows.sumAddsSpec.pre6 enc Try.prog Try.f6 Rows.sumAddsRow.domain false) (Rows.sumAddsSpec.post enc Try.prog Try.f6 false true false false) := by
  refine returnsInHanded_of_change (C := Try.checked) own started (by kernel_rfl) Try.func6
    (ChangeSpec.witness6 (enc := enc) (C := Try.checked) false ⟨#[], #[.slice none 0 0], []⟩ 12 (by kernel_rfl) (by kernel_rfl) (by kernel_rfl) (by kernel_rfl)) ?_
  intro W base args ds gs before hval0 hW _ _
  have hval : ∀ (j : Nat) t v, Try.f6.params[j]? = some t → args[j]? = some v → Value.okWide Try.prog W .any base t v := hval0
  have hW' := hW
  obtain ⟨p, q, hA0, hV, rfl, hfz, hnd⟩ := hW
  have hA : DataW.TrodAll enc Try.prog W 0 (fun _ => true) true Try.f6.params.toList args.toList ds p := hA0
  rw [Try.params6] at hA hval
  obtain ⟨v0, vs0, d0, ds0, p0, q0, hargs, rfl, rfl, h0, r0⟩ := trodAll_cons hA
  obtain ⟨rfl, rfl, rfl⟩ := trodAll_nil r0
  obtain rfl : args = #[v0] := by cases args; simp_all
  obtain ⟨rfl, rfl⟩ := trodVars_none hV
  obtain ⟨a0, len0, cap0, rfl⟩ := okWide_slice Try.underlying59 (hval 0 59 v0 rfl rfl)
  have k0 := h0
  have lt0 : ∀ x ∈ p0, x.block < W.heap.size := by obtain ⟨m, hm⟩ := k0; exact DataW.trod_lt m _ _ _ hm
  have hrd : Rd Try.prog W 59 [.slice a0 len0 cap0] := by obtain ⟨fuel, hf⟩ := h0; exact ⟨H, enc, 0, _, true, fuel, _, hf⟩
  clear hA0 hval0
  refine (sumAdds_walk W _ hrd : Calls Try.prog 6 _ W _).mono fun e W' ⟨he, bel⟩ => ?_
  subst he
  exact ⟨_, rfl, _, _, _, [], _, [], hW', trodAll_mk1 (shut_bool Try.underlying4 _), (trodAll_cons_mk (Below.trod laidOut (by kernel_rfl) (of_decide_eq_true (by kernel_rfl)) k0 bel lt0) trodAll_mk0), rfl, bel.frame _, fun h => by cases h⟩
theorem over : Rows.sumAddsRow.holds Try.pinned (OpenSpec.ofChange Rows.sumAddsSpec) :=
  OpenClaim.holds_of_wide 6 Try.f6 rfl rfl rfl rfl rfl rfl rfl ⟨rfl, rfl, rfl, rfl, rfl⟩ rfl rfl rfl rfl rfl (by kernel_rfl) Try.func6 (by kernel_rfl)
    (of_decide_eq_true (by kernel_rfl)) (by unfold Func.isWrapper; first | (rw [if_pos (by decide +kernel)]; kernel_rfl) | (rw [if_neg (by decide +kernel)]; exact ⟨rfl, rfl⟩))
    (fun os started H enc _ => lifted os started H enc)
/-- THE STATEMENT. -/
theorem proved : Rows.SumAddsSaid := over
end sumAdds
-- CLAIM: SumAdds sumAdds.proved
end Go.Proofs.Ytibmjljofopldaa
