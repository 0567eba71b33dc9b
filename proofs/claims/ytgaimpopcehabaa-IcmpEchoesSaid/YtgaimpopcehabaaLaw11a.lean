/-
  The law IcmpReplies: whatever bytes are asked, icmp.Reply answers as the page says, or its error, and the bytes stay. No condition.
-/
import Derived.Test.YtgaimpopcehabaaIcmC
namespace Go.Proofs.Ytgaimpopcehabaa
open Go.RowKit
theorem icmR_len (l : List UInt8) : (icmR l).length ≤ l.length := by
  unfold icmR; split
  · rw [icmA_len]; omega
  · simp
set_option maxRecDepth 100000 in
set_option maxHeartbeats 1000000 in
theorem icmpReplies_any (v : Value) (L : List (List UInt8)) (w : World) (hv : CellsB w v L) :
    Calls Try.prog 9 #[v] w fun e w' => e = .returned (.bool true) ∧ Below w.heap.size w w' := by
  have hW := Lib.hid (weight_any v L w hv)
  obtain ⟨ao, cap, rfl, hlen, hB⟩ := hv
  have HB := Lib.hid hB; clear hB
  go_enter Try.func9, Try.ntmps9
  go_wp2_with fail
  refine hW.out.mono ?_
  rintro e w' ⟨N, rfl, rfl, hN⟩
  have HN := Lib.hid hN
  clear hW hN
  by_cases hN2 : N ≤ 20000
  · have HQ := Lib.hid (HN.out hN2)
    clear HN
    go_wp2
    go_loopw [3] (fun i wr => ∃ k : Nat, k ≤ L.length ∧ i = .int .i64 k ∧ Below w.heap.size w wr) (fun i _ => L.length - (intOf i).toNat)
    case atStart => exact ⟨0, by omega, rfl, Below.refl _ _⟩
    case round =>
      obtain ⟨k, hk, rfl, hbl⟩ := hrel
      by_cases hlt : k < L.length
      · by_cases h15 : k < 15
        · obtain ⟨b, off, rfl, hbw, hBB⟩ := HB.out (by intro h; simp [h] at hlt)
          obtain ⟨X, hq⟩ : ∃ q, L[k]? = some q := ⟨_, List.getElem?_eq_getElem hlt⟩
          obtain ⟨-, vx, hc0, hX⟩ := hBB k X hq
          have hXl : X.length ≤ 20000 := HQ.out k X hq
          obtain ⟨ao3, cap3, rfl, -⟩ := id hX
          have HX := Lib.hid hX
          have d0 := (hbl.cell (p := ⟨b, off + k, none⟩) hbw).trans hc0
          have hsz := hbl.size
          have HL := Lib.hid hbl
          clear hBB hq hX hc0 hbl
          go_wp2_with fail
          refine (copyBytes_any _ X _ (by omega) (HX.out.below HL.out)).mono ?_
          rintro e w1 ⟨v1, rfl, hb1, ho1⟩
          obtain ⟨ao4, cap4, rfl⟩ := own_slice ho1
          have d1 := (hb1.cell (p := ⟨b, off + k, none⟩) (by simp; omega)).trans d0
          have HL1 := Lib.hid (HL.out.trans (hb1.mono hsz))
          have HC := Lib.hid (Sl.of_own ho1).1
          have hs1 := HL1.out.size
          clear d0 hb1 ho1 HL
          have hrl := icmR_len X
          obtain ⟨R, hR⟩ : ∃ R, R = icmR X := ⟨_, rfl⟩
          obtain ⟨E, hE⟩ : ∃ E, E = icmE X := ⟨_, rfl⟩
          have P1 := Lib.hid (icm_any _ X w1 (by omega) HC.out)
          have P2 := Lib.hid (fun W' (hW : Below w.heap.size w W') => ricm_any _ X W' (by omega) (HX.out.below hW))
          rw [← hR, ← hE] at P1
          simp only [← hR, ← hE] at P2
          rw [← hR] at hrl
          clear hR hE
          go_wp2_with fail
          refine P1.out.mono ?_
          rintro e w2 ⟨v2, rfl, hb2, ho2⟩
          obtain ⟨ao5, cap5, rfl⟩ := own_slice ho2
          have d2 := (hb2.cell (p := ⟨b, off + k, none⟩) (by simp; omega)).trans d1
          have HL2 := Lib.hid (HL1.out.trans (hb2.mono hs1))
          have HB2 := Lib.hid hb2; have HO2 := Lib.hid ho2
          have hs2 := hb2.size
          clear d1 hb2 ho2 P1
          go_wp2_with fail
          refine (P2.out _ HL2.out).mono ?_
          rintro e w3 ⟨v3, rfl, hb3, ho3⟩
          obtain ⟨ao6, cap6, rfl⟩ := own_slice ho3
          have d3 := (hb3.cell (p := ⟨b, off + k, none⟩) (by simp; omega)).trans d2
          have HL3 := Lib.hid (HL2.out.trans (hb3.mono (by omega)))
          have HB3 := Lib.hid (HB2.out.trans (hb3.mono hs2))
          have HO3 := Lib.hid (below_own HO2.out hb3)
          have HS3 := Lib.hid (Sl.of_own ho3).1
          have neq : (E != E) = false := by simp
          clear d2 hb3 ho3 HB2 HO2 P2
          go_wp2_with fail
          refine (num11_any E _).mono ?_
          rintro e W' ⟨rfl, rfl⟩
          go_wp2_with fail
          refine (eqBytes_same _ _ R _ (by omega) (Sl.of_own HO3.out).1 HS3.out).mono ?_
          rintro e w4 ⟨rfl, m4, rfl⟩
          go_wp2_with fail
          refine (eqBytes_same _ _ X _ (by omega) ((HC.out.below HB3.out).drewN m4) ((HX.out.below HL3.out).drewN m4)).mono ?_
          rintro e w5 ⟨rfl, m5, rfl⟩
          go_wp2_with fail
          refine calls_gen (fun W => Below w1.heap.size w1 W ∧ Below w.heap.size w W ∧ W.ownsRow w1.heap.size 5 1 (.slice ao5 R.length cap5) R.length (R.map B8) ∧ W.cell? ⟨b, off + k, none⟩ = some (.slice ao3 X.length cap3)) ⟨bdrew HB3.out _, bdrew HL3.out _, HO3.out, d3⟩ ?_
          rintro W ⟨hbW, hlW, hoW, dW⟩
          have hwW := hbW.size
          refine (scribble_any w1.heap.size _ _ R W hoW (by omega) hwW).mono ?_
          rintro e w6 ⟨rfl, hb6⟩
          have d6 := (hb6.cell (p := ⟨b, off + k, none⟩) (by simp; omega)).trans dW
          have HL6 := Lib.hid (hlW.trans (hb6.mono hs1))
          have HB6 := Lib.hid (hbW.trans hb6)
          clear hbW hlW hoW dW hb6 d3
          go_wp2_with fail
          refine (eqBytes_same _ _ X w6 (by omega) (HC.out.below HB6.out) (HX.out.below HL6.out)).mono ?_
          rintro e w7 ⟨rfl, m7, rfl⟩
          go_wp2
          go_roundw
          case rel => exact ⟨k + 1, by omega, by go_num, bdrew HL6.out m7⟩
          case measure => simp [intOf]; omega
        · go_wp2_with fail
          refine (wakes11_any _).mono ?_
          rintro e w1 ⟨rfl, hb1⟩
          go_wp2
          go_ret
          exact ⟨rfl, hbl.trans (hb1.mono hbl.size)⟩
      · go_wp2_with fail
        refine (wakes11_any _).mono ?_
        rintro e w1 ⟨rfl, hb1⟩
        go_wp2
        go_ret
        exact ⟨rfl, hbl.trans (hb1.mono hbl.size)⟩
  · go_wp2
    go_ret
    exact ⟨rfl, Below.refl _ _⟩
theorem icmpReplies_walk (W : World) (v : Value) (h : RdZ Try.prog W 62 [v]) :
    Calls Try.prog 9 #[v] W fun e W' => e = .returned (.bool true) ∧ Below W.heap.size W W' := by
  obtain ⟨L, hL⟩ := cellsB_of W v h
  exact icmpReplies_any v L W hL
namespace icmpReplies
open Go.ChangeShapes Go.WideShapes Go.ChangeAt
theorem own : ownKnob Try.prog.godebug = none := by kernel_rfl
theorem laidOut : laidOutB Try.prog = true := by kernel_rfl
set_option maxRecDepth 100000 in
theorem lifted (os : Os) (started : os.Started) (H : Type) (enc : TypeId × Value → H) :
    ReturnsInHanded {} Try.checked os 9 .any (Rows.icmpRepliesSpec.pre6 enc Try.prog Try.f9 Rows.icmpRepliesRow.domain false) (Rows.icmpRepliesSpec.post enc Try.prog Try.f9 false true false false) := by
  refine returnsInHanded_of_change_sized (C := Try.checked) own started (by kernel_rfl) Try.func9
    (ChangeSpec.witness6 (enc := enc) (C := Try.checked) false ⟨#[], #[.slice none 0 0], []⟩ 12 (by kernel_rfl) (by kernel_rfl) (by kernel_rfl) (by kernel_rfl)) ?_
  intro W base args ds gs before hval0 hW _ hsz0 _
  have hsz : (DataW.weightsEach Try.prog (Try.f9.params.toList ++ Rows.icmpRepliesSpec.plain.varTypes Try.prog) (ds ++ gs)).all (· ≤ reachBytes) = true := hsz0
  clear hsz0
  have hval : ∀ (j : Nat) t v, Try.f9.params[j]? = some t → args[j]? = some v → Value.okWide Try.prog W .any base t v := hval0
  have hW' := hW
  obtain ⟨p, q, hA0, hV, rfl, hfz, hnd⟩ := hW
  have hA : DataW.TrodAll enc Try.prog W 0 (fun _ => true) true Try.f9.params.toList args.toList ds p := hA0
  rw [Try.params9] at hA hval
  obtain ⟨v0, vs0, d0, ds0, p0, q0, hargs, rfl, rfl, h0, r0⟩ := trodAll_cons hA
  obtain ⟨rfl, rfl, rfl⟩ := trodAll_nil r0
  obtain rfl : args = #[v0] := by cases args; simp_all
  obtain ⟨rfl, rfl⟩ := trodVars_none hV
  obtain ⟨a0, len0, cap0, rfl⟩ := okWide_slice Try.underlying62 (hval 0 62 v0 rfl rfl)
  have k0 := h0
  have lt0 : ∀ x ∈ p0, x.block < W.heap.size := by obtain ⟨m, hm⟩ := k0; exact DataW.trod_lt m _ _ _ hm
  have hrd : RdZ Try.prog W 62 [.slice a0 len0 cap0] := by obtain ⟨fuel, hf⟩ := h0; exact ⟨H, enc, 0, _, true, fuel, _, hf, by simp only [List.all_eq_true]; intro n hn; exact List.all_eq_true.1 hsz n (DataW.weights_mem_each (j := 0) rfl rfl n hn)⟩
  clear hA0 hval0
  refine (show Calls Try.prog 9 _ W (fun e W' => e = .returned (.bool true) ∧ Below W.heap.size W W') from icmpReplies_walk W _ hrd).mono fun e W' ⟨he, bel⟩ => ?_
  subst he
  exact ⟨_, rfl, _, _, _, [], _, [], hW', trodAll_mk1 (shut_bool Try.underlying4 _), (trodAll_cons_mk (Below.trod laidOut (by kernel_rfl) (of_decide_eq_true (by kernel_rfl)) k0 bel lt0) trodAll_mk0), rfl, bel.frame _, fun h => by cases h⟩
theorem over : Rows.icmpRepliesRow.holds Try.pinned (OpenSpec.ofChange Rows.icmpRepliesSpec) :=
  OpenClaim.holds_of_wide 9 Try.f9 rfl rfl rfl rfl rfl rfl rfl ⟨rfl, rfl, rfl, rfl, rfl⟩ rfl rfl rfl rfl rfl (by kernel_rfl) Try.func9 (by kernel_rfl)
    (of_decide_eq_true (by kernel_rfl)) (by unfold Func.isWrapper; first | (rw [if_pos (by decide +kernel)]; kernel_rfl) | (rw [if_neg (by decide +kernel)]; exact ⟨rfl, rfl⟩))
    (fun os started H enc _ => lifted os started H enc)
/-- THE STATEMENT. -/
theorem proved : Rows.IcmpRepliesSaid := over
end icmpReplies
-- CLAIM: IcmpReplies icmpReplies.proved
end Go.Proofs.Ytgaimpopcehabaa
