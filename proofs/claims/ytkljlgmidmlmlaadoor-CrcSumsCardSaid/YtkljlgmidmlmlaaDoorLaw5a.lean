/-
  The law CrcSums: sums of any bytes, behind any sum, are those of the reference (a card: the table of package crc is tied to the program's text). No condition.
-/
import Derived.Test.YtkljlgmidmlmlaaDoorTie
import Derived.Test.YtkljlgmidmlmlaaDoorCards
import Derived.SevenTiedAt
import Derived.ProofKit
import Derived.LaidMore
import Derived.OpenShut
import Derived.Stop.Joined
import Derived.Test.YtkljlgmidmlmlaaDoorCrcB
namespace Go.Proofs.YtkljlgmidmlmlaaDoor
open Go.RowKit
set_option maxRecDepth 100000 in
set_option maxHeartbeats 2000000 in
theorem crcSums_any (v : Value) (L : List Ask5) (w : World) (ht : Tab w) (hv : SlOf w 3 (fun w b off q => Ask5.At w b off q) v L) :
    Calls Tryd.prog 3 #[v] w fun e w' => e = .returned (.bool true) ∧ Below w.heap.size w w' := by
  obtain ⟨ao, cap, rfl, hlc, hlm, -, hB⟩ := hv
  have HB := Lib.hid hB; clear hB
  have hlen : L.length ≤ maxLen := by omega
  have HT := Lib.hid ht; clear ht
  clear hlm hlc
  go_enter Tryd.func3, Tryd.ntmps3
  go_wp2
  go_loopw [3] (fun i wr => ∃ k : Nat, k ≤ L.length ∧ i = .int .i64 k ∧ Below w.heap.size w wr) (fun i _ => L.length - (intOf i).toNat)
  case atStart => exact ⟨0, by omega, rfl, Below.refl _ _⟩
  case round =>
    obtain ⟨k, hk, rfl, hbl⟩ := hrel
    have TR := Lib.hid (HT.out.below hbl)
    by_cases hlt : k < L.length
    · by_cases h20 : k < 15
      · obtain ⟨b, off, rfl, hbw, hBB⟩ := HB.out (by intro h; simp [h] at hlt)
        obtain ⟨⟨S, B, N⟩, hq⟩ : ∃ q, L[k]? = some q := ⟨_, List.getElem?_eq_getElem hlt⟩
        obtain ⟨hc0, ⟨vb, hc1, hS⟩, -, -⟩ := hBB k _ hq
        clear hBB hq
        dsimp only at hc0 hc1 hS
        obtain ⟨ao2, cap2, rfl, -⟩ := id hS
        have HS := Lib.hid hS; clear hS
        have hd0 := (hbl.cell (p := ⟨b, off + k * 3, none⟩) hbw).trans hc0
        have hd1 := (hbl.cell (p := ⟨b, off + k * 3 + 1, none⟩) hbw).trans hc1
        clear hc0 hc1
        by_cases h3 : B.length ≤ 3000
        · have hsz := hbl.size
          have HS1 := Lib.hid (HS.out.below hbl)
          go_wp2_with fail
          refine (copyBytes_any _ B _ (by omega) HS1.out).mono ?_
          rintro e w1 ⟨vc, rfl, hb1, hown⟩
          have hf0 := (hb1.cell (p := ⟨b, off + k * 3, none⟩) (by simp; omega)).trans hd0
          have hf1 := (hb1.cell (p := ⟨b, off + k * 3 + 1, none⟩) (by simp; omega)).trans hd1
          have hC := (Sl.of_own hown).1
          obtain ⟨ao3, cap3, rfl, -⟩ := id hC
          have T1 := TR.out.below hb1
          have A1 := Lib.hid (fun n => crcSum_any S _ B (w1.drewN n) (by omega) (hC.drewN n) ⟨T1.1, T1.2⟩)
          have A2 := Lib.hid (fun n => rcrcSum_any S _ B (w1.drewN n) (by omega) ((HS1.out.below hb1).drewN n))
          have A3 := Lib.hid (fun n => eqBytes_any _ _ B B (w1.drewN n) (by omega) (by omega) (hC.drewN n) ((HS1.out.below hb1).drewN n))
          simp only [decide_true] at A3
          have hbl1 : Below w.heap.size w w1 := hbl.trans (hb1.mono hsz)
          clear hd0 hd1 hC hown hb1 hbl T1
          generalize crcS S B = r at *
          have neq : ((r.toNat : Int) != (r.toNat : Int)) = false := by simp
          go_wp2
          go_quiet (first
            | (with_reducible exact quiet_eq (A1.out _))
            | (with_reducible exact quiet_eq (A2.out _))
            | (with_reducible exact Calls.quiet_of (A3.out _)))
          go_wp2
          go_roundw
          case rel => exact ⟨k + 1, by omega, by go_num, bdrew hbl1 _⟩
          case measure => simp [intOf]; omega
        · go_wp2
          go_ret
          exact ⟨rfl, hbl⟩
      · go_wp2_with fail
        refine (wakes5_any _ TR.out).mono ?_
        rintro e w1 ⟨rfl, hb1⟩
        go_wp2
        go_ret
        exact ⟨rfl, hbl.trans (hb1.mono hbl.size)⟩
    · go_wp2_with fail
      refine (wakes5_any _ TR.out).mono ?_
      rintro e w1 ⟨rfl, hb1⟩
      go_wp2
      go_ret
      exact ⟨rfl, hbl.trans (hb1.mono hbl.size)⟩
theorem crcSums_walk (W : World) (hL : laidMetH Tryd.prog laid1 W) (v : Value) (h : Rd Tryd.prog W 22 [v]) :
    Calls Tryd.prog 3 #[v] W fun e W' => e = .returned (.bool true) ∧ Below W.heap.size W W' := by
  obtain ⟨L, hV⟩ := asks5_of W v h
  exact crcSums_any v L W (tab_of_laid hL) hV
namespace crcSums
open Go.ChangeShapes Go.WideShapes Go.ChangeAt
theorem own : ownKnob Tryd.prog.godebug = none := by kernel_rfl
theorem laidOut : laidOutB Tryd.prog = true := by kernel_rfl
set_option maxRecDepth 100000 in
theorem lifted (os : Os) (started : os.Started) (H : Type) (enc : TypeId × Value → H) :
    ReturnsInHanded {} Tryd.checked os 3 .any (fun w args => (Rows.crcSumsSpec.pre enc Tryd.prog Tryd.f3 [] false w args ∧ laidMetH Tryd.prog laid1 w) ∧ sizedMet enc Tryd.prog Tryd.f3 (OpenSpec.ofChange Rows.crcSumsSpec) false w args)
      (Rows.crcSumsSpec.post enc Tryd.prog Tryd.f3 false true false false) := by
  refine returnsInHanded_of_change_and (C := Tryd.checked) (X := fun w _ => laidMetH Tryd.prog laid1 w) (fun _ _ _ hh h => h.of_heap hh) own started (by kernel_rfl) Tryd.func3
    (ChangeSpec.witness_shaped (enc := enc) (C := Tryd.checked) (os := os) (X := fun w _ => laidMetH Tryd.prog laid1 w) false (World.doorLaid Tryd.prog 14 os) #[.slice none 0 0] 12 rfl (World.shaped_of_RefB (by kernel_rfl) (by kernel_rfl)) (by kernel_rfl) (by kernel_rfl) (by kernel_rfl) (door_met os _)) ?_
  intro W base args ds gs before hval0 hW _ _ hL _
  have hval : ∀ (j : Nat) t v, Tryd.f3.params[j]? = some t → args[j]? = some v → Value.okWide Tryd.prog W .any base t v := hval0
  have hW' := hW
  obtain ⟨p, q, hA0, hV, rfl, hfz, hnd⟩ := hW
  have hA : DataW.TrodAll enc Tryd.prog W 0 (fun _ => true) true Tryd.f3.params.toList args.toList ds p := hA0
  rw [Tryd.params3] at hA hval
  obtain ⟨v0, vs0, d0, ds0, p0, q0, hargs, rfl, rfl, h0, r0⟩ := trodAll_cons hA
  obtain ⟨rfl, rfl, rfl⟩ := trodAll_nil r0
  obtain rfl : args = #[v0] := by cases args; simp_all
  obtain ⟨rfl, rfl⟩ := trodVars_none hV
  obtain ⟨a0, len0, cap0, rfl⟩ := okWide_slice Tryd.underlying22 (hval 0 22 v0 rfl rfl)
  have k0 := h0
  have lt0 : ∀ x ∈ p0, x.block < W.heap.size := by obtain ⟨m, hm⟩ := k0; exact DataW.trod_lt m _ _ _ hm
  have hrd : Rd Tryd.prog W 22 [.slice a0 len0 cap0] := by obtain ⟨fuel, hf⟩ := h0; exact ⟨H, enc, 0, _, true, fuel, _, hf⟩
  clear hA0 hval0
  refine (show Calls Tryd.prog 3 _ W (fun e W' => e = .returned (.bool true) ∧ Below W.heap.size W W') from crcSums_walk W hL _ hrd).mono fun e W' ⟨he, bel⟩ => ?_
  subst he
  exact ⟨_, rfl, _, _, _, [], _, [], hW', trodAll_mk1 (shut_bool Tryd.underlying4 _), (trodAll_cons_mk (Below.trod laidOut (by kernel_rfl) (of_decide_eq_true (by kernel_rfl)) k0 bel lt0) trodAll_mk0), rfl, bel.frame _, fun h => by cases h⟩
theorem over : Rows.crcSumsRow.holds Tryd.pinned (OpenSpec.ofChange Rows.crcSumsSpec) :=
  OpenClaim.holds_of_wide 3 Tryd.f3 rfl rfl rfl rfl rfl rfl rfl ⟨rfl, rfl, rfl, rfl, rfl⟩ rfl rfl rfl rfl rfl (by kernel_rfl) Tryd.func3 (by kernel_rfl)
    (of_decide_eq_true (by kernel_rfl)) (by unfold Func.isWrapper; first | (rw [if_pos (by decide +kernel)]; kernel_rfl) | (rw [if_neg (by decide +kernel)]; exact ⟨rfl, rfl⟩))
    (fun os started H enc _ => lifted os started H enc)
/-- THE STATEMENT: the card, its listed variables tied to the program's text. -/
theorem proved : Rows.CrcSumsCardSaid :=
  Claim7.holds_tied_plain_at .later [] [.data] true _ false
    over (fun _ h => by cases h) (by kernel_rfl) (fun _ h => by cases h) crcSums_row_tie rfl ⟨rfl, rfl⟩ (by kernel_rfl) rfl
    (fun f fn hf hfn => by
      obtain rfl : f = 3 := Option.some.inj ((show Tryd.prog.funcNamed "kiosk/kiosklaw5.CrcSums" = some 3 by kernel_rfl).symm.trans hf) |>.symm
      obtain rfl : fn = Tryd.f3 := (Option.some.inj (Tryd.func3.symm.trans hfn)).symm
      exact ⟨by kernel_rfl, fun j t ht => by
        rw [Tryd.params3] at ht
        have hm : t ∈ [22] := by simpa using Array.mem_of_getElem? ht
        have hall : ([22].all fun u => !Tryd.prog.wantsStandIn u) = true := by kernel_rfl
        exact (show Tryd.prog.wantsStandIn t = false by simpa using List.all_eq_true.1 hall t hm)⟩)
    (by kernel_rfl)
end crcSums
-- CLAIM: CrcSumsCardSaid crcSums.proved
end Go.Proofs.YtkljlgmidmlmlaaDoor
