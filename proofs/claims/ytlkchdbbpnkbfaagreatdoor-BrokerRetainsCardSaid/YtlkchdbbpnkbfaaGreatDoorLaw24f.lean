/-
  The law BrokerRetains: What is kept is told to each who wishes for it, and taken away by what is empty.
-/
import Derived.Test.YtlkchdbbpnkbfaaGreatDoorTie
import Derived.Test.YtlkchdbbpnkbfaaGreatDoorCards
import Derived.SevenTiedAt
import Derived.ProofKit
import Derived.LaidMore
import Derived.OpenShut
import Derived.Stop.Joined
import Derived.Lay
import Derived.MakeChecks
import Derived.LaidOnce
/-
  What is kept is told to each who wishes for it, and taken away by what is empty.: run by the reckoner.
-/
import Derived.Test.YtlkchdbbpnkbfaaGreatDoorRzBrokerRetains
import Derived.Test.YtlkchdbbpnkbfaaGreatDoorRead
namespace Go.Proofs.YtlkchdbbpnkbfaaGreatDoor
open Go.RowKit Go.Rk
abbrev laid1 : List (String × DataW Unit) := [("math/bits.deBruijn32tab", Rows.laid_math_bits_deBruijn32tab), ("math/bits.deBruijn64tab", Rows.laid_math_bits_deBruijn64tab), ("internal/strconv.uint64pow10", Rows.laid_internal_strconv_uint64pow10), ("unicode/utf8.acceptRanges", Rows.laid_unicode_utf8_acceptRanges), ("unicode/utf8.first", Rows.laid_unicode_utf8_first)]
theorem rkNames : namesOk Tryz.prog = true := by decide +kernel
theorem rkMixed : Tryz.prog.follows .mixedOrders = true := by decide +kernel
theorem rkIx : ExtFact Tryz.prog 199 Extern.BytealgIndexByte.indexByte := ⟨_, Tryz.func199, by kernel_rfl, by kernel_rfl, by kernel_rfl, by kernel_rfl⟩
theorem rkCmp : ExtFact Tryz.prog 150 Extern.BytealgCompare.compare := ⟨_, Tryz.func150, by kernel_rfl, by kernel_rfl, by kernel_rfl, by kernel_rfl⟩
set_option maxRecDepth 100000 in
theorem post_of (W : World) (cs : List Value) (h : Rd Tryz.prog W 25 cs) : ∃ (a0 a1 : Option Addr) (n0 c0 n1 c1 : Nat) (q : Int), cs = [.slice a0 n0 c0, .slice a1 n1 c1, .int .i64 q] := by
  obtain ⟨hlen, hf⟩ := h.struct Tryz.underlying25
  match cs, hlen with
  | [x0, x1, x2], _ =>
    obtain ⟨a0, n0, c0, h0, -⟩ := (hf 0 _ rfl).slice Tryz.underlying22 (of_decide_eq_true (by kernel_rfl))
    obtain ⟨a1, n1, c1, h1, -⟩ := (hf 1 _ rfl).slice Tryz.underlying23 (of_decide_eq_true (by kernel_rfl))
    obtain ⟨q, h2, -⟩ := (hf 2 _ rfl).int Tryz.underlying3
    have e0 : x0 = .slice a0 n0 c0 := List.head_eq_of_cons_eq h0
    have e1 : x1 = .slice a1 n1 c1 := List.head_eq_of_cons_eq h1
    have e2 : x2 = .int .i64 q := List.head_eq_of_cons_eq h2
    subst e0 e1 e2
    exact ⟨a0, a1, n0, c0, n1, c1, q, rfl⟩
theorem brokerRetains_walk (W : World) (_hL : laidMetH Tryz.prog laid1 W) (cs : List Value) (h : Rd Tryz.prog W 25 cs) :
    Calls Tryz.prog 6 #[.agg cs.toArray] W fun e W' => e = .returned (.bool true) ∧ Below W.heap.size W W' := by
  obtain ⟨a0, a1, n0, c0, n1, c1, q, rfl⟩ := post_of W cs h
  exact law_of (ev := fun _ => n1) rkMixed rkNames (fun _ => ovM_ok rkMixed rkNames (ov2_ok rkIx rkCmp) rkTabOk) Tryz.func6 rfl rkRuns (.cons (.ag (.cons (.un rfl) (.cons (.osl (Nat.zero_le _) (fun h => nomatch h)) (.cons (.un rfl) .nil))) (fun v hv => by simp only [List.mem_cons, List.mem_nil_iff, or_false] at hv; rcases hv with rfl | rfl | rfl <;> rfl)) .nil) W
namespace brokerRetains
open Go.ChangeShapes Go.WideShapes Go.ChangeAt
theorem own : ownKnob Tryz.prog.godebug = none := by kernel_rfl
theorem laidOut : laidOutB Tryz.prog = true := by kernel_rfl
set_option maxRecDepth 100000 in
theorem lifted (os : Os) (started : os.Started) (H : Type) (enc : TypeId × Value → H) :
    ReturnsInHanded {} Tryz.checked os 6 .any (fun w args => (Rows.brokerRetainsSpec.pre enc Tryz.prog Tryz.f6 [] false w args ∧ laidMetH Tryz.prog laid1 w) ∧ sizedMet enc Tryz.prog Tryz.f6 (OpenSpec.ofChange Rows.brokerRetainsSpec) false w args)
      (Rows.brokerRetainsSpec.post enc Tryz.prog Tryz.f6 false true false false) := by
  refine returnsInHanded_of_change_and (C := Tryz.checked) (X := fun w _ => laidMetH Tryz.prog laid1 w) (fun _ _ _ hh h => h.of_heap hh) own started (by kernel_rfl) Tryz.func6
    (ChangeSpec.witness_shaped (enc := enc) (C := Tryz.checked) (os := os) (X := fun w _ => laidMetH Tryz.prog laid1 w) false (World.laidAll Tryz.prog os laid1) #[.agg #[.slice none 0 0, .slice none 0 0, .int .i64 0]] 12 (World.laidAll_os _ _ _) (World.shaped_of_ZipB (by kernel_rfl) (by kernel_rfl)) (by kernel_rfl) (by kernel_rfl) (by kernel_rfl) (by rw [MakeChecks.laidMetH_plain _ _ _ (by kernel_rfl)]; exact laidMet_laidAll _ (by kernel_rfl) (by kernel_rfl))) ?_
  intro W base args ds gs before hval0 hW _ _ hL _
  have hval : ∀ (j : Nat) t v, Tryz.f6.params[j]? = some t → args[j]? = some v → Value.okWide Tryz.prog W .any base t v := hval0
  have hW' := hW
  obtain ⟨p, q, hA0, hV, rfl, hfz, hnd⟩ := hW
  have hA : DataW.TrodAll enc Tryz.prog W 0 (fun _ => true) true Tryz.f6.params.toList args.toList ds p := hA0
  rw [Tryz.params6] at hA hval
  obtain ⟨v0, vs0, d0, ds0, p0, q0, hargs, rfl, rfl, h0, r0⟩ := trodAll_cons hA
  obtain ⟨rfl, rfl, rfl⟩ := trodAll_nil r0
  obtain rfl : args = #[v0] := by cases args; simp_all
  obtain ⟨rfl, rfl⟩ := trodVars_none hV
  obtain ⟨cs0, rfl⟩ : ∃ cs0 : Array Value, v0 = .agg cs0 := by
    have h := hval 0 25 v0 rfl rfl
    unfold Value.okWide at h
    rw [Tryz.underlying25] at h
    exact ⟨h.choose, h.choose_spec.1⟩
  have k0 := h0
  have lt0 : ∀ x ∈ p0, x.block < W.heap.size := by obtain ⟨m, hm⟩ := k0; exact DataW.trod_lt m _ _ _ hm
  have hrd : Rd Tryz.prog W 25 cs0.toList := by obtain ⟨fuel, hf⟩ := h0; exact ⟨H, enc, 0, _, true, fuel, _, hf⟩
  clear hA0 hval0
  refine (show Calls Tryz.prog 6 _ W (fun e W' => e = .returned (.bool true) ∧ Below W.heap.size W W') from by have := brokerRetains_walk W hL _ hrd; rwa [Array.toArray_toList] at this).mono fun e W' ⟨he, bel⟩ => ?_
  subst he
  exact ⟨_, rfl, _, _, _, [], _, [], hW', trodAll_mk1 (shut_bool Tryz.underlying4 _), (trodAll_cons_mk (Below.trod laidOut (by kernel_rfl) (of_decide_eq_true (by kernel_rfl)) k0 bel lt0) trodAll_mk0), rfl, bel.frame _, fun h => by cases h⟩
theorem over : Rows.brokerRetainsRow.holds Tryz.pinned (OpenSpec.ofChange Rows.brokerRetainsSpec) :=
  OpenClaim.holds_of_wide 6 Tryz.f6 rfl rfl rfl rfl rfl rfl rfl ⟨rfl, rfl, rfl, rfl, rfl⟩ rfl rfl rfl rfl rfl (by kernel_rfl) Tryz.func6 (by kernel_rfl)
    (of_decide_eq_true (by kernel_rfl)) (by unfold Func.isWrapper; first | (rw [if_pos (by decide +kernel)]; kernel_rfl) | (rw [if_neg (by decide +kernel)]; exact ⟨rfl, rfl⟩))
    (fun os started H enc _ => lifted os started H enc)
/-- THE STATEMENT: the card, its listed variables tied to the program's text. -/
theorem proved : Rows.BrokerRetainsCardSaid :=
  Claim7.holds_tied_plain_at .later [] [.data, .data, .data, .data, .pinned] true _ false
    over (fun _ h => by cases h) (by kernel_rfl) (fun _ h => by cases h) brokerRetains_row_tie rfl ⟨rfl, rfl⟩ (by kernel_rfl) rfl
    (fun f fn hf hfn => by
      obtain rfl : f = 6 := Option.some.inj ((show Tryz.prog.funcNamed "kiosk/kiosklaw24.BrokerRetains" = some 6 by kernel_rfl).symm.trans hf) |>.symm
      obtain rfl : fn = Tryz.f6 := (Option.some.inj (Tryz.func6.symm.trans hfn)).symm
      exact ⟨by kernel_rfl, fun j t ht => by
        rw [Tryz.params6] at ht
        have hm : t ∈ [25] := by simpa using Array.mem_of_getElem? ht
        have hall : ([25].all fun u => !Tryz.prog.wantsStandIn u) = true := by kernel_rfl
        exact (show Tryz.prog.wantsStandIn t = false by simpa using List.all_eq_true.1 hall t hm)⟩)
    (by kernel_rfl)
end brokerRetains
-- CLAIM: BrokerRetainsCardSaid brokerRetains.proved
end Go.Proofs.YtlkchdbbpnkbfaaGreatDoor
