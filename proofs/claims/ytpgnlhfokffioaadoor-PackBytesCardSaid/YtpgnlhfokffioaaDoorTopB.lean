/-
  Topics: strings.IndexRune of "+#" at a rune that is not ASCII.
-/
import Derived.Test.YtpgnlhfokffioaaDoorTopLp
import Derived.Laws.RangeAny
import Derived.RegionTactic
import Derived.Deep.RegionWith
import Derived.Deep.RegionHeld3
import Derived.StillTailTactics
import Derived.Shelf.Unicode.DecodeSlow
namespace Go.Proofs.YtpgnlhfokffioaaDoor
open Go.RowKit Go.Shelf Go.Lib
set_option maxRecDepth 100000 in
set_option maxHeartbeats 4000000 in
theorem ir_two_lo (r : Int) (w : World) (h0 : 128 ≤ r) (_he : ¬ r = 65533) (hq : r < 55296) (hval : Utf8.valid r = true) (hsz : (Utf8.encode r).size = 2) :
    Calls Tryd.prog 105 #[.string ⟨#[43, 35]⟩, .int .i32 r] w fun e w' => e = .returned (.int .i64 (-1)) ∧ Below w.heap.size w w' := by
  obtain ⟨hs2, hs4, hlast⟩ := encode_facts r hval h0
  have hC := Lib.hid (fun (t : ByteArray) (c : Int) (w : World) => (show Calls Tryd.prog 113 #[.string t, .int .u8 c] w _ from Any.strings_IndexByte Tryd.laysIndexByte t c w))
  obtain ⟨e, hee⟩ : ∃ e, Utf8.encode r = e := ⟨_, rfl⟩
  rw [hee] at hs2 hs4 hlast
  obtain ⟨la, hla⟩ : ∃ la : Nat, e.size = la + 1 := ⟨e.size - 1, by omega⟩
  have hlz : (e.size : Int) - 1 = (la : Int) := by omega
  rw [hee] at hsz
  obtain rfl : la = 1 := by omega
  have hx := hlast (by omega)
  obtain ⟨x, hxe⟩ : ∃ x, e[e.size - 1]'(by omega) = x := ⟨_, rfl⟩
  have hg1 : e.get! 1 = x := by
    rw [← hxe, Utf8W.get!_of_lt e 1 (by omega)]
    congr 1
    omega
  rw [hxe] at hx
  have hx1 : e[1]'(by omega) = x := by rw [← hg1]; exact (Utf8W.get!_of_lt e 1 (by omega)).symm
  have hne : (((((⟨#[43, 35]⟩ : ByteArray)[1]'(by decide)).toNat : Nat) : Int) != (((e[1]'(by omega)).toNat : Nat) : Int)) = true := by
    rw [bne_iff_ne, hx1]
    have h35 : ((⟨#[43, 35]⟩ : ByteArray)[1]'(by decide)).toNat = 35 := rfl
    rw [h35]; omega
  have hw2 : 0 ≤ IntKind.i64.wrap 2 ∧ IntKind.i64.wrap 2 ≤ 2 := by decide
  have HIB := Lib.hid (fun W => (show Calls Tryd.prog 113 #[.string ((⟨#[43, 35]⟩ : ByteArray).extract (IntKind.i64.wrap 2).toNat 2), .int .u8 x.toNat] W fun e w' => e = .returned (.int .i64 (-1)) ∧ W = w' from (hC.out ((⟨#[43, 35]⟩ : ByteArray).extract (IntKind.i64.wrap 2).toNat 2) x.toNat W).mono (fun _ _ h => ⟨h.1.trans rfl, h.2.symm⟩)))
  have h2e : (1 : Int) < (e.size : Int) := by omega
  have hes : e.size = 2 := by omega
  clear hlast hxe
  have n0 : ¬ (r < 128) := by omega
  go_enter Tryd.func105, Tryd.ntmps105
  go_wp2
  go_step3
  go_wp2
  go_loopw [9] (fun i wr => i = .int .i64 1 ∧ wr = w) (fun _ _ => 0)
  case atStart => exact ⟨by simp, rfl⟩
  case round =>
    obtain ⟨rfl, rfl⟩ := hrel
    go_wp2
    go_step3
    go_wp2_with (fail)
    go_region
    go_wp2_with (fail)
    rotate_left 1
    · first | exact absurd hne (by assumption) | (simp_all; done)
    go_quiet (first | (with_reducible exact quiet_eq2 (HIB.out _)))
    go_wp2
    all_goals
      simp (config := {zetaDelta := true, failIfUnchanged := false}) only [Exit.noGoto, Exit.inBlock, Exit.then]
      go_ret
      exact ⟨rfl, below_drewN (Below.refl _ _) _⟩
set_option maxRecDepth 100000 in
set_option maxHeartbeats 4000000 in
theorem ir_long_lo (r : Int) (w : World) (h0 : 128 ≤ r) (_he : ¬ r = 65533) (hq : r < 55296) (hval : Utf8.valid r = true) (hsz : 2 < (Utf8.encode r).size) :
    Calls Tryd.prog 105 #[.string ⟨#[43, 35]⟩, .int .i32 r] w fun e w' => e = .returned (.int .i64 (-1)) ∧ Below w.heap.size w w' := by
  obtain ⟨hs2, hs4, hlast⟩ := encode_facts r hval h0
  have hC := Lib.hid (fun (t : ByteArray) (c : Int) (w : World) => (show Calls Tryd.prog 113 #[.string t, .int .u8 c] w _ from Any.strings_IndexByte Tryd.laysIndexByte t c w))
  obtain ⟨e, hee⟩ : ∃ e, Utf8.encode r = e := ⟨_, rfl⟩
  rw [hee] at hs2 hs4 hlast
  obtain ⟨la, hla⟩ : ∃ la : Nat, e.size = la + 1 := ⟨e.size - 1, by omega⟩
  have hlz : (e.size : Int) - 1 = (la : Int) := by omega
  rw [hee] at hsz
  have hl3 : ¬ ((la : Int) < 2) := by omega
  have n0 : ¬ (r < 128) := by omega
  go_enter Tryd.func105, Tryd.ntmps105
  go_wp2
  go_step3
  go_wp2
  go_loopw [9] (fun i wr => i = .int .i64 la ∧ wr = w) (fun _ _ => 0)
  case atStart => exact ⟨by simp, rfl⟩
  case round =>
    obtain ⟨rfl, rfl⟩ := hrel
    go_wp2
    try rw [Exit.noGoto_ret]
    go_ret
    exact ⟨rfl, Below.refl _ _⟩
set_option maxRecDepth 100000 in
set_option maxHeartbeats 4000000 in
theorem ir_two_hi (r : Int) (w : World) (h0 : 128 ≤ r) (_he : ¬ r = 65533) (hq : 57343 < r) (h1 : r ≤ 1114111) (hval : Utf8.valid r = true) (hsz : (Utf8.encode r).size = 2) :
    Calls Tryd.prog 105 #[.string ⟨#[43, 35]⟩, .int .i32 r] w fun e w' => e = .returned (.int .i64 (-1)) ∧ Below w.heap.size w w' := by
  obtain ⟨hs2, hs4, hlast⟩ := encode_facts r hval h0
  have hC := Lib.hid (fun (t : ByteArray) (c : Int) (w : World) => (show Calls Tryd.prog 113 #[.string t, .int .u8 c] w _ from Any.strings_IndexByte Tryd.laysIndexByte t c w))
  obtain ⟨e, hee⟩ : ∃ e, Utf8.encode r = e := ⟨_, rfl⟩
  rw [hee] at hs2 hs4 hlast
  obtain ⟨la, hla⟩ : ∃ la : Nat, e.size = la + 1 := ⟨e.size - 1, by omega⟩
  have hlz : (e.size : Int) - 1 = (la : Int) := by omega
  rw [hee] at hsz
  obtain rfl : la = 1 := by omega
  have hx := hlast (by omega)
  obtain ⟨x, hxe⟩ : ∃ x, e[e.size - 1]'(by omega) = x := ⟨_, rfl⟩
  have hg1 : e.get! 1 = x := by
    rw [← hxe, Utf8W.get!_of_lt e 1 (by omega)]
    congr 1
    omega
  rw [hxe] at hx
  have hx1 : e[1]'(by omega) = x := by rw [← hg1]; exact (Utf8W.get!_of_lt e 1 (by omega)).symm
  have hne : (((((⟨#[43, 35]⟩ : ByteArray)[1]'(by decide)).toNat : Nat) : Int) != (((e[1]'(by omega)).toNat : Nat) : Int)) = true := by
    rw [bne_iff_ne, hx1]
    have h35 : ((⟨#[43, 35]⟩ : ByteArray)[1]'(by decide)).toNat = 35 := rfl
    rw [h35]; omega
  have hw2 : 0 ≤ IntKind.i64.wrap 2 ∧ IntKind.i64.wrap 2 ≤ 2 := by decide
  have HIB := Lib.hid (fun W => (show Calls Tryd.prog 113 #[.string ((⟨#[43, 35]⟩ : ByteArray).extract (IntKind.i64.wrap 2).toNat 2), .int .u8 x.toNat] W fun e w' => e = .returned (.int .i64 (-1)) ∧ W = w' from (hC.out ((⟨#[43, 35]⟩ : ByteArray).extract (IntKind.i64.wrap 2).toNat 2) x.toNat W).mono (fun _ _ h => ⟨h.1.trans rfl, h.2.symm⟩)))
  have h2e : (1 : Int) < (e.size : Int) := by omega
  have hes : e.size = 2 := by omega
  clear hlast hxe
  have n0 : ¬ (r < 128) := by omega
  go_enter Tryd.func105, Tryd.ntmps105
  go_wp2
  go_step3
  go_wp2
  go_loopw [9] (fun i wr => i = .int .i64 1 ∧ wr = w) (fun _ _ => 0)
  case atStart => exact ⟨by simp, rfl⟩
  case round =>
    obtain ⟨rfl, rfl⟩ := hrel
    go_wp2
    go_step3
    go_wp2_with (fail)
    go_region
    go_wp2_with (fail)
    rotate_left 1
    · first | exact absurd hne (by assumption) | (simp_all; done)
    go_quiet (first | (with_reducible exact quiet_eq2 (HIB.out _)))
    go_wp2
    all_goals
      simp (config := {zetaDelta := true, failIfUnchanged := false}) only [Exit.noGoto, Exit.inBlock, Exit.then]
      go_ret
      exact ⟨rfl, below_drewN (Below.refl _ _) _⟩
set_option maxRecDepth 100000 in
set_option maxHeartbeats 4000000 in
theorem ir_long_hi (r : Int) (w : World) (h0 : 128 ≤ r) (_he : ¬ r = 65533) (hq : 57343 < r) (h1 : r ≤ 1114111) (hval : Utf8.valid r = true) (hsz : 2 < (Utf8.encode r).size) :
    Calls Tryd.prog 105 #[.string ⟨#[43, 35]⟩, .int .i32 r] w fun e w' => e = .returned (.int .i64 (-1)) ∧ Below w.heap.size w w' := by
  obtain ⟨hs2, hs4, hlast⟩ := encode_facts r hval h0
  have hC := Lib.hid (fun (t : ByteArray) (c : Int) (w : World) => (show Calls Tryd.prog 113 #[.string t, .int .u8 c] w _ from Any.strings_IndexByte Tryd.laysIndexByte t c w))
  obtain ⟨e, hee⟩ : ∃ e, Utf8.encode r = e := ⟨_, rfl⟩
  rw [hee] at hs2 hs4 hlast
  obtain ⟨la, hla⟩ : ∃ la : Nat, e.size = la + 1 := ⟨e.size - 1, by omega⟩
  have hlz : (e.size : Int) - 1 = (la : Int) := by omega
  rw [hee] at hsz
  have hl3 : ¬ ((la : Int) < 2) := by omega
  have n0 : ¬ (r < 128) := by omega
  go_enter Tryd.func105, Tryd.ntmps105
  go_wp2
  go_step3
  go_wp2
  go_loopw [9] (fun i wr => i = .int .i64 la ∧ wr = w) (fun _ _ => 0)
  case atStart => exact ⟨by simp, rfl⟩
  case round =>
    obtain ⟨rfl, rfl⟩ := hrel
    go_wp2
    try rw [Exit.noGoto_ret]
    go_ret
    exact ⟨rfl, Below.refl _ _⟩
set_option maxRecDepth 100000 in
set_option maxHeartbeats 4000000 in
theorem ir_bad (r : Int) (w : World) (_he : ¬ r = 65533) (hv1 : ¬ (r < 55296)) (hv2 : ¬ (57343 < r)) :
    Calls Tryd.prog 105 #[.string ⟨#[43, 35]⟩, .int .i32 r] w fun e w' => e = .returned (.int .i64 (-1)) ∧ Below w.heap.size w w' := by
  have n0 : ¬ (r < 128) := by omega
  go_enter Tryd.func105, Tryd.ntmps105
  go_wp2
  go_ret
  exact ⟨rfl, Below.refl _ _⟩
set_option maxRecDepth 100000 in
set_option maxHeartbeats 4000000 in
theorem ir_big (r : Int) (w : World) (hv1 : ¬ (r < 55296)) (hv2 : 57343 < r) (h1 : ¬ r ≤ 1114111) :
    Calls Tryd.prog 105 #[.string ⟨#[43, 35]⟩, .int .i32 r] w fun e w' => e = .returned (.int .i64 (-1)) ∧ Below w.heap.size w w' := by
  have he : ¬ r = 65533 := by omega
  have n0 : ¬ (r < 128) := by omega
  go_enter Tryd.func105, Tryd.ntmps105
  go_wp2
  go_ret
  exact ⟨rfl, Below.refl _ _⟩
theorem _root_.Go.Below.iter (w : World) (s : ByteArray) (p : Nat) : Below w.heap.size w (w.iter s p) := by
  have := (Below.refl w.heap.size w).alloc (by omega) (o := .stringIter s p)
  exact this
set_option maxRecDepth 100000 in
set_option maxHeartbeats 4000000 in
theorem ir_err (w : World) :
    Calls Tryd.prog 105 #[.string ⟨#[43, 35]⟩, .int .i32 65533] w fun e w' => e = .returned (.int .i64 (-1)) ∧ Below w.heap.size w w' := by
  obtain ⟨s, hs⟩ : ∃ s : ByteArray, s = ⟨#[43, 35]⟩ := ⟨_, rfl⟩
  rw [← hs]
  have hsz : s.size = 2 := by rw [hs]; rfl
  have hb0 : (s[0]'(by omega)).toNat = 43 := by subst hs; rfl
  have hb1 : (s[1]'(by omega)).toNat = 35 := by subst hs; rfl
  clear hs
  have hn0 := fun ty => run_next_ascii (P := Tryd.prog) w s 0 ty (by omega) (by omega)
  have hn1 := fun ty => run_next_ascii (P := Tryd.prog) w s 1 ty (by omega) (by omega)
  have hn2 := run_next_end (P := Tryd.prog) w s 2
  rw [hb0] at hn0
  rw [hb1] at hn1
  go_enter Tryd.func105, Tryd.ntmps105
  go_wp2
  go_loopg [5, 6] 2 (fun g _ _ wx => ∃ i : Nat, i + g = 2 ∧ wx = w.iter s i)
  case atStart => exact ⟨0, by omega, rfl⟩
  case round =>
    obtain ⟨i, hig, rfl⟩ := hrel
    cases gk with
    | zero =>
      obtain rfl : i = 2 := by omega
      have hnx := run_next_end (P := Tryd.prog) w s 2
      have h22 : ¬ (2 < s.size) := by omega
      go_wp2
      go_ret
      exact ⟨rfl, Below.iter w s 2⟩
    | succ g =>
      have hi : i < s.size := by omega
      obtain ⟨x, hx⟩ : ∃ x : UInt8, s[i]'hi = x := ⟨_, rfl⟩
      have hx128 : x.toNat < 128 := by
        have : i = 0 ∨ i = 1 := by omega
        rcases this with rfl | rfl
        · rw [← hx, hb0]; omega
        · rw [← hx, hb1]; omega
      have hnx := fun ty => run_next_ascii (P := Tryd.prog) w s i ty hi (by rw [hx]; exact hx128)
      rw [hx] at hnx
      have hxn : (((x.toNat : Int)) == 65533) = false := beq_eq_false_iff_ne.2 (by omega)
      clear hx hb0 hb1 hn0 hn1 hn2
      go_wp2
      go_roundg g
      case measure => omega
      case rel => exact ⟨i + 1, by omega, rfl⟩
end Go.Proofs.YtpgnlhfokffioaaDoor
