/-
  Topics: what the listed variables and the world's shape give; the laws' small helpers; the asks, read.
-/
import Derived.Test.YtpbpbjnkdgdnpaaDoorTopI
import Derived.Test.YtpbpbjnkdgdnpaaDoorRead
import Derived.HandedShaped
import Derived.LaidMore
import Derived.PinnedBridge
import Derived.Lib.LaidU8T
import Derived.Stop.Joined
import Derived.Shelf.Strings.Shaped
import Derived.MakeChecks
import Derived.Lay
namespace Go.Proofs
open Go.RowKit Go.Shelf Go.Lib
namespace YtpbpbjnkdgdnpaaDoor
open Go.ChangeShapes Go.WideShapes Go.ChangeAt
/-- The wrap of a card, the world's shape kept. -/
theorem handed_and_shaped {H : Type} {enc : TypeId × Value → H} {a : Assume} {C : Checked} {os : Os} {f : FuncId} {fn : Func} {s : ChangeSpec} {conds : List PathCond} {apart fresh handsOn again : Bool} {X : World → Array Value → Prop}
    (hX : ∀ (w w' : World) (args : Array Value), w.heap = w'.heap → X w args → X w' args)
    (own : ownKnob C.prog.godebug = none) (started : os.Started) (noInit : C.prog.inits.idxOf? f = none) (hfn : C.prog.funcs[f]? = some fn)
    (witness : ∃ (w : World) (tape : Tape) (i : Input), w.os = os ∧ (w.forCall tape i).Shaped C.prog ∧ i.vars = [] ∧ Input.okWide C.prog (w.forCall tape i) .any w.heap.size f i ∧
      ((s.pre enc C.prog fn conds apart (w.forCall tape i).memory i.args ∧ X (w.forCall tape i).memory i.args) ∧ sizedMet enc C.prog fn (OpenSpec.ofChange s) apart (w.forCall tape i).memory i.args) ∧ a.holds C.prog (lone (Frame.enter C.prog f i.args .normal) [] (w.forCall tape i)))
    (contract : ∀ (W : World) (base : Nat) (args : Array Value) (ds gs : List (DataW H)) (before : List MemPlace),
      (∀ (j : Nat) t v, fn.params[j]? = some t → args[j]? = some v → Value.okWide C.prog W .any base t v) →
      DataW.Whole enc C.prog fn.params.toList s.vars apart W args.toList ds gs before → X W args → W.ShapedOpen C.prog →
      Calls C.prog f args W fun e W' => ∃ v, e = .returned v ∧ s.post enc C.prog fn apart fresh handsOn again W args v W') :
    ReturnsInHanded a C os f .any (fun w args => (s.pre enc C.prog fn conds apart w args ∧ X w args) ∧ sizedMet enc C.prog fn (OpenSpec.ofChange s) apart w args) (s.post enc C.prog fn apart fresh handsOn again) := by
  refine returnsInHanded_of_calls own started noInit witness ?_
  intro w tape i _ hsh _ hok hpre hholds
  obtain ⟨_, _, _, fn', hfn', _, _, _, _, hval⟩ := hok
  have e : fn' = fn := Option.some.inj (hfn'.symm.trans hfn)
  subst e
  obtain ⟨⟨⟨ds, gs, before, hw, hc⟩, hx⟩, hz⟩ := hpre
  have hw' := DataW.Whole.of_heap (w' := w.forCall tape i) (by rfl) hw
  refine (contract (w.forCall tape i) w.heap.size i.args ds gs before hval hw' (hX _ _ _ (by rfl) hx) hsh).mono fun e W' ⟨v, he, hp⟩ => ?_
  subst he
  exact ChangeSpec.post_blind hp
abbrev laid1 : List (String × DataW Unit) := [("unicode/utf8.acceptRanges", Rows.laid_unicode_utf8_acceptRanges), ("unicode/utf8.first", Rows.laid_unicode_utf8_first)]
theorem accept_eq : (Rows.laid_unicode_utf8_acceptRanges : DataW Unit) = acceptData := by kernel_rfl
theorem tabs_of_laid {W : World} (h : laidMetH Tryd.prog laid1 W) : Tabs W := by
  rw [MakeChecks.laidMetH_plain _ _ _ (by kernel_rfl)] at h
  have h3 := Lib.laidMet.reads h (n := "unicode/utf8.first") (d := Rows.laid_unicode_utf8_first) (.tail _ (.head _))
  have h4 := Lib.laidMet.reads h (n := "unicode/utf8.acceptRanges") (d := Rows.laid_unicode_utf8_acceptRanges) (.head _)
  rw [accept_eq] at h4
  rw [show Rows.laid_unicode_utf8_first = firstData from Pinned.utf8First_eq] at h3
  exact utf8Tabs_of_readsT (U8Types.of196 Tryd.laysValid) ⟨by kernel_rfl, by kernel_rfl, by kernel_rfl, by kernel_rfl, by kernel_rfl, by kernel_rfl, by kernel_rfl⟩ h3 h4
theorem mx_of_shape {W : World} (h : W.ShapedOpen Tryd.prog) : Mx W := by
  obtain ⟨m, hm⟩ := Tryd.laysCutM.s1_3 W h
  refine ⟨m, hm, ?_⟩
  rcases Nat.lt_or_ge (Tryd.laysCut_ren.g 1) W.heap.size with h1 | h1
  · exact h1
  · have : W.cell? ⟨Tryd.laysCut_ren.g 1, 0, none⟩ = none := by simp [World.cell?, Array.getElem?_eq_none h1]
    have hm' : W.cell? ⟨Tryd.laysCut_ren.g 1, 0, none⟩ = some (.int .i64 m) := hm
    rw [this] at hm'
    exact absurd hm' (by simp)
/-- The tables and the cell that the library's searches read. -/
def Env (w : World) : Prop := Tabs w ∧ Mx w
theorem Env.below {w w' : World} (h : Env w) (hb : Below w.heap.size w w') : Env w' := ⟨h.1.below hb, h.2.below hb⟩
theorem num20_any (x : Int) (w : World) (h0 : 0 ≤ x) (h1 : x ≤ 1) :
    Calls Tryd.prog 8 #[.int .i64 x] w fun e w' => e = .returned (.int .i64 x) ∧ w = w' := by
  have hw : IntKind.i64.wrap x = x := wrap_i64 x (by omega) (by omega)
  go_enter Tryd.func8, Tryd.ntmps8
  go_wp2
  go_ret
  exact ⟨rfl, rfl⟩
def heavyB (f t : ByteArray) : Bool := decide (1000 < f.size) || decide (1000 < t.size)
set_option maxRecDepth 100000 in
theorem heavy20_any (f t : ByteArray) (w : World) :
    Calls Tryd.prog 7 #[.agg #[.string f, .string t]] w fun e w' => e = .returned (.bool (heavyB f t)) ∧ Below w.heap.size w w' := by
  unfold heavyB
  by_cases h1 : 1000 < f.size
  · have h1z : (1000 : Int) < (f.size : Int) := by omega
    rw [decide_eq_true h1]
    go_enter Tryd.func7, Tryd.ntmps7
    go_wp2
    go_ret
    exact ⟨rfl, (Below.refl _ _).alloc (Nat.le_refl _) _⟩
  · have h1z : ¬ (1000 : Int) < (f.size : Int) := by omega
    rw [decide_eq_false h1]
    by_cases h2 : 1000 < t.size
    · have h2z : (1000 : Int) < (t.size : Int) := by omega
      rw [decide_eq_true h2]
      go_enter Tryd.func7, Tryd.ntmps7
      go_wp2
      go_ret
      exact ⟨rfl, (Below.refl _ _).alloc (Nat.le_refl _) _⟩
    · have h2z : ¬ (1000 : Int) < (t.size : Int) := by omega
      rw [decide_eq_false h2]
      go_enter Tryd.func7, Tryd.ntmps7
      go_wp2
      go_ret
      exact ⟨rfl, (Below.refl _ _).alloc (Nat.le_refl _) _⟩
theorem wake_fact : matchB [43, 47, 98] [97, 47, 98] = true ∧ filtB [43, 47, 98] = true ∧ nameB [97, 47, 98] = true := by decide +kernel
set_option maxRecDepth 100000 in
theorem wakes20_any (w : World) (hE : Env w) :
    Calls Tryd.prog 13 #[] w fun e w' => e = .returned (.bool true) ∧ Below w.heap.size w w' := by
  have C := match_any [43, 47, 98] [97, 47, 98] w (by decide) (by decide) hE.1 hE.2
  rw [wake_fact.1, wake_fact.2.1, wake_fact.2.2] at C
  have C1 := Lib.hid (show Calls Tryd.prog 15 #[.string ⟨#[43, 47, 98]⟩, .string ⟨#[97, 47, 98]⟩] w fun e w' => e = .returned (.tuple #[.bool true, .int .i64 0]) ∧ Below w.heap.size w w' from C)
  have C2 := Lib.hid (fun W => num20_any 0 W (by omega) (by omega))
  clear C
  go_enter Tryd.func13, Tryd.ntmps13
  go_wp2_with (first | ((with_reducible refine C1.out.mono ?_); rintro e' w1 ⟨rfl, hb1⟩) | ((with_reducible refine (C2.out _).mono ?_); rintro e' w2 ⟨rfl, rfl⟩))
  go_ret
  exact ⟨rfl, hb1⟩
/-- One of the asks of layer 20: a filter, a name. -/
def Ask20.At (w : World) (b off : Nat) (q : ByteArray × ByteArray) : Prop :=
  w.cell? ⟨b, off, none⟩ = some (.string q.1) ∧ w.cell? ⟨b, off + 1, none⟩ = some (.string q.2) ∧ b < w.heap.size
theorem cS20 : Tryd.prog.cellsOf 9 = 1 := by kernel_rfl
theorem asks20_of (W : World) (v : Value) (h : Rd Tryd.prog W 22 [v]) : ∃ L, SlOf W 2 Ask20.At v L := by
  obtain ⟨v', L, hv, hL⟩ := h.slOf (p := Ask20.At) (size := 2) Tryd.underlying22 (by kernel_rfl) (by decide) (by
    intro b off cs' hb hc hr
    obtain ⟨hlen, hf⟩ := hr.struct Tryd.underlying25
    match cs', hc.1 with
    | [c0, c1], _ =>
      obtain ⟨s, hs, -⟩ := (hf 0 _ rfl).string Tryd.underlying9
      obtain ⟨t, ht, -⟩ := (hf 1 _ rfl).string Tryd.underlying9
      have e0 : c0 = .string s := by simpa [cS20] using hs
      have e1 : c1 = .string t := by simpa [cS20] using ht
      subst e0 e1
      exact ⟨⟨s, t⟩, hc.2 0 (by omega), hc.2 1 (by omega), hb⟩)
  obtain rfl : v = v' := by simpa using hv
  exact ⟨L, hL⟩
end YtpbpbjnkdgdnpaaDoor
end Go.Proofs
