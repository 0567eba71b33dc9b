/-
  The law ReasmExact: Whatever pieces come to any buffer, each call tells the buffer, and the bytes, that the page says, or is refused: whatever is handed in, of the reach of the form, the law answers true. No other condition.
-/
/-
  Pieces of a stream: ReasmExact: what the row says of a script.
-/
import Derived.Test.YtjgbiffgmafhmaaReZ
namespace Go.Proofs.Ytjgbiffgmafhmaa
open Go.RowKit Go.Lib
theorem c14I : Try.prog.cellsOf 3 = 1 := by kernel_rfl
theorem c14B : Try.prog.cellsOf 34 = 1 := by kernel_rfl
theorem c14U : Try.prog.cellsOf 5 = 1 := by kernel_rfl
theorem b14U : Try.prog.bytesOf 5 = 1 := by kernel_rfl
set_option maxRecDepth 100000 in
theorem part14_of (W : World) (b off : Nat) (cs : List Value) (hc : Cells W b off 2 cs) (h : RdZ Try.prog W 58 cs) : ∃ q : EP, KPart.At W b off q ∧ q.d.length ≤ 140737488351232 := by
  obtain ⟨hlen, hf⟩ := h.struct Try.underlying58
  have h2 : cs.length = 2 := hlen.trans (by kernel_rfl)
  match cs, h2 with
  | [c0, c1], _ =>
    obtain ⟨n, h0, -⟩ := (hf 0 _ rfl).rd.i64 Try.underlying3
    obtain ⟨v, l, h1, hs, hl⟩ := (hf 1 _ rfl).bytes Try.underlying34 c14U b14U Try.underlying5
    have e0 : c0 = .int .i64 n := by simpa [c14I] using h0
    have e1 : c1 = v := by simpa [c14B] using h1
    subst e0 e1
    refine ⟨⟨n, l⟩, ⟨c1, hs, fun j u hj => ?_⟩, hl⟩
    match j, hj with
    | 0, hj => simp [KPart] at hj; subst hj; simpa using hc.2 0 (by decide)
    | 1, hj => simp [KPart] at hj; subst hj; simpa using hc.2 1 (by decide)
    | j + 2, hj => simp [KPart] at hj
set_option maxRecDepth 100000 in
theorem piece14_of (W : World) (b off : Nat) (cs : List Value) (hc : Cells W b off 2 cs) (h : RdZ Try.prog W 36 cs) : ∃ q : EP, KPart.At W b off q ∧ q.d.length ≤ 140737488351232 := by
  obtain ⟨hlen, hf⟩ := h.struct Try.underlying36
  have h2 : cs.length = 2 := hlen.trans (by kernel_rfl)
  match cs, h2 with
  | [c0, c1], _ =>
    obtain ⟨n, h0, -⟩ := (hf 0 _ rfl).rd.i64 Try.underlying3
    obtain ⟨v, l, h1, hs, hl⟩ := (hf 1 _ rfl).bytes Try.underlying34 c14U b14U Try.underlying5
    have e0 : c0 = .int .i64 n := by simpa [c14I] using h0
    have e1 : c1 = v := by simpa [c14B] using h1
    subst e0 e1
    refine ⟨⟨n, l⟩, ⟨c1, hs, fun j u hj => ?_⟩, hl⟩
    match j, hj with
    | 0, hj => simp [KPart] at hj; subst hj; simpa using hc.2 0 (by decide)
    | 1, hj => simp [KPart] at hj; subst hj; simpa using hc.2 1 (by decide)
    | j + 2, hj => simp [KPart] at hj
theorem lay_of {W : World} {v : Value} {L : List EP} {m : Nat} (hm : 1 ≤ m) (h : SlOf W 2 (fun w b off (q : EP) => KPart.At w b off q ∧ q.d.length ≤ 140737488351232) v L) (hr : L.length * m ≤ reachBytes) : ∃ ao cap, v = .slice ao L.length cap ∧ Lay W ao L ∧ KPart.Sl W (.slice ao L.length cap) L := by
  obtain ⟨ao, cap, rfl, h1, h2, h3, h4⟩ := h
  have hrb : reachBytes = 140737488351232 := rfl
  refine ⟨ao, cap, rfl, ⟨fun hne => ?_, fun x hx => ?_, ?_⟩, ao, cap, rfl, h1, h2, h3, fun hne => ?_⟩
  · obtain ⟨b, off, e, hb, hc⟩ := h4 hne
    exact ⟨b, off, e, hb, fun i q hq => (hc i q hq).1⟩
  · obtain ⟨b, off, e, hb, hc⟩ := h4 (fun e => by rw [e] at hx; simp at hx)
    obtain ⟨i, hi⟩ := List.getElem?_of_mem hx
    exact (hc i x hi).2
  · have := Nat.le_mul_of_pos_right L.length hm
    omega
  · obtain ⟨b, off, e, hb, hc⟩ := h4 hne
    exact ⟨b, off, e, hb, fun i q hq => (hc i q hq).1⟩
set_option maxRecDepth 100000 in
theorem script14_of (W : World) (cs : List Value) (h : RdZ Try.prog W 27 cs) : ∃ ap cp ac cc L0 C N0, cs = [.int .i64 N0, .slice ap L0.length cp, .slice ac C.length cc] ∧ Lay W ap L0 ∧ Lay W ac C ∧ KPart.Sl W (.slice ap L0.length cp) L0 := by
  obtain ⟨hlen, hf⟩ := h.struct Try.underlying27
  have h3 : cs.length = 3 := hlen.trans (by kernel_rfl)
  match cs, h3 with
  | [c0, c1, c2], _ =>
    have cBuf : Try.prog.cellsOf 24 = 2 := by kernel_rfl
    have cP : Try.prog.cellsOf 58 = 2 := by kernel_rfl
    have cPc : Try.prog.cellsOf 36 = 2 := by kernel_rfl
    have cLP : Try.prog.cellsOf 22 = 1 := by kernel_rfl
    have cLC : Try.prog.cellsOf 25 = 1 := by kernel_rfl
    have h0 := hf 0 _ rfl
    have e0 : (([c0, c1, c2] : List Value).drop 0).take (Try.prog.cellsOf 24) = [c0, c1] := by rw [cBuf]; rfl
    replace h0 : RdZ Try.prog W 24 [c0, c1] := e0 ▸ h0
    obtain ⟨-, hg⟩ := h0.struct Try.underlying24
    obtain ⟨n, k0, -⟩ := (hg 0 _ rfl).rd.i64 Try.underlying3
    obtain ⟨v1, L0, k1, hS1, hr1⟩ := (hg 1 _ rfl).slOf (p := fun w b off (q : EP) => KPart.At w b off q ∧ q.d.length ≤ 140737488351232) Try.underlying22 cP (by decide) (fun b off cs' _ hc hr => part14_of W b off cs' hc hr)
    obtain ⟨v2, C, k2, hS2, hr2⟩ := (hf 1 _ rfl).slOf (p := fun w b off (q : EP) => KPart.At w b off q ∧ q.d.length ≤ 140737488351232) Try.underlying25 cPc (by decide) (fun b off cs' _ hc hr => piece14_of W b off cs' hc hr)
    have f0 : c0 = .int .i64 n := by simpa [c14I] using k0
    have f1 : c1 = v1 := by simpa [cLP] using k1
    have f2 : c2 = v2 := by simpa [cLC] using k2
    subst f0 f1 f2
    obtain ⟨ap, cp, rfl, l1, l2⟩ := lay_of (by rw [show Try.prog.bytesOf 58 = 32 from by kernel_rfl]; decide) hS1 hr1
    obtain ⟨ac, cc, rfl, l3, -⟩ := lay_of (by rw [show Try.prog.bytesOf 36 = 32 from by kernel_rfl]; decide) hS2 hr2
    exact ⟨ap, cp, ac, cc, L0, C, n, rfl, l1, l3, l2⟩
theorem reasmExact_walk (W : World) (cs : List Value) (h : RdZ Try.prog W 27 cs) :
    Calls Try.prog 3 #[.agg cs.toArray] W fun e W' => e = .returned (.bool true) ∧ Below W.heap.size W W' := by
  obtain ⟨ap, cp, ac, cc, L0, C, N0, rfl, h1, h2, h3⟩ := script14_of W cs h
  exact exact14_walk0 ap ac cp cc L0 C N0 W h1 h2 h3
namespace reasmExact
open Go.ChangeShapes Go.WideShapes Go.ChangeAt
theorem own : ownKnob Try.prog.godebug = none := by kernel_rfl
theorem laidOut : laidOutB Try.prog = true := by kernel_rfl
set_option maxRecDepth 100000 in
theorem lifted (os : Os) (started : os.Started) (H : Type) (enc : TypeId × Value → H) :
    ReturnsInHanded {} Try.checked os 3 .any (Rows.reasmExactSpec.pre6 enc Try.prog Try.f3 Rows.reasmExactRow.domain false) (Rows.reasmExactSpec.post enc Try.prog Try.f3 false true false false) := by
  refine returnsInHanded_of_change_sized (C := Try.checked) own started (by kernel_rfl) Try.func3
    (ChangeSpec.witness6 (enc := enc) (C := Try.checked) false ⟨#[], #[.agg #[.int .i64 0, .slice none 0 0, .slice none 0 0]], []⟩ 12 (by kernel_rfl) (by kernel_rfl) (by kernel_rfl) (by kernel_rfl)) ?_
  intro W base args ds gs before hval0 hW _ hsz0 _
  have hsz : (DataW.weightsEach Try.prog (Try.f3.params.toList ++ Rows.reasmExactSpec.plain.varTypes Try.prog) (ds ++ gs)).all (· ≤ reachBytes) = true := hsz0
  clear hsz0
  have hval : ∀ (j : Nat) t v, Try.f3.params[j]? = some t → args[j]? = some v → Value.okWide Try.prog W .any base t v := hval0
  have hW' := hW
  obtain ⟨p, q, hA0, hV, rfl, hfz, hnd⟩ := hW
  have hA : DataW.TrodAll enc Try.prog W 0 (fun _ => true) true Try.f3.params.toList args.toList ds p := hA0
  rw [Try.params3] at hA hval
  obtain ⟨v0, vs0, d0, ds0, p0, q0, hargs, rfl, rfl, h0, r0⟩ := trodAll_cons hA
  obtain ⟨rfl, rfl, rfl⟩ := trodAll_nil r0
  obtain rfl : args = #[v0] := by cases args; simp_all
  obtain ⟨rfl, rfl⟩ := trodVars_none hV
  obtain ⟨cs0, rfl⟩ : ∃ cs0 : Array Value, v0 = .agg cs0 := by
    have h := hval 0 27 v0 rfl rfl
    unfold Value.okWide at h
    rw [Try.underlying27] at h
    exact ⟨h.choose, h.choose_spec.1⟩
  have k0 := h0
  have lt0 : ∀ x ∈ p0, x.block < W.heap.size := by obtain ⟨m, hm⟩ := k0; exact DataW.trod_lt m _ _ _ hm
  have hrd : RdZ Try.prog W 27 cs0.toList := by obtain ⟨fuel, hf⟩ := h0; exact ⟨H, enc, 0, _, true, fuel, _, hf, by simp only [List.all_eq_true]; intro n hn; exact List.all_eq_true.1 hsz n (DataW.weights_mem_each (j := 0) rfl rfl n hn)⟩
  clear hA0 hval0
  refine (show Calls Try.prog 3 _ W (fun e W' => e = .returned (.bool true) ∧ Below W.heap.size W W') from by have := reasmExact_walk W _ hrd; rwa [Array.toArray_toList] at this).mono fun e W' ⟨he, bel⟩ => ?_
  subst he
  exact ⟨_, rfl, _, _, _, [], _, [], hW', trodAll_mk1 (shut_bool Try.underlying4 _), (trodAll_cons_mk (Below.trod laidOut (by kernel_rfl) (of_decide_eq_true (by kernel_rfl)) k0 bel lt0) trodAll_mk0), rfl, bel.frame _, fun h => by cases h⟩
theorem over : Rows.reasmExactRow.holds Try.pinned (OpenSpec.ofChange Rows.reasmExactSpec) :=
  OpenClaim.holds_of_wide 3 Try.f3 rfl rfl rfl rfl rfl rfl rfl ⟨rfl, rfl, rfl, rfl, rfl⟩ rfl rfl rfl rfl rfl (by kernel_rfl) Try.func3 (by kernel_rfl)
    (of_decide_eq_true (by kernel_rfl)) (by unfold Func.isWrapper; first | (rw [if_pos (by decide +kernel)]; kernel_rfl) | (rw [if_neg (by decide +kernel)]; exact ⟨rfl, rfl⟩))
    (fun os started H enc _ => lifted os started H enc)
/-- THE STATEMENT. -/
theorem proved : Rows.ReasmExactSaid := over
end reasmExact
-- CLAIM: ReasmExact reasmExact.proved
end Go.Proofs.Ytjgbiffgmafhmaa
