/-
  The law OutboxRound.
-/
import Derived.Test.YtcglmkcefenjcaaObG
import Derived.Test.YtcglmkcefenjcaaReadM
import Derived.Test.YtcglmkcefenjcaaReadZ
namespace Go.Proofs.Ytcglmkcefenjcaa
open Go.RowKit Go.Lib
abbrev cn (x : Int) : List Value := [.int .i64 x]
theorem infoI64 : (Try.prog.info? 3).map (fun i => (i.zero, i.size, i.bytes)) = some (some (.int .i64 0), 1, 8) := by kernel_rfl
theorem infoIn : (Try.prog.info? 3).map (fun i => (i.zero, i.size, i.bytes)) = some (some (.int .i64 0), 1, 8) := by kernel_rfl
theorem sizeIn : (Try.prog.info? 3).map (·.size) = some 1 := by kernel_rfl
/-- A list of them, a row of our own. -/
def InOwn (w : World) (base : Nat) (v : Value) (L : List Int) : Prop := w.ownsRow base 3 1 v L.length (L.map cn).flatten
theorem In_n (L : List Int) : ∀ r ∈ L.map cn, r.length = 1 := by intro r hr; obtain ⟨y, -, rfl⟩ := List.mem_map.1 hr; rfl
theorem In_one (L : List Int) : ∀ u ∈ (L.map cn).flatten, u.oneCell' = true := by
  intro u hu
  obtain ⟨r, hr, hu⟩ := List.mem_flatten.1 hu
  obtain ⟨y, -, rfl⟩ := List.mem_map.1 hr
  simp at hu
  rcases hu with rfl <;> rfl
theorem InOwn.slr {w : World} {base : Nat} {v : Value} {L : List Int} (h : InOwn w base v L) : SlR w 1 v (L.map cn) := (SlR.of_own (by decide) (In_n L) h).1
theorem InOwn.below {w w' : World} {base : Nat} {v : Value} {L : List Int} (h : InOwn w base v L) (hb : Below w.heap.size w w') : InOwn w' base v L := below_own h hb
theorem InOwn.nil (w : World) (base : Nat) : InOwn w base (.slice none 0 0) [] := World.ownsRow_nil _ _ _ _
theorem InOwn.mono {w : World} {base base' : Nat} {v : Value} {L : List Int} (h : InOwn w base v L) (hb : base' ≤ base) : InOwn w base' v L := own_mono h hb
/-- One more, behind the others. -/
theorem In_app {o : Oper} {a : Act} {w : World} (s x : Operand) (ho : o.op = .call { callee := .builtin .append, args := #[s, x], argTypes := #[55, 55] }) {base q : Nat} {v : Value} {L : List Int} {e : Int} (hs : a.eval s = v) (hown : InOwn w base v L) (hx : a.eval x = .slice (some ⟨q, 0, none⟩) 1 1) (hr : RowAt w q (cn e)) (hn : L.length ≤ 100000) (hbase : base ≤ w.heap.size) :
    opTo Try.prog o a w fun v' w' => Grew w w' v v' ∧ InOwn w' base v' (L ++ [e]) := by
  obtain ⟨i0, hi, hz0, hz1, hz2⟩ := info_parts infoIn
  have h := opTo_app s x 55 3 ho base i0 _ 1 8 Try.underlying55 hi hz0 hz1 hz2 rfl (by decide) v L.length _ hs hown ⟨q, 0, none⟩ 1 1 (cn e) hx rfl (fun j u' hj => by
    have e' : ((⟨q, 0, none⟩ : Addr).add j) = ⟨q, j, none⟩ := by unfold Addr.add; split <;> simp_all
    rw [e']; exact hr.1 j u' hj) (fun u' hu => by
      have := In_one [e] u' (by simpa using hu); exact this) (by unfold maxLen; omega) (by omega) hbase
  unfold InOwn
  rw [List.length_append, List.length_singleton, List.map_append, List.flatten_append, show ([e].map cn).flatten = cn e by simp]
  exact h
set_option maxRecDepth 100000 in
set_option maxHeartbeats 1000000 in
theorem eqNumbers_any (v1 v2 : Value) (l1 l2 : List Int) (w : World) (hl : l1.length ≤ 1000000) (_hl2 : l2.length ≤ 1000000) (hv1 : SlR w 1 v1 (l1.map cn)) (hv2 : SlR w 1 v2 (l2.map cn)) :
    Calls Try.prog 49 #[v1, v2] w fun e w' => e = .returned (.bool (decide (l1 = l2))) ∧ ∃ m, w' = w.drewN m := by
  obtain ⟨ao1, cap1, rfl, -, -, -, hB1⟩ := hv1
  obtain ⟨ao2, cap2, rfl, -, -, -, hB2⟩ := hv2
  simp only [List.length_map] at hB1 hB2 ⊢
  have HB1 := Lib.hid hB1; clear hB1
  have HB2 := Lib.hid hB2; clear hB2
  by_cases hlen : l1.length = l2.length
  · have hne : ((l1.length : Int) != (l2.length : Int)) = false := by simp [hlen]
    have HL := Lib.hid hlen
    go_enter Try.func49, Try.ntmps49
    have h1 : l1.length ≤ l2.length := by omega
    have h2 : l2.length ≤ l1.length := by omega
    clear hlen
    go_wp2
    go_loopw [5] (fun i wr => ∃ (k m : Nat), k ≤ l1.length ∧ i = .int .i64 k ∧ wr = w.drewN m ∧ l1.take k = l2.take k) (fun i _ => l1.length - (intOf i).toNat)
    case atStart => exact ⟨0, 0, by omega, rfl, rfl, rfl⟩
    case round =>
      obtain ⟨k, m, hk, rfl, rfl, heq⟩ := hrel
      have HE := Lib.hid heq; clear heq
      by_cases hlt : k < l1.length
      · obtain ⟨b1, off1, rfl, hbw1, hBB1⟩ := HB1.out (by intro h; simp at h; simp [h] at hlt)
        obtain ⟨x, hx⟩ : ∃ x, l1[k]? = some x := ⟨_, List.getElem?_eq_getElem hlt⟩
        obtain ⟨b2, off2, rfl, hbw2, hBB2⟩ := HB2.out (by intro h; rw [List.map_eq_nil_iff] at h; have h5 : l2.length = 0 := (by rw [h]; rfl); omega)
        obtain ⟨y, hy⟩ : ∃ x, l2[k]? = some x := ⟨_, List.getElem?_eq_getElem (by omega)⟩
        have hcx : w.cell? ⟨b1, off1 + k, none⟩ = some (.int .i64 x) := by
          have := hBB1 k (cn x) (by rw [List.getElem?_map, hx]; rfl) 0 _ rfl
          simpa using this
        have hcy : w.cell? ⟨b2, off2 + k, none⟩ = some (.int .i64 y) := by
          have := hBB2 k (cn y) (by rw [List.getElem?_map, hy]; rfl) 0 _ rfl
          simpa using this
        have HX := Lib.hid hx; clear hx hBB1
        have HY := Lib.hid hy; clear hy hBB2
        have ht1 : l1.take (k+1) = l1.take k ++ [x] := by rw [List.take_add_one, HX.out]; rfl
        have ht2 : l2.take (k+1) = l2.take k ++ [y] := by rw [List.take_add_one, HY.out]; rfl
        have HT1 := Lib.hid ht1; have HT2 := Lib.hid ht2; clear ht1 ht2
        by_cases hxy : x = y
        · subst hxy
          have heq2 : ((x : Int) != (x : Int)) = false := by simp
          go_wp2
          go_quiet (fail)
          go_wp2
          go_roundw
          case rel => exact ⟨k + 1, m + nq, by omega, by go_num, rfl, by rw [HT1.out, HT2.out, HE.out]⟩
          case measure => simp [intOf]; omega
        · have hne2 : ((x : Int) != (y : Int)) = true := by simpa using hxy
          have hfin : decide (l1 = l2) = false := by
            simp only [decide_eq_false_iff_not]; intro h
            have := HX.out; rw [h, HY.out] at this; exact hxy (by simpa using this.symm)
          have HF := Lib.hid hfin; clear hfin hxy
          go_wp2
          go_quiet (fail)
          go_wp2
          go_ret
          exact ⟨by rw [HF.out]; rfl, _, by first | rfl | exact World.drewN_drewN _ _ _⟩
      · have : k = l1.length := by omega
        have hfin : decide (l1 = l2) = true := by
          simp only [decide_eq_true_eq]
          have := HE.out; rw [List.take_of_length_le (by omega), List.take_of_length_le (by omega)] at this; exact this
        have HF := Lib.hid hfin; clear hfin this HB1 HB2
        go_wp2
        go_ret
        exact ⟨by rw [HF.out]; rfl, _, rfl⟩
  · have hne : ((l1.length : Int) != (l2.length : Int)) = true := by
      simp only [bne_iff_ne, ne_eq]; omega
    have hfin : decide (l1 = l2) = false := by simp only [decide_eq_false_iff_not]; intro h; exact hlen (by rw [h])
    have HF := Lib.hid hfin; clear hfin hlen HB1 HB2
    go_enter Try.func49, Try.ntmps49
    go_wp2
    go_ret
    exact ⟨by rw [HF.out]; rfl, 0, rfl⟩
theorem flatNumbers (l : List Int) : (l.map cn).flatten = l.map (fun x => (.int .i64 x : Value)) := by induction l with | nil => rfl | cons x t ih => simp [ih]
abbrev orI (v : Value) (L : List Int) : OR := ⟨3, 1, v, L.length, (L.map cn).flatten⟩
theorem bs1In {ρ : Operand → Value} {d : Option Tmp} {ty : TypeId} {pos : String} {af : Array Edge} {g : Option (Nat × Bool)} {x : Operand} (s : Int) (w : World) (hx : ρ x = .int .i64 s) : (execOp ρ ⟨d, .buildSlice 55 1 #[(0, x)], ty, pos, af, g⟩).run Try.prog w = .ok (.value (.slice (some ⟨w.heap.size, 0, none⟩) 1 1)) (w.alloc (.cells (cn s).toArray 3)) := by
  simp [execOp, hx, go_sem, Instr.buildSlice]
theorem bs2In {ρ : Operand → Value} {d : Option Tmp} {ty : TypeId} {pos : String} {af : Array Edge} {g : Option (Nat × Bool)} {x y : Operand} {s t : Int} (w : World) (hx : ρ x = .int .i64 s) (hy : ρ y = .int .i64 t) : (execOp ρ ⟨d, .buildSlice 55 2 #[(0, x), (1, y)], ty, pos, af, g⟩).run Try.prog w = .ok (.value (.slice (some ⟨w.heap.size, 0, none⟩) 2 2)) (w.alloc (.cells (#[.int .i64 s, .int .i64 t]) 3)) := by
  simp [execOp, hx, hy, go_sem, Instr.buildSlice]
theorem slI2 {W : World} {q : Nat} {a b : Int} (h : RowAt W q [.int .i64 a, .int .i64 b]) : SlR W 1 (.slice (some ⟨q, 0, none⟩) 2 2) ([a, b].map cn) := by
  refine ⟨some ⟨q, 0, none⟩, 2, rfl, Nat.le_refl _, by unfold maxLen; decide, fun e => (nomatch e), fun _ => ⟨q, 0, rfl, h.2.2, fun i r hr j u hj => ?_⟩⟩
  match i, hr with
  | 0, hr => simp at hr; subst hr; match j, hj with
    | 0, hj => simp at hj; subst hj; exact h.1 0 _ rfl
    | j + 1, hj => simp at hj
  | 1, hr => simp at hr; subst hr; match j, hj with
    | 0, hj => simp at hj; subst hj; exact h.1 1 _ rfl
    | j + 1, hj => simp at hj
  | i + 2, hr => simp at hr
/-- A row that is made whole is owned. -/
theorem own_full (w : World) (B sz n : Nat) (T : TypeId) (cs : List Value) (hb : B ≤ w.heap.size) (hm : n ≤ maxLen) (hs : cs.length = n * sz) : (w.alloc (.cells cs.toArray T)).ownsRow B T sz (.slice (some ⟨w.heap.size, 0, none⟩) n n) n cs :=
  ⟨hs, .inr ⟨w.heap.size, n, cs.toArray, rfl, hb, heap_alloc_new w _, Nat.le_refl _, hm, by simp [hs], by rw [← hs]; simp⟩⟩
theorem bs2Fr {ρ : Operand → Value} {w : World} {d : Option Tmp} {ty : TypeId} {pos : String} {af : Array Edge} {gd : Option (Nat × Bool)} {x y : Operand} {f g : EFl} (hx : ρ x = .agg (rowFl f).toArray) (hy : ρ y = .agg (rowFl g).toArray) :
    (execOp ρ ⟨d, .buildSlice 76 2 #[(0, x), (1, y)], ty, pos, af, gd⟩).run Try.prog w = .ok (.value (.slice (some ⟨w.heap.size, 0, none⟩) 2 2)) (w.alloc (.cells (rowFl f ++ rowFl g).toArray 103)) := by
  simp [execOp, hx, hy, go_sem, Instr.buildSlice]
theorem bs2Fl {a : Act} {w : World} {d : Option Tmp} {ty : TypeId} {pos : String} {af : Array Edge} {gd : Option (Nat × Bool)} {x y : Operand} {f g : EFl} (hx : a.eval x = .agg (rowFl f).toArray) (hy : a.eval y = .agg (rowFl g).toArray) :
    opTo Try.prog ⟨d, .buildSlice 76 2 #[(0, x), (1, y)], ty, pos, af, gd⟩ a w fun v w' => ∃ q, v = .slice (some ⟨q, 0, none⟩) 2 2 ∧ FlOwn w' w.heap.size (.slice (some ⟨q, 0, none⟩) 2 2) [f, g] ∧ Below w.heap.size w w' :=
  .inl ⟨_, _, bs2Fr hx hy, _, rfl, own_full w _ 6 2 _ (rowFl f ++ rowFl g) (Nat.le_refl _) (by unfold maxLen; decide) rfl, (Below.refl _ _).alloc (Nat.le_refl _) _⟩
theorem Owns.slI {B : Nat} {H : List Nat} {R : List OR} {W : World} {v : Value} {L : List Int} (h : Owns B H R W) (i : Nat) (hi : R[i]? = some (orI v L)) : SlR W 1 v (L.map cn) := InOwn.slr (h.get hi)
def rS : Nat → EO
  | 0 => ⟨65533, [fR 65535, fR 2], []⟩
  | 1 => ⟨65534, [fR 65535, fR 2, fR 65534], []⟩
  | _ => ⟨1, [fR 65535, fR 2, fR 65534, fR 1], []⟩
def rN : Nat → Int
  | 0 => 65534
  | _ => 1
def rI : Nat → List Int
  | 0 => []
  | 1 => [65534]
  | _ => [65534, 1]
theorem rI_next {i : Nat} (h : i < 2) : rI i ++ [rN i] = rI (i + 1) := by
  match i, h with
  | 0, _ => rfl
  | 1, _ => rfl
theorem rI_len {i : Nat} (h : i < 2) : (rI i).length ≤ 100000 := by
  match i, h with
  | 0, _ => decide
  | 1, _ => decide
abbrev vM : Value := .agg #[.string { data := #[97] }, .string { data := #[] }, .int .i64 1, .bool false]
section
variable {af aq : Option Addr} {cf cq : Nat} {w : World}
theorem rOff {i : Nat} (hi : i < 2) (hF : SlR w 6 (.slice af (rS i).fl.length cf) ((rS i).fl.map rowFl)) (hQ : SlR w 4 (.slice aq 0 cq) (([] : List EMsg).map rowMsg)) :
    Calls Try.prog 54 #[.agg #[.int .i64 (rS i).last, .slice af (rS i).fl.length cf, .slice aq 0 cq], vM, .bool true] w (At w (rS (i + 1)).last (rS (i + 1)).fl (rS (i + 1)).fl.length [] 0 [pubP (fR (rN i))] 1 0) := by
  match i, hi with
  | 0, _ => exact (obOffer (rS 0) af aq _ 0 cf cq mR true (rS 1) [pubP (fR 65534)] w hF hQ (by decide) (by decide) (by kernel_rfl)).mono fun e w' h => At.of h (by kernel_rfl) rfl rfl rfl
  | 1, _ => exact (obOffer (rS 1) af aq _ 0 cf cq mR true (rS 2) [pubP (fR 1)] w hF hQ (by decide) (by decide) (by kernel_rfl)).mono fun e w' h => At.of h (by kernel_rfl) rfl rfl rfl
theorem rOff2 (hF : SlR w 6 (.slice af (rS 2).fl.length cf) ((rS 2).fl.map rowFl)) (hQ : SlR w 4 (.slice aq 0 cq) (([] : List EMsg).map rowMsg)) :
    Calls Try.prog 54 #[.agg #[.int .i64 (rS 2).last, .slice af (rS 2).fl.length cf, .slice aq 0 cq], vM, .bool true] w (At w 1 (rS 2).fl 4 [mR] 1 [] 0 0) :=
  (obOffer (rS 2) af aq _ 0 cf cq mR true ⟨1, (rS 2).fl, [mR]⟩ [] w hF hQ (by decide) (by decide) (by kernel_rfl)).mono fun e w' h => At.of h (by kernel_rfl) rfl rfl rfl
theorem rAck (hF : SlR w 6 (.slice af 4 cf) ((rS 2).fl.map rowFl)) (hQ : SlR w 4 (.slice aq 1 cq) ([mR].map rowMsg)) :
    Calls Try.prog 58 #[.agg #[.int .i64 1, .slice af 4 cf, .slice aq 1 cq], .int .i64 65535] w (At w 3 [fR 2, fR 65534, fR 1, fR 3] 4 [] 0 [pubP (fR 3)] 1 0) :=
  (obAck ⟨1, (rS 2).fl, [mR]⟩ af aq 4 1 cf cq 65535 ⟨3, [fR 2, fR 65534, fR 1, fR 3], []⟩ [pubP (fR 3)] w hF hQ (by decide) (by decide) (by kernel_rfl)).mono fun e w' h => At.of h (by kernel_rfl) rfl rfl rfl
theorem rRef (hF : SlR w 6 (.slice af 4 cf) ([fR 2, fR 65534, fR 1, fR 3].map rowFl)) (hQ : SlR w 4 (.slice aq 0 cq) (([] : List EMsg).map rowMsg)) :
    Calls Try.prog 60 #[.agg #[.int .i64 3, .slice af 4 cf, .slice aq 0 cq]] w fun e w' => e = .returned (.bool true) ∧ Below w.heap.size w w' :=
  (refOutbox_any ⟨3, [fR 2, fR 65534, fR 1, fR 3], []⟩ af aq 4 0 cf cq w hF hQ (by decide) (by decide)).mono fun e w' h => ⟨h.1.trans (by rw [show checkO ⟨3, [fR 2, fR 65534, fR 1, fR 3], []⟩ = true from by kernel_rfl]), h.2⟩
theorem rEq {v1 v2 : Value} (h1 : SlR w 1 v1 ((rI 2).map cn)) (h2 : SlR w 1 v2 ([(65534 : Int), 1].map cn)) : Calls Try.prog 49 #[v1, v2] w fun e w' => e = .returned (.bool true) ∧ Below w.heap.size w w' :=
  (eqNumbers_any v1 v2 (rI 2) [65534, 1] w (by decide) (by decide) h1 h2).mono fun e w' ⟨h, m, h3⟩ => ⟨h.trans (by rw [decide_eq_true (show rI 2 = [65534, 1] from rfl)]), by subst h3; exact bdrew (Below.refl _ _) m⟩
end
set_option maxRecDepth 100000 in
theorem scr23_form {w : World} {cs : List Value} (h : RdZ Try.prog w 82 cs) : ∃ x aF nF cF aQ nQ cQ aL nL cL, cs = [.int .i64 x, .slice aF nF cF, .slice aQ nQ cQ, .slice aL nL cL] := by
  obtain ⟨hlen, hf⟩ := h.struct Try.underlying82
  have h2 : cs.length = 4 := hlen.trans (by kernel_rfl)
  match cs, h2 with
  | [c0, c1, c2, c3], _ =>
    have hO : RdZ Try.prog w 79 [c0, c1, c2] := by have := hf 0 _ rfl; simpa [show Try.prog.cellsOf 79 = 3 by kernel_rfl] using this
    obtain ⟨-, hg⟩ := hO.struct Try.underlying79
    obtain ⟨x, k0, -⟩ := (hg 0 _ rfl).rd.int Try.underlying3
    obtain ⟨v1, L1, k1, a1, cap1, rfl, -⟩ := (hg 1 _ rfl).rd.slOf (p := fun _ _ _ (_ : Unit) => True) (size := 6) Try.underlying76 (by kernel_rfl) (by decide) (fun b off cs hb hc hr => ⟨(), trivial⟩)
    obtain ⟨v2, L2, k2, a2, cap2, rfl, -⟩ := (hg 2 _ rfl).rd.slOf (p := fun _ _ _ (_ : Unit) => True) (size := 4) Try.underlying77 (by kernel_rfl) (by decide) (fun b off cs hb hc hr => ⟨(), trivial⟩)
    obtain ⟨v3, L3, k3, a3, cap3, rfl, -⟩ := (hf 1 _ rfl).rd.slOf (p := fun _ _ _ (_ : Unit) => True) (size := 8) Try.underlying80 (by kernel_rfl) (by decide) (fun b off cs hb hc hr => ⟨(), trivial⟩)
    have f0 : c0 = .int .i64 x := by simpa [show Try.prog.cellsOf 3 = 1 by kernel_rfl] using k0
    have f1 : c1 = .slice a1 L1.length cap1 := by simpa [show Try.prog.cellsOf 76 = 1 by kernel_rfl] using k1
    have f2 : c2 = .slice a2 L2.length cap2 := by simpa [show Try.prog.cellsOf 77 = 1 by kernel_rfl] using k2
    have f3 : c3 = .slice a3 L3.length cap3 := by simpa [show Try.prog.cellsOf 80 = 1 by kernel_rfl] using k3
    subst f0 f1 f2 f3
    exact ⟨_, _, _, _, _, _, _, _, _, _, rfl⟩
set_option maxRecDepth 100000 in
set_option maxHeartbeats 4000000 in
theorem outboxRound_walk (w : World) (cs : List Value) (h : RdZ Try.prog w 82 cs) :
    Calls Try.prog 11 #[.agg cs.toArray] w fun e w' => e = .returned (.bool true) ∧ Below w.heap.size w w' := by
  obtain ⟨x, aF, nF, cF, aQ, nQ, cQ, aL, nL, cL, rfl⟩ := scr23_form h
  have hnL : (decide (0 ≤ ((nL : Nat) : Int))) = true := decide_eq_true (by omega)
  have hb0 := Below.refl w.heap.size w
  have h00 : Owns w.heap.size [] [] w := Owns.nil (fun k hk => nomatch hk)
  have ho : Owns w.heap.size [] (orI (.slice none 0 0) [] :: []) w := Owns.cons (orI (.slice none 0 0) []) h00 rfl (InOwn.nil _ _) 0
  refine fw_en 114 [(0, .agg #[.int .i64 x, .slice aF nF cF, .slice aQ nQ cQ, .slice aL nL cL])] Try.func11 rfl Try.ntmps11 rfl ⟨rfl, trivial⟩ ?_
  refine fw_sq ?_
  refine fw_rg rfl ?_
  refine fw_bx rfl (cs := [.int .i64 x, .slice aF nF cF, .slice aQ nQ cQ, .slice aL nL cL]) rfl ?_
  intro q1 W2 g5 s3 r4
  have := Nat.le_trans hb0.size g5
  have b6 := hb0.trans (s3.mono hb0.size)
  have f7 := (Owns.hold ho s3 g5 r4.2.2)
  refine fw_pu rfl ?_
  refine fw_dt ?_
  refine fw_sq ?_
  refine fw_rg rfl ?_
  refine fw_ex 14 (.agg #[.string { data := #[97] }, .string { data := #[] }, .int .i64 1, .bool false]) rfl rfl rfl (fun a h => (run_buildOp (bp2 (h.ev rfl) (h.ev rfl)) (by first | kernel_rfl | rfl))) ?_
  refine fw_al (t := 88) (u := fun q => .pointer (some ⟨q, 0, none⟩)) 3 [.string { data := #[] }, .string { data := #[] }, .int .i64 0, .bool false] rfl rfl rfl (fun a h => (run_allocOp (by simp [go_sem, Instr.alloc]))) ?_
  intro q8 W9 g12 s10 r11
  have := Nat.le_trans b6.size g12
  have := r4.lt g12
  have b13 := b6.trans (s10.mono b6.size)
  have r14 := r4.below s10
  have f15 := (Owns.hold f7 s10 g12 r11.2.2)
  refine fw_st r11 rfl rfl ?_
  intro W16 s17 r18
  have b19 := below_chg b13 s17 (by omega) b13.size
  have r20 := r14.chg s17 (by omega)
  have f21 := (Owns.chg f15 s17 (by simp))
  refine fw_dt ?_
  refine fw_sq ?_
  refine fw_rg rfl ?_
  refine fw_ld r18 rfl rfl ?_
  refine fw_ex 16 (.agg #[.int .i64 65535, .string { data := #[97] }, .string { data := #[] }, .int .i64 1, .bool false, .bool false]) rfl rfl rfl (fun a h => (run_buildOp (bp2 (h.ev rfl) (h.ev rfl)) (by first | kernel_rfl | rfl))) ?_
  refine fw_ld r18 rfl rfl ?_
  refine fw_ex 18 (.agg #[.int .i64 2, .string { data := #[97] }, .string { data := #[] }, .int .i64 1, .bool false, .bool false]) rfl rfl rfl (fun a h => (run_buildOp (bp2 (h.ev rfl) (h.ev rfl)) (by first | kernel_rfl | rfl))) ?_
  refine fw_to 19 rfl rfl rfl (fun a h => bs2Fl (f := fR 65535) (g := fR 2) (h.ev rfl) (h.ev rfl)) ?_
  rintro _ V23 ⟨qf22, rfl, hog22, hb22⟩
  have hoA24 : Owns w.heap.size (q8 :: q1 :: []) ((orI (.slice none 0 0) []) :: (orF (.slice (some ⟨qf22, 0, none⟩) 2 2) [fR 65535, fR 2]) :: []) V23 := Owns.add f21 hb22 hog22 b19.size
  have b25 := b19.trans (hb22.mono b19.size)
  have r26 := r20.below hb22
  have r27 := r18.below hb22
  refine fw_ex 20 (.agg #[.int .i64 65533, .slice (some ⟨qf22, 0, none⟩) 2 2, .slice none 0 0]) rfl rfl rfl (fun a h => (run_buildOp (bp2 (h.ev rfl) (h.ev rfl)) (by first | kernel_rfl | rfl))) ?_
  refine fw_al (t := 79) (u := fun q => .pointer (some ⟨q, 0, none⟩)) 4 [.int .i64 0, .slice none 0 0, .slice none 0 0] rfl rfl rfl (fun a h => (run_allocOp (by simp [go_sem, Instr.alloc]))) ?_
  intro q28 W29 g32 s30 r31
  have := Nat.le_trans b25.size g32
  have := r26.lt g32
  have := r27.lt g32
  have b33 := b25.trans (s30.mono b25.size)
  have r34 := r26.below s30
  have r35 := r27.below s30
  have f36 := (Owns.hold hoA24 s30 g32 r31.2.2)
  refine fw_st r31 rfl rfl ?_
  intro W37 s38 r39
  have b40 := below_chg b33 s38 (by omega) b33.size
  have r41 := r34.chg s38 (by omega)
  have r42 := r35.chg s38 (by omega)
  have f43 := (Owns.chg f36 s38 (by simp))
  refine fw_dt ?_
  refine fw_sq ?_
  refine fw_rg rfl ?_
  refine fw_pu rfl ?_
  refine fw_dt ?_
  refine fw_sq ?_
  refine fw_sq ?_
  refine fw_rg rfl ?_
  refine fw_pu rfl ?_
  refine fw_dt ?_
  refine fw_bk ?_
  have hoI : Owns w.heap.size (q28 :: q8 :: q1 :: []) (orI (.slice none 0 0) [] :: orF (.slice (some ⟨qf22, 0, none⟩) 2 2) [fR 65535, fR 2] :: orM (.slice none 0 0) [] :: []) W37 := Owns.cons (orM (.slice none 0 0) []) f43 rfl (MsOwn.nil _ _) 2
  refine fw_lp (fun N K W => ∃ (i : Nat) (af : Option Addr) (cf : Nat) (aq : Option Addr) (cq : Nat) (ai : Option Addr) (ci : Nat), N = 2 - i ∧ i ≤ 2 ∧ RowAt W q28 [.int .i64 (rS i).last, .slice af (rS i).fl.length cf, .slice aq 0 cq] ∧ Owns w.heap.size (q28 :: q8 :: q1 :: []) (orI (.slice ai (rI i).length ci) (rI i) :: orF (.slice af (rS i).fl.length cf) (rS i).fl :: orM (.slice aq 0 cq) [] :: []) W ∧ K = [(1, .pointer (some ⟨q1, 0, none⟩)), (3, .pointer (some ⟨q8, 0, none⟩)), (4, .pointer (some ⟨q28, 0, none⟩)), (5, .slice ai (rI i).length ci), (6, .int .i64 ((i : Nat) : Int))] ∧ Below w.heap.size w W ∧ RowAt W q1 [.int .i64 x, .slice aF nF cF, .slice aQ nQ cQ, .slice aL nL cL] ∧ RowAt W q8 [.string { data := #[97] }, .string { data := #[] }, .int .i64 1, .bool false]) _ _ ⟨0, (some ⟨qf22, 0, none⟩), 2, none, 0, none, 0, rfl, Nat.zero_le _, r39, hoI, rfl, b40, r41, r42⟩ ⟨rfl, rfl, rfl, (by first | rfl | (simp only [Look, cond, Nat.beq]; first | rfl | (congr 2; first | rfl | omega | (push_cast; omega)) | (simp; try omega))), (by first | rfl | (simp only [Look, cond, Nat.beq]; first | rfl | (congr 2; first | rfl | omega | (push_cast; omega)) | (simp; try omega))), trivial⟩ ?_
  rintro N _ W44 ⟨i, af, cf, aq, cq, ai, ci, rfl, hil, hr0, ho0, rfl, bW44, rW44_0, rW44_1⟩
  intro K46 hK46
  refine fw_sq ?_
  refine fw_sq ?_
  refine fw_rg rfl ?_
  iterate 2 refine fw_pu rfl ?_
  refine fw_dt ?_
  rcases Bool.eq_false_or_eq_true ((decide (((i : Nat) : Int) < 2))) with hb_47 | hb_47
  · skip
    refine fw_cT rfl hb_47 ?_
    refine fw_sk ?_
    refine fw_th ?_
    refine fw_sq ?_
    refine fw_bk ?_
    refine fw_sq ?_
    have hi2 : i < 2 := by have h := of_decide_eq_true hb_47; omega
    refine fw_rg rfl ?_
    refine fw_ld hr0 rfl rfl ?_
    refine fw_ld rW44_1 rfl rfl ?_
    refine fw_ca Try.func54 rfl rfl rfl ((rOff (i := i) (w := W44) hi2 (Owns.slF ho0 1 rfl) (Owns.slM ho0 2 rfl))) ?_
    rintro _ V48 ⟨af49, cf49, aq49, cq49, ap49, cp49, rfl, ho49, hb49⟩
    refine ⟨_, rfl, ?_⟩
    have hoA49 := Owns.app ho0 hb49 ho49 bW44.size
    have hoB49 : Owns w.heap.size (q28 :: q8 :: q1 :: []) ((orI (.slice ai (rI i).length ci) (rI i)) :: (orF (.slice af49 (rS (i + 1)).fl.length cf49) (rS (i + 1)).fl) :: (orM (.slice aq49 0 cq49) []) :: (orP (.slice ap49 1 cp49) [pubP (fR (rN i))]) :: []) V48 := Owns.sub hoA49 (.cons_cons _ (.cons _ (.cons _ (.cons_cons _ (.cons_cons _ (.cons_cons _ .slnil))))))
    have b50 := bW44.trans (hb49.mono bW44.size)
    have r51 := rW44_0.below hb49
    have r52 := rW44_1.below hb49
    have r53 := hr0.below hb49
    iterate 4 refine fw_pu rfl ?_
    refine fw_al (t := 79) (u := fun q => .pointer (some ⟨q, 0, none⟩)) 7 [.int .i64 0, .slice none 0 0, .slice none 0 0] rfl rfl rfl (fun a h => (run_allocOp (by simp [go_sem, Instr.alloc]))) ?_
    intro q54 W55 g58 s56 r57
    have := Nat.le_trans b50.size g58
    have := r51.lt g58
    have := r52.lt g58
    have := r53.lt g58
    have b59 := b50.trans (s56.mono b50.size)
    have r60 := r51.below s56
    have r61 := r52.below s56
    have r62 := r53.below s56
    have f63 := (Owns.hold hoB49 s56 g58 r57.2.2)
    refine fw_st r57 rfl rfl ?_
    intro W64 s65 r66
    have b67 := below_chg b59 s65 (by omega) b59.size
    have r68 := r60.chg s65 (by omega)
    have r69 := r61.chg s65 (by omega)
    have r70 := r62.chg s65 (by omega)
    have f71 := (Owns.chg f63 s65 (by simp))
    iterate 2 refine fw_pu rfl ?_
    refine fw_dt ?_
    refine fw_sq ?_
    refine fw_sq ?_
    refine fw_rg rfl ?_
    refine fw_pu rfl ?_
    refine fw_ca Try.func55 rfl rfl rfl ((num23_any 0 W64)) ?_
    rintro _ _ ⟨rfl, rfl⟩
    refine ⟨(.int .i64 0), rfl, ?_⟩
    iterate 6 refine fw_pu rfl ?_
    refine fw_dt ?_
    refine fw_cF rfl rfl ?_
    refine fw_sk ?_
    refine fw_th ?_
    refine fw_sq ?_
    refine fw_rg rfl ?_
    iterate 2 refine fw_pu rfl ?_
    obtain ⟨bP72, oP72, rfl, -⟩ := Owns.head f71 3 rfl
    refine fw_ex 42 (.pointer (some ⟨bP72, oP72, none⟩)) rfl rfl rfl (fun a h => (run_indexOp (h.ev rfl) (h.ev rfl) (idx0Pk _ _ _ _ (by decide) _))) ?_
    refine fw_pu rfl ?_
    refine fw_ex 44 (.int .i64 (rN i)) rfl rfl rfl (fun a h => (run_loadOp (h.ev rfl) (ldI1 (by obtain ⟨b1, o1, e1, h1⟩ := Owns.head f71 3 rfl; injection e1 with e1; injection e1 with e2 e3; subst e2; subst e3; exact h1 20 _ rfl)))) ?_
    refine fw_al (t := 3) (u := fun q => .slice (some ⟨q, 0, none⟩) 1 1) 45 (cn (rN i)) rfl rfl rfl (fun a h => (bs1In (rN i) _ (h.ev rfl))) ?_
    intro q73 W74 g77 s75 r76
    have := Nat.le_trans b67.size g77
    have := r68.lt g77
    have := r69.lt g77
    have := r70.lt g77
    have := r66.lt g77
    have b78 := b67.trans (s75.mono b67.size)
    have r79 := r68.below s75
    have r80 := r69.below s75
    have r81 := r70.below s75
    have r82 := r66.below s75
    have f83 := (Owns.hold f71 s75 g77 r76.2.2)
    refine fw_to 46 rfl rfl rfl (fun a h => (In_app _ _ rfl (h.ev rfl) (Owns.get f83 (i := 0) rfl) (h.ev rfl) r76 (rI_len hi2) b78.size)) ?_
    rintro vx85 V84 ⟨hgr85, hog85⟩
    rw [rI_next hi2] at hog85
    obtain ⟨ax85, cx85, rfl⟩ := own_slice hog85
    have hnq86 := Owns.notHeld f83 (i := 0) rfl
    have how86 := Owns.get f83 (i := 0) rfl
    have rN87 := rowAt_keep r79 hgr85.1 (fun e => hnq86 _ e.symm (by simp))
    have rN88 := rowAt_keep r80 hgr85.1 (fun e => hnq86 _ e.symm (by simp))
    have rN89 := rowAt_keep r81 hgr85.1 (fun e => hnq86 _ e.symm (by simp))
    have rN90 := rowAt_keep r82 hgr85.1 (fun e => hnq86 _ e.symm (by simp))
    have hoN86 : Owns w.heap.size (q73 :: q54 :: q28 :: q8 :: q1 :: []) ((orI (.slice ax85 (rI (i + 1)).length cx85) (rI (i + 1))) :: (orF (.slice af49 (rS (i + 1)).fl.length cf49) (rS (i + 1)).fl) :: (orM (.slice aq49 0 cq49) []) :: (orP (.slice (some ⟨bP72, oP72, none⟩) 1 cp49) [pubP (fR (rN i))]) :: []) V84 := Owns.upd (r' := (orI (.slice ax85 (rI (i + 1)).length cx85) (rI (i + 1)))) f83 0 rfl hgr85 hog85
    have b91 := (b78.trans (grew_low hgr85 (Nat.le_trans (Nat.le_refl _) b78.size) (fun k hk => (blk_lt how86 hk).1)))
    refine fw_pu rfl ?_
    refine fw_dt ?_
    refine fw_rg rfl ?_
    refine fw_ld rN90 rfl rfl ?_
    refine fw_st rN89 rfl rfl ?_
    intro W92 s93 r94
    have b95 := below_chg b91 s93 (by omega) b91.size
    have r96 := rN87.chg s93 (by omega)
    have r97 := rN88.chg s93 (by omega)
    have r98 := rN90.chg s93 (by omega)
    have f99 := (Owns.chg hoN86 s93 (by simp))
    refine fw_dn ?_
    refine fw_bn ?_
    refine fw_th ?_
    refine fw_rg rfl ?_
    refine fw_pu rfl ?_
    refine fw_ex 24 (.int .i64 (((i + 1) : Nat) : Int)) rfl rfl rfl (fun a h => (run_binOp (h.ev rfl) (h.ev rfl) (by simp [go_sem]) (addIw _ _ _ _ (by omega) (by omega) (by omega)))) ?_
    refine fw_pu rfl ?_
    refine fw_dn ?_
    have hoE := Owns.sub (Owns.subH (H := (q28 :: q8 :: q1 :: [])) f99 (fun k hk => by simp only [List.mem_cons, List.not_mem_nil, or_false] at hk ⊢; rcases hk with rfl | rfl | rfl <;> simp)) (.cons_cons _ (.cons_cons _ (.cons_cons _ (.cons _ .slnil))))
    exact fw_th (fw_gf (hK46 _ _ _ (by omega) ⟨(i + 1), af49, cf49, aq49, cq49, ax85, cx85, rfl, (by omega), r94, hoE, rfl, b95, r96, r97⟩) ⟨rfl, rfl, rfl, (by first | rfl | (simp only [Look, cond, Nat.beq]; first | rfl | (congr 2; first | rfl | omega | (push_cast; omega)) | (simp; try omega))), (by first | rfl | (simp only [Look, cond, Nat.beq]; first | rfl | (congr 2; first | rfl | omega | (push_cast; omega)) | (simp; try omega))), trivial⟩)
  refine fw_cF rfl hb_47 ?_
  refine fw_xt ?_
  refine fw_te ?_
  refine fw_te ?_
  refine fw_be ?_
  refine fw_th ?_
  refine fw_sq ?_
  obtain rfl : i = 2 := by have h := of_decide_eq_false hb_47; omega
  refine fw_rg rfl ?_
  refine fw_ld hr0 rfl rfl ?_
  refine fw_ld rW44_1 rfl rfl ?_
  refine fw_ca Try.func54 rfl rfl rfl ((rOff2 (w := W44) (Owns.slF ho0 1 rfl) (Owns.slM ho0 2 rfl))) ?_
  rintro _ V100 ⟨af101, cf101, aq101, cq101, ap101, cp101, rfl, ho101, hb101⟩
  refine ⟨_, rfl, ?_⟩
  have hoA101 := Owns.app ho0 hb101 ho101 bW44.size
  have hoB101 : Owns w.heap.size (q28 :: q8 :: q1 :: []) ((orI (.slice ai (rI 2).length ci) (rI 2)) :: (orF (.slice af101 4 cf101) (rS 2).fl) :: (orM (.slice aq101 1 cq101) [mR]) :: (orP (.slice ap101 0 cp101) []) :: []) V100 := Owns.sub hoA101 (.cons_cons _ (.cons _ (.cons _ (.cons_cons _ (.cons_cons _ (.cons_cons _ .slnil))))))
  have b102 := bW44.trans (hb101.mono bW44.size)
  have r103 := rW44_0.below hb101
  have r104 := rW44_1.below hb101
  have r105 := hr0.below hb101
  iterate 4 refine fw_pu rfl ?_
  refine fw_al (t := 79) (u := fun q => .pointer (some ⟨q, 0, none⟩)) 10 [.int .i64 0, .slice none 0 0, .slice none 0 0] rfl rfl rfl (fun a h => (run_allocOp (by simp [go_sem, Instr.alloc]))) ?_
  intro q106 W107 g110 s108 r109
  have := Nat.le_trans b102.size g110
  have := r103.lt g110
  have := r104.lt g110
  have := r105.lt g110
  have b111 := b102.trans (s108.mono b102.size)
  have r112 := r103.below s108
  have r113 := r104.below s108
  have r114 := r105.below s108
  have f115 := (Owns.hold hoB101 s108 g110 r109.2.2)
  refine fw_st r109 rfl rfl ?_
  intro W116 s117 r118
  have b119 := below_chg b111 s117 (by omega) b111.size
  have r120 := r112.chg s117 (by omega)
  have r121 := r113.chg s117 (by omega)
  have r122 := r114.chg s117 (by omega)
  have f123 := (Owns.chg f115 s117 (by simp))
  iterate 2 refine fw_pu rfl ?_
  refine fw_dt ?_
  refine fw_sq ?_
  refine fw_sq ?_
  refine fw_rg rfl ?_
  refine fw_pu rfl ?_
  refine fw_ca Try.func55 rfl rfl rfl ((num23_any 0 W116)) ?_
  rintro _ _ ⟨rfl, rfl⟩
  refine ⟨(.int .i64 0), rfl, ?_⟩
  iterate 8 refine fw_pu rfl ?_
  refine fw_ld r118 rfl rfl ?_
  iterate 5 refine fw_pu rfl ?_
  refine fw_al (t := 3) (u := fun q => .slice (some ⟨q, 0, none⟩) 2 2) 71 [.int .i64 65534, .int .i64 1] rfl rfl rfl (fun a h => (bs2In _ rfl rfl)) ?_
  intro q124 W125 g128 s126 r127
  have := Nat.le_trans b119.size g128
  have := r120.lt g128
  have := r121.lt g128
  have := r122.lt g128
  have := r118.lt g128
  have b129 := b119.trans (s126.mono b119.size)
  have r130 := r120.below s126
  have r131 := r121.below s126
  have r132 := r122.below s126
  have r133 := r118.below s126
  have f134 := (Owns.hold f123 s126 g128 r127.2.2)
  refine fw_ca Try.func49 rfl rfl rfl ((rEq (w := W125) (Owns.slI f134 0 rfl) (slI2 r127))) ?_
  rintro _ V136 ⟨rfl, hb135⟩
  refine ⟨(.bool true), rfl, ?_⟩
  have b137 := b129.trans (hb135.mono b129.size)
  have r138 := r130.below hb135
  have r139 := r131.below hb135
  have r140 := r132.below hb135
  have r141 := r133.below hb135
  have r142 := r127.below hb135
  have f143 := (Owns.below f134 hb135)
  iterate 2 refine fw_pu rfl ?_
  refine fw_dt ?_
  refine fw_cF rfl rfl ?_
  refine fw_sk ?_
  refine fw_th ?_
  refine fw_sq ?_
  refine fw_rg rfl ?_
  refine fw_ld r141 rfl rfl ?_
  refine fw_ca Try.func58 rfl rfl rfl ((rAck (w := V136) (Owns.slF f143 1 rfl) (Owns.slM f143 2 rfl))) ?_
  rintro _ V144 ⟨af145, cf145, aq145, cq145, ap145, cp145, rfl, ho145, hb145⟩
  refine ⟨_, rfl, ?_⟩
  have hoA145 := Owns.app f143 hb145 ho145 b137.size
  have hoB145 : Owns w.heap.size (q124 :: q106 :: q28 :: q8 :: q1 :: []) ((orF (.slice af145 4 cf145) [fR 2, fR 65534, fR 1, fR 3]) :: (orM (.slice aq145 0 cq145) []) :: (orP (.slice ap145 1 cp145) [pubP (fR 3)]) :: []) V144 := Owns.sub hoA145 (.cons _ (.cons _ (.cons _ (.cons _ (.cons_cons _ (.cons_cons _ (.cons_cons _ .slnil)))))))
  have b146 := b137.trans (hb145.mono b137.size)
  have r147 := r138.below hb145
  have r148 := r139.below hb145
  have r149 := r140.below hb145
  have r150 := r141.below hb145
  have r151 := r142.below hb145
  iterate 4 refine fw_pu rfl ?_
  refine fw_al (t := 79) (u := fun q => .pointer (some ⟨q, 0, none⟩)) 13 [.int .i64 0, .slice none 0 0, .slice none 0 0] rfl rfl rfl (fun a h => (run_allocOp (by simp [go_sem, Instr.alloc]))) ?_
  intro q152 W153 g156 s154 r155
  have := Nat.le_trans b146.size g156
  have := r147.lt g156
  have := r148.lt g156
  have := r149.lt g156
  have := r150.lt g156
  have := r151.lt g156
  have b157 := b146.trans (s154.mono b146.size)
  have r158 := r147.below s154
  have r159 := r148.below s154
  have r160 := r149.below s154
  have r161 := r150.below s154
  have r162 := r151.below s154
  have f163 := (Owns.hold hoB145 s154 g156 r155.2.2)
  refine fw_st r155 rfl rfl ?_
  intro W164 s165 r166
  have b167 := below_chg b157 s165 (by omega) b157.size
  have r168 := r158.chg s165 (by omega)
  have r169 := r159.chg s165 (by omega)
  have r170 := r160.chg s165 (by omega)
  have r171 := r161.chg s165 (by omega)
  have r172 := r162.chg s165 (by omega)
  have f173 := (Owns.chg f163 s165 (by simp))
  iterate 2 refine fw_pu rfl ?_
  refine fw_dt ?_
  refine fw_sq ?_
  refine fw_rg rfl ?_
  refine fw_pu rfl ?_
  refine fw_ca Try.func55 rfl rfl rfl ((num23_any 0 W164)) ?_
  rintro _ _ ⟨rfl, rfl⟩
  refine ⟨(.int .i64 0), rfl, ?_⟩
  iterate 8 refine fw_pu rfl ?_
  obtain ⟨bP174, oP174, rfl, -⟩ := Owns.head f173 2 rfl
  refine fw_ex 91 (.pointer (some ⟨bP174, oP174, none⟩)) rfl rfl rfl (fun a h => (run_indexOp (h.ev rfl) (h.ev rfl) (idx0Pk _ _ _ _ (by decide) _))) ?_
  refine fw_pu rfl ?_
  refine fw_ex 93 (.int .i64 3) rfl rfl rfl (fun a h => (run_loadOp (h.ev rfl) (ldI1 (by obtain ⟨b1, o1, e1, h1⟩ := Owns.head f173 2 rfl; injection e1 with e1; injection e1 with e2 e3; subst e2; subst e3; exact h1 20 _ rfl)))) ?_
  iterate 4 refine fw_pu rfl ?_
  refine fw_ld r166 rfl rfl ?_
  iterate 3 refine fw_pu rfl ?_
  refine fw_ld r166 rfl rfl ?_
  refine fw_ca Try.func60 rfl rfl rfl ((rRef (w := W164) (Owns.slF f173 0 rfl) (Owns.slM f173 1 rfl))) ?_
  rintro _ V176 ⟨rfl, hb175⟩
  refine ⟨(.bool true), rfl, ?_⟩
  have b177 := b167.trans (hb175.mono b167.size)
  have r178 := r168.below hb175
  have r179 := r169.below hb175
  have r180 := r170.below hb175
  have r181 := r171.below hb175
  have r182 := r172.below hb175
  have r183 := r166.below hb175
  have f184 := (Owns.below f173 hb175)
  iterate 3 refine fw_pu rfl ?_
  refine fw_ld r178 rfl rfl ?_
  iterate 4 refine fw_pu rfl ?_
  refine fw_kn 111 rfl hnL ?_
  refine fw_ca Try.func61 rfl rfl rfl ((wakes23_any V176)) ?_
  rintro _ V186 ⟨rfl, hb185⟩
  refine ⟨(.bool true), rfl, ?_⟩
  have b187 := b177.trans (hb185.mono b177.size)
  have r188 := r178.below hb185
  have r189 := r179.below hb185
  have r190 := r180.below hb185
  have r191 := r181.below hb185
  have r192 := r182.below hb185
  have r193 := r183.below hb185
  have f194 := (Owns.below f184 hb185)
  iterate 2 refine fw_pu rfl ?_
  refine fw_dt ?_
  refine fw_rt ?_
  refine ⟨fun a h => ?_⟩
  exact ow_ret1 rfl h.df (h.g 2 rfl) ⟨rfl, b187⟩
namespace outboxRound
open Go.ChangeShapes Go.WideShapes Go.ChangeAt
theorem own : ownKnob Try.prog.godebug = none := by kernel_rfl
theorem laidOut : laidOutB Try.prog = true := by kernel_rfl
set_option maxRecDepth 100000 in
theorem lifted (os : Os) (started : os.Started) (H : Type) (enc : TypeId × Value → H) :
    ReturnsInHanded {} Try.checked os 11 .any (Rows.outboxRoundSpec.pre6 enc Try.prog Try.f11 Rows.outboxRoundRow.domain false) (Rows.outboxRoundSpec.post enc Try.prog Try.f11 false true false false) := by
  refine returnsInHanded_of_change_sized (C := Try.checked) own started (by kernel_rfl) Try.func11
    (ChangeSpec.witness6 (enc := enc) (C := Try.checked) false ⟨#[], #[.agg #[.int .i64 0, .slice none 0 0, .slice none 0 0, .slice none 0 0]], []⟩ 12 (by kernel_rfl) (by kernel_rfl) (by kernel_rfl) (by kernel_rfl)) ?_
  intro W base args ds gs before hval0 hW _ hsz0 _
  have hsz : (DataW.weightsEach Try.prog (Try.f11.params.toList ++ Rows.outboxRoundSpec.plain.varTypes Try.prog) (ds ++ gs)).all (· ≤ reachBytes) = true := hsz0
  clear hsz0
  have hval : ∀ (j : Nat) t v, Try.f11.params[j]? = some t → args[j]? = some v → Value.okWide Try.prog W .any base t v := hval0
  have hW' := hW
  obtain ⟨p, q, hA0, hV, rfl, hfz, hnd⟩ := hW
  have hA : DataW.TrodAll enc Try.prog W 0 (fun _ => true) true Try.f11.params.toList args.toList ds p := hA0
  rw [Try.params11] at hA hval
  obtain ⟨v0, vs0, d0, ds0, p0, q0, hargs, rfl, rfl, h0, r0⟩ := trodAll_cons hA
  obtain ⟨rfl, rfl, rfl⟩ := trodAll_nil r0
  obtain rfl : args = #[v0] := by cases args; simp_all
  obtain ⟨rfl, rfl⟩ := trodVars_none hV
  obtain ⟨cs0, rfl⟩ : ∃ cs0 : Array Value, v0 = .agg cs0 := by
    have h := hval 0 82 v0 rfl rfl
    unfold Value.okWide at h
    rw [Try.underlying82] at h
    exact ⟨h.choose, h.choose_spec.1⟩
  have k0 := h0
  have lt0 : ∀ x ∈ p0, x.block < W.heap.size := by obtain ⟨m, hm⟩ := k0; exact DataW.trod_lt m _ _ _ hm
  have hrd : RdZ Try.prog W 82 cs0.toList := by obtain ⟨fuel, hf⟩ := h0; exact ⟨H, enc, 0, _, true, fuel, _, hf, by simp only [List.all_eq_true]; intro n hn; exact List.all_eq_true.1 hsz n (DataW.weights_mem_each (j := 0) rfl rfl n hn)⟩
  clear hA0 hval0
  refine (show Calls Try.prog 11 _ W (fun e W' => e = .returned (.bool true) ∧ Below W.heap.size W W') from by have := outboxRound_walk W _ hrd; rwa [Array.toArray_toList] at this).mono fun e W' ⟨he, bel⟩ => ?_
  subst he
  exact ⟨_, rfl, _, _, _, [], _, [], hW', trodAll_mk1 (shut_bool Try.underlying4 _), (trodAll_cons_mk (Below.trod laidOut (by kernel_rfl) (of_decide_eq_true (by kernel_rfl)) k0 bel lt0) trodAll_mk0), rfl, bel.frame _, fun h => by cases h⟩
theorem over : Rows.outboxRoundRow.holds Try.pinned (OpenSpec.ofChange Rows.outboxRoundSpec) :=
  OpenClaim.holds_of_wide 11 Try.f11 rfl rfl rfl rfl rfl rfl rfl ⟨rfl, rfl, rfl, rfl, rfl⟩ rfl rfl rfl rfl rfl (by kernel_rfl) Try.func11 (by kernel_rfl)
    (of_decide_eq_true (by kernel_rfl)) (by unfold Func.isWrapper; first | (rw [if_pos (by decide +kernel)]; kernel_rfl) | (rw [if_neg (by decide +kernel)]; exact ⟨rfl, rfl⟩))
    (fun os started H enc _ => lifted os started H enc)
/-- THE STATEMENT. -/
theorem proved : Rows.OutboxRoundSaid := over
end outboxRound
-- CLAIM: OutboxRound outboxRound.proved
end Go.Proofs.Ytcglmkcefenjcaa
