/-
  The page's own reassembling: rows of what is there, and of the bytes.
-/
import Derived.Test.YtjgbiffgmafhmaaGreatLtKOv2
import Derived.Test.YtjgbiffgmafhmaaGreatLtKReC
import Derived.Test.YtjgbiffgmafhmaaGreatLtKReG
import Derived.Laws.MakeOwn
namespace Go.Proofs.YtjgbiffgmafhmaaGreat
open Go.RowKit
def hvRow (V : Win) : List Value := V.map (fun x => Value.bool (isS x)) ++ [.bool false]
def byRow (V : Win) : List Value := V.map (fun x => B8 (byt x))
theorem hv_len {V : Win} (h : V.length = 2048) : (hvRow V).length = 2049 := by unfold hvRow; rw [List.length_append, List.length_map, h]; rfl
theorem by_len {V : Win} (h : V.length = 2048) : (byRow V).length = 2048 := by unfold byRow; rw [List.length_map, h]
theorem hv_get {V : Win} {p : Nat} {x : Option UInt8} (h : V[p]? = some x) : (hvRow V)[p]? = some (.bool (isS x)) := by
  unfold hvRow
  rw [List.getElem?_append_left (by rw [List.length_map]; exact (List.getElem?_eq_some_iff.1 h).1), List.getElem?_map, h]; rfl
theorem hv_end {V : Win} (h : V.length = 2048) : (hvRow V)[2048]? = some (.bool false) := by
  unfold hvRow
  rw [List.getElem?_append_right (by rw [List.length_map, h]; exact Nat.le_refl _), List.length_map, h]; rfl
theorem by_get {V : Win} {p : Nat} {x : Option UInt8} (h : V[p]? = some x) : (byRow V)[p]? = some (B8 (byt x)) := by
  unfold byRow
  rw [List.getElem?_map, h]; rfl
theorem hv_set {V : Win} {p : Nat} (hp : p < V.length) (x : UInt8) : (hvRow V).set p (.bool true) = hvRow (V.set p (some x)) := by
  unfold hvRow
  rw [List.set_append_left _ _ (by rw [List.length_map]; exact hp), List.map_set]; rfl
theorem by_set {V : Win} {p : Nat} (x : UInt8) : (byRow V).set p (B8 x) = byRow (V.set p (some x)) := by
  unfold byRow
  rw [List.map_set]; rfl
theorem RowAt.hv {W : World} {q p : Nat} {V : Win} (h : RowAt W q (hvRow V)) (hV : V.length = 2048) (hp : p < 2048) (x : UInt8) : RowAt (W.setCell ⟨q, p, none⟩ (.bool true)) q (hvRow (V.set p (some x))) := by
  rw [← hv_set (by omega) x]
  exact h.set1 p _ (by rw [hv_len hV]; omega)
section
variable {a : Act} {d : Option Tmp} {ty : TypeId} {pos : String} {af : Array Edge} {g : Option (Nat × Bool)}
theorem rep_cells (z v : Value) (n : Nat) (h : z.cells = #[v]) : madeCells z.cells n = (List.replicate n v).toArray := by
  rw [h]
  unfold madeCells
  apply Array.ext
  · simp
  · intro i h1 h2
    simp [Nat.mod_one]
theorem infoBool' : (Tryz.prog.info? 4).map (fun i => (i.zero, i.size, i.bytes)) = some (some (.bool false), 1, 1) := by kernel_rfl
theorem hv0 : hvRow win0 = List.replicate 2049 (.bool false) := by
  unfold hvRow win0
  rw [List.map_replicate]
  show List.replicate 2048 (Value.bool false) ++ [.bool false] = _
  rw [← List.replicate_succ']
theorem by0 : byRow win0 = List.replicate 2048 (B8 0) := by
  unfold byRow win0
  rw [List.map_replicate]; rfl
theorem mk_hv (w : World) : (execOp a.eval ⟨d, .makeSlice 121 (.const (.int .i64 2049)) (.const (.int .i64 2049)), ty, pos, af, g⟩).run Tryz.prog w = .ok (.value (.slice (some ⟨w.heap.size, 0, none⟩) 2049 2049)) (w.alloc (.cells (hvRow win0).toArray 4)) := by
  obtain ⟨i0, hi, hz0, hz1, hz2⟩ := info_parts infoBool'
  have h := run_makeSlice (P := Tryz.prog) w 121 4 i0 (.bool false) Tryz.underlying121 hi hz0 .i64 .i64 2049 2049 (by decide) (by decide) (by rw [hz1]; decide) (by rw [hz2]; decide) (by decide)
  rw [hz1, rep_cells (.bool false) (.bool false) _ rfl, show (2049 : Int).toNat = 2049 from rfl, Nat.mul_one] at h
  rw [hv0]
  simp only [execOp, eval_cst, Sem.run_bind, h, Result.andThen_ok, Sem.run_pure]
theorem mk_by (w : World) : (execOp a.eval ⟨d, .makeSlice 22 (.const (.int .i64 2048)) (.const (.int .i64 2048)), ty, pos, af, g⟩).run Tryz.prog w = .ok (.value (.slice (some ⟨w.heap.size, 0, none⟩) 2048 2048)) (w.alloc (.cells (byRow win0).toArray 5)) := by
  obtain ⟨i0, hi, hz0, hz1, hz2⟩ := info_parts infoU8
  have h := run_makeSlice (P := Tryz.prog) w 22 5 i0 (.int .u8 0) Tryz.underlying22 hi hz0 .i64 .i64 2048 2048 (by decide) (by decide) (by rw [hz1]; decide) (by rw [hz2]; decide) (by decide)
  rw [hz1, rep_cells (.int .u8 0) (.int .u8 0) _ rfl, show (2048 : Int).toNat = 2048 from rfl, Nat.mul_one] at h
  rw [by0, show B8 0 = .int .u8 0 from rfl]
  simp only [execOp, eval_cst, Sem.run_bind, h, Result.andThen_ok, Sem.run_pure]
end
/-- The last part's bytes grow. -/
theorem DOwn.lastApp {t B : Nat} {W1 W2 : World} {g cap n : Nat} {A : List (EP × Value)} {s : Int} {d : List UInt8} {x : UInt8} {vd vd' : Value} (h : DOwn KPart t W1 B (.slice (some ⟨g, 0, none⟩) n cap) (A ++ [(⟨s, d⟩, vd)])) (hg : Grew W1 W2 vd vd') (ho : W2.ownsRow B 5 1 vd' (d.length + 1) ((d ++ [x]).map B8)) :
    DOwn KPart t (W2.setCell ⟨g, A.length * 2 + 1, none⟩ vd') B (.slice (some ⟨g, 0, none⟩) n cap) (A ++ [(⟨s, d ++ [x]⟩, vd')]) := by
  obtain rfl : n = (A ++ [((⟨s, d⟩ : EP), vd)]).length := by obtain ⟨_, _, e⟩ := own_slice h.row; injection e
  have hmem : ((⟨s, d⟩ : EP), vd) ∈ A ++ [(⟨s, d⟩, vd)] := by simp
  have hv' : ∀ k, vd'.ownBlock = some k → vd.ownBlock = some k ∨ W1.heap.size ≤ k := fun k hk => by
    rcases hg.2 with h1 | ⟨k', h1, hle⟩
    · exact .inl (h1.symm.trans hk)
    · rw [hk] at h1; injection h1 with h1; exact .inr (by omega)
  have hgb := blk_lt h.row (k := g) rfl
  have hdg : ∀ k, vd'.ownBlock = some k → k ≠ g := fun k hk e => by
    rcases hv' k hk with h1 | h1
    · exact h.ne _ hmem k h1 (by rw [e]; rfl)
    · omega
  have hgr := grown_set1 W2 g (A.length * 2 + 1) vd'
  have hrow2 := own_stay h.row hg.1 (fun k hk e => h.ne _ hmem k e.symm hk)
  have hst := hrow2.stored (A.length * 2 + 1) vd'
  have htwo := h.two
  rw [List.pairwise_append] at htwo
  obtain ⟨t1, -, t3⟩ := htwo
  refine ⟨?_, fun q hq => ?_, fun q hq k hk e => ?_, ?_⟩
  · have e1 : ((A ++ [((⟨s, d ++ [x]⟩ : EP), vd')]).map (fun q => KPart.row q.1 q.2)).flatten = (((A ++ [((⟨s, d⟩ : EP), vd)]).map (fun q => KPart.row q.1 q.2)).flatten).set (A.length * 2 + 1) vd' := by
      rw [← flat_setP ⟨s, d⟩ vd' (A ++ [((⟨s, d⟩ : EP), vd)]) A.length (⟨s, d⟩, vd) (by simp) rfl]
      simp [KPart]
    rw [e1]
    have e2 : (A ++ [((⟨s, d ++ [x]⟩ : EP), vd')]).length = (A ++ [((⟨s, d⟩ : EP), vd)]).length := by simp
    rw [e2]
    exact hst.1
  · rcases List.mem_append.1 hq with hq | hq
    · exact own_stay (own_stay (h.dat q (List.mem_append_left _ hq)) hg.1 (fun k hk e => t3 q hq _ (List.mem_singleton.2 rfl) k hk e.symm)) hgr (fun k hk e => h.ne q (List.mem_append_left _ hq) k hk e.symm)
    · simp at hq; subst hq
      refine own_stay ?_ hgr (fun k hk e => by injection e with e; exact hdg k hk e)
      simpa [KPart] using ho
  · rcases List.mem_append.1 hq with hq | hq
    · exact h.ne q (List.mem_append_left _ hq) k hk e
    · simp at hq; subst hq
      injection e with e
      exact hdg k hk e.symm
  · rw [List.pairwise_append]
    refine ⟨t1, List.pairwise_singleton _ _, fun p hp q hq k hk e => ?_⟩
    simp at hq; subst hq
    rcases hv' k e with h1 | h1
    · exact t3 p hp _ (List.mem_singleton.2 rfl) k hk h1
    · have := (blk_lt (h.dat p (List.mem_append_left _ hp)) hk).2; omega
theorem told_probe {V : Win} (hV : V.length = 2048) {m : Nat} (hm : m ≤ toldN V) : ∃ bm, (hvRow V)[m]? = some (.bool bm) ∧ (bm = true → m + 1 ≤ toldN V) ∧ (bm = false → m = toldN V) := by
  have hle := toldN_le V
  rcases Nat.lt_or_ge m 2048 with hl | hl
  · obtain ⟨x, hx⟩ : ∃ x, V[m]? = some x := ⟨_, List.getElem?_eq_getElem (by omega)⟩
    refine ⟨isS x, hv_get hx, fun h => ?_, fun h => ?_⟩
    · rcases Nat.lt_or_ge m (toldN V) with h1 | h1
      · exact h1
      · have e : m = toldN V := by omega
        rw [e] at hx
        rw [told_end hx] at h; cases h
    · rcases Nat.lt_or_ge m (toldN V) with h1 | h1
      · rw [told_is h1 hx] at h; cases h
      · omega
  · have e : m = 2048 := by omega
    subst e
    exact ⟨false, hv_end hV, fun h => (nomatch h), fun _ => by omega⟩
theorem idxBoolRow (q n cap i : Nat) (hi : i < n) (w : World) : (Instr.indexAt 121 (.slice (some ⟨q, 0, none⟩) n cap) (.int .i64 (i : Int))).run Tryz.prog w = .ok (.pointer (some ⟨q, i, none⟩)) w := by
  simp [go_sem, Instr.indexAt, hi]
theorem idxByteRow (q n cap i : Nat) (hi : i < n) (w : World) : (Instr.indexAt 22 (.slice (some ⟨q, 0, none⟩) n cap) (.int .i64 (i : Int))).run Tryz.prog w = .ok (.pointer (some ⟨q, i, none⟩)) w := by
  simp [go_sem, Instr.indexAt, hi]
theorem idxByte (b off n cap i : Nat) (hi : i < n) (w : World) : (Instr.indexAt 22 (.slice (some ⟨b, off, none⟩) n cap) (.int .i64 (i : Int))).run Tryz.prog w = .ok (.pointer (some ⟨b, off + i, none⟩)) w := by
  simp [go_sem, Instr.indexAt, hi]
theorem idxPart (b off n cap i : Nat) (hi : i < n) (w : World) : (Instr.indexAt 23 (.slice (some ⟨b, off, none⟩) n cap) (.int .i64 (i : Int))).run Tryz.prog w = .ok (.pointer (some ⟨b, off + i * 2, none⟩)) w := by
  have h2 : ¬ n ≤ i := by omega
  simp [go_sem, Instr.indexAt, h2]
theorem remIw (w : World) (x c : Int) (h0 : 0 ≤ x) (h : x % 4294967296 = c) : (binOp .rem 3 (.int .i64 x) (.int .i64 4294967296)).run Tryz.prog w = .ok (.int .i64 c) w := by
  have e : x.tmod 4294967296 = c := by rw [Int.tmod_eq_emod_of_nonneg h0]; exact h
  simp [go_sem, e]
theorem DOwn.lastCell {t B : Nat} {W : World} {g cap n : Nat} {A : List (EP × Value)} {q : EP × Value} (h : DOwn KPart t W B (.slice (some ⟨g, 0, none⟩) n cap) (A ++ [q])) : W.cell? ⟨g, A.length * 2 + 1, none⟩ = some q.2 := by
  have h1 := (SlR.of_own (by decide) (rows_len KPart (A ++ [q])) (show W.ownsRow B t KPart.n _ ((A ++ [q]).map (fun q => KPart.row q.1 q.2)).length _ by rw [List.length_map]; exact h.row)).1
  obtain ⟨ao, cap', e, -, -, -, hB⟩ := h1
  obtain ⟨b, off, e2, -, hc⟩ := hB (by simp)
  simp only [Value.slice.injEq] at e
  rw [e.1.symm] at e2
  injection e2 with e2; injection e2 with e2 e3 _
  subst e2 e3
  have := hc A.length (KPart.row q.1 q.2) (by simp) 1 q.2 rfl
  simpa [KPart] using this
end Go.Proofs.YtjgbiffgmafhmaaGreat
