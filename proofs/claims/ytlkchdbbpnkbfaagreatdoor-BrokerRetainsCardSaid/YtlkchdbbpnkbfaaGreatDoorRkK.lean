/-
  Words of our own, of no program: the reckoner: operations that make a row.
-/
import Derived.Test.YtlkchdbbpnkbfaaGreatDoorRkJ5
namespace Go.Rk
open Go.RowKit
variable {P : Program} {ev : Nat → Nat} {B : Nat} {ρ : Ren} {σ : Heap} {w : World}
theorem there_new (C : Array Value) (t : TypeId) (fr : Nat × Nat) (hf : ∀ j, j < C.size → ¬ (fr.1 ≤ j ∧ j < fr.2)) : (w.alloc (.cells C t fr)).there w.heap.size 0 C.size := fun j hj => by
  have hh := heap_alloc_new w (.cells C t fr)
  constructor
  · rw [cell_of_row _ _ _ _ _ _ hh]; simp [hj]
  · unfold World.frozen?
    rw [hh]
    simp only [Bool.and_eq_false_iff, decide_eq_false_iff_not]
    have := hf j hj
    rw [Nat.zero_add]
    omega
theorem range_new (C : Array Value) (t : TypeId) (fr : Nat × Nat) (cs : List Value) (h : ∀ (j : Nat) (v : Value), cs[j]? = some v → C[j]? = some v) : (w.alloc (.cells C t fr)).rangeAt w.heap.size 0 cs := fun j v hv => by
  rw [cell_of_row _ _ _ _ _ _ (heap_alloc_new w (.cells C t fr)), Nat.zero_add]
  exact h j v hv
theorem below_alloc (hB : B ≤ w.heap.size) (ob : Obj) : Below B w (w.alloc ob) := (Below.refl B w).alloc hB ob
/-- A row of whole cells is made. -/
theorem al_ex {r : Id} {l : List AV} {C : List Value} (t : TypeId) (hB : B ≤ w.heap.size) (hr : HR ev B σ ρ w) (hn : ρ r = none) (hg : σ.get r = .ex l ∨ σ.get r = .dead) (hx : r.num < σ.nx.num) (hl : VRs ev ρ l C) (h1 : ∀ v ∈ C, v.oneCell' = true) :
    HR ev B σ (ρ.put r (w.heap.size, 0, C.length)) (w.alloc (.cells C.toArray t)) := by
  have hth := there_new (w := w) C.toArray t (0, 0) (fun j _ h => by omega)
  simp only [List.size_toArray] at hth
  refine hr.alloc hB hn hx _ hth ?_
  rcases hg with hg | hg
  · rw [hg]
    exact ⟨hl.length, C, hl.mono (Ren.sub_put hn _), range_new C.toArray t (0, 0) C (fun j v hv => by simpa using hv), h1⟩
  · rw [hg]; trivial
/-- A row that has room behind it is made. -/
theorem al_gr {r : Id} {l : List AV} {cs : List Value} {C : Array Value} {t : TypeId} {fr : Nat × Nat} (hf : ∀ j, j < C.size → ¬ (fr.1 ≤ j ∧ j < fr.2)) (hB : B ≤ w.heap.size) (hr : HR ev B σ ρ w) (hn : ρ r = none) (hg : σ.get r = .gr l ∨ σ.get r = .dead) (hx : r.num < σ.nx.num)
    (hl : VRs ev ρ l cs) (h1 : ∀ v ∈ cs, v.oneCell' = true) (hC : ∀ (j : Nat) (v : Value), cs[j]? = some v → C[j]? = some v) (hlen : cs.length ≤ C.size) :
    HR ev B σ (ρ.put r (w.heap.size, 0, C.size)) (w.alloc (.cells C t fr)) := by
  refine hr.alloc hB hn hx _ (there_new C t fr hf) ?_
  rcases hg with hg | hg
  · rw [hg]
    exact ⟨by rw [hl.length]; exact hlen, cs, hl.mono (Ren.sub_put hn _), range_new C t fr cs hC, h1⟩
  · rw [hg]; trivial
theorem HR.drewB {B : Nat} (h : HR ev B σ ρ w) : HR ev B σ ρ w.drew := h.drew
theorem fold_size (off : Nat) : ∀ (M : List (Value × Nat)) (A : Array Value), (M.foldl (fun (cs : Array Value) (p : Value × Nat) => match p with | (c, j) => cs.setIfInBounds (off + j) c) A).size = A.size
  | [], _ => rfl
  | (c, j) :: M, A => by rw [List.foldl_cons, fold_size off M]; simp
theorem fill_size {pl : Nat → Option (Nat × Nat)} : ∀ {ps : List (Nat × Value)} {A R : Array Value}, Instr.fill pl A ps = some R → R.size = A.size
  | [], A, R, h => by unfold Instr.fill at h; simp only [Option.some.injEq] at h; rw [h]
  | (i, v) :: ps, A, R, h => by
    unfold Instr.fill at h
    split at h
    · cases h
    · split at h
      · cases h
      · rw [fill_size h, ← Array.foldl_toList]
        exact fold_size _ _ _
theorem repK_eq (n : Nat) (z : List AV) : ∀ (k : List AV → Bool), repK n z k = k (List.replicate n z).flatten := by
  induction n with
  | zero => intro k; rfl
  | succ n ih => intro k; show (repK n z fun t => appL z t k) = _; rw [ih, appL_eq]; rfl
theorem VRs.rep {z : List AV} {zs : List Value} (h : VRs ev ρ z zs) (n : Nat) : VRs ev ρ (List.replicate n z).flatten (List.replicate n zs).flatten := by
  induction n with
  | zero => exact .nil
  | succ n ih => rw [List.replicate_succ, List.replicate_succ, List.flatten_cons, List.flatten_cons]; exact h.append ih
/-- Noughts, n times: as the model has them. -/
theorem made_flatten (zs : List Value) (n : Nat) : (Array.range (n * zs.length)).map (fun i => zs.toArray[i % zs.toArray.size]!) = (List.replicate n zs).flatten.toArray := by
  apply Array.ext'
  rw [Array.toList_map, Array.toList_range]
  simp only [List.size_toArray]
  induction n with
  | zero => simp
  | succ n ih =>
    rw [List.replicate_succ, List.flatten_cons, Nat.succ_mul, Nat.add_comm, List.range_add, List.map_append]
    congr 1
    · refine List.ext_getElem (by simp) (fun j h1 h2 => ?_)
      simp only [List.length_map, List.length_range] at h1
      simp [Nat.mod_eq_of_lt h1, h1]
    · rw [List.map_map, ← ih]
      refine List.map_congr_left (fun j _ => ?_)
      simp only [Function.comp, Nat.add_mod_left]
theorem VRs.u8s : ∀ l : List Nat, VRs ev ρ (l.map fun b : Nat => AV.i .u8 (b : Int)) (l.map fun b : Nat => Value.int .u8 (b : Int))
  | [] => .nil
  | _ :: l => .cons (.i _ _) (VRs.u8s l)
theorem u8s_eq : ∀ (s : List Nat) (k : List AV → Bool), u8s s k = k (s.map fun b : Nat => AV.i .u8 (b : Int))
  | [], _ => rfl
  | b :: s, k => by show (Rk.u8s s fun t => k (.i .u8 (.ofNat b) :: t)) = _; rw [u8s_eq s]; rfl
theorem cSliceOp_al {t : Nat} {x : Operand} {lo hi mx : Option Operand} {f : Fm → Heap → K2 → Bool} : cSliceOp P t x lo hi mx ≠ .al f := fun h => by
  unfold cSliceOp at h
  split at h
  · split at h <;> cases h
  · split at h
    · split at h <;> cases h
    · cases h
  · split at h <;> cases h
  · cases h
theorem cBuiltin_al {b : Builtin} {ts : List Nat} {xs : List Operand} {f : Fm → Heap → K2 → Bool} : cBuiltin P b ts xs ≠ .al f := fun h => by
  unfold cBuiltin at h
  split at h
  · split at h <;> cases h
  · split at h <;> cases h
  · cases h
  · cases h
  · split at h
    · split at h <;> cases h
    · cases h
  · split at h <;> cases h
  · split at h <;> cases h
  · cases h
theorem cCall_al {c : Call} {f : Fm → Heap → K2 → Bool} : cCall P c ≠ .al f := fun h => by
  unfold cCall at h
  split at h
  · cases h
  · cases h
  · exact cBuiltin_al h
  · cases h
theorem cSlice_spec {t z bytes : Nat} {l : List AV} (h : cSlice P t = some (z, bytes, l)) : ∃ e i v, P.underlying t = some (.slice e) ∧ P.info? e = some i ∧ i.zero = some v ∧ zvOk v = true ∧ l = v.cells.toList.map cS ∧ v.cells.size = z ∧ i.size = z ∧ i.bytes = bytes ∧ 0 < z := by
  unfold cSlice at h
  split at h
  · rename_i e hu
    split at h
    · rename_i i z0 hi hz
      obtain ⟨i', v, hi', hv, hok, rfl⟩ := zeroOf_spec hz
      rw [hi] at hi'
      simp only [Option.some.injEq] at hi'
      subst hi'
      split at h
      · rename_i h1
        split at h
        · rename_i h2
          simp only [Option.some.injEq, Prod.mk.injEq] at h
          obtain ⟨rfl, rfl, rfl⟩ := h
          have := Nat.eq_of_beq_eq_true h1
          exact ⟨e, i, v, hu, hi, hv, hok, rfl, by simpa using this, rfl, rfl, Nat.le_of_ble_eq_true h2⟩
        · cases h
      · cases h
    · cases h
  · cases h
/-- What comp says of an operation that makes a row. -/
theorem comp_al {o : Oper} {f : Fm → Heap → K2 → Bool} (hc : comp P o = .al f) {fr : Fm} {k : K2} (h : f fr σ k = true) :
    ∃ (n2 : Id) (row : Row) (v : AV), (n2.num = σ.nx.num + 1 ∧ σ.get σ.nx = .dead) ∧ k v (σ.push n2 row) = true ∧ AlS P ev B o fr σ.nx row v := by
  obtain ⟨dst, op, ty, pos, after, gd⟩ := o
  cases op <;> unfold comp at hc <;> dsimp only at hc
  case alloc t =>
    split at hc
    · rename_i z hz
      simp only [CO.al.injEq] at hc
      subst hc
      dsimp only at h
      rw [appL_eq, List.append_nil] at h
      obtain ⟨n2, hn, h⟩ := Heap.new_inv h
      obtain ⟨i, v, hi, hv, hok, rfl⟩ := zeroOf_spec hz
      refine ⟨n2, _, _, hn, h, fun ρ a w σ' hB ho hr hρ hg hx => ?_⟩
      have hzv := zvOk_cells hok ev ρ
      refine ⟨.pointer (some ⟨w.heap.size, 0, none⟩), w.alloc (.cells v.cells.toList.toArray t), ρ.put σ.nx (w.heap.size, 0, v.cells.toList.length), ?_, Ren.sub_put hρ _, fun q hq => Ren.put_ne _ _ hq, ?_, al_ex t hB hr hρ hg hx hzv.1 hzv.2, below_alloc hB _, by rw [World.size_alloc]; omega⟩
      · simp [execOp, Instr.alloc, zeroValue, typeInfo, hi, hv, newVar, newRow]
      · have := VR.p (ev := ev) (ρ := ρ.put σ.nx (w.heap.size, 0, v.cells.toList.length)) (r := σ.nx) (o := 0) (Ren.put_same _ _ _)
        simpa using this
    · cases hc
  case box t x =>
    simp only [CO.al.injEq] at hc
    subst hc
    dsimp only at h
    obtain ⟨l, h, hl⟩ := cellsV_inv (ev := ev) h
    obtain ⟨n2, hn, h⟩ := Heap.new_inv h
    refine ⟨n2, _, _, hn, h, fun ρ a w σ' hB ho hr hρ hg hx => ?_⟩
    obtain ⟨cs, hcs, hvc, h1⟩ := hl ρ _ (ho x (by simp [Op.operands]))
    refine ⟨.pointer (some ⟨w.heap.size, 0, none⟩), w.alloc (.cells cs.toArray t), ρ.put σ.nx (w.heap.size, 0, cs.length), ?_, Ren.sub_put hρ _, fun q hq => Ren.put_ne _ _ hq, ?_, al_ex t hB hr hρ hg hx hvc h1, below_alloc hB _, by rw [World.size_alloc]; omega⟩
    · simp [execOp, Instr.box, newVar, newRow, hcs]
    · have := VR.p (ev := ev) (ρ := ρ.put σ.nx (w.heap.size, 0, cs.length)) (r := σ.nx) (o := 0) (Ren.put_same _ _ _)
      simpa using this
  case buildSlice t n ps =>
    split at hc
    · rename_i sz bytes z hz
      split at hc
      · rename_i L hL hle
        simp only [CO.al.injEq] at hc
        subst hc
        dsimp only at h
        rw [repK_eq] at h
        obtain ⟨e, i, v, hu, hi, hv, hok, rfl, hsz, hisz, hby, hpos⟩ := cSlice_spec hz
        obtain ⟨R, h, hR⟩ := fillK_inv (ev := ev) hL h
        obtain ⟨n2, hn, h⟩ := Heap.new_inv h
        refine ⟨n2, _, _, hn, h, fun ρ a w σ' hB ho hr hρ hg hx => ?_⟩
        have hzv := zvOk_cells hok ev ρ
        have hOps : ∀ p ∈ ps.toList, VR ev ρ (oval p.2 fr) (a.eval p.2) := fun p hp => ho p.2 (by simp only [Op.operands]; simp; exact ⟨p.1, by simpa using hp⟩)
        have h1z : ∀ c ∈ (List.replicate n v.cells.toList).flatten, c.oneCell' = true := fun c hc => by
          obtain ⟨l, hl, hcl⟩ := List.mem_flatten.1 hc
          rw [(List.mem_replicate.1 hl).2] at hcl
          exact hzv.2 c hcl
        obtain ⟨rs, e1, h2, h3⟩ := hR ρ a _ (hzv.1.rep n) h1z hOps
        have hlR : rs.length = n * sz := by
          have := fill_size e1
          simp at this
          rw [this, hsz]
        refine ⟨.slice (some ⟨w.heap.size, 0, none⟩) n n, w.alloc (.cells rs.toArray e), ρ.put σ.nx (w.heap.size, 0, rs.length), ?_, Ren.sub_put hρ _, fun q hq => Ren.put_ne _ _ hq, ?_, al_ex e hB hr hρ hg hx h2 h3, below_alloc hB _, by rw [World.size_alloc]; omega⟩
        · have hfl := made_flatten v.cells.toList n
          have hle' := Nat.le_of_ble_eq_true hle
          have hn24 : ¬ (n * i.size > 2 ^ 24) := by rw [hisz]; omega
          have hcs : v.cells.toList.toArray = v.cells := by simp
          rw [hcs, show v.cells.toList.length = i.size by rw [Array.length_toList, hsz, hisz]] at hfl
          have hmap : (ps.map fun (p : Nat × Operand) => (p.1, a.eval p.2)).toList = ps.toList.map fun p => (p.1, a.eval p.2) := by simp
          have e1' : Instr.fill (fun j => some (j * i.size, i.size)) (List.replicate n v.cells.toList).flatten.toArray (ps.toList.map fun p => (p.1, a.eval p.2)) = some rs.toArray := by rw [hisz]; exact e1
          have hrun : (Instr.buildSlice t n (ps.map fun (p : Nat × Operand) => (p.1, a.eval p.2))).run P w = .ok (.slice (some ⟨w.heap.size, 0, none⟩) n n) (w.alloc (.cells rs.toArray e)) := by
            by_cases h0 : n * i.size = 0
            · have hn0 : n = 0 := by
                rcases Nat.mul_eq_zero.1 h0 with h | h
                · exact h
                · omega
              subst hn0
              simp only [List.replicate_zero, List.flatten_nil] at e1'
              simp only [Instr.buildSlice, Sem.run_bind, run_underlying hu w, Result.andThen_ok, sizeOf, typeInfo, run_program, hi, Sem.run_pure, h0, if_true, hmap]
              have hr0 : ∀ f : Nat → Value, (Array.range 0).map f = #[] := fun f => by apply Array.ext'; simp
              rw [if_neg (by decide)]
              simp only [Sem.run_bind, Sem.run_pure, Result.andThen_ok, hr0, e1']
              rfl
            · simp only [Instr.buildSlice, Sem.run_bind, run_underlying hu w, Result.andThen_ok, sizeOf, typeInfo, run_program, hi, Sem.run_pure, hn24, if_false, h0, zeroValue, hv, hfl, hmap, e1', newRow, run_newObj]
              rfl
          simp only [execOp, Sem.run_bind, hrun, Result.andThen_ok, Sem.run_pure]
        · exact .sl (Ren.put_same _ _ _) (Nat.le_refl _) (fun _ => by simp) (by rw [hlR]; omega) (fun j e => by simpa using e) (fun e => by cases e)
      · cases hc
    · cases hc
  case makeSlice t n c =>
    split at hc
    · rename_i sz bytes z hz
      simp only [CO.al.injEq] at hc
      subst hc
      dsimp only at h
      obtain ⟨e, i, v, hu, hi, hv, hok, rfl, hsz, hisz, hby, hpos⟩ := cSlice_spec hz
      obtain ⟨qn, nn, hxn, h1⟩ := asI_inv h
      obtain ⟨nn, rfl, h2⟩ := natK_inv h1
      obtain ⟨qc, cc, hxc, h3⟩ := asI_inv h2
      obtain ⟨cc, rfl, h4⟩ := natK_inv h3
      obtain ⟨g1, h5⟩ := guard_inv h4
      obtain ⟨g2, h6⟩ := guard_inv h5
      obtain ⟨g3, h7⟩ := guard_inv h6
      rw [repK_eq] at h7
      obtain ⟨n2, hn, h8⟩ := Heap.new_inv h7
      refine ⟨n2, _, _, hn, h8, fun ρ a w σ' hB ho hr hρ hg hx => ?_⟩
      have hzv := zvOk_cells hok ev ρ
      have h1z : ∀ c ∈ (List.replicate cc v.cells.toList).flatten, c.oneCell' = true := fun c hc => by
        obtain ⟨l, hl, hcl⟩ := List.mem_flatten.1 hc
        rw [(List.mem_replicate.1 hl).2] at hcl
        exact hzv.2 c hcl
      have g1' : nn ≤ cc := Nat.le_of_ble_eq_true g1
      have g2' : bytes * cc ≤ 140737488355328 := Nat.le_of_ble_eq_true g2
      have g3' : cc ≤ 140737488355328 := Nat.le_of_ble_eq_true g3
      have hlR : (List.replicate cc v.cells.toList).flatten.length = cc * sz := by simp [hsz]
      refine ⟨.slice (some ⟨w.heap.size, 0, none⟩) nn cc, w.alloc (.cells (List.replicate cc v.cells.toList).flatten.toArray e), ρ.put σ.nx (w.heap.size, 0, (List.replicate cc v.cells.toList).flatten.length), ?_, Ren.sub_put hρ _, fun q hq => Ren.put_ne _ _ hq, ?_, al_ex e hB hr hρ hg hx (hzv.1.rep cc) h1z, below_alloc hB _, by rw [World.size_alloc]; omega⟩
      · have hvn := ho n (by simp [Op.operands])
        have hvc := ho c (by simp [Op.operands])
        rw [hxn] at hvn
        rw [hxc] at hvc
        have hrun := run_make w t e i v hu hi hv qn qc (nn : Int) (cc : Int) (by omega) (by omega) (by rw [hby, ← Int.natCast_mul]; exact Int.ofNat_le.2 (Nat.le_trans g2' (by decide))) (by omega)
        have hfl := made_flatten v.cells.toList cc
        have hcs : v.cells.toList.toArray = v.cells := by simp
        rw [hcs, show v.cells.toList.length = i.size by rw [Array.length_toList, hsz, hisz]] at hfl
        simp only [execOp, Sem.run_bind, hvn.asI, hvc.asI, hrun, Result.andThen_ok, Sem.run_pure, Int.toNat_natCast, madeCells, hfl]
      · exact .sl (Ren.put_same _ _ _) g1' (fun _ => by simp) (by rw [hlR]; omega) (fun j e => by simpa using e) (fun e => by cases e)
    · cases hc
  case range t x =>
    split at hc
    · rename_i hu
      simp only [CO.al.injEq] at hc
      subst hc
      dsimp only at h
      obtain ⟨l, hx, h1⟩ := asS_inv h
      obtain ⟨n2, hn, h2⟩ := Heap.new_inv h1
      refine ⟨n2, _, _, hn, h2, fun ρ a w σ' hB ho hr hρ hg hlt => ?_⟩
      have hv := ho x (by simp [Op.operands])
      rw [hx] at hv
      obtain ⟨s, e, hs⟩ := hv.asS
      refine ⟨.pointer (some ⟨w.heap.size, 0, none⟩), w.alloc (.stringIter s 0), ρ.put σ.nx (w.heap.size, 0, 0), ?_, Ren.sub_put hρ _, fun q hq => Ren.put_ne _ _ hq, ?_, hr.alloc hB hρ hlt _ (fun j hj => by omega) ?_, below_alloc hB _, by rw [World.size_alloc]; omega⟩
      · simp [execOp, Instr.range, run_underlying hu, e]
      · have := VR.p (ev := ev) (ρ := ρ.put σ.nx (w.heap.size, 0, 0)) (r := σ.nx) (o := 0) (Ren.put_same _ _ _)
        simpa using this
      · rcases hg with hg | hg
        · rw [hg]; exact ⟨s, hs, heap_alloc_new w _, rfl⟩
        · rw [hg]; trivial
    · cases hc
  case convert s d x =>
    unfold cConv at hc
    split at hc
    · cases hc
    · cases hc
    · split at hc <;> cases hc
    · rename_i e0 hs hd
      split at hc
      · rename_i h8
        simp only [CO.al.injEq] at hc
        subst hc
        dsimp only at h
        obtain ⟨e, hd', he⟩ := isU8_spec h8
        obtain ⟨l, hx, h1⟩ := asS_inv h
        rw [lenN_eq] at h1
        obtain ⟨g1, h2⟩ := guard_inv h1
        rw [u8s_eq] at h2
        obtain ⟨n2, hn, h3⟩ := Heap.new_inv h2
        refine ⟨n2, _, _, hn, h3, fun ρ a w σ' hB ho hr hρ hg hlt => ?_⟩
        have hv := ho x (by simp [Op.operands])
        rw [hx] at hv
        obtain ⟨s', e2, hs'⟩ := hv.asS
        have hrun := run_bytes_of_string (P := P) w s d e s' hs hd' he
        have hcap := grownCap_ge w s'.size 0 e
        generalize hC : bytesRow s' (grownCap w s'.size 0 e) = C at hrun
        have hCs : C.size = grownCap w s'.size 0 e := by rw [← hC]; unfold bytesRow; simp; omega
        have hcells : ∀ (j : Nat) (u : Value), (l.map fun b : Nat => Value.int .u8 (b : Int))[j]? = some u → C[j]? = some u := fun j u hj => by
          rw [← hC]; unfold bytesRow
          rw [← hs'] at hj
          unfold byteNs at hj
          have hlt' : j < s'.data.size := by have := (List.getElem?_eq_some_iff.1 hj).1; simpa using this
          rw [Array.getElem?_append_left (by simpa using hlt')]
          simp only [List.map_map] at hj
          rw [Array.getElem?_map]
          rw [List.getElem?_map, Array.getElem?_toList] at hj
          exact hj
        have hVR : VRs ev ρ (l.map fun b : Nat => AV.i .u8 (b : Int)) (l.map fun b : Nat => Value.int .u8 (b : Int)) := VRs.u8s l
        have hll : l.length = s'.size := by rw [← hs', byteNs_size]
        have hal := al_gr (t := e) (fr := (C.size, C.size + 1)) (fun j hj hh => by have := hh.1; simp only at this; omega) (by simpa using hB) hr.drewB hρ hg hlt hVR (fun v hv => by obtain ⟨b, _, rfl⟩ := List.mem_map.1 hv; rfl) hcells (by simp [hll, hCs]; omega)
        refine ⟨.slice (some ⟨w.heap.size, 0, none⟩) s'.size (grownCap w s'.size 0 e), w.drew.alloc (.cells C e (C.size, C.size + 1)), ρ.put σ.nx (w.heap.size, 0, C.size), ?_, Ren.sub_put hρ _, fun q hq => Ren.put_ne _ _ hq, ?_, hal, ?_, by simp; omega⟩
        · simp only [execOp, Sem.run_bind, e2, hrun, Result.andThen_ok, Sem.run_pure]
        · rw [hll]
          exact .sl (Ren.put_same _ _ _) hcap (fun _ => by simp) (by rw [hCs]; omega) (fun j e => by cases e) (fun _ => by rw [hCs]; omega)
        · exact ((Below.refl B w).drew).alloc (by simpa using hB) _
      · cases hc
    · cases hc
  case slice => exact absurd hc cSliceOp_al
  case call => exact absurd hc cCall_al
  all_goals first
    | (cases hc; done)
    | (split at hc <;> cases hc; done)
    | (split at hc <;> first | (cases hc; done) | (split at hc <;> cases hc); done)
    | skip
end Go.Rk
