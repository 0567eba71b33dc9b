/-
  Words of our own, of no program: the reckoner: operations that change memory, or call.
-/
import Derived.Test.YtlkchdbbpnkbfaaGreatDoorRkK
namespace Go.Rk
open Go.RowKit
variable {P : Program} {ev : Nat → Nat} {B : Nat} {ρ : Ren} {σ : Heap} {w : World}
/-- An operation that yields a value, whatever it does to the world. -/
theorem wp_val {o : Oper} {a : Act} {w w' : World} {v : Value} {K : Act → World → Prop} {Q : Exit → Act → World → Prop} (h : (execOp a.eval o).run P w = .ok (.value v) w') (hK : K (a.put o.dst v) w') : o.wp P a w K Q := by
  unfold Oper.wp
  rw [h]; exact hK
theorem wp_skip' {o : Oper} {a : Act} {w w' : World} {K : Act → World → Prop} {Q : Exit → Act → World → Prop} (h : (execOp a.eval o).run P w = .ok .skip w') (hK : K (a.put o.dst undef) w') : o.wp P a w K Q := by
  unfold Oper.wp
  rw [h]; exact hK
theorem Ext.set {r : Id} {x : Nat × Nat × Nat} (h : ρ r = some x) (row : Row) : Ext ρ σ ρ (σ.set r row) :=
  ⟨.refl ρ, fun q hq hn => ⟨hn, .inl (by rw [Heap.get_set, if_neg (fun e => by subst e; rw [h] at hn; cases hn)])⟩, Nat.le_refl _⟩
/-- A new row, and one that is known besides. -/
theorem Ext.push {n2 : Id} (hn : n2.num = σ.nx.num + 1) (hr : HR ev B σ ρ w) (row : Row) (x : Nat × Nat × Nat) : Ext ρ σ (ρ.put σ.nx x) (σ.push n2 row) := by
  have hno : ρ σ.nx = none := by
    cases h : ρ σ.nx with
    | none => rfl
    | some y => exact absurd (hr.fresh _ _ h) (Nat.lt_irrefl _)
  refine ⟨Ren.sub_put hno x, fun q hq hqn => ?_, by show σ.nx.num ≤ n2.num; omega⟩
  have hne : q ≠ σ.nx := fun e => by subst e; exact absurd hq (Nat.lt_irrefl _)
  exact ⟨by rw [Ren.put_ne _ _ hne]; exact hqn, .inl (by rw [Heap.get_push, if_neg hne])⟩
theorem HR.nx_none (hr : HR ev B σ ρ w) : ρ σ.nx = none := by
  cases h : ρ σ.nx with
  | none => rfl
  | some y => exact absurd (hr.fresh _ _ h) (Nat.lt_irrefl _)
theorem rowGo_inv {f : List AV → (List AV → Bool) → Bool} {r : Row} {k : Row → Bool} (h : rowGo f r k = true) : ∃ mk l, (mk = Row.ex ∨ mk = Row.gr) ∧ r = mk l ∧ f l (fun l => k (mk l)) = true := by
  cases r with
  | dead => exact nomatch (show false = true from h)
  | ex l => exact ⟨.ex, l, .inl rfl, rfl, h⟩
  | gr l => exact ⟨.gr, l, .inr rfl, rfl, h⟩
  | it l p => exact nomatch (show false = true from h)
/-- A store into a row, as the reckoner does it. -/
theorem modW_inv {r : Id} {o : Nat} {vs : List AV} {k : Heap → Bool} (h : σ.mod r (rowGo fun l k => wrAt o vs l k) k = true) :
    ∃ mk l, (mk = Row.ex ∨ mk = Row.gr) ∧ σ.get r = mk l ∧ o + vs.length ≤ l.length ∧ k (σ.set r (mk (l.take o ++ vs ++ l.drop (o + vs.length)))) = true := by
  rw [Heap.mod_eq] at h
  obtain ⟨mk, l, hmk, hl, h⟩ := rowGo_inv h
  obtain ⟨h1, h2⟩ := wrAt_inv h
  exact ⟨mk, l, hmk, hl, h1, h2⟩
theorem stK_inv {n : Nat} {x y : AV} {k : K2} (h : stK n x y σ k = true) : ∃ σ', k (.tu []) σ' = true ∧
    ∀ ρ w cx cy, VR ev ρ x cx → VR ev ρ y cy → HR ev B σ ρ w → ∀ t i, P.info? t = some i → i.size = n →
      ∃ w', (Instr.storeAt t cx cy).run P w = .ok () w' ∧ Ext ρ σ ρ σ' ∧ HR ev B σ' ρ w' ∧ Below B w w' ∧ w'.heap.size = w.heap.size := by
  obtain ⟨r, o, rfl, h1⟩ := asP_inv h
  obtain ⟨vs, h2, hvs⟩ := cellsV_inv (ev := ev) h1
  obtain ⟨hlen, h3⟩ := lenIs_inv h2
  obtain ⟨mk, l, hmk, hl, ho, h4⟩ := modW_inv h3
  refine ⟨_, h4, fun ρ w cx cy hx hy hr t i hi hn => ?_⟩
  obtain ⟨b, base, E, hρ, rfl⟩ := hx.asP
  obtain ⟨cs, hcs, hvc, hc1⟩ := hvs ρ cy hy
  obtain ⟨a1, a2, a3⟩ := hr.store hρ mk hmk hl hvc hc1 ho
  have hcl := hvc.length
  refine ⟨w.setCells b (base + o) cs, ?_, Ext.set hρ _, a1, a2, size_setCells' _ _ _ _⟩
  have hst := run_storeCells_cells (P := P) b (base + o) cs 0 w (fun j hj => by simpa using (a3 j hj).1) (fun j hj => by simpa using (a3 j hj).2) hc1
  simp only [Nat.add_zero] at hst
  simp only [Instr.storeAt, Instr.sureAddr, Sem.run_bind, Sem.run_pure, Result.andThen_ok, storeVar, sizeOf, typeInfo, run_program, hi, hcs, hn]
  rw [if_neg (by simp; omega)]
  simpa using hst
/-- What is appended, or copied: its cells. -/
theorem src_cells {x : AV} {z n : Nat} {l : List AV} (hlen : l.length = n * z)
    (hx : (x = .nils ∧ n = 0) ∨ (∃ r o c row, x = .sl r o n c z ∧ (σ.get r = .ex row ∨ σ.get r = .gr row) ∧ o + n * z ≤ row.length ∧ l = (row.drop o).take (n * z)) ∨ (∃ s : List Nat, x = .s s ∧ z = 1 ∧ n = s.length ∧ l = s.map fun b : Nat => AV.i .u8 (b : Int)))
    {cx : Value} (hv : VR ev ρ x cx) (hr : HR ev B σ ρ w) : ∃ cs, VRs ev ρ l cs ∧ cs.length = n * z ∧ (∀ v ∈ cs, v.oneCell' = true) ∧ (∀ w' : World, (Builtin.lenOf cx).run P w' = .ok n w') ∧ (Builtin.firstCells z n cx).run P w = .ok cs.toArray w ∧ (Builtin.firstCells z n cx).run P w.drew = .ok cs.toArray w.drew ∧
      (∀ m, m ≤ n → (Builtin.firstCells z m cx).run P w = .ok (cs.take (m * z)).toArray w) := by
  rcases hx with ⟨rfl, rfl⟩ | ⟨r, o, c, row, rfl, hrow, hin, hl⟩ | ⟨s, rfl, rfl, rfl, hl⟩
  · rw [hv.asNils]
    have hl0 : l = [] := by cases l with | nil => rfl | cons _ _ => simp at hlen
    subst hl0
    exact ⟨[], .nil, by simp, by simp, fun _ => rfl, run_firstCells_none w z 0 0 0, run_firstCells_none w.drew z 0 0 0, fun m hm => by rw [Nat.le_zero.1 hm]; simpa using run_firstCells_none w z 0 0 0⟩
  · obtain ⟨b, base, E, a, kk, hρ, rfl, hnk, ha, -, -, -⟩ := hv.asSl
    obtain ⟨cs, hcs, hcl, hra, h1⟩ := slice_cells hr hρ hrow hin ha hnk
    rw [← hl] at hcs
    have hcell : ∀ (j : Nat) (v : Value), cs[j]? = some v → w.cell? ((⟨b, a, none⟩ : Addr).add j) = some v := fun j v hj => by rw [Addr.add_mid]; exact hra j v hj
    refine ⟨cs, hcs, hcl, h1, fun _ => rfl, run_firstCells_some w z n _ n kk cs hcl hcell, run_firstCells_some w.drew z n _ n kk cs hcl (by simpa using hcell), fun m hm => ?_⟩
    have hmz : m * z ≤ n * z := Nat.mul_le_mul_right z hm
    exact run_firstCells_some w z m _ n kk (cs.take (m * z)) (by rw [List.length_take]; omega) (fun j v hj => by
      rw [List.getElem?_take] at hj
      split at hj
      · exact hcell j v hj
      · cases hj)
  · obtain ⟨s', rfl, hs⟩ := hv.asS
    have hbc : byteCells s' = s.map fun b : Nat => Value.int .u8 (b : Int) := by
      rw [← hs]; unfold byteCells byteNs; rw [List.map_map]; rfl
    have hsz : s'.size = s.length := by rw [← hs, byteNs_size]
    refine ⟨byteCells s', by rw [hl, hbc]; exact VRs.u8s s, by rw [byteCells_length, hsz]; omega, fun v hv' => ?_, fun w' => ?_, ?_, ?_, fun m hm => ?_⟩
    · rw [hbc] at hv'; obtain ⟨b, _, rfl⟩ := List.mem_map.1 hv'; rfl
    · rw [← hsz]; rfl
    · rw [← hsz]; exact firstCells_string s' w
    · rw [← hsz]; exact firstCells_string s' w.drew
    · simp only [Builtin.firstCells, Sem.run_pure, Nat.mul_one]
      congr 1
      apply Array.ext'
      unfold byteCells
      simp [ByteArray.data_extract]
theorem srcOf {x : AV} {z n : Nat} {l : List AV} {tx : TypeId} (hk : (∃ e', P.underlying tx = some (.slice e')) ∨ P.underlying tx = some .string) (hlen : l.length = n * z)
    (hx : (x = .nils ∧ n = 0) ∨ (∃ r o c row, x = .sl r o n c z ∧ (σ.get r = .ex row ∨ σ.get r = .gr row) ∧ o + n * z ≤ row.length ∧ l = (row.drop o).take (n * z)) ∨ (∃ s : List Nat, x = .s s ∧ z = 1 ∧ n = s.length ∧ l = s.map fun b : Nat => AV.i .u8 (b : Int)))
    {cx : Value} (hv : VR ev ρ x cx) (hr : HR ev B σ ρ w) : ∃ cs, VRs ev ρ l cs ∧ Src P z tx cx n cs w := by
  obtain ⟨cs, h1, h2, h3, h4, h5, h6, h7⟩ := src_cells (P := P) hlen hx hv hr
  exact ⟨cs, h1, hk, h4, h5, h6, h2, h3⟩
/-- An append that makes a new array. -/
theorem grow_ok {t tx ty e : TypeId} {i : TypeInfo} {zv : Value} (ht : P.underlying t = some (.slice e)) (hi : P.info? e = some i) (hz : i.zero = some zv) (hzs : zv.cells.size = i.size) {base : Option Addr} {sLen sCap : Nat} {olds news : List Value} {ol nl : List AV}
    (hold : (Builtin.firstCells i.size sLen (.slice base sLen sCap)).run P w.drew = .ok olds.toArray w.drew) (hol : VRs ev ρ ol olds) (hol1 : ∀ v ∈ olds, v.oneCell' = true) (holn : olds.length = sLen * i.size) {x : Value} {n : Nat} (hs : Src P i.size tx x n news w) (hnl : VRs ev ρ nl news)
    (hg : sCap < sLen + n) (h47 : sLen + n ≤ 140737488355328) (hb : (sLen + n) * i.bytes ≤ 140737488355328) (hB : B ≤ w.heap.size) (hr : HR ev B σ ρ w) {n2 : Id} (hn2 : n2.num = σ.nx.num + 1) :
    ∃ ρ' cv w', (Builtin.append_ #[t, tx] ty #[.slice base sLen sCap, x]).run P w = .ok cv w' ∧ Ext ρ σ ρ' (σ.push n2 (.gr (ol ++ nl))) ∧ VR ev ρ' (.sl σ.nx 0 (sLen + n) none i.size) cv ∧ HR ev B (σ.push n2 (.gr (ol ++ nl))) ρ' w' ∧ Below B w w' ∧ B ≤ w'.heap.size := by
  have hno := hr.nx_none
  have hge := grownCap_ge w (sLen + n) sCap e
  have hrun := run_append_grow_src (P := P) w t tx ty e i zv ht hi hz base sLen sCap olds hold x n news hs hg (Int.ofNat_le.2 (Nat.le_trans h47 (by decide))) (growslice_fits hg hb)
  generalize hcap : grownCap w (sLen + n) sCap e = cap at hrun hge
  have hC : ((olds ++ news).toArray ++ Builtin.zeroCells zv.cells (cap - (sLen + n))).size = cap * i.size := by
    have hnl' := hs.newsLen
    rw [Array.size_append, List.size_toArray, size_zeroCells, hzs, List.length_append, holn, hnl', ← Nat.add_mul, ← Nat.add_mul]
    congr 1; omega
  generalize hCe : (olds ++ news).toArray ++ Builtin.zeroCells zv.cells (cap - (sLen + n)) = C at hrun hC
  have hal := al_gr (ev := ev) (B := B) (σ := σ.push n2 (.gr (ol ++ nl))) (ρ := ρ) (w := w.drew) (r := σ.nx) (l := ol ++ nl) (cs := olds ++ news) (C := C) (t := e) (fr := (0, 0)) (fun j _ h => by omega) hB (hr.drew.push hn2 _) hno (.inl (by rw [Heap.get_push, if_pos rfl])) (by show σ.nx.num < n2.num; omega) (hol.append hnl)
    (fun v hv => by rcases List.mem_append.1 hv with h | h; exact hol1 v h; exact hs.one v h) (fun j v hj => by
      rw [← hCe, Array.getElem?_append_left (by rw [List.size_toArray]; exact (List.getElem?_eq_some_iff.1 hj).1)]
      simpa using hj) (by rw [← hCe, Array.size_append, List.size_toArray]; omega)
  refine ⟨_, _, _, hrun, Ext.push hn2 hr _ _, ?_, hal, ?_, ?_⟩
  · exact .sl (Ren.put_same _ _ _) hge (fun _ => by simp) (by rw [hC]; omega) (fun _ h => by cases h) (fun _ => by rw [hC]; omega)
  · exact (Below.refl B w).drew.alloc hB _
  · rw [World.size_alloc]; exact Nat.le_succ_of_le hB
theorem iff_inv {b t e : Bool} (h : iff_ b t e = true) : b = true ∧ t = true ∨ b = false ∧ e = true := by
  cases b with
  | true => exact .inl ⟨rfl, h⟩
  | false => exact .inr ⟨rfl, h⟩
/-- One row more is known, in a block whose rows are dead. -/
theorem HR.known (h : HR ev B σ ρ w) {r : Id} {b o E : Nat} (hr : ρ r = none) (hx : r.num < σ.nx.num) (hB : B ≤ b) (hb : b < w.heap.size) (ht : w.there b o E) (hrow : RowR ev (ρ.put r (b, o, E)) w b o E (σ.get r))
    (hd : ∀ q o' F, ρ q = some (b, o', F) → σ.get q = .dead) : HR ev B σ (ρ.put r (b, o, E)) w := by
  have hs := Ren.sub_put hr (b, o, E)
  have inv : ∀ {q b' o' F}, ρ.put r (b, o, E) q = some (b', o', F) → (q = r ∧ b' = b ∧ o' = o ∧ F = E) ∨ (q ≠ r ∧ ρ q = some (b', o', F)) := fun {q b' o' F} hq => by
    by_cases e : q = r
    · subst e
      rw [Ren.put_same] at hq
      simp only [Option.some.injEq, Prod.mk.injEq] at hq
      exact .inl ⟨rfl, hq.1.symm, hq.2.1.symm, hq.2.2.symm⟩
    · rw [Ren.put_ne _ _ e] at hq; exact .inr ⟨e, hq⟩
  refine ⟨fun q x hq => ?_, fun q b' o' F hq => ?_, fun q q' b' o' F o'' F' hq hq' => ?_⟩
  · obtain ⟨b', o', F⟩ := x
    rcases inv hq with ⟨rfl, _⟩ | ⟨_, h1⟩
    · exact hx
    · exact h.fresh _ _ h1
  · rcases inv hq with ⟨rfl, rfl, rfl, rfl⟩ | ⟨_, h1⟩
    · exact ⟨hB, hb, ht, hrow⟩
    · obtain ⟨a1, a2, a3, a4⟩ := h.row q b' o' F h1
      exact ⟨a1, a2, a3, a4.mono hs⟩
  · rcases inv hq with ⟨rfl, e1, e2, e3⟩ | ⟨_, h1⟩ <;> rcases inv hq' with ⟨rfl, e, _⟩ | ⟨_, h2⟩
    · exact .inl rfl
    · subst e1; exact .inr (.inr (hd _ _ _ h2))
    · subst e; exact .inr (.inl (hd _ _ _ h1))
    · exact h.apart q q' b' o' F o'' F' h1 h2
theorem appNew_inv {need bytes z : Nat} {l : List AV} {k : K2} (h : appNew need bytes z l σ k = true) : need * bytes ≤ 140737488355328 ∧ need ≤ 140737488355328 ∧ ∃ n2 : Id, n2.num = σ.nx.num + 1 ∧ k (.sl σ.nx 0 need none z) (σ.push n2 (.gr l)) = true := by
  obtain ⟨g1, h1⟩ := guard_inv h
  obtain ⟨g2, h2⟩ := guard_inv h1
  obtain ⟨n2, hn, h3⟩ := Heap.new_inv h2
  exact ⟨Nat.le_of_ble_eq_true g1, Nat.le_of_ble_eq_true g2, n2, hn.1, h3⟩
theorem appOld_inv {r : Id} {o m z : Nat} {nl : List AV} {k : List AV → Bool} (h : appOld r o m z nl σ k = true) : ∃ row, (σ.get r = .ex row ∨ σ.get r = .gr row) ∧ o + m * z ≤ row.length ∧ k ((row.drop o).take (m * z) ++ nl) = true := by
  obtain ⟨row, hrow, h1⟩ := rowK_inv h
  obtain ⟨h2, h3⟩ := dropL_inv h1
  obtain ⟨h4, h5⟩ := takeL_inv h3
  rw [appL_eq] at h5
  rw [List.length_drop] at h4
  exact ⟨row, hrow, by have : Nat.mul m z = m * z := rfl; omega, h5⟩
set_option maxHeartbeats 1000000 in
/-- What append comes to. -/
theorem app_inv {z bytes : Nat} (hzp : 0 < z) {s x : AV} {k : K2} (h : appK z bytes s x σ k = true) : ∃ v σ', k v σ' = true ∧
    ∀ ρ w cs cx t tx ty e i zv, P.underlying t = some (.slice e) → P.info? e = some i → i.size = z → i.bytes = bytes → i.zero = some zv → zv.cells.size = z → ((∃ e', P.underlying tx = some (.slice e')) ∨ P.underlying tx = some .string) →
      B ≤ w.heap.size → VR ev ρ s cs → VR ev ρ x cx → HR ev B σ ρ w →
      ∃ ρ' cv w', (Builtin.append_ #[t, tx] ty #[cs, cx]).run P w = .ok cv w' ∧ Ext ρ σ ρ' σ' ∧ VR ev ρ' v cv ∧ HR ev B σ' ρ' w' ∧ Below B w w' ∧ B ≤ w'.heap.size := by
  obtain ⟨m, nl, h1, hlen, hx⟩ := srcV_inv h
  clear h
  cases s <;> first | exact nomatch (show false = true from h1) | skip
  case nils =>
    rcases iff_inv (show iff_ (Nat.beq m 0) _ _ = true from h1) with ⟨g, h2⟩ | ⟨g, h2⟩
    · refine ⟨_, _, h2, fun ρ w cs cx t tx ty e i zv ht hi hz hb hzv hzs hk hB hs hx' hr => ?_⟩
      have hm := Nat.eq_of_beq_eq_true g
      subst hm
      subst hz
      obtain ⟨news, hnl, hsrc⟩ := srcOf hk hlen hx hx' hr
      rw [hs.asNils]
      have hn0 : news = [] := by have := hsrc.newsLen; cases news with | nil => rfl | cons _ _ => simp at this
      subst hn0
      refine ⟨ρ, _, w, ?_, Ext.refl _ _, .nils, hr, Below.refl B w, hB⟩
      rcases hk with ⟨e', hk⟩ | hk <;> simp [Builtin.append_, run_underlying ht, run_underlying hk, sizeOf, typeInfo, hi, hsrc.len, hsrc.cells]
    · obtain ⟨g1, g2, n2, hn2, h3⟩ := appNew_inv h2
      refine ⟨_, _, h3, fun ρ w cs cx t tx ty e i zv ht hi hz hb hzv hzs hk hB hs hx' hr => ?_⟩
      subst hz
      obtain ⟨news, hnl, hsrc⟩ := srcOf hk hlen hx hx' hr
      rw [hs.asNils]
      have hm : m ≠ 0 := fun e => by subst e; cases g
      have := grow_ok (B := B) (ty := ty) ht hi hzv hzs (base := none) (sLen := 0) (sCap := 0) (olds := []) (ol := []) (run_firstCells_none w.drew i.size 0 0 0) .nil (fun _ h => by cases h) (by simp) hsrc hnl (by omega) (by omega) (by rw [hb, Nat.zero_add]; exact g1) hB hr hn2
      simpa using this
  case sl r o n c z' =>
    obtain ⟨g, h2⟩ := guard_inv (show guard_ (Nat.beq z' z) _ = true from h1)
    clear h1
    have hzz := Nat.eq_of_beq_eq_true g
    subst hzz
    rcases iff_inv h2 with ⟨g1, h3⟩ | ⟨g1, h3⟩
    · refine ⟨_, _, h3, fun ρ w cs cx t tx ty e i zv ht hi hz hb hzv hzs hk hB hs hx' hr => ?_⟩
      have hm := Nat.eq_of_beq_eq_true g1
      subst hm
      subst hz
      obtain ⟨news, hnl, hsrc⟩ := srcOf hk hlen hx hx' hr
      have hs' := hs
      obtain ⟨b, base, E, a, kk, hρ, rfl, hnk, ha, hE, hkn, hu⟩ := hs.asSl
      have hn0 : news = [] := by have := hsrc.newsLen; cases news with | nil => rfl | cons _ _ => simp at this
      subst hn0
      refine ⟨ρ, _, w, ?_, Ext.refl _ _, hs', hr, Below.refl B w, hB⟩
      have := run_append_room_src w t tx ty e i ht hi b a n kk cx 0 [] hsrc (by omega) (fun j hj => absurd hj (Nat.not_lt_zero _)) (fun j hj => absurd hj (Nat.not_lt_zero _))
      simpa [World.setCells] using this
    · rw [forceN_eq] at h3
      have hadd : Nat.add n m = n + m := rfl
      -- in place
      have room : ∀ {mk : List AV → Row} {l : List AV}, (mk = Row.ex ∨ mk = Row.gr) → σ.get r = mk l → Nat.add o (Nat.mul n z') + nl.length ≤ l.length →
          ∀ ρ w cs cx t tx ty e i zv, P.underlying t = some (.slice e) → P.info? e = some i → i.size = z' → i.bytes = bytes → i.zero = some zv → zv.cells.size = z' → ((∃ e', P.underlying tx = some (.slice e')) ∨ P.underlying tx = some .string) →
          B ≤ w.heap.size → VR ev ρ (.sl r o n c z') cs → VR ev ρ x cx → HR ev B σ ρ w → (∀ q, c = some q → n + m ≤ q) → (c = none → ∀ kk E b base, o + kk * z' = E → ρ r = some (b, base, E) → n + m ≤ kk) →
          ∃ cv w', (Builtin.append_ #[t, tx] ty #[cs, cx]).run P w = .ok cv w' ∧ VR ev ρ (.sl r o (n + m) c z') cv ∧ HR ev B (σ.set r (mk (l.take (Nat.add o (Nat.mul n z')) ++ nl ++ l.drop (Nat.add o (Nat.mul n z') + nl.length)))) ρ w' ∧ Below B w w' ∧ B ≤ w'.heap.size ∧ Ext ρ σ ρ (σ.set r (mk (l.take (Nat.add o (Nat.mul n z')) ++ nl ++ l.drop (Nat.add o (Nat.mul n z') + nl.length)))) := by
        intro mk l hmk hl hin ρ w cs cx t tx ty e i zv ht hi hz hb hzv hzs hk hB hs hx' hr hc1 hc2
        subst hz
        obtain ⟨news, hnl, hsrc⟩ := srcOf hk hlen hx hx' hr
        obtain ⟨b, base, E, a, kk, hρ, rfl, hnk, ha, hE, hkn, hu⟩ := hs.asSl
        have hmk0 : n + m ≤ kk := by
          cases c with
          | none => exact hc2 rfl kk E b base (hu rfl) hρ
          | some q => rw [hkn q rfl]; exact hc1 q rfl
        have hm0 : m ≠ 0 := fun e => by subst e; cases g1
        have hab : a = base + o := ha (by omega)
        subst hab
        obtain ⟨a1, a2, a3⟩ := hr.store hρ mk hmk hl hnl hsrc.one hin
        have e1 : base + Nat.add o (Nat.mul n i.size) = base + o + n * i.size := by have : Nat.add o (Nat.mul n i.size) = o + n * i.size := rfl; omega
        rw [e1] at a1 a2 a3
        have := run_append_room_src w t tx ty e i ht hi b (base + o) n kk cx m news hsrc hmk0 (fun j hj => (a3 j hj).1) (fun j hj => (a3 j hj).2)
        exact ⟨_, _, this, .sl hρ hmk0 (fun _ => rfl) hE hkn hu, a1, a2, by rw [size_setCells']; exact hB, Ext.set hρ _⟩
      -- the new array
      have grow : ∀ {row : List AV}, (σ.get r = .ex row ∨ σ.get r = .gr row) → o + n * z' ≤ row.length → (n + m) * bytes ≤ 140737488355328 → n + m ≤ 140737488355328 →
          ∀ ρ w cs cx t tx ty e i zv, P.underlying t = some (.slice e) → P.info? e = some i → i.size = z' → i.bytes = bytes → i.zero = some zv → zv.cells.size = z' → ((∃ e', P.underlying tx = some (.slice e')) ∨ P.underlying tx = some .string) →
          B ≤ w.heap.size → VR ev ρ (.sl r o n c z') cs → VR ev ρ x cx → HR ev B σ ρ w → ∀ σ1, HR ev B σ1 ρ w → ∀ b a kk, cs = .slice (some ⟨b, a, none⟩) n kk → kk < n + m → ∀ n2 : Id, n2.num = σ1.nx.num + 1 →
          ∃ ρ' cv w', (Builtin.append_ #[t, tx] ty #[cs, cx]).run P w = .ok cv w' ∧ Ext ρ σ1 ρ' (σ1.push n2 (.gr ((row.drop o).take (n * z') ++ nl))) ∧ VR ev ρ' (.sl σ1.nx 0 (n + m) none z') cv ∧ HR ev B (σ1.push n2 (.gr ((row.drop o).take (n * z') ++ nl))) ρ' w' ∧ Below B w w' ∧ B ≤ w'.heap.size := by
        intro row hrow hin hby h47 ρ w cs cx t tx ty e i zv ht hi hz hb hzv hzs hk hB hs hx' hr σ1 hr1 b' a' kk' hcs hlt n2 hn2
        subst hz
        obtain ⟨news, hnl, hsrc⟩ := srcOf hk hlen hx hx' hr
        obtain ⟨b, base, E, a, kk, hρ, rfl, hnk, ha, hE, hkn, hu⟩ := hs.asSl
        obtain ⟨rfl, rfl, rfl⟩ : b' = b ∧ a' = a ∧ kk' = kk := by
          simp only [Value.slice.injEq, Option.some.injEq, Addr.mk.injEq, and_true, true_and] at hcs
          exact ⟨hcs.1.1.symm, hcs.1.2.symm, hcs.2.symm⟩
        obtain ⟨olds, ho1, ho2, ho3, ho4⟩ := slice_cells hr hρ hrow hin ha hnk
        have hold := run_firstCells_some (P := P) w.drew i.size n ⟨b', a', none⟩ n kk' olds ho2 (fun j v hj => by rw [Addr.add_mid]; simpa using ho3 j v hj)
        exact grow_ok (ty := ty) ht hi hzv hzs hold ho1 ho4 ho2 hsrc hnl hlt h47 (by rw [hb]; exact hby) hB hr1 hn2
      cases c with
      | some c =>
        rcases iff_inv h3 with ⟨g2, h4⟩ | ⟨g2, h4⟩
        · obtain ⟨mk, l, hmk, hl, hin, h5⟩ := modW_inv h4
          refine ⟨_, _, h5, fun ρ w cs cx t tx ty e i zv ht hi hz hb hzv hzs hk hB hs hx' hr => ?_⟩
          obtain ⟨cv, w', a1, a2, a3, a4, a5, a6⟩ := room hmk hl hin ρ w cs cx t tx ty e i zv ht hi hz hb hzv hzs hk hB hs hx' hr (fun q hq => by cases hq; exact Nat.le_of_ble_eq_true g2) (fun h => by cases h)
          exact ⟨ρ, cv, w', a1, a6, a2, a3, a4, a5⟩
        · obtain ⟨row, hrow, hin, h5⟩ := appOld_inv h4
          obtain ⟨q1, q2, n2, hn2, h6⟩ := appNew_inv h5
          refine ⟨_, _, h6, fun ρ w cs cx t tx ty e i zv ht hi hz hb hzv hzs hk hB hs hx' hr => ?_⟩
          have hs' := hs
          obtain ⟨b, base, E, a, kk, hρ, rfl, hnk, ha, hE, hkn, hu⟩ := hs.asSl
          have hkc := hkn c rfl
          have hlt : kk < n + m := by
            rw [hkc]
            have : ¬ (n + m ≤ c) := fun hle => by rw [show Nat.ble (Nat.add n m) c = true from Nat.ble_eq_true_of_le hle] at g2; cases g2
            omega
          exact grow hrow hin q1 q2 ρ w _ cx t tx ty e i zv ht hi hz hb hzv hzs hk hB hs' hx' hr σ hr b a kk rfl hlt n2 hn2
      | none =>
        obtain ⟨l0, hl0, h4⟩ := rowK_inv h3
        rw [lenN_eq] at h4
        rcases iff_inv h4 with ⟨g2, h5⟩ | ⟨g2, h5⟩
        · obtain ⟨mk, l, hmk, hl, hin, h6⟩ := modW_inv h5
          refine ⟨_, _, h6, fun ρ w cs cx t tx ty e i zv ht hi hz hb hzv hzs hk hB hs hx' hr => ?_⟩
          obtain ⟨cv, w', a1, a2, a3, a4, a5, a6⟩ := room hmk hl hin ρ w cs cx t tx ty e i zv ht hi hz hb hzv hzs hk hB hs hx' hr (fun q hq => by cases hq) (fun _ kk E b base hE hρ => by
            have hle := (hr.load hρ hl0).1
            have hge : o + (n + m) * z' ≤ l0.length := Nat.le_of_ble_eq_true g2
            exact Nat.le_of_mul_le_mul_right (by omega : (n + m) * z' ≤ kk * z') hzp)
          exact ⟨ρ, cv, w', a1, a6, a2, a3, a4, a5⟩
        · obtain ⟨row, hrow, hin, h6⟩ := appOld_inv h5
          rw [Heap.mod_eq] at h6
          obtain ⟨q1, q2, n2, hn2, h7⟩ := appNew_inv h6
          refine ⟨_, _, h7, fun ρ w cs cx t tx ty e i zv ht hi hz hb hzv hzs hk hB hs hx' hr => ?_⟩
          have hs' := hs
          obtain ⟨b, base, E, a, kk, hρ, rfl, hnk, ha, hE, hkn, hu⟩ := hs.asSl
          by_cases hlt : kk < n + m
          · obtain ⟨ρ', cv, w', a1, a2, a3, a4, a5, a6⟩ := grow hrow hin q1 q2 ρ w _ cx t tx ty e i zv ht hi hz hb hzv hzs hk hB hs' hx' hr (σ.set r .dead) (hr.kill r) b a kk rfl hlt n2 hn2
            exact ⟨ρ', cv, w', a1, (Ext.set hρ _).trans a2, a3, a4, a5, a6⟩
          · have hle : n + m ≤ kk := Nat.le_of_not_lt hlt
            subst hz
            obtain ⟨news, hnl, hsrc⟩ := srcOf hk hlen hx hx' hr
            have hm0 : m ≠ 0 := fun e => by subst e; cases g1
            have hab : a = base + o := ha (by omega)
            subst hab
            obtain ⟨olds, ho1, ho2, ho3, ho4⟩ := slice_cells hr hρ hrow hin ha hnk
            have hEk := hu rfl
            have hmul : (n + m) * i.size ≤ kk * i.size := Nat.mul_le_mul_right _ hle
            rw [Nat.add_mul] at hmul
            obtain ⟨r1, r2, r3, r4⟩ := hr.row r b base E hρ
            have hlnew := hsrc.newsLen
            have hth : w.there b (base + o + n * i.size) news.length := fun j hj => by
              have := r3 (o + (n * i.size + j)) (by omega)
              rw [show base + o + n * i.size + j = base + (o + (n * i.size + j)) by omega]; exact this
            have hrun := run_append_room_src w t tx ty e i ht hi b (base + o) n kk cx m news hsrc hle (fun j hj => (hth j hj).1) (fun j hj => (hth j hj).2)
            have hal : σ.get r ≠ .dead := by rcases hrow with h | h <;> rw [h] <;> simp
            have h1 : HR ev B (σ.set r .dead) ρ (w.setCells b (base + o + n * i.size) news) := hr.setRow hρ hal (size_setCells' _ _ _ _) (fun b o n ht => World.there_setCells ht _ _ _)
              (fun b' hb' => ⟨fun o' cs' hc => World.rangeAt_setCells_apart hc b _ news (.inl hb'), heap_setCells_ne w b _ news b' hb'⟩) trivial
            have hno : ρ (σ.set r .dead).nx = none := hr.nx_none
            have hrng : (w.setCells b (base + o + n * i.size) news).rangeAt b (base + o) (olds ++ news) := by
              rw [World.rangeAt_iff_append]
              refine ⟨World.rangeAt_setCells_apart ho3 _ _ _ (.inr (.inl (by rw [ho2]; exact Nat.le_refl _))), ?_⟩
              rw [ho2]; exact World.rangeAt_setCells_same w b _ news hth
            have hx2 := h1.push hn2 (.gr ((row.drop o).take (Nat.mul n i.size) ++ nl))
            have hEo : E - o = kk * i.size := by omega
            have hkn := hx2.known (r := (σ.set r .dead).nx) (b := b) (o := base + o) (E := E - o) hno (by show (σ.set r .dead).nx.num < n2.num; omega) r1 (by rw [size_setCells']; exact r2)
              (fun j hj => by
                have := World.there_setCells r3 b (base + o + n * i.size) news (o + j) (by omega)
                rw [show base + o + j = base + (o + j) by omega]; exact this)
              (by
                rw [Heap.get_push, if_pos rfl]
                refine ⟨?_, olds ++ news, (ho1.append hnl).mono (Ren.sub_put hno _), hrng, fun v hv => by rcases List.mem_append.1 hv with h | h; exact ho4 v h; exact hsrc.one v h⟩
                have e1 := ho1.length
                have e2 := hnl.length
                rw [List.length_append, e2, show Nat.mul n i.size = n * i.size from rfl, e1]
                omega)
              (fun q o' F hq => by
                have hqx : q ≠ (σ.set r .dead).nx := fun e => by rw [e, hno] at hq; cases hq
                rw [Heap.get_push, if_neg hqx, Heap.get_set]
                split
                · rfl
                · rename_i hqr
                  rcases hr.apart q r b o' F base E hq hρ with e1 | e1 | e1
                  · exact absurd e1 hqr
                  · exact e1
                  · exact absurd e1 hal)
            refine ⟨_, _, _, hrun, (Ext.set hρ .dead).trans (Ext.push hn2 h1 _ _), .sl (Ren.put_same _ _ _) hle (fun _ => by simp) (by omega) (fun _ h => by cases h) (fun _ => by omega), hkn, below_setCells w _ _ r1, by rw [size_setCells']; exact hB⟩
end Go.Rk
