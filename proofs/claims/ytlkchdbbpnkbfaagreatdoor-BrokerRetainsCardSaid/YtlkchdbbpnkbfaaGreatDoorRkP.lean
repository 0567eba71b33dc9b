/-
  Words of our own, of no program: the reckoner: an operation of a region; regions in the order of their text.
-/
import Derived.Test.YtlkchdbbpnkbfaaGreatDoorRkO
namespace Go.Rk
open Go.RowKit
noncomputable section
variable {P : Program} {ev : Nat → Nat} {B N : Nat} {ρ : Ren} {σ σ' : Heap} {w : World}
/-- A frame. -/
def FR (ev : Nat → Nat) (N : Nat) (ρ : Ren) (fr : Fm) (a : Act) : Prop := a.tmps.size = N ∧ a.defers = [] ∧ ∀ t, t < 512 → VR ev ρ (get3 (ix t) fr) (a.tmps.getD t undef)
theorem FR.mono {ρ' : Ren} (hs : Sub ρ ρ') {fr : Fm} {a : Act} (h : FR ev N ρ fr a) : FR ev N ρ' fr a := ⟨h.1, h.2.1, fun t ht => (h.2.2 t ht).mono hs⟩
def putD (d : Option I3) (fr : Fm) (v : AV) : Fm := match d with | none => fr | some i => set3 i fr v
theorem dstK_eq (d : Option I3) (fr : Fm) (v : AV) (k : Fm → Bool) : dstK d fr v k = k (putD d fr v) := by
  cases d with
  | none => rfl
  | some i => exact put3_eq i fr v k
theorem get_putD {d : Option Nat} {t : Nat} (ht : t < 512) (hd : ∀ s, d = some s → s < 512) (fr : Fm) (v : AV) : get3 (ix t) (putD (d.map ix) fr v) = if d = some t then v else get3 (ix t) fr := by
  cases d with
  | none => rfl
  | some s =>
    show get3 (ix t) (set3 (ix s) fr v) = _
    rw [get3_set3]
    by_cases e : t = s
    · subst e; simp
    · rw [if_neg (fun h => e ((ix_inj ht (hd s rfl)).1 h)), if_neg (fun h => e (Option.some.inj h).symm)]
theorem put_size (a : Act) (d : Option Nat) (v : Value) : (a.put d v).tmps.size = a.tmps.size := by cases d <;> simp [Act.put]
theorem put_defers (a : Act) (d : Option Nat) (v : Value) : (a.put d v).defers = a.defers := by cases d <;> rfl
theorem put_getD {a : Act} {d : Option Nat} {v : Value} {t : Nat} (hd : ∀ s, d = some s → s < a.tmps.size) : (a.put d v).tmps.getD t undef = if d = some t then v else a.tmps.getD t undef := by
  cases d with
  | none => rfl
  | some s =>
    have := hd s rfl
    show (a.tmps.setIfInBounds s v).getD t undef = _
    simp only [Array.getD_eq_getD_getElem?, Array.getElem?_setIfInBounds]
    by_cases e : s = t
    · subst e; simp [this]
    · simp [e]
theorem FR.put {fr : Fm} {a : Act} (h : FR ev N ρ fr a) (hN : N ≤ 512) {d : Option Nat} (hd : ∀ s, d = some s → s < N) {v : AV} {cv : Value} (hv : VR ev ρ v cv) : FR ev N ρ (putD (d.map ix) fr v) (a.put d cv) := by
  refine ⟨by rw [put_size]; exact h.1, by rw [put_defers]; exact h.2.1, fun t ht => ?_⟩
  rw [get_putD ht (fun s hs => Nat.lt_of_lt_of_le (hd s hs) hN), put_getD (fun s hs => by rw [h.1]; exact hd s hs)]
  split
  · exact hv
  · exact h.2.2 t ht
theorem cVal_VR {v : Value} (h : valOk v = true) : VR ev ρ (cVal v) v := by
  have hz := valOk_cells h ev ρ
  cases v <;> first | exact .b _ | exact .i _ _ | exact .fl _ _ | exact .s rfl | exact .nilf | exact .un rfl | skip
  case pointer a => cases a <;> first | exact .nilp | exact .un rfl
  case slice a n c =>
    have := (hz (fun _ e => nomatch e)).1
    cases a with
    | some a => exact .un rfl
    | none =>
      cases n with
      | zero => cases c <;> first | exact .nils | exact .un rfl
      | succ n => exact .un rfl
  case agg cs =>
    have := hz (fun _ e => nomatch e)
    have h2 : VR ev ρ (.ag (cs.toList.map cS)) (.agg cs.toList.toArray) := VR.ag this.1 this.2
    have e : cs.toList.toArray = cs := by simp
    rw [e] at h2
    exact h2
  case tuple vs =>
    have hvs : vs = #[] := by
      have : vs.toList.isEmpty = true := h
      exact Array.ext' (by simpa using this)
    subst hvs
    exact .tu .nil
theorem oval_VR {fr : Fm} {a : Act} {x : Operand} (hok : oOk x = true) (hs : ∀ t, x = .tmp t → VR ev ρ (get3 (ix t) fr) (a.tmps.getD t undef)) : VR ev ρ (oval x fr) (a.eval x) := by
  cases x with
  | tmp t => exact hs t rfl
  | const v => exact cVal_VR hok
  | global g => exact .un rfl
  | func f => exact .fn .nil
/-- What an operation sees. -/
def Sees (ev : Nat → Nat) (ρ : Ren) (ops : List Oper) (o : Oper) (fr : Fm) (a : Act) : Prop := ∀ t ∈ seesOp ops o, VR ev ρ (get3 (ix t) fr) (a.tmps.getD t undef)
theorem Sees.opnds {ops : List Oper} {o : Oper} {fr : Fm} {a : Act} (h : Sees ev ρ ops o fr a) (hok : opOk N o = true) : Opnds ev ρ fr a o := fun x hx => by
  obtain ⟨h1, -⟩ := and_inv (show Bool.and _ _ = true from hok)
  refine oval_VR (List.all_eq_true.1 h1 x (by simpa using hx)) fun t ht => h t ?_
  subst ht
  unfold seesOp
  refine List.mem_append.2 (.inl (List.mem_filterMap.2 ⟨.tmp t, by simpa using hx, rfl⟩))
theorem opOk_dst {o : Oper} (hok : opOk N o = true) : ∀ s, o.dst = some s → s < N := fun s hs => by
  obtain ⟨-, h2⟩ := and_inv (show Bool.and _ _ = true from hok)
  unfold dOk at h2
  rw [hs] at h2
  exact Nat.le_of_ble_eq_true h2
def Runs (g : Option (I3 × Bool)) (fr : Fm) : Prop := ∀ i w, g = some (i, w) → get3 i fr = .b w
def Skips (g : Option (I3 × Bool)) (fr : Fm) : Prop := ∃ i w, g = some (i, w) ∧ ((∃ x, get3 i fr = .b x ∧ x ≠ w) ∨ ∃ l, get3 i fr = .tu l)
theorem wantK_inv {v : AV} {want run skip : Bool} (h : wantK v want run skip = true) : (v = .b want ∧ run = true) ∨ (((∃ x, v = .b x ∧ x ≠ want) ∨ ∃ l, v = .tu l) ∧ skip = true) := by
  cases v <;> first | exact nomatch (show false = true from h) | skip
  case b x =>
    have h' : iff_ (eqvB x want) run skip = true := h
    cases x <;> cases want <;> first | exact .inl ⟨rfl, h'⟩ | exact .inr ⟨.inl ⟨_, rfl, by decide⟩, h'⟩
  case tu l => exact .inr ⟨.inr ⟨l, rfl⟩, h⟩
theorem gslot_inv {ops : List Oper} {o : Oper} {g : Option (I3 × Bool)} (h : gslot ops o = some g) : (o.guard = none ∧ g = none) ∨ ∃ j w oj t, o.guard = some (j, w) ∧ ops[j]? = some oj ∧ oj.dst = some t ∧ g = some (ix t, w) := by
  unfold gslot at h
  cases hg : o.guard with
  | none => rw [hg] at h; simp only [Option.some.injEq] at h; exact .inl ⟨rfl, h.symm⟩
  | some p =>
    obtain ⟨j, w⟩ := p
    rw [hg] at h
    dsimp only at h
    split at h
    · rename_i oj hj
      split at h
      · rename_i t ht
        simp only [Option.some.injEq] at h
        exact .inr ⟨j, w, oj, t, rfl, hj, ht, h.symm⟩
      · cases h
    · cases h
theorem wanted_of {opsA : Array Oper} {o : Oper} {g : Option (I3 × Bool)} (hg : gslot opsA.toList o = some g) (hall : opsA.toList.all (opOk N) = true) {fr : Fm} {a : Act} (hN : a.tmps.size = N) (hs : Sees ev ρ opsA.toList o fr a) :
    (Runs g fr → Region.wanted o (yielded opsA a.tmps) = true) ∧ (Skips g fr → Region.wanted o (yielded opsA a.tmps) = false) := by
  rcases gslot_inv hg with ⟨h1, rfl⟩ | ⟨j, w, oj, t, h1, h2, h3, rfl⟩
  · exact ⟨fun _ => by simp [Region.wanted, h1], fun ⟨i, w, e, _⟩ => nomatch e⟩
  · have hj : opsA[j]? = some oj := by rw [← Array.getElem?_toList]; exact h2
    have htN : t < a.tmps.size := by rw [hN]; exact opOk_dst (List.all_eq_true.1 hall oj (List.mem_of_getElem? h2)) t h3
    have hv := hs t (by unfold seesOp; rw [h1]; refine List.mem_append.2 (.inr ?_); simp only [h2, Option.bind_some, h3, Option.toList_some, List.mem_singleton])
    have hgt : a.tmps[t]? = some (a.tmps.getD t undef) := by rw [Array.getD_eq_getD_getElem?, Array.getElem?_eq_getElem htN]; rfl
    have hy : yielded opsA a.tmps j = match some (a.tmps.getD t undef) with | some (.bool b) => some b | _ => none := by
      unfold yielded
      rw [hj]
      simp only [Option.bind_some, h3, hgt]
      rfl
    refine ⟨fun hr => ?_, fun hsk => ?_⟩
    · rw [hr _ _ rfl] at hv
      unfold Region.wanted
      rw [h1]
      simp only [hy]
      generalize a.tmps.getD t undef = c at *
      cases hv
      simp
    · obtain ⟨i', w', e, hsk⟩ := hsk
      simp only [Option.some.injEq, Prod.mk.injEq] at e
      obtain ⟨rfl, rfl⟩ := e
      unfold Region.wanted
      rw [h1]
      simp only [hy]
      generalize a.tmps.getD t undef = c at *
      rcases hsk with ⟨x, hx, hne⟩ | ⟨l, hx⟩ <;> rw [hx] at hv <;> cases hv
      · simp [hne]
      · simp
/-- What an operation of a region comes to, its guard asked. -/
def OpS (P : Program) (ev : Nat → Nat) (B N : Nat) (opsA : Array Oper) (i : Nat) (o : Oper) (fr : Fm) (σ : Heap) (v : AV) (σ' : Heap) : Prop :=
  ∀ (ρ : Ren) (a : Act) (w : World) (K : Act → World → Prop) (Q : Exit → Act → World → Prop), B ≤ w.heap.size → a.tmps.size = N → Sees ev ρ opsA.toList o fr a → HR ev B σ ρ w →
    (∀ ρ' cv w', Ext ρ σ ρ' σ' → VR ev ρ' v cv → HR ev B σ' ρ' w' → Below B w w' → B ≤ w'.heap.size → K (a.put o.dst cv) w') → wpOp P opsA Q i K a w
theorem wpOp_run {opsA : Array Oper} {i : Nat} {o : Oper} (hi : opsA[i]? = some o) {K : Act → World → Prop} {Q : Exit → Act → World → Prop} {a : Act} (hw : Region.wanted o (yielded opsA a.tmps) = true) (h : o.wp P a w K Q) : wpOp P opsA Q i K a w := by
  unfold wpOp
  rw [hi]
  dsimp only
  rw [if_pos hw]
  exact .inl h
theorem wpOp_skip {opsA : Array Oper} {i : Nat} {o : Oper} (hi : opsA[i]? = some o) {K : Act → World → Prop} {Q : Exit → Act → World → Prop} {a : Act} (hw : Region.wanted o (yielded opsA a.tmps) = false) (h : K (a.put o.dst undef) w) : wpOp P opsA Q i K a w := by
  unfold wpOp
  rw [hi]
  dsimp only
  rw [if_neg (by rw [hw]; simp)]
  exact h
theorem LdS.hv {o : Oper} {fr : Fm} {v : AV} (h : LdS P ev B o fr σ v) : HvS P ev B o fr σ v σ := fun ρ a w K Q hB ho hr hK => by
  obtain ⟨cv, e, hv⟩ := h ρ a w ho fun _ => hr
  exact wp_val e (hK ρ cv w (Ext.refl _ _) hv hr (Below.refl B w) hB)
theorem AlS.hv {o : Oper} {fr : Fm} {n2 : Id} {row : Row} {v : AV} (hn : n2.num = σ.nx.num + 1) (h : AlS P ev B o fr σ.nx row v) : HvS P ev B o fr σ v (σ.push n2 row) := fun ρ a w K Q hB ho hr hK => by
  obtain ⟨cv, w', ρ', e, h1, h2, h3, h4, h5, h6⟩ := h ρ a w (σ.push n2 row) hB ho (hr.push hn row) hr.nx_none (.inl (by rw [Heap.get_push, if_pos rfl])) (by show σ.nx.num < n2.num; omega)
  refine wp_val e (hK ρ' cv w' ⟨h1, fun q hq hqn => ?_, by show σ.nx.num ≤ n2.num; omega⟩ h3 h4 h5 h6)
  have hne : q ≠ σ.nx := fun e => by subst e; exact absurd hq (Nat.lt_irrefl _)
  exact ⟨by rw [h2 q hne]; exact hqn, .inl (by rw [Heap.get_push, if_neg hne])⟩
theorem HvS.op {opsA : Array Oper} {i : Nat} {o : Oper} (hi : opsA[i]? = some o) (hall : opsA.toList.all (opOk N) = true) {g : Option (I3 × Bool)} (hg : gslot opsA.toList o = some g) {fr : Fm} {v : AV} (hr : Runs g fr) (h : HvS P ev B o fr σ v σ') : OpS P ev B N opsA i o fr σ v σ' :=
  fun ρ a w K Q hB hN hs hh hK => wpOp_run hi ((wanted_of hg hall hN hs).1 hr) (h ρ a w K Q hB (hs.opnds (List.all_eq_true.1 hall o (List.mem_of_getElem? (by rw [Array.getElem?_toList]; exact hi)))) hh hK)
theorem OpS.skip {opsA : Array Oper} {i : Nat} {o : Oper} (hi : opsA[i]? = some o) (hall : opsA.toList.all (opOk N) = true) {g : Option (I3 × Bool)} (hg : gslot opsA.toList o = some g) {fr : Fm} (hr : Skips g fr) : OpS P ev B N opsA i o fr σ (.tu []) σ :=
  fun ρ _ w _ _ hB hN hs hh hK => wpOp_skip hi ((wanted_of hg hall hN hs).2 hr) (hK ρ undef w (Ext.refl _ _) (.tu .nil) hh (Below.refl B w) hB)
def RI.run (x : RI) (call : CallF) (fr : Fm) (σ : Heap) (k : KF) : Bool := RI.rec (motive := fun _ => Bool) (fun f => f call fr σ k) x
theorem rck_nil (fr : Fm) (σ : Heap) (t : Bool) : rck [] fr σ t = t := rfl
def RckOk (P : Program) (r : List (I3 × (Fm → Heap → K1 → Bool))) : Prop := ∀ p ∈ r, ∃ o, noTu o (comp P o) = .ld p.2
def RckS (P : Program) (ev : Nat → Nat) (B : Nat) (r : List (I3 × (Fm → Heap → K1 → Bool))) (fr : Fm) (σ : Heap) : Prop :=
  ∀ p ∈ r, isTu (get3 p.1 fr) = true ∨ ∀ o, noTu o (comp P o) = .ld p.2 → LdS P ev B o fr σ (get3 p.1 fr)
theorem rck_inv : ∀ {r : List (I3 × (Fm → Heap → K1 → Bool))} {fr : Fm} {σ : Heap} {t : Bool}, RckOk P r → rck r fr σ t = true → t = true ∧ RckS P ev B r fr σ
  | [], _, _, _, _, h => ⟨h, fun _ hp => nomatch hp⟩
  | p :: r, fr, σ, t, hok, h => by
    have hok' : RckOk P r := fun q hq => hok q (List.mem_cons_of_mem _ hq)
    rcases iff_inv (show iff_ (isTu (get3 p.1 fr)) (rck r fr σ t) (p.2 fr σ fun v => guard_ (eqA v (get3 p.1 fr)) (rck r fr σ t)) = true from h) with ⟨g, h1⟩ | ⟨_, h1⟩
    · obtain ⟨h2, h3⟩ := rck_inv hok' h1
      refine ⟨h2, fun q hq => ?_⟩
      rcases List.mem_cons.1 hq with rfl | hq
      · exact .inl g
      · exact h3 q hq
    · have key : ∀ o, noTu o (comp P o) = .ld p.2 → rck r fr σ t = true ∧ LdS P ev B o fr σ (get3 p.1 fr) := fun o ho => by
        obtain ⟨v, h2, h3, h4⟩ := noTu_ld (ev := ev) (B := B) ho h1
        obtain ⟨g, h5⟩ := guard_inv h2
        rw [← eqA_inv g]
        exact ⟨h5, h4⟩
      obtain ⟨o, ho⟩ := hok p (List.mem_cons_self ..)
      obtain ⟨h2, h3⟩ := rck_inv hok' (key o ho).1
      refine ⟨h2, fun q hq => ?_⟩
      rcases List.mem_cons.1 hq with rfl | hq
      · exact .inr fun o ho => (key o ho).2
      · exact h3 q hq
/-- Of what kind an operation's item was. -/
inductive Kind (P : Program) (ev : Nat → Nat) (B : Nat) (o : Oper) (c : CO) (g : Option (I3 × Bool)) (fr : Fm) (σ : Heap) : AV → Heap → Prop
  | skip (h : Skips g fr) : Kind P ev B o c g fr σ (.tu []) σ
  | ld (f : Fm → Heap → K1 → Bool) (v : AV) (hr : Runs g fr) (hc : c = .ld f) (ht : isRd o = true → isTu v = false) (hl : LdS P ev B o fr σ v) : Kind P ev B o c g fr σ v σ
  | al (f : Fm → Heap → K2 → Bool) (n2 : Id) (row : Row) (v : AV) (hr : Runs g fr) (hc : c = .al f) (hn : n2.num = σ.nx.num + 1 ∧ σ.get σ.nx = .dead) (hl : AlS P ev B o fr σ.nx row v) : Kind P ev B o c g fr σ v (σ.push n2 row)
  | hv (f : CallF → Fm → Heap → K2 → Bool) (v : AV) (σ' : Heap) (hr : Runs g fr) (hc : c = .hv f) (hl : HvS P ev B o fr σ v σ') : Kind P ev B o c g fr σ v σ'
/-- The item of an operation. -/
theorem cIt_inv {o : Oper} {c : CO} (hc : c = noTu o (comp P o)) {g : Option (I3 × Bool)} {r : List (I3 × (Fm → Heap → K1 → Bool))} (hok : RckOk P r) {call : CallF} (hcall : CallOk P ev B call) {fr : Fm} {k : KF} {d : Option I3} (h : (cIt d g c r).run call fr σ k = true) :
    ∃ v σ', Kind P ev B o c g fr σ v σ' ∧ k (putD d fr v) σ' = true ∧ (σ' = σ ∨ RckS P ev B r (putD d fr v) σ') := by
  cases c with
  | no => cases g <;> exact nomatch (show false = true from h)
  | ld f =>
    have main : ∀ {k : KF}, Runs g fr → f fr σ (fun v => dstK d fr v fun fr => k fr σ) = true → ∃ v σ', Kind P ev B o (.ld f) g fr σ v σ' ∧ k (putD d fr v) σ' = true ∧ (σ' = σ ∨ RckS P ev B r (putD d fr v) σ') := by
      intro k hr h
      obtain ⟨v, h1, h2, h3⟩ := noTu_ld (ev := ev) (B := B) hc.symm h
      rw [dstK_eq] at h1
      exact ⟨v, σ, .ld f v hr rfl h2 h3, h1, .inl rfl⟩
    cases g with
    | none => exact main (fun i w e => nomatch e) h
    | some p =>
      obtain ⟨i, w⟩ := p
      rcases wantK_inv (show wantK (get3 i fr) w _ _ = true from h) with ⟨e, h1⟩ | ⟨e, h1⟩
      · exact main (fun i' w' e' => by cases e'; exact e) h1
      · rw [dstK_eq] at h1
        exact ⟨_, _, .skip ⟨i, w, rfl, e⟩, h1, .inl rfl⟩
  | al f =>
    have main : ∀ {k : KF}, Runs g fr → f fr σ (fun v σ => dstK d fr v fun fr => rck r fr σ (k fr σ)) = true → ∃ v σ', Kind P ev B o (.al f) g fr σ v σ' ∧ k (putD d fr v) σ' = true ∧ (σ' = σ ∨ RckS P ev B r (putD d fr v) σ') := by
      intro k hr h
      obtain ⟨n2, row, v, h1, h2, h3⟩ := comp_al (ev := ev) (B := B) (noTu_al hc.symm) h
      rw [dstK_eq] at h2
      obtain ⟨h4, h5⟩ := rck_inv (ev := ev) (B := B) hok h2
      exact ⟨v, _, .al f n2 row v hr rfl h1 h3, h4, .inr h5⟩
    cases g with
    | none => exact main (fun i w e => nomatch e) h
    | some p =>
      obtain ⟨i, w⟩ := p
      rcases wantK_inv (show wantK (get3 i fr) w _ _ = true from h) with ⟨e, h1⟩ | ⟨e, h1⟩
      · exact main (fun i' w' e' => by cases e'; exact e) h1
      · rw [dstK_eq] at h1
        exact ⟨_, _, .skip ⟨i, w, rfl, e⟩, h1, .inl rfl⟩
  | hv f =>
    have main : ∀ {k : KF}, Runs g fr → f call fr σ (fun v σ => dstK d fr v fun fr => rck r fr σ (k fr σ)) = true → ∃ v σ', Kind P ev B o (.hv f) g fr σ v σ' ∧ k (putD d fr v) σ' = true ∧ (σ' = σ ∨ RckS P ev B r (putD d fr v) σ') := by
      intro k hr h
      obtain ⟨v, σ', h1, h2⟩ := comp_hv (ev := ev) (B := B) (noTu_hv hc.symm) hcall h
      rw [dstK_eq] at h1
      obtain ⟨h4, h5⟩ := rck_inv (ev := ev) (B := B) hok h1
      exact ⟨v, _, .hv f v σ' hr rfl h2, h4, .inr h5⟩
    cases g with
    | none => exact main (fun i w e => nomatch e) h
    | some p =>
      obtain ⟨i, w⟩ := p
      rcases wantK_inv (show wantK (get3 i fr) w _ _ = true from h) with ⟨e, h1⟩ | ⟨e, h1⟩
      · exact main (fun i' w' e' => by cases e'; exact e) h1
      · rw [dstK_eq] at h1
        exact ⟨_, _, .skip ⟨i, w, rfl, e⟩, h1, .inl rfl⟩
/-- Whatever it was. -/
theorem Kind.op {opsA : Array Oper} {i : Nat} {o : Oper} (hi : opsA[i]? = some o) (hall : opsA.toList.all (opOk N) = true) {c : CO} {g : Option (I3 × Bool)} (hg : gslot opsA.toList o = some g) {fr : Fm} {v : AV} (h : Kind P ev B o c g fr σ v σ') : OpS P ev B N opsA i o fr σ v σ' := by
  cases h with
  | skip h => exact OpS.skip hi hall hg h
  | ld f v hr hc ht hl => exact hl.hv.op hi hall hg hr
  | al f n2 row v hr hc hn hl => exact (hl.hv hn.1).op hi hall hg hr
  | hv f v σ' hr hc hl => exact hl.op hi hall hg hr
theorem FR.sees {fr : Fm} {a : Act} {ops : List Oper} {o : Oper} (h : FR ev N ρ fr a) (hlt : ∀ t ∈ seesOp ops o, t < 512) : Sees ev ρ ops o fr a := fun t ht => h.2.2 t (hlt t ht)
theorem sees_lt {opsA : Array Oper} {i : Nat} {o : Oper} (hN : N ≤ 512) (hi : opsA[i]? = some o) (hall : opsA.toList.all (opOk N) = true) : ∀ t ∈ seesOp opsA.toList o, t < 512 := fun t ht => by
  unfold seesOp at ht
  rcases List.mem_append.1 ht with h | h
  · obtain ⟨x, hx, e⟩ := List.mem_filterMap.1 h
    have hok := List.all_eq_true.1 hall o (List.mem_of_getElem? (by rw [Array.getElem?_toList]; exact hi))
    obtain ⟨h1, -⟩ := and_inv (show Bool.and _ _ = true from hok)
    have hx' := List.all_eq_true.1 h1 x hx
    cases x <;> simp only [Option.some.injEq, reduceCtorEq] at e
    subst e
    exact Nat.le_of_ble_eq_true hx'
  · split at h
    · rename_i j w hg
      cases hj : opsA.toList[j]? with
      | none => rw [hj] at h; cases h
      | some oj =>
        rw [hj] at h
        simp only [Option.bind_some, Option.mem_toList] at h
        exact Nat.lt_of_lt_of_le (opOk_dst (List.all_eq_true.1 hall oj (List.mem_of_getElem? hj)) t h) hN
    · cases h
/-- A region in the order of its text. -/
theorem region_text {opsA : Array Oper} (hN : N ≤ 512) (hall : opsA.toList.all (opOk N) = true) {call : CallF} (hcall : CallOk P ev B call) {rs : List Nat → Nat → List (I3 × (Fm → Heap → K1 → Bool))} (hrs : ∀ done i, RckOk P (rs done i)) : ∀ {L done : List Nat} {items : List RI},
    cItems opsA.toList (opsA.toList.map fun o => noTu o (comp P o)) rs L done = some items → ∀ {fr : Fm} {σ : Heap} {k : KF}, runIts items call fr σ k = true →
    ∃ fr' σ', k fr' σ' = true ∧ ∀ (ρ : Ren) (a : Act) (w : World) (Q : Exit → Act → World → Prop), B ≤ w.heap.size → FR ev N ρ fr a → HR ev B σ ρ w →
      (∀ ρ' a' w', Ext ρ σ ρ' σ' → FR ev N ρ' fr' a' → HR ev B σ' ρ' w' → Below B w w' → B ≤ w'.heap.size → Q .normal a' w') → wpOps P opsA Q L a w
  | [], done, items, hc, fr, σ, k, h => by
    simp only [cItems, Option.some.injEq] at hc
    subst hc
    exact ⟨fr, σ, h, fun ρ a w Q hB hf hr hQ => hQ ρ a w (Ext.refl _ _) hf hr (Below.refl B w) hB⟩
  | i :: rest, done, items, hc, fr, σ, k, h => by
    unfold cItems at hc
    split at hc
    · rename_i o c ho hcs
      split at hc
      · rename_i g l hg hl
        simp only [Option.some.injEq] at hc
        subst hc
        have hi : opsA[i]? = some o := by rw [← Array.getElem?_toList]; exact ho
        have hcc : c = noTu o (comp P o) := by
          rw [List.getElem?_map, ho] at hcs
          simpa using hcs.symm
        obtain ⟨v, σ1, h1, h2, -⟩ := cIt_inv (ev := ev) (B := B) hcc (hrs done i) hcall (k := fun fr σ => runIts l call fr σ k) h
        obtain ⟨fr', σ', h3, h4⟩ := region_text hN hall hcall hrs hl h2
        refine ⟨fr', σ', h3, fun ρ a w Q hB hf hr hQ => ?_⟩
        rw [wpOps_cons]
        refine h1.op hi hall hg ρ a w _ Q hB hf.1 (hf.sees (sees_lt hN hi hall)) hr fun ρ' cv w' e1 e2 e3 e4 e5 => ?_
        refine h4 ρ' _ w' Q e5 ((hf.mono e1.sub).put hN (opOk_dst (List.all_eq_true.1 hall o (List.mem_of_getElem? ho))) e2) e3 fun ρ2 a2 w2 f1 f2 f3 f4 f5 => hQ ρ2 a2 w2 (e1.trans f1) f2 f3 (e4.trans f4) f5
      · cases hc
    · cases hc
end
end Go.Rk
