/-
  Words of our own, of no program: the reckoner: regions whose order is drawn: the steps.
-/
import Derived.Test.YtlkchdbbpnkbfaaGreatDoorRkR
namespace Go.Rk
open Go.RowKit
noncomputable section
variable {P : Program} {ev : Nat → Nat} {B N : Nat} {opsA : Array Oper} {ρ0 ρ : Ren} {σ0 σ : Heap} {w0 w : World} {L done : List Nat} {h : Option Nat} {fr : Fm} {PL : List Ent} {listed : Array Bool} {cf : Nat → AV} {a : Act}
/-- The facts of each operation. -/
def Facts (opsA : Array Oper) : Prop := ∀ i o, opsA.toList[i]? = some o → F1 opsA.toList (ancs opsA.toList) i o ∧ F2 opsA.toList i o
/-- What a light one does to the heap that is reckoned with. -/
theorem Kind.light {o : Oper} {c : CO} {g : Option (I3 × Bool)} {v : AV} {σ1 : Heap} (hk : Kind P ev B o c g fr σ v σ1) (hl : ∀ f, c ≠ .hv f) :
    (∀ ρ w, HR ev B σ ρ w → HR ev B σ1 ρ w) ∧ (∀ r : Id, r.num < σ.nx.num → σ1.get r = σ.get r) ∧ σ.nx.num ≤ σ1.nx.num ∧ (σ1 = σ ∨ ∃ n2 row, n2.num = σ.nx.num + 1 ∧ σ1 = σ.push n2 row) := by
  cases hk with
  | skip h => exact ⟨fun _ _ h => h, fun _ _ => rfl, Nat.le_refl _, .inl rfl⟩
  | ld f v hr hc ht hl' => exact ⟨fun _ _ h => h, fun _ _ => rfl, Nat.le_refl _, .inl rfl⟩
  | al f n2 row v hr hc hn hl' =>
    refine ⟨fun _ _ h => h.push hn.1 row, fun r hr => ?_, by have := hn.1; show σ.nx.num ≤ n2.num; omega, .inr ⟨n2, row, hn.1, rfl⟩⟩
    rw [Heap.get_push, if_neg (fun e => by subst e; exact absurd hr (Nat.lt_irrefl _))]
  | hv f v σ' hr hc hl' => exact absurd hc (hl f)
/-- What a light one will come to. -/
theorem Kind.owed {o : Oper} {g : Option (I3 × Bool)} {v : AV} {σ1 : Heap} {i n0 : Nat} (hk : Kind P ev B o (noTu o (comp P o)) g fr σ v σ1) (hl : ∀ f, noTu o (comp P o) ≠ .hv f) (hn0 : n0 ≤ σ.nx.num) :
    ∃ r : Option Id, ((r = none ∧ σ1 = σ) ∨ (r = some σ.nx ∧ ∃ n2 row, n2.num = σ.nx.num + 1 ∧ σ1 = σ.push n2 row)) ∧ ∀ PL, PK P ev B opsA σ1 n0 PL ⟨i, o, g, fr, v, r⟩ := by
  cases hk with
  | skip h => exact ⟨none, .inl ⟨rfl, rfl⟩, fun PL => .inl ⟨h, rfl, rfl⟩⟩
  | ld f v hr hc ht hl' => exact ⟨none, .inl ⟨rfl, rfl⟩, fun PL => .inr (.inl ⟨hr, rfl, σ, hl', fun hrd => ⟨ht hrd, ⟨f, hc⟩, fun _ _ h _ => h⟩⟩)⟩
  | al f n2 row v hr hc hn hl' =>
    exact ⟨some σ.nx, .inr ⟨rfl, n2, row, hn.1, rfl⟩, fun PL => .inr (.inr ⟨hr, σ.nx, row, rfl, hl', .inl (by rw [Heap.get_push, if_pos rfl]), by have := hn.1; show σ.nx.num < n2.num; omega, hn0⟩)⟩
  | hv f v σ' hr hc hl' => exact absurd hc (hl f)
theorem hvf_false {i : Nat} {o : Oper} (ho : opsA.toList[i]? = some o) (hv : hvf P opsA i = false) : ∀ f, noTu o (comp P o) ≠ .hv f := fun f hf => by
  unfold hvf at hv
  rw [List.getElem?_map, ho] at hv
  simp only [Option.map_some, hf, isHv] at hv
  cases hv
/-- The reckoner goes ahead over a light one: it is owed. -/
theorem Inv.ahead (hN : N ≤ 512) (hall : opsA.toList.all (opOk N) = true) (hF : Facts opsA) (hrdOk : rdOk opsA.toList = true) {i : Nat} {rest : List Nat} (I : Inv P ev B N opsA ρ0 σ0 w0 (i :: rest) done h fr σ PL listed cf ρ a w)
    {o : Oper} {g : Option (I3 × Bool)} {v : AV} {σ1 : Heap} (ho : opsA.toList[i]? = some o) (hg : gslot opsA.toList o = some g) (hk : Kind P ev B o (noTu o (comp P o)) g fr σ v σ1)
    (hr : σ1 = σ ∨ RckS P ev B (rcks opsA.toList (csOf P opsA) (ancs opsA.toList) done i) (putD (o.dst.map ix) fr v) σ1) (hv : hvf P opsA i = false) :
    ∃ e : Ent, Inv P ev B N opsA ρ0 σ0 w0 rest (i :: done) (if hvf P opsA i then some i else h) (putD (o.dst.map ix) fr v) σ1 (e :: PL) listed cf ρ a w := by
  have hl := hvf_false ho hv
  obtain ⟨k1, k2, k3, k4⟩ := hk.light hl
  obtain ⟨r, hr1, hpk⟩ := hk.owed (opsA := opsA) (i := i) hl I.ext.nx
  obtain ⟨o', ho', hnd, hpd, -, f1, f2, hchk⟩ := chk_cons I.chk
  have : o' = o := by rw [ho] at ho'; exact (Option.some.inj ho').symm
  subst this
  have hA := I.dan ho hpd
  have hput := fun {t : Nat} (ht : t < 512) => get_putD ht (dst_lt hN hall ho) fr v
  have hne : ∀ e ∈ PL, ∀ t, e.o.dst = some t → o'.dst ≠ some t := fun e he t hd hd' => by
    have := f2 t hd' e.i e.o (I.pin e he).2.1 hd
    exact hnd (this ▸ (I.pin e he).1)
  have hse : ∀ e ∈ PL, isRd e.o = true → ∀ t ∈ seesOp opsA.toList e.o, o'.dst ≠ some t := fun e he hrd t ht hd => by
    rcases (hF e.i e.o (I.pin e he).2.1).1 t ht i o' ho hd with h1 | ⟨h1, -⟩
    · exact hnd (I.pan he i h1)
    · rw [hrd] at h1; cases h1
  have hfe : ∀ e ∈ PL, isRd e.o = true → ∀ t ∈ seesOp opsA.toList e.o, get3 (ix t) (putD (o'.dst.map ix) fr v) = get3 (ix t) e.fr := fun e he hrd t ht => by
    rw [hput (see_lt hN hall (I.pin e he).2.1 t ht), if_neg (hse e he hrd t ht)]
    exact I.fe e he hrd t ht
  have hfd : ∀ e ∈ PL, ∀ t, e.o.dst = some t → get3 (ix t) (putD (o'.dst.map ix) fr v) = e.v := fun e he t hd => by
    rw [hput (dst_lt hN hall (I.pin e he).2.1 t hd), if_neg (hne e he t hd)]
    exact I.fd e he t hd
  refine ⟨⟨i, o', g, fr, v, r⟩, ?_⟩
  refine { chk := hchk, size := I.size, bnd := ?_, lst := ?_, pin := ?_, nod := ?_, ord := ?_, dcl := ?_, lcl := I.lcl, fsz := I.fsz, dfr := I.dfr, cfr := I.cfr, fb := ?_, fd := ?_, fc := ?_, fe := ?_, pk := ?_, prn := ?_, prd := ?_, hr := k1 _ _ I.hr, hB := I.hB, ext := ?_, bel := I.bel }
  · intro j hj
    rcases List.mem_cons.1 hj with rfl | hj
    · have := (List.getElem?_eq_some_iff.1 ho).1
      simpa using this
    · exact I.bnd j hj
  · intro j
    rw [I.lst j]
    constructor
    · rintro ⟨h1, h2⟩
      refine ⟨List.mem_cons_of_mem _ h1, fun e he => ?_⟩
      rcases List.mem_cons.1 he with rfl | he
      · exact fun e => hnd (by rw [show i = j from e]; exact h1)
      · exact h2 e he
    · rintro ⟨h1, h2⟩
      rcases List.mem_cons.1 h1 with rfl | h1
      · exact absurd rfl (h2 _ (List.mem_cons_self ..))
      · exact ⟨h1, fun e he => h2 e (List.mem_cons_of_mem _ he)⟩
  · intro e he
    rcases List.mem_cons.1 he with rfl | he
    · exact ⟨List.mem_cons_self .., ho, hg, fun hp => hnd (hpd _ hp)⟩
    · obtain ⟨h1, h2⟩ := I.pin e he
      exact ⟨List.mem_cons_of_mem _ h1, h2⟩
  · exact List.pairwise_cons.2 ⟨fun e he hi => hnd (by rw [show i = e.i from hi]; exact (I.pin e he).1), I.nod⟩
  · exact List.pairwise_cons.2 ⟨fun e he hi => hnd (I.dcl e.i e.o (I.pin e he).2.1 (I.pin e he).1 i hi), I.ord⟩
  · intro j oj hj hjd k hk'
    rcases List.mem_cons.1 hjd with rfl | hjd
    · rw [ho] at hj; cases hj
      exact List.mem_cons_of_mem _ (hpd k hk')
    · exact List.mem_cons_of_mem _ (I.dcl j oj hj hjd k hk')
  · intro t ht hn
    rw [hput ht, if_neg (hn _ (List.mem_cons_self ..))]
    exact I.fb t ht fun e he => hn e (List.mem_cons_of_mem _ he)
  · intro e he t hd
    rcases List.mem_cons.1 he with rfl | he
    · rw [hput (dst_lt hN hall ho t hd), if_pos hd]
    · exact hfd e he t hd
  · intro e he t ht
    rcases List.mem_cons.1 he with rfl | he
    · by_cases hex : ∃ e' ∈ PL, e'.o.dst = some t
      · obtain ⟨e', he', hd⟩ := hex
        refine .inl ⟨e', List.mem_cons_of_mem _ he', hd, ?_, (I.fd e' he' t hd).symm⟩
        rcases f1 t ht e'.i e'.o (I.pin e' he').2.1 hd with h1 | ⟨-, h1 | h1⟩
        · exact h1
        · exact absurd (h1 ▸ (I.pin e' he').1) hnd
        · exact absurd (I.pan he' i h1) hnd
      · refine .inr ⟨fun e' he' hd => ?_, I.fb t (see_lt hN hall ho t ht) fun e' he' hd => hex ⟨e', he', hd⟩⟩
        rcases List.mem_cons.1 he' with rfl | he'
        · exact fun hm => hnd (hA i hm)
        · exact absurd ⟨e', he', hd⟩ hex
    · rcases I.fc e he t ht with ⟨e', he', h1⟩ | ⟨h1, h2⟩
      · exact .inl ⟨e', List.mem_cons_of_mem _ he', h1⟩
      · refine .inr ⟨fun e' he' hd => ?_, h2⟩
        rcases List.mem_cons.1 he' with rfl | he'
        · exact fun hm => hnd (I.pan he i hm)
        · exact h1 e' he' hd
  · intro e he hrd t ht
    rcases List.mem_cons.1 he with rfl | he
    · rw [hput (see_lt hN hall ho t ht), if_neg]
      intro hd
      rcases f1 t ht i o' ho hd with h1 | ⟨h1, -⟩
      · exact hnd (hA i h1)
      · rw [show isRd o' = true from hrd] at h1; cases h1
    · exact hfe e he hrd t ht
  · intro e he
    rcases List.mem_cons.1 he with rfl | he
    · exact hpk _
    · rcases I.pk e he with h1 | ⟨h1, h2, σr, h3, h4⟩ | ⟨h1, r', row', h2, h3, h4, h5, h6⟩
      · exact .inl h1
      · by_cases hrd : isRd e.o = true
        · obtain ⟨h5, ⟨f, hf⟩, h6⟩ := h4 hrd
          by_cases hm : e.i ∈ anc opsA i
          · refine .inr (.inl ⟨h1, h2, σr, h3, fun _ => ⟨h5, ⟨f, hf⟩, fun ρ w hh hq => ?_⟩⟩)
            have hq' : ∀ e' ∈ PL, ∀ r, e'.r = some r → e.i ∈ anc opsA e'.i → ρ r = none := fun e' he' => hq e' (List.mem_cons_of_mem _ he')
            rcases hr1 with ⟨hr1, he1⟩ | ⟨hr1, n2, row, hn, he1⟩
            · rw [he1] at hh; exact h6 ρ w hh hq'
            · rw [he1] at hh; exact h6 ρ w (hh.pop hn (hq _ (List.mem_cons_self ..) _ hr1 hm)) hq'
          · rcases hr with rfl | hr
            · exact .inr (.inl ⟨h1, h2, σr, h3, fun _ => ⟨h5, ⟨f, hf⟩, fun ρ w hh hq => h6 ρ w hh fun e' he' => hq e' (List.mem_cons_of_mem _ he')⟩⟩)
            · have hds : ∃ d, e.o.dst = some d := by
                have := List.all_eq_true.1 hrdOk e.o (List.mem_of_getElem? (I.pin e he).2.1)
                rw [hrd] at this
                exact Option.isSome_iff_exists.1 (by simpa using this)
              obtain ⟨d, hd⟩ := hds
              exact .inr (.inl ⟨h1, h2, σ1, PK.rck hf (I.pin e he).2.1 hrd hd (I.pin e he).1 hm (hfd e he d hd) h5 (hfe e he hrd) hr, fun _ => ⟨h5, ⟨f, hf⟩, fun ρ w hh _ => hh⟩⟩)
        · exact .inr (.inl ⟨h1, h2, σr, h3, fun h => absurd h hrd⟩)
      · exact .inr (.inr ⟨h1, r', row', h2, h3, by rw [k2 r' h5]; exact h4, Nat.lt_of_lt_of_le h5 k3, h6⟩)
  · intro e he r' hr'
    rcases List.mem_cons.1 he with rfl | he
    · rcases hr1 with ⟨h1, -⟩ | ⟨h1, -⟩
      · rw [show r = some r' from hr'] at h1; cases h1
      · rw [show r = some r' from hr'] at h1; cases h1; exact I.hr.nx_none
    · exact I.prn e he r' hr'
  · refine List.pairwise_cons.2 ⟨fun e he r' hr' he' => ?_, I.prd⟩
    rcases hr1 with ⟨h1, -⟩ | ⟨h1, -⟩
    · rw [show r = some r' from hr'] at h1; cases h1
    · rw [show r = some r' from hr'] at h1; cases h1
      rcases I.pk e he with h2 | ⟨_, h2, _⟩ | ⟨_, r2, row', h2, h3, h4, h5, h6⟩
      · rw [h2.2.2] at he'; cases he'
      · rw [h2] at he'; cases he'
      · rw [h2] at he'; cases he'; exact absurd h5 (Nat.lt_irrefl _)
  · exact I.ext.trans ⟨.refl ρ, fun q hq hqn => ⟨hqn, .inl (k2 q hq)⟩, k3⟩
end
end Go.Rk
