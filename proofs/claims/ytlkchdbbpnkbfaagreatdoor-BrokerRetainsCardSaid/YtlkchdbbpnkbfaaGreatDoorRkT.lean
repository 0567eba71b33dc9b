/-
  Words of our own, of no program: the reckoner: regions whose order is drawn: whatever is drawn.
-/
import Derived.Test.YtlkchdbbpnkbfaaGreatDoorRkS
namespace Go.Rk
open Go.RowKit
noncomputable section
variable {P : Program} {ev : Nat → Nat} {B N : Nat} {opsA : Array Oper} {ρ0 ρ : Ren} {σ0 σ : Heap} {w0 w : World} {L done : List Nat} {h : Option Nat} {fr : Fm} {PL : List Ent} {listed : Array Bool} {cf : Nat → AV} {a : Act}
theorem getD_set {l : Array Bool} {i j : Nat} (hi : i < l.size) : (l.setIfInBounds i true).getD j false = if i = j then true else l.getD j false := by
  simp only [Array.getD_eq_getD_getElem?, Array.getElem?_setIfInBounds]
  by_cases e : i = j
  · subst e; simp [hi]
  · simp [e]
/-- One that is owed is carried out. -/
theorem Inv.pay (hN : N ≤ 512) (hall : opsA.toList.all (opOk N) = true) (hF : Facts opsA) {l1 l2 : List Ent} {e : Ent} (I : Inv P ev B N opsA ρ0 σ0 w0 L done h fr σ (l1 ++ e :: l2) listed cf ρ a w)
    (hrd : ∀ j ∈ preds e.o, listed.getD j false = true) {K : Act → World → Prop} {Q : Exit → Act → World → Prop}
    (hK : ∀ cf' ρ' a' w', Inv P ev B N opsA ρ0 σ0 w0 L done h fr σ (l1 ++ l2) (listed.setIfInBounds e.i true) cf' ρ' a' w' → K a' w') : wpOp P opsA Q e.i K a w := by
  have heP : e ∈ l1 ++ e :: l2 := List.mem_append.2 (.inr (List.mem_cons_self ..))
  have hsub : ∀ x, x ∈ l1 ++ l2 → x ∈ l1 ++ e :: l2 := fun x hx => by
    rcases List.mem_append.1 hx with h | h
    · exact List.mem_append.2 (.inl h)
    · exact List.mem_append.2 (.inr (List.mem_cons_of_mem _ h))
  have hsup : ∀ x, x ∈ l1 ++ e :: l2 → x = e ∨ x ∈ l1 ++ l2 := fun x hx => by
    rcases List.mem_append.1 hx with h | h
    · exact .inr (List.mem_append.2 (.inl h))
    · rcases List.mem_cons.1 h with h | h
      · exact .inl h
      · exact .inr (List.mem_append.2 (.inr h))
  have hsl : (l1 ++ l2).Sublist (l1 ++ e :: l2) := List.Sublist.append (List.Sublist.refl l1) (List.sublist_cons_self e l2)
  obtain ⟨q1, q2, q3, q4⟩ := I.pin e heP
  have hA := I.lan q2 hrd
  have hnl := I.notl heP
  have hi : opsA[e.i]? = some e.o := by rw [← Array.getElem?_toList]; exact q2
  have hiN : e.i < listed.size := by rw [I.size]; exact I.bnd _ q1
  have hne : ∀ x ∈ l1 ++ l2, x.i ≠ e.i := fun x hx => by
    rcases List.mem_append.1 hx with h | h
    · exact (List.pairwise_append.1 I.nod).2.2 x h e (List.mem_cons_self ..)
    · exact fun he => ((List.pairwise_cons.1 (List.pairwise_append.1 I.nod).2.1).1 x h) he.symm
  have hrne : ∀ x ∈ l1 ++ l2, ∀ r, x.r = some r → e.r ≠ some r := fun x hx r hxr her => by
    rcases List.mem_append.1 hx with h | h
    · exact (List.pairwise_append.1 I.prd).2.2 x h e (List.mem_cons_self ..) r hxr her
    · exact (List.pairwise_cons.1 (List.pairwise_append.1 I.prd).2.1).1 x h r her hxr
  -- what it sees
  have hsee : Sees ev ρ opsA.toList e.o e.fr a := fun t ht => by
    rcases I.fc e heP t ht with ⟨e', he', -, h1, -⟩ | ⟨-, h1⟩
    · exact absurd (hA e'.i h1) (I.notl he')
    · rw [← h1]; exact I.cfr t (see_lt hN hall q2 t ht)
  have hopn : Opnds ev ρ e.fr a e.o := hsee.opnds (List.all_eq_true.1 hall e.o (List.mem_of_getElem? q2))
  -- what comes of it
  have next : ∀ ρ' cv w', VR ev ρ' e.v cv → Sub ρ ρ' → (∀ q, e.r ≠ some q → ρ' q = ρ q) → HR ev B σ ρ' w' → Below B w w' → B ≤ w'.heap.size → K (a.put e.o.dst cv) w' := by
    intro ρ' cv w' hv hs hoth hr hbel hB
    refine hK (fun t => if e.o.dst = some t then e.v else cf t) ρ' _ w' ?_
    have hn0 : ∀ r, e.r = some r → σ0.nx.num ≤ r.num := fun r her => by
      rcases I.pk e heP with h1 | ⟨_, h2, _⟩ | ⟨_, r2, row', h2, h3, h4, h5, h6⟩
      · rw [h1.2.2] at her; cases her
      · rw [h2] at her; cases her
      · rw [h2] at her; cases her; exact h6
    refine { chk := I.chk, size := by rw [Array.size_setIfInBounds]; exact I.size, bnd := I.bnd, lst := ?_, pin := fun x hx => I.pin x (hsub x hx), nod := I.nod.sublist hsl, ord := I.ord.sublist hsl, dcl := I.dcl, lcl := ?_, fsz := by rw [put_size]; exact I.fsz,
             dfr := by rw [put_defers]; exact I.dfr, cfr := ?_, fb := ?_, fd := fun x hx => I.fd x (hsub x hx), fc := ?_, fe := fun x hx => I.fe x (hsub x hx), pk := ?_, prn := ?_, prd := I.prd.sublist hsl, hr := hr, hB := hB, ext := ?_, bel := I.bel.trans hbel }
    · intro j
      rw [getD_set hiN]
      by_cases hj : e.i = j
      · subst hj
        simp only [if_true, true_iff]
        exact ⟨q1, fun x hx => hne x hx⟩
      · rw [if_neg hj, I.lst j]
        constructor
        · exact fun ⟨h1, h2⟩ => ⟨h1, fun x hx => h2 x (hsub x hx)⟩
        · rintro ⟨h1, h2⟩
          refine ⟨h1, fun x hx => ?_⟩
          rcases hsup x hx with rfl | hx
          · exact hj
          · exact h2 x hx
    · intro j oj hj hl k hk
      rw [getD_set hiN] at hl ⊢
      split
      · rfl
      · by_cases hje : e.i = j
        · subst hje
          rw [q2] at hj; cases hj
          exact hrd k hk
        · rw [if_neg hje] at hl
          exact I.lcl j oj hj hl k hk
    · intro t ht
      rw [put_getD (fun s hs => by rw [I.fsz]; exact opOk_dst (List.all_eq_true.1 hall e.o (List.mem_of_getElem? q2)) s hs)]
      by_cases hd : e.o.dst = some t
      · simp only [hd, if_true]; exact hv
      · simp only [hd, if_false]; exact (I.cfr t ht).mono hs
    · intro t ht hn
      by_cases hd : e.o.dst = some t
      · simp only [hd, if_true]; exact (I.fd e heP t hd).symm
      · simp only [hd, if_false]
        exact I.fb t ht fun x hx => by
          rcases hsup x hx with rfl | hx
          · exact hd
          · exact hn x hx
    · intro x hx t ht
      have hxP := hsub x hx
      rcases I.fc x hxP t ht with ⟨e', he', h1, h2, h3⟩ | ⟨h1, h2⟩
      · rcases hsup e' he' with rfl | he'
        · refine .inr ⟨fun y hy hyd => ?_, by simp only [h1, if_true]; exact h3⟩
          have := (hF e'.i e'.o q2).2 t h1 y.i y.o (I.pin y (hsub y hy)).2.1 hyd
          exact absurd this (hne y hy)
        · exact .inl ⟨e', he', h1, h2, h3⟩
      · refine .inr ⟨fun y hy => h1 y (hsub y hy), ?_⟩
        have hd : e.o.dst ≠ some t := fun hd => by
          rcases (hF x.i x.o (I.pin x hxP).2.1).1 t ht e.i e.o q2 hd with h3 | ⟨-, h3 | h3⟩
          · exact h1 e heP hd h3
          · exact hne x hx h3.symm
          · exact I.notl hxP (hA x.i h3)
        simp only [hd, if_false]; exact h2
    · intro x hx
      rcases I.pk x (hsub x hx) with h1 | ⟨h1, h2, σr, h3, h4⟩ | h1
      · exact .inl h1
      · refine .inr (.inl ⟨h1, h2, σr, h3, fun hr' => ?_⟩)
        obtain ⟨h5, h6, h7⟩ := h4 hr'
        refine ⟨h5, h6, fun ρ w hh hq => h7 ρ w hh fun e' he' r her hm => ?_⟩
        rcases hsup e' he' with rfl | he'
        · exact absurd (hA x.i hm) (I.notl (hsub x hx))
        · exact hq e' he' r her hm
      · exact .inr (.inr h1)
    · intro x hx r hxr
      rw [hoth r (hrne x hx r hxr)]
      exact I.prn x (hsub x hx) r hxr
    · refine ⟨I.ext.sub.trans hs, fun q hq hqn => ?_, I.ext.nx⟩
      obtain ⟨h1, h2⟩ := I.ext.old q hq hqn
      exact ⟨by rw [hoth q (fun her => by have := hn0 q her; omega)]; exact h1, h2⟩
  rcases I.pk e heP with ⟨h1, h2, h3⟩ | ⟨h1, h2, σr, h3, h4⟩ | ⟨h1, r, row, h2, h3, h4, h5, h6⟩
  · refine wpOp_skip hi ((wanted_of q3 hall I.fsz hsee).2 h1) (next ρ undef w ?_ (.refl ρ) (fun _ _ => rfl) I.hr (Below.refl B w) I.hB)
    rw [h2]; exact .tu .nil
  · obtain ⟨cv, he, hv⟩ := h3 ρ a w hopn fun hr' => (h4 hr').2.2 ρ w I.hr fun e' he' r her _ => I.prn e' he' r her
    exact wpOp_run hi ((wanted_of q3 hall I.fsz hsee).1 h1) (wp_val he (next ρ cv w hv (.refl ρ) (fun _ _ => rfl) I.hr (Below.refl B w) I.hB))
  · obtain ⟨cv, w', ρ', he, g1, g2, g3, g4, g5, g6⟩ := h3 ρ a w σ I.hB hopn I.hr (I.prn e heP r h2) h4 h5
    exact wpOp_run hi ((wanted_of q3 hall I.fsz hsee).1 h1) (wp_val he (next ρ' cv w' g3 g1 (fun q hq => g2 q fun he => hq (by rw [he]; exact h2)) g4 g5 g6))
/-- The next one is carried out. -/
theorem Inv.go (hN : N ≤ 512) (hall : opsA.toList.all (opOk N) = true) (hF : Facts opsA) (hrdOk : rdOk opsA.toList = true) {i : Nat} {rest : List Nat} (I : Inv P ev B N opsA ρ0 σ0 w0 (i :: rest) done h fr σ PL listed cf ρ a w)
    {o : Oper} {g : Option (I3 × Bool)} {v : AV} {σ1 : Heap} (ho : opsA.toList[i]? = some o) (hg : gslot opsA.toList o = some g) (hk : Kind P ev B o (noTu o (comp P o)) g fr σ v σ1)
    (hr : σ1 = σ ∨ RckS P ev B (rcks opsA.toList (csOf P opsA) (ancs opsA.toList) done i) (putD (o.dst.map ix) fr v) σ1) (hrd : ∀ j ∈ preds o, listed.getD j false = true)
    {K : Act → World → Prop} {Q : Exit → Act → World → Prop}
    (hK : ∀ cf' ρ' a' w', Inv P ev B N opsA ρ0 σ0 w0 rest (i :: done) (if hvf P opsA i then some i else h) (putD (o.dst.map ix) fr v) σ1 PL (listed.setIfInBounds i true) cf' ρ' a' w' → K a' w') : wpOp P opsA Q i K a w := by
  obtain ⟨o', ho', hnd, hpd, -, f1, f2, hchk⟩ := chk_cons I.chk
  have : o' = o := by rw [ho] at ho'; exact (Option.some.inj ho').symm
  subst this
  have hi : opsA[i]? = some o' := by rw [← Array.getElem?_toList]; exact ho
  have hiN : i < opsA.size := (Array.getElem?_eq_some_iff.1 hi).1
  have hiL : i < listed.size := by rw [I.size]; exact hiN
  have hA := I.lan ho hrd
  have hput := fun {t : Nat} (ht : t < 512) => get_putD ht (dst_lt hN hall ho) fr v
  have hne : ∀ e ∈ PL, ∀ t, e.o.dst = some t → o'.dst ≠ some t := fun e he t hd hd' => by
    have := f2 t hd' e.i e.o (I.pin e he).2.1 hd
    exact hnd (this ▸ (I.pin e he).1)
  have hse : ∀ e ∈ PL, ∀ t ∈ seesOp opsA.toList e.o, o'.dst ≠ some t := fun e he t ht hd => by
    rcases (hF e.i e.o (I.pin e he).2.1).1 t ht i o' ho hd with h1 | ⟨-, h1 | h1⟩
    · exact hnd (I.pan he i h1)
    · exact hnd (h1 ▸ (I.pin e he).1)
    · exact I.notl he (hA e.i h1)
  have hfe : ∀ e ∈ PL, isRd e.o = true → ∀ t ∈ seesOp opsA.toList e.o, get3 (ix t) (putD (o'.dst.map ix) fr v) = get3 (ix t) e.fr := fun e he hrd t ht => by
    rw [hput (see_lt hN hall (I.pin e he).2.1 t ht), if_neg (hse e he t ht)]
    exact I.fe e he hrd t ht
  have hfd : ∀ e ∈ PL, ∀ t, e.o.dst = some t → get3 (ix t) (putD (o'.dst.map ix) fr v) = e.v := fun e he t hd => by
    rw [hput (dst_lt hN hall (I.pin e he).2.1 t hd), if_neg (hne e he t hd)]
    exact I.fd e he t hd
  have hsee : Sees ev ρ opsA.toList o' fr a := fun t ht => by
    rw [← I.fb t (see_lt hN hall ho t ht) fun e he hd => ?_]
    · exact I.cfr t (see_lt hN hall ho t ht)
    · rcases f1 t ht e.i e.o (I.pin e he).2.1 hd with h1 | ⟨-, h1 | h1⟩
      · exact I.notl he (hA e.i h1)
      · exact hnd (h1 ▸ (I.pin e he).1)
      · exact hnd (I.pan he i h1)
  refine hk.op hi hall hg ρ a w K Q I.hB I.fsz hsee I.hr fun ρ' cv w' e1 e2 e3 e4 e5 => hK (fun t => if o'.dst = some t then v else cf t) ρ' _ w' ?_
  refine { chk := hchk, size := by rw [Array.size_setIfInBounds]; exact I.size, bnd := ?_, lst := ?_, pin := fun e he => ?_, nod := I.nod, ord := I.ord, dcl := ?_, lcl := ?_, fsz := by rw [put_size]; exact I.fsz, dfr := by rw [put_defers]; exact I.dfr, cfr := ?_, fb := ?_, fd := hfd, fc := ?_,
           fe := hfe, pk := ?_, prn := ?_, prd := I.prd, hr := e3, hB := e5, ext := I.ext.trans e1, bel := I.bel.trans e4 }
  · intro j hj
    rcases List.mem_cons.1 hj with rfl | hj
    · exact hiN
    · exact I.bnd j hj
  · intro j
    rw [getD_set hiL]
    by_cases hj : i = j
    · subst hj
      simp only [if_true, true_iff]
      exact ⟨List.mem_cons_self .., fun e he hei => hnd (hei ▸ (I.pin e he).1)⟩
    · rw [if_neg hj, I.lst j]
      constructor
      · exact fun ⟨h1, h2⟩ => ⟨List.mem_cons_of_mem _ h1, h2⟩
      · rintro ⟨h1, h2⟩
        rcases List.mem_cons.1 h1 with rfl | h1
        · exact absurd rfl hj
        · exact ⟨h1, h2⟩
  · obtain ⟨h1, h2⟩ := I.pin e he
    exact ⟨List.mem_cons_of_mem _ h1, h2⟩
  · intro j oj hj hjd k hk'
    rcases List.mem_cons.1 hjd with rfl | hjd
    · rw [ho] at hj; cases hj
      exact List.mem_cons_of_mem _ (hpd k hk')
    · exact List.mem_cons_of_mem _ (I.dcl j oj hj hjd k hk')
  · intro j oj hj hl k hk'
    rw [getD_set hiL] at hl ⊢
    split
    · rfl
    · by_cases hje : i = j
      · subst hje
        rw [ho] at hj; cases hj
        exact hrd k hk'
      · rw [if_neg hje] at hl
        exact I.lcl j oj hj hl k hk'
  · intro t ht
    rw [put_getD (fun s hs => by rw [I.fsz]; exact opOk_dst (List.all_eq_true.1 hall o' (List.mem_of_getElem? ho)) s hs)]
    by_cases hd : o'.dst = some t
    · simp only [hd, if_true]; exact e2
    · simp only [hd, if_false]; exact (I.cfr t ht).mono e1.sub
  · intro t ht hn
    rw [hput ht]
    by_cases hd : o'.dst = some t
    · simp only [hd, if_true]
    · simp only [hd, if_false]; exact I.fb t ht hn
  · intro e he t ht
    rcases I.fc e he t ht with h1 | ⟨h1, h2⟩
    · exact .inl h1
    · refine .inr ⟨h1, ?_⟩
      simp only [hse e he t ht, if_false]; exact h2
  · intro e he
    rcases I.pk e he with h1 | ⟨h1, h2, σr, h3, h4⟩ | ⟨h1, r', row', h2, h3, h4, h5, h6⟩
    · exact .inl h1
    · by_cases hrd' : isRd e.o = true
      · obtain ⟨h5, ⟨f, hf⟩, h6⟩ := h4 hrd'
        rcases hr with rfl | hr
        · exact .inr (.inl ⟨h1, h2, σr, h3, fun _ => ⟨h5, ⟨f, hf⟩, h6⟩⟩)
        · have hds : ∃ d, e.o.dst = some d := by
            have := List.all_eq_true.1 hrdOk e.o (List.mem_of_getElem? (I.pin e he).2.1)
            rw [hrd'] at this
            exact Option.isSome_iff_exists.1 (by simpa using this)
          obtain ⟨d, hd⟩ := hds
          exact .inr (.inl ⟨h1, h2, σ1, PK.rck hf (I.pin e he).2.1 hrd' hd (I.pin e he).1 (fun hm => I.notl he (hA e.i hm)) (hfd e he d hd) h5 (hfe e he hrd') hr, fun _ => ⟨h5, ⟨f, hf⟩, fun ρ w hh _ => hh⟩⟩)
      · exact .inr (.inl ⟨h1, h2, σr, h3, fun h => absurd h hrd'⟩)
    · obtain ⟨g1, g2⟩ := e1.old r' h5 (I.prn e he r' h2)
      exact .inr (.inr ⟨h1, r', row', h2, h3, g2.elim (fun g2 => by rw [g2]; exact h4) .inr, Nat.lt_of_lt_of_le h5 e1.nx, h6⟩)
  · intro e he r' hr'
    have h5 : r'.num < σ.nx.num := by
      rcases I.pk e he with h1 | ⟨_, h2, _⟩ | ⟨_, r2, row', h2, h3, h4, h5, h6⟩
      · rw [h1.2.2] at hr'; cases hr'
      · rw [h2] at hr'; cases hr'
      · rw [h2] at hr'; cases hr'; exact h5
    exact (e1.old r' h5 (I.prn e he r' hr')).1
theorem mem_ready (hsz : listed.size = opsA.size) {i : Nat} : i ∈ Region.ready .any opsA listed ↔ ∃ o, opsA.toList[i]? = some o ∧ listed.getD i false = false ∧ ∀ j ∈ preds o, listed.getD j false = true := by
  unfold Region.ready
  rw [List.mem_filter, List.mem_range]
  have key : ∀ o : Oper, (o.after.all fun e => !Region.binds .any e || listed.getD e.on false) = true ↔ ∀ j ∈ preds o, listed.getD j false = true := fun o => by
    unfold preds
    rw [Array.all_eq_true_iff_forall_mem]
    constructor
    · intro hh j hj
      obtain ⟨e, he, rfl⟩ := List.mem_map.1 hj
      obtain ⟨h1, h2⟩ := List.mem_filter.1 he
      have := hh e (by simpa using h1)
      rw [binds_eq, h2] at this
      simpa using this
    · intro hh e he
      rw [binds_eq]
      cases hb : binds e with
      | false => rfl
      | true => exact hh e.on (List.mem_map.2 ⟨e, List.mem_filter.2 ⟨by simpa using he, hb⟩, rfl⟩)
  constructor
  · rintro ⟨h1, h2⟩
    obtain ⟨h3, h4⟩ := and4 h2
    rw [Array.getElem?_eq_getElem h1] at h4
    refine ⟨opsA[i], by rw [Array.getElem?_toList, Array.getElem?_eq_getElem h1], ?_, (key _).1 (by simpa using h4)⟩
    have h5 : i < listed.size := by omega
    simp only [Array.getD_eq_getD_getElem?, Array.getElem?_eq_getElem h5, Option.getD_some] at h3 ⊢
    simpa using h3
  · rintro ⟨o, h1, h2, h3⟩
    rw [Array.getElem?_toList] at h1
    have h4 := (Array.getElem?_eq_some_iff.1 h1).1
    refine ⟨h4, ?_⟩
    have h5 : i < listed.size := by omega
    rw [h1]
    simp only [Array.getD_eq_getD_getElem?, Array.getElem?_eq_getElem h5, Option.getD_some] at h2 ⊢
    rw [h2]
    simpa using (key o).2 h3
end
end Go.Rk
