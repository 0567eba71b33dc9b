/-
  Words of our own, of no program: the reckoner: regions.
-/
import Derived.Test.YtlkchdbbpnkbfaaGreatDoorRkT
namespace Go.Rk
open Go.RowKit
noncomputable section
variable {P : Program} {ev : Nat → Nat} {B N : Nat} {opsA : Array Oper} {ρ0 : Ren} {σ0 : Heap} {w0 : World} {frE : Fm} {σE : Heap}
theorem Inv.serve (hN : N ≤ 512) (hall : opsA.toList.all (opOk N) = true) (hF : Facts opsA) (hrdOk : rdOk opsA.toList = true) {i m : Nat} {listed : Array Bool} {K : Act → World → Prop} {Q : Exit → Act → World → Prop}
    (hi : i ∈ Region.ready .any opsA listed) :
    ∀ {L done : List Nat} {h : Option Nat} {fr : Fm} {σ : Heap} {PL : List Ent} {cf : Nat → AV} {ρ : Ren} {a : Act} {w : World}, Inv P ev B N opsA ρ0 σ0 w0 L done h fr σ PL listed cf ρ a w → Tr P ev B opsA L done fr σ frE σE → PL.length + L.length ≤ m + 1 →
    (∀ L' done' h' fr' σ' PL' cf' ρ' a' w', Inv P ev B N opsA ρ0 σ0 w0 L' done' h' fr' σ' PL' (listed.setIfInBounds i true) cf' ρ' a' w' → Tr P ev B opsA L' done' fr' σ' frE σE → PL'.length + L'.length ≤ m → K a' w') → wpOp P opsA Q i K a w := by
  intro L
  induction L with
  | nil =>
    intro done h fr σ PL cf ρ a w I T hm hK
    obtain ⟨o, ho, hnl, hrd⟩ := (mem_ready I.size).1 hi
    have hdone : i ∈ done := (chk_all I.chk i (by have := (List.getElem?_eq_some_iff.1 ho).1; exact this)).resolve_right (fun h => nomatch h)
    have hex : ∃ e ∈ PL, e.i = i := by
      rcases Classical.em (∃ e ∈ PL, e.i = i) with h1 | h1
      · exact h1
      · have := (I.lst i).2 ⟨hdone, fun e he hei => h1 ⟨e, he, hei⟩⟩
        rw [hnl] at this; cases this
    obtain ⟨e, he, rfl⟩ := hex
    obtain ⟨l1, l2, rfl⟩ := List.append_of_mem he
    have heo : e.o = o := by have := (I.pin e he).2.1; rw [ho] at this; exact (Option.some.inj this).symm
    subst heo
    exact I.pay hN hall hF hrd fun cf' ρ' a' w' I' => hK _ _ _ _ _ _ _ _ _ _ I' T (by simp only [List.length_append, List.length_cons] at hm ⊢; omega)
  | cons x rest ih =>
    intro done h fr σ PL cf ρ a w I T hm hK
    obtain ⟨o, ho, hnl, hrd⟩ := (mem_ready I.size).1 hi
    rcases Classical.em (∃ e ∈ PL, e.i = i) with ⟨e, he, rfl⟩ | hnp
    · obtain ⟨l1, l2, rfl⟩ := List.append_of_mem he
      have heo : e.o = o := by have := (I.pin e he).2.1; rw [ho] at this; exact (Option.some.inj this).symm
      subst heo
      exact I.pay hN hall hF hrd fun cf' ρ' a' w' I' => hK _ _ _ _ _ _ _ _ _ _ I' T (by simp only [List.length_append, List.length_cons] at hm ⊢; omega)
    · have hnd : i ∉ done := fun hd => by
        have := (I.lst i).2 ⟨hd, fun e he hei => hnp ⟨e, he, hei⟩⟩
        rw [hnl] at this; cases this
      have hiL : i ∈ x :: rest := (chk_all I.chk i (by have := (List.getElem?_eq_some_iff.1 ho).1; exact this)).resolve_left hnd
      cases T with
      | cons hox hg hk hr ht =>
        rename_i σ1 ox g v
        by_cases hix : i = x
        · subst hix
          have heo : ox = o := by rw [ho] at hox; exact (Option.some.inj hox).symm
          subst heo
          exact I.go hN hall hF hrdOk ho hg hk hr hrd fun cf' ρ' a' w' I' => hK _ _ _ _ _ _ _ _ _ _ I' ht (by simp only [List.length_cons] at hm ⊢; omega)
        · have hir : i ∈ rest := (List.mem_cons.1 hiL).resolve_left hix
          cases hv : hvf P opsA x with
          | false =>
            obtain ⟨e, I'⟩ := I.ahead hN hall hF hrdOk hox hg hk hr hv
            exact ih I' ht (by simp only [List.length_cons] at hm ⊢; omega) hK
          | true =>
            exfalso
            obtain ⟨_, _, _, _, _, _, _, hc⟩ := chk_cons I.chk
            rw [hv] at hc
            obtain ⟨y, hy, hm'⟩ := chk_heavy hc i hir
            have hyl := I.lan ho hrd y hm'
            have hyd := ((I.lst y).1 hyl).1
            refine chk_notin I.chk y ?_ hyd
            rcases hy with rfl | hy
            · exact List.mem_cons_self ..
            · exact List.mem_cons_of_mem _ hy
theorem sched_len (hv : Nat → Bool) (pr : Nat → List Nat) : ∀ (n : Nat) (done left : List Nat), (sched hv pr n done left).length ≤ n
  | 0, _, _ => Nat.le_refl _
  | n + 1, done, left => by
    unfold sched
    split
    · rw [List.length_cons]; exact Nat.succ_le_succ (sched_len hv pr n _ _)
    · exact Nat.zero_le _
theorem drawn_main (hN : N ≤ 512) (hall : opsA.toList.all (opOk N) = true) (hF : Facts opsA) (hrdOk : rdOk opsA.toList = true) {Q : Exit → Act → World → Prop}
    (hQ : ∀ ρ' a' w', Ext ρ0 σ0 ρ' σE → FR ev N ρ' frE a' → HR ev B σE ρ' w' → Below B w0 w' → B ≤ w'.heap.size → Q .normal a' w') :
    ∀ (m : Nat) {L done : List Nat} {h : Option Nat} {fr : Fm} {σ : Heap} {PL : List Ent} {listed : Array Bool} {cf : Nat → AV} {ρ : Ren} {a : Act} {w : World}, Inv P ev B N opsA ρ0 σ0 w0 L done h fr σ PL listed cf ρ a w → Tr P ev B opsA L done fr σ frE σE → PL.length + L.length ≤ m →
    wpAny P .any opsA Q m listed a w := by
  have fin : ∀ {L done : List Nat} {h : Option Nat} {fr : Fm} {σ : Heap} {PL : List Ent} {listed : Array Bool} {cf : Nat → AV} {ρ : Ren} {a : Act} {w : World}, Inv P ev B N opsA ρ0 σ0 w0 L done h fr σ PL listed cf ρ a w → Tr P ev B opsA L done fr σ frE σE → L = [] → PL = [] → Q .normal a w := by
    intro L done h fr σ PL listed cf ρ a w I T hL hP
    subst hL hP
    cases T
    exact hQ ρ a w I.ext ⟨I.fsz, I.dfr, fun t ht => by rw [← I.fb t ht (fun _ h => nomatch h)]; exact I.cfr t ht⟩ I.hr I.bel I.hB
  intro m
  induction m with
  | zero =>
    intro L done h fr σ PL listed cf ρ a w I T hm
    have hL : L = [] := List.length_eq_zero_iff.1 (by omega)
    have hP : PL = [] := List.length_eq_zero_iff.1 (by omega)
    refine ⟨?_, fin I T hL hP⟩
    refine List.eq_nil_iff_forall_not_mem.2 fun i hi => ?_
    obtain ⟨o, ho, hnl, -⟩ := (mem_ready I.size).1 hi
    have hi' : i < opsA.toList.length := (List.getElem?_eq_some_iff.1 ho).1
    have := (I.lst i).2 ⟨(chk_all I.chk i hi').resolve_right (by rw [hL]; exact fun h => nomatch h), by rw [hP]; exact fun _ h => nomatch h⟩
    rw [hnl] at this; cases this
  | succ m ih =>
    intro L done h fr σ PL listed cf ρ a w I T hm
    refine ⟨fun hnil => ?_, fun i hi => I.serve hN hall hF hrdOk hi T hm fun L' done' h' fr' σ' PL' cf' ρ' a' w' I' T' hm' => ih I' T' hm'⟩
    have hP : PL = [] := by
      rcases List.eq_nil_or_concat PL with h1 | ⟨l, e, h1⟩
      · exact h1
      · exfalso
        rw [List.concat_eq_append] at h1
        subst h1
        have he : e ∈ l ++ [e] := List.mem_append.2 (.inr (List.mem_singleton.2 rfl))
        obtain ⟨q1, q2, q3, q4⟩ := I.pin e he
        have : e.i ∈ Region.ready .any opsA listed := (mem_ready I.size).2 ⟨e.o, q2, by
          cases hl : listed.getD e.i false with
          | false => rfl
          | true => exact absurd hl (I.notl he), fun j hj => (I.lst j).2 ⟨I.dcl e.i e.o q2 q1 j hj, fun x hx hxj => by
            subst hxj
            rcases List.mem_append.1 hx with hx | hx
            · exact (List.pairwise_append.1 I.ord).2.2 x hx e (List.mem_singleton.2 rfl) hj
            · rw [List.mem_singleton.1 hx] at hj; exact q4 hj⟩⟩
        rw [hnil] at this; cases this
    have hL : L = [] := by
      cases hL' : L with
      | nil => rfl
      | cons x rest =>
        exfalso
        subst hL'
        obtain ⟨o, ho, hnd, hpd, -⟩ := chk_cons I.chk
        have : x ∈ Region.ready .any opsA listed := (mem_ready I.size).2 ⟨o, ho, by
          cases hl : listed.getD x false with
          | false => rfl
          | true => exact absurd ((I.lst x).1 hl).1 hnd, fun j hj => (I.lst j).2 ⟨hpd j hj, fun e he => by rw [hP] at he; cases he⟩⟩
        rw [hnil] at this; cases this
    exact fin I T hL hP
/-- Code, as the reckoner does it: whoever it ends. -/
def RunS (P : Program) (ev : Nat → Nat) (B N : Nat) (c : Code) (fr : Fm) (σ : Heap) (e : Exit) (fr' : Fm) (σ' : Heap) : Prop :=
  ∀ (ρ : Ren) (a : Act) (w : World) (Q : Exit → Act → World → Prop), B ≤ w.heap.size → FR ev N ρ fr a → HR ev B σ ρ w →
    (∀ ρ' a' w', Ext ρ σ ρ' σ' → FR ev N ρ' fr' a' → HR ev B σ' ρ' w' → Below B w w' → B ≤ w'.heap.size → Q e a' w') → c.wp P Q a w
theorem region_ok (hm : P.follows .mixedOrders = true) (hN : N ≤ 512) {call : CallF} (hcall : CallOk P ev B call) {id : Nat} {d : Bool} {items : List RI} (hc : cRegion P N opsA d = some items) {fr : Fm} {σ : Heap} {k : KF} (h : runIts items call fr σ k = true) :
    ∃ fr' σ', k fr' σ' = true ∧ RunS P ev B N (.region id opsA d) fr σ .normal fr' σ' := by
  unfold cRegion at hc
  dsimp only at hc
  split at hc
  · cases hc
  · rename_i hall
    split at hc
    · obtain ⟨fr', σ', h1, h2⟩ := region_text (ev := ev) (B := B) hN hall hcall (rs := fun _ _ => []) (fun _ _ _ hp => nomatch hp) hc h
      refine ⟨fr', σ', h1, fun ρ a w Q hB hf hr hQ => wp_region ?_⟩
      have := h2 ρ a w Q hB hf hr hQ
      simpa using this
    · split at hc
      · rename_i hck
        obtain ⟨hck1, hrdOk⟩ := and4 hck
        obtain ⟨frE, σE, h1, T⟩ := tr_of (ev := ev) (B := B) hcall hc h
        refine ⟨frE, σE, h1, fun ρ a w Q hB hf hr hQ => wp_region_any hm ?_⟩
        have hF : Facts opsA := fun i o ho => by
          have hi : i < opsA.toList.length := (List.getElem?_eq_some_iff.1 ho).1
          obtain ⟨o', ho', f1, f2⟩ := chk_facts hck1 i ((chk_all hck1 i hi).resolve_left (fun h => nomatch h))
          rw [ho] at ho'; cases ho'
          exact ⟨f1, f2⟩
        have hdrew : ({ w with drawn := w.drawn + 1 } : World) = w.drew := rfl
        rw [hdrew]
        have hlen := sched_len (hvf P opsA) (fun i => match opsA.toList[i]? with | some o => preds o | none => []) opsA.toList.length [] (List.range opsA.toList.length)
        refine drawn_main (ρ0 := ρ) (σ0 := σ) (w0 := w) hN hall hF hrdOk hQ opsA.size (h := none) (PL := []) (cf := fun t => get3 (ix t) fr) (ρ := ρ) ?_ T (by rw [List.length_nil, Nat.zero_add]; exact Nat.le_trans hlen (by simp))
        have hrep : ∀ i, ¬ (Array.replicate opsA.size false).getD i false = true := fun i hi => by
          simp only [Array.getD_eq_getD_getElem?, Array.getElem?_replicate] at hi
          split at hi <;> cases hi
        exact { chk := hck1, size := by simp, bnd := fun _ h => (nomatch h), lst := fun i => ⟨fun h => absurd h (hrep i), fun h => (nomatch h.1)⟩, pin := fun _ h => (nomatch h), nod := .nil, ord := .nil, dcl := fun _ _ _ h => (nomatch h), lcl := fun i o _ h => absurd h (hrep i),
                fsz := hf.1, dfr := hf.2.1, cfr := hf.2.2, fb := fun _ _ _ => rfl, fd := fun _ h => (nomatch h), fc := fun _ h => (nomatch h), fe := fun _ h => (nomatch h), pk := fun _ h => (nomatch h), prn := fun _ h => (nomatch h), prd := .nil, hr := hr.drew, hB := hB, ext := Ext.refl _ _, bel := (Below.refl B w).drew }
      · cases hc
end
end Go.Rk
