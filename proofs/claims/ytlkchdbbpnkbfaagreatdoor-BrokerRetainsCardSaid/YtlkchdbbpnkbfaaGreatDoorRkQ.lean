/-
  Words of our own, of no program: the reckoner: what is checked of a region whose order is drawn.
-/
import Derived.Test.YtlkchdbbpnkbfaaGreatDoorRkP
namespace Go.Rk
open Go.RowKit
noncomputable section
theorem memN_iff {l : List Nat} {n : Nat} : memN l n = true ↔ n ∈ l := by
  unfold memN
  rw [List.any_eq_true]
  constructor
  · rintro ⟨x, hx, h⟩
    rw [Nat.eq_of_beq_eq_true h]; exact hx
  · exact fun h => ⟨n, h, Nat.beq_refl n⟩
theorem binds_eq (e : Edge) : Region.binds .any e = binds e := by
  unfold Region.binds binds
  cases e.ground <;> rfl
section
variable {ops : List Oper} {hv : Nat → Bool} {A : List (List Nat)}
/-- Who is seen is ahead, or, of what reads no memory, behind. -/
def F1 (ops : List Oper) (A : List (List Nat)) (i : Nat) (o : Oper) : Prop := ∀ t ∈ seesOp ops o, ∀ j oj, ops[j]? = some oj → oj.dst = some t → j ∈ A.getD i [] ∨ (isRd o = false ∧ (j = i ∨ i ∈ A.getD j []))
def F2 (ops : List Oper) (i : Nat) (o : Oper) : Prop := ∀ d, o.dst = some d → ∀ j oj, ops[j]? = some oj → oj.dst = some d → j = i
theorem and4 {a b : Bool} (h : (a && b) = true) : a = true ∧ b = true := and_inv h
theorem chk_cons {i : Nat} {rest done : List Nat} {h : Option Nat} (hc : chk ops hv A (i :: rest) done h = true) :
    ∃ o, ops[i]? = some o ∧ i ∉ done ∧ (∀ j ∈ preds o, j ∈ done) ∧ (∀ j, h = some j → j ∈ A.getD i []) ∧ F1 ops A i o ∧ F2 ops i o ∧ chk ops hv A rest (i :: done) (if hv i then some i else h) = true := by
  unfold chk at hc
  split at hc
  · cases hc
  · rename_i o ho
    obtain ⟨h1, hc⟩ := and4 hc
    obtain ⟨h2, hc⟩ := and4 hc
    obtain ⟨h3, hc⟩ := and4 hc
    obtain ⟨hc, h6⟩ := and4 hc
    obtain ⟨h4, h5⟩ := and4 hc
    refine ⟨o, ho, fun hm => ?_, fun j hj => memN_iff.1 (List.all_eq_true.1 h2 j hj), fun j hj => ?_, fun t ht j oj hj hd => ?_, fun d hd j oj hj hdj => ?_, h6⟩
    · rw [memN_iff.2 hm] at h1; cases h1
    · subst hj; exact memN_iff.1 h3
    · have h7 := List.all_eq_true.1 (List.all_eq_true.1 h4 t ht) (oj, j) (List.mem_zipIdx_iff_getElem?.2 hj)
      simp only [hd] at h7
      have e : Nat.beq t t = true := Nat.beq_refl t
      rw [e] at h7
      rcases Bool.or_eq_true_iff.1 h7 with h8 | h8
      · cases h8
      · rcases Bool.or_eq_true_iff.1 h8 with h9 | h9
        · exact .inl (memN_iff.1 h9)
        · obtain ⟨g1, g2⟩ := and4 h9
          refine .inr ⟨by simpa using g1, ?_⟩
          rcases Bool.or_eq_true_iff.1 g2 with g3 | g3
          · exact .inl (Nat.eq_of_beq_eq_true g3)
          · exact .inr (memN_iff.1 g3)
    · rw [hd] at h5
      have h7 := List.all_eq_true.1 h5 (oj, j) (List.mem_zipIdx_iff_getElem?.2 hj)
      simp only [hdj] at h7
      have e : Nat.beq d d = true := Nat.beq_refl d
      rw [e] at h7
      rcases Bool.or_eq_true_iff.1 h7 with h8 | h8
      · exact Nat.eq_of_beq_eq_true h8
      · cases h8
theorem chk_notin : ∀ {L done : List Nat} {h : Option Nat}, chk ops hv A L done h = true → ∀ i ∈ L, i ∉ done
  | [], _, _, _, _, hi => nomatch hi
  | x :: L, done, h, hc, i, hi => by
    obtain ⟨o, -, h1, -, -, -, -, h2⟩ := chk_cons hc
    rcases List.mem_cons.1 hi with rfl | hi
    · exact h1
    · exact fun hd => chk_notin h2 i hi (List.mem_cons_of_mem _ hd)
theorem chk_heavy : ∀ {L done : List Nat} {x : Nat}, chk ops hv A L done (some x) = true → ∀ i ∈ L, ∃ y, (y = x ∨ y ∈ L) ∧ y ∈ A.getD i []
  | [], _, _, _, _, hi => nomatch hi
  | z :: L, done, x, hc, i, hi => by
    obtain ⟨o, -, -, -, h1, -, -, h2⟩ := chk_cons hc
    rcases List.mem_cons.1 hi with rfl | hi
    · exact ⟨x, .inl rfl, h1 x rfl⟩
    · cases hz : hv z with
      | true =>
        rw [hz] at h2
        obtain ⟨y, hy, hm⟩ := chk_heavy h2 i hi
        refine ⟨y, .inr ?_, hm⟩
        rcases hy with rfl | hy
        · exact List.mem_cons_self ..
        · exact List.mem_cons_of_mem _ hy
      | false =>
        rw [hz] at h2
        obtain ⟨y, hy, hm⟩ := chk_heavy h2 i hi
        exact ⟨y, hy.imp_right (List.mem_cons_of_mem _), hm⟩
theorem chk_all : ∀ {L done : List Nat} {h : Option Nat}, chk ops hv A L done h = true → ∀ i, i < ops.length → i ∈ done ∨ i ∈ L
  | [], done, h, hc, i, hi => by
    unfold chk at hc
    exact .inl (memN_iff.1 (List.all_eq_true.1 hc i (List.mem_range.2 hi)))
  | x :: L, done, h, hc, i, hi => by
    obtain ⟨o, -, -, -, -, -, -, h2⟩ := chk_cons hc
    rcases chk_all h2 i hi with h3 | h3
    · rcases List.mem_cons.1 h3 with rfl | h3
      · exact .inr (List.mem_cons_self ..)
      · exact .inl h3
    · exact .inr (List.mem_cons_of_mem _ h3)
theorem chk_facts : ∀ {L done : List Nat} {h : Option Nat}, chk ops hv A L done h = true → ∀ i ∈ L, ∃ o, ops[i]? = some o ∧ F1 ops A i o ∧ F2 ops i o
  | [], _, _, _, _, hi => nomatch hi
  | x :: L, done, h, hc, i, hi => by
    obtain ⟨o, h0, -, -, -, h3, h4, h2⟩ := chk_cons hc
    rcases List.mem_cons.1 hi with rfl | hi
    · exact ⟨o, h0, h3, h4⟩
    · exact chk_facts h2 i hi
end
/-- One step of 'ancs'. -/
def anc1 (acc : List (List Nat)) (o : Oper) : List Nat := (preds o).foldl (fun l e => if memN l e then l else e :: ((acc.getD e []).filter (fun x => !memN l x) ++ l)) []
theorem anc1_mem {acc : List (List Nat)} : ∀ {es l : List Nat} {j : Nat}, j ∈ es.foldl (fun l e => if memN l e then l else e :: ((acc.getD e []).filter (fun x => !memN l x) ++ l)) l → j ∈ l ∨ ∃ e ∈ es, j = e ∨ j ∈ acc.getD e []
  | [], l, j, h => .inl h
  | e :: es, l, j, h => by
    rw [List.foldl_cons] at h
    rcases anc1_mem h with h1 | ⟨e', he', h1⟩
    · split at h1
      · exact .inl h1
      · rcases List.mem_cons.1 h1 with rfl | h1
        · exact .inr ⟨j, List.mem_cons_self .., .inl rfl⟩
        · rcases List.mem_append.1 h1 with h1 | h1
          · exact .inr ⟨e, List.mem_cons_self .., .inr (List.mem_filter.1 h1).1⟩
          · exact .inl h1
    · exact .inr ⟨e', List.mem_cons_of_mem _ he', h1⟩
/-- Whatever is closed under edges is closed under 'ahead of'. -/
theorem ancs_go {S : Nat → Prop} {all : List Oper} (hS : ∀ i o, all[i]? = some o → S i → ∀ j ∈ preds o, S j) : ∀ {rest : List Oper} {acc : List (List Nat)} {pre : List Oper}, all = pre ++ rest → acc.length = pre.length →
    (∀ i o, all[i]? = some o → (∀ j ∈ preds o, S j) → ∀ j ∈ acc.getD i [], S j) →
    ∀ i o, all[i]? = some o → (∀ j ∈ preds o, S j) → ∀ j ∈ (rest.foldl (fun acc o => acc ++ [anc1 acc o]) acc).getD i [], S j
  | [], acc, pre, _, _, h => h
  | o :: rest, acc, pre, hall, hlen, h => by
    rw [List.foldl_cons]
    refine ancs_go hS (pre := pre ++ [o]) (by rw [hall, List.append_assoc]; rfl) (by simp [hlen]) fun i oi hi hp j hj => ?_
    rw [List.getD_eq_getElem?_getD] at hj
    by_cases hlt : i < acc.length
    · rw [List.getElem?_append_left hlt, ← List.getD_eq_getElem?_getD] at hj
      exact h i oi hi hp j hj
    · rw [List.getElem?_append_right (by omega)] at hj
      by_cases he : i = acc.length
      · subst he
        have ho : o = oi := by
          rw [hall, hlen, List.getElem?_append_right (Nat.le_refl _)] at hi
          simpa using hi
        subst ho
        simp only [Nat.sub_self, List.getElem?_cons_zero, Option.getD_some] at hj
        rcases anc1_mem hj with h1 | ⟨e, he, rfl | h1⟩
        · cases h1
        · exact hp _ he
        · cases ho' : all[e]? with
          | none =>
            rw [List.getD_eq_getElem?_getD, List.getElem?_eq_none (by
              have := List.getElem?_eq_none_iff.1 ho'
              rw [hall, List.length_append] at this; omega)] at h1
            cases h1
          | some oe => exact h e oe ho' (hS e oe ho' (hp e he)) j h1
      · rw [List.getElem?_eq_none (by simp; omega)] at hj
        cases hj
theorem ancs_closed {ops : List Oper} {S : Nat → Prop} (hS : ∀ i o, ops[i]? = some o → S i → ∀ j ∈ preds o, S j) {i : Nat} {o : Oper} (hi : ops[i]? = some o) (hp : ∀ j ∈ preds o, S j) : ∀ j ∈ (ancs ops).getD i [], S j :=
  ancs_go hS (rest := ops) (acc := []) (pre := []) rfl rfl (fun _ _ _ _ j hj => by simp at hj) i o hi hp
end
end Go.Rk
