/-
  Words of our own, of no program: the reckoner: values that are built, compared, turned.
-/
import Derived.Test.YtlkchdbbpnkbfaaGreatDoorRkJ2
namespace Go.Rk
open Go.RowKit
variable {P : Program} {ev : Nat → Nat} {B : Nat} {ρ : Ren} {σ : Heap} {w : World}
theorem slArr_inv {x : AV} {lo hi : Option AV} {k : K1} {t e n : Nat} {i : TypeInfo} (hu : P.underlying t = some (.array n e)) (hi' : P.info? e = some i) (h : slArr n i.size x lo hi σ k = true) :
    ∃ v, k v = true ∧ ∀ ρ w cx cl ch, VR ev ρ x cx → OV ev ρ lo cl → OV ev ρ hi ch → HR ev B σ ρ w → ∃ cv, (Instr.sliceAt t cx cl ch none).run P w = .ok cv w ∧ VR ev ρ v cv := by
  obtain ⟨r, o, rfl, h⟩ := asP_inv h
  obtain ⟨l, hl, h⟩ := rowK_inv h
  rw [lenN_eq] at h
  obtain ⟨gE, h⟩ := guard_inv h
  obtain ⟨hh, h, e2⟩ := bnd_inv h
  obtain ⟨g1, h⟩ := guard_inv h
  obtain ⟨a, h, e3⟩ := bnd_inv h
  obtain ⟨g2, h⟩ := guard_inv h
  rw [forceN_eq, forceN_eq] at h
  have g1' : hh ≤ n := Nat.le_of_ble_eq_true g1
  have g2' : a ≤ hh := Nat.le_of_ble_eq_true g2
  have gE' : o + n * i.size ≤ l.length := Nat.le_of_ble_eq_true gE
  have mk : ∃ o', k (.sl r o' (Nat.sub hh a) (some (Nat.sub n a)) i.size) = true ∧ ((n - a = 0 ∧ o' = o) ∨ o' = o + a * i.size) := by
    rw [iff_eq, forceN_eq] at h
    split at h
    · have e0 := Nat.eq_of_beq_eq_true ‹_›
      have e0' : n - a = 0 := e0
      exact ⟨o, by rw [e0]; exact h, .inl ⟨e0', rfl⟩⟩
    · exact ⟨_, h, .inr rfl⟩
  obtain ⟨o', hk, ho'⟩ := mk
  refine ⟨_, hk, fun ρ w cx cl ch hx hlo hhi hr => ?_⟩
  obtain ⟨b, base, E, hρ, rfl⟩ := hx.asP
  have hE : o + n * i.size ≤ E := Nat.le_trans gE' (hr.load hρ hl).1
  have hb := sliceBounds_run (P := P) (w := w) (isS := false) (len := n) (cap := n) hlo hhi (.no (ev := ev) (ρ := ρ)) (.inl ⟨rfl, rfl⟩) (e2.imp (fun ⟨x, y⟩ => ⟨x, y, rfl⟩) id) e3 (Nat.le_refl _) g1' g2'
  by_cases hma : n = a
  · refine ⟨.slice (some ⟨b, base + o, none⟩) (hh - a) (n - a), ?_, ?_⟩
    · simp only [Instr.sliceAt, Sem.run_bind, run_underlying hu w, Result.andThen_ok, Instr.sureAddr, Sem.run_pure, hb, sizeOf, typeInfo, run_program, hi', if_pos hma]
    · rcases ho' with ⟨-, rfl⟩ | rfl
      · exact .sl hρ (by show hh - a ≤ n - a; omega) (fun _ => rfl) (by rw [show n - a = 0 by omega]; omega) (fun j e => by simp only [Option.some.injEq] at e; exact e) (fun e => by cases e)
      · refine .sl hρ (by show hh - a ≤ n - a; omega) (fun h' => absurd (by omega) h') ?_ (fun j e => by simp only [Option.some.injEq] at e; exact e) (fun e => by cases e)
        rw [show n - a = 0 by omega]
        rw [hma] at hE
        omega
  · refine ⟨.slice (some ⟨b, base + o + a * i.size, none⟩) (hh - a) (n - a), ?_, ?_⟩
    · simp only [Instr.sliceAt, Sem.run_bind, run_underlying hu w, Result.andThen_ok, Instr.sureAddr, Sem.run_pure, hb, sizeOf, typeInfo, run_program, hi', if_neg hma, Addr.add_mid]
    · rcases ho' with ⟨h0, -⟩ | rfl
      · omega
      · exact .sl hρ (by show hh - a ≤ n - a; omega) (fun _ => by omega) (sl_arith hE (by omega)) (fun j e => by simp only [Option.some.injEq] at e; exact e) (fun e => by cases e)
theorem sets_fold : ∀ (cs : List Value) (off j : Nat) (A : Array Value), off + j + cs.length ≤ A.size →
    (cs.zipIdx j).foldl (fun (A : Array Value) (p : Value × Nat) => A.setIfInBounds (off + p.2) p.1) A = (A.toList.take (off + j) ++ cs ++ A.toList.drop (off + j + cs.length)).toArray
  | [], off, j, A, _ => by simp
  | c :: cs, off, j, A, h => by
    rw [List.zipIdx_cons, List.foldl_cons, sets_fold cs off (j + 1) _ (by simp at h ⊢; omega)]
    congr 1
    simp only [Array.toList_setIfInBounds, List.length_cons]
    simp at h
    have h2 : off + j < A.toList.length := by rw [Array.length_toList]; omega
    have h3 : A.toList.length = A.size := Array.length_toList
    rw [List.take_set, List.drop_set_of_lt (by omega), show off + (j + 1) = off + j + 1 by omega, List.take_add_one, List.getElem?_eq_getElem h2]
    rw [List.set_append_right _ _ (by rw [List.length_take]; omega)]
    simp [List.length_take]
    rw [show off + j - min (off + j) A.size = 0 by omega, show off + j + 1 + cs.length = off + j + (cs.length + 1) by omega]
    rfl
theorem fillK_inv {pl : Nat → Option (Nat × Nat)} : ∀ {ps : List (Nat × Operand)} {L : List (Nat × Nat × Operand)}, plcs pl ps = some L → ∀ {fr : Fm} {z : List AV} {k : List AV → Bool}, fillK L fr z k = true →
    ∃ r, k r = true ∧ ∀ (ρ : Ren) (a : Act) (zs : List Value), VRs ev ρ z zs → (∀ v ∈ zs, v.oneCell' = true) → (∀ p ∈ ps, VR ev ρ (oval p.2 fr) (a.eval p.2)) →
      ∃ rs, Instr.fill pl zs.toArray (ps.map fun p => (p.1, a.eval p.2)) = some rs.toArray ∧ VRs ev ρ r rs ∧ ∀ v ∈ rs, v.oneCell' = true
  | [], L, hL, fr, z, k, h => by
    simp only [plcs, Option.some.injEq] at hL
    subst hL
    exact ⟨z, h, fun ρ a zs hz h1 _ => ⟨zs, rfl, hz, h1⟩⟩
  | (i, x) :: ps, L, hL, fr, z, k, h => by
    unfold plcs at hL
    split at hL
    · rename_i o n r hp hr
      simp only [Option.some.injEq] at hL
      subst hL
      obtain ⟨vs, h, hvs⟩ := cellsV_inv (ev := ev) (show (cellsV (oval x fr) fun vs => lenIs vs n (wrAt o vs z fun l => fillK r fr l k)) = true from h)
      obtain ⟨hlen, h⟩ := lenIs_inv h
      obtain ⟨ho, h⟩ := wrAt_inv h
      obtain ⟨R, hk, hR⟩ := fillK_inv hr h
      refine ⟨R, hk, fun ρ a zs hz h1 hps => ?_⟩
      obtain ⟨cs, hcs, hvc, hc1⟩ := hvs ρ (a.eval x) (hps (i, x) (by simp))
      have hcl := hvc.length
      have hzl := hz.length
      have := hR ρ a (zs.take o ++ cs ++ zs.drop (o + vs.length)) (((hz.take o).append hvc).append (hz.drop _)) (fun v hv => by
        rcases List.mem_append.1 hv with h' | h'
        · rcases List.mem_append.1 h' with h' | h'
          · exact h1 v (List.mem_of_mem_take h')
          · exact hc1 v h'
        · exact h1 v (List.mem_of_mem_drop h')) (fun p hp => hps p (by simp [hp]))
      obtain ⟨rs, e, h2, h3⟩ := this
      refine ⟨rs, ?_, h2, h3⟩
      rw [List.map_cons]
      unfold Instr.fill
      simp only [hp, hcs]
      have hne : ¬ ((cs.toArray.size ≠ n || decide (o + cs.toArray.size > zs.toArray.size)) = true) := by simp; omega
      rw [if_neg hne]
      rw [← e]
      congr 1
      have hf := sets_fold cs o 0 zs.toArray (by simp; omega)
      simp only [Nat.add_zero] at hf
      rw [hcl]
      rw [← hf]
      simp
    · cases hL
theorem valOk_cells {v : Value} (h : valOk v = true) (ev : Nat → Nat) (ρ : Ren) : (∀ vs, v ≠ .tuple vs) → VRs ev ρ (v.cells.toList.map cS) v.cells.toList ∧ ∀ c ∈ v.cells.toList, c.oneCell' = true := by
  have one : ∀ c : Value, c.oneCell' = true → VR ev ρ (cS c) c := fun c hc => by
    cases c <;> first | exact .b _ | exact .i _ _ | exact .fl _ _ | exact .s rfl | exact .nilf | exact .un hc | skip
    case pointer a => cases a <;> first | exact .nilp | exact .un hc
    case slice a n c =>
      cases a with
      | none =>
        by_cases hn : n = 0 ∧ c = 0
        · obtain ⟨rfl, rfl⟩ := hn; exact .nils
        · have : cS (.slice none n c) = .un := by
            unfold cS
            split <;> first | rfl | (rename_i heq; simp only [Value.slice.injEq] at heq; exact absurd ⟨heq.2.1, heq.2.2⟩ hn) | (rename_i heq; cases heq)
          rw [this]; exact .un hc
      | some a => exact .un hc
  have all : ∀ l : List Value, (∀ c ∈ l, c.oneCell' = true) → VRs ev ρ (l.map cS) l := fun l => by
    induction l with
    | nil => intro _; exact .nil
    | cons c l ih => intro hl; exact .cons (one c (hl c (by simp))) (ih fun c hc => hl c (by simp [hc]))
  intro hnt
  have h1 : ∀ c ∈ v.cells.toList, c.oneCell' = true := by
    cases v <;> first | (intro c hc; simp only [Value.cells, List.mem_singleton] at hc; subst hc; rfl) | skip
    case agg cs => exact fun c hc => List.all_eq_true.1 (show cs.toList.all (fun v => v.oneCell') = true from h) c hc
    case tuple vs => exact absurd rfl (hnt vs)
  exact ⟨all _ h1, h1⟩
theorem zeroOf_spec {t : Nat} {z : List AV} (h : zeroOf P t = some z) : ∃ i v, P.info? t = some i ∧ i.zero = some v ∧ zvOk v = true ∧ z = v.cells.toList.map cS := by
  unfold zeroOf at h
  split at h
  · rename_i i hi
    split at h
    · rename_i v hv
      split at h
      · rename_i ho
        simp only [Option.some.injEq] at h
        exact ⟨i, v, hi, hv, ho, h.symm⟩
      · cases h
    · cases h
  · cases h
end Go.Rk
