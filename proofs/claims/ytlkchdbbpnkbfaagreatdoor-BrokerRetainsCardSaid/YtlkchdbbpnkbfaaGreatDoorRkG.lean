/-
  Words of our own, of no program: the reckoner: operations that yield a value, the world standing.
-/
import Derived.Test.YtlkchdbbpnkbfaaGreatDoorRkF
namespace Go.Rk
open Go.RowKit
variable {P : Program} {ev : Nat → Nat} {B : Nat} {ρ : Ren} {σ : Heap} {w : World}
theorem VR.asB {c : Value} {x : Bool} (h : VR ev ρ (.b x) c) : c = .bool x := by cases h; rfl
theorem VR.asI {c : Value} {q : IntKind} {n : Int} (h : VR ev ρ (.i q n) c) : c = .int q n := by cases h; rfl
theorem VR.asS {c : Value} {l : List Nat} (h : VR ev ρ (.s l) c) : ∃ s, c = .string s ∧ byteNs s = l := by cases h; exact ⟨_, rfl, ‹_›⟩
theorem VR.asP {c : Value} {r : Id} {o : Nat} (h : VR ev ρ (.p r o) c) : ∃ b base E, ρ r = some (b, base, E) ∧ c = .pointer (some ⟨b, base + o, none⟩) := by cases h; exact ⟨_, _, _, ‹_›, rfl⟩
theorem VR.asSl {c : Value} {r : Id} {o n z : Nat} {c' : Option Nat} (h : VR ev ρ (.sl r o n c' z) c) :
    ∃ b base E a k, ρ r = some (b, base, E) ∧ c = .slice (some ⟨b, a, none⟩) n k ∧ n ≤ k ∧ (k ≠ 0 → a = base + o) ∧ o + k * z ≤ E ∧ (∀ j, c' = some j → k = j) ∧ (c' = none → o + k * z = E) := by
  cases h; exact ⟨_, _, _, _, _, ‹_›, rfl, ‹_›, ‹_›, ‹_›, ‹_›, ‹_›⟩
theorem VR.asAg {c : Value} {l : List AV} (h : VR ev ρ (.ag l) c) : ∃ cs, c = .agg cs.toArray ∧ VRs ev ρ l cs ∧ ∀ v ∈ cs, v.oneCell' = true := by cases h; exact ⟨_, rfl, ‹_›, ‹_›⟩
theorem VR.asTu {c : Value} {l : List AV} (h : VR ev ρ (.tu l) c) : ∃ cs, c = .tuple cs.toArray ∧ VRs ev ρ l cs := by cases h; exact ⟨_, rfl, ‹_›⟩
theorem VR.asFn {c : Value} {f : Nat} {l : List AV} (h : VR ev ρ (.fn f l) c) : ∃ cs, c = .func (.func f) #[] cs.toArray ∧ VRs ev ρ l cs := by cases h; exact ⟨_, rfl, ‹_›⟩
theorem VR.asNilp {c : Value} (h : VR ev ρ .nilp c) : c = .pointer none := by cases h; rfl
theorem VR.asNils {c : Value} (h : VR ev ρ .nils c) : c = .slice none 0 0 := by cases h; rfl
theorem VR.asNilf {c : Value} (h : VR ev ρ .nilf c) : c = .nilFunc := by cases h; rfl
theorem VR.asNat {c : Value} {j lb : Nat} (h : VR ev ρ (.nat j lb) c) : c = .int .i64 (ev j) ∧ lb ≤ ev j := by cases h; exact ⟨rfl, ‹_›⟩
theorem VR.asOsl {c : Value} {j lb : Nat} (h : VR ev ρ (.osl j lb) c) : ∃ a k, c = .slice a (ev j) k ∧ lb ≤ ev j ∧ (j = 0 → ev j = lb) := by cases h; exact ⟨_, _, rfl, ‹_›, ‹_›⟩
-- loads
theorem ldOne_inv {x : AV} {k : K1} (h : ldOne x σ k = true) : ∃ v, k v = true ∧ ∀ ρ w cv, VR ev ρ x cv → HR ev B σ ρ w →
    ∃ b o u, cv = .pointer (some ⟨b, o, none⟩) ∧ w.cell? ⟨b, o, none⟩ = some u ∧ VR ev ρ v u := by
  obtain ⟨r, o, rfl, h⟩ := asP_inv h
  obtain ⟨l, hl, h⟩ := rowK_inv h
  obtain ⟨v, hv, h⟩ := getL_inv h
  rw [forceV_eq] at h
  refine ⟨v, h, fun ρ w cv hc hr => ?_⟩
  obtain ⟨b, base, E, hρ, rfl⟩ := hc.asP
  obtain ⟨-, cs, hcs, hra, -⟩ := hr.load hρ hl
  obtain ⟨u, hu, hvu⟩ := hcs.get hv
  exact ⟨b, base + o, u, rfl, hra o u hu, hvu⟩
theorem ldRow_inv {n : Nat} {x : AV} {k : K1} (h : ldRow n x σ k = true) : ∃ v, k v = true ∧ ∀ ρ w cv, VR ev ρ x cv → HR ev B σ ρ w →
    ∃ b o cs, cv = .pointer (some ⟨b, o, none⟩) ∧ w.rangeAt b o cs ∧ cs.length = n ∧ VR ev ρ v (.agg cs.toArray) := by
  obtain ⟨r, o, rfl, h⟩ := asP_inv h
  obtain ⟨l, hl, h⟩ := rowK_inv h
  obtain ⟨h1, h⟩ := dropL_inv h
  obtain ⟨h2, h⟩ := takeL_inv h
  refine ⟨_, h, fun ρ w cv hc hr => ?_⟩
  obtain ⟨b, base, E, hρ, rfl⟩ := hc.asP
  obtain ⟨-, cs, hcs, hra, h1c⟩ := hr.load hρ hl
  have hlen := hcs.length
  rw [List.length_drop] at h2
  refine ⟨b, base + o, (cs.drop o).take n, rfl, fun j u hj => ?_, by rw [List.length_take, List.length_drop]; omega, .ag ((hcs.drop o).take n) (fun v hv => h1c v (List.mem_of_mem_drop (List.mem_of_mem_take hv)))⟩
  rw [List.getElem?_take] at hj
  split at hj
  · rw [List.getElem?_drop] at hj
    rw [Nat.add_assoc]; exact hra (o + j) u hj
  · cases hj
theorem lay_spec {t n : Nat} {b : Bool} (h : lay P t = some (b, n)) : ∃ d i, P.underlying t = some d ∧ P.info? t = some i ∧ d.isRow = b ∧ i.size = n := by
  unfold lay at h
  cases hu : P.underlying t with
  | none => rw [hu] at h; cases h
  | some d =>
    cases hi : P.info? t with
    | none => rw [hu, hi] at h; cases h
    | some i =>
      rw [hu, hi] at h
      simp only [Option.some.injEq, Prod.mk.injEq] at h
      exact ⟨d, i, rfl, rfl, h.1, h.2⟩
theorem run_isAgg {t : Nat} {d : TypeDesc} (hu : P.underlying t = some d) (w : World) : (isAgg t).run P w = .ok d.isRow w := by
  unfold isAgg
  rw [Sem.run_bind, run_underlying hu w]
  cases d <;> rfl
theorem run_loadAt_one {t b o : Nat} {d : TypeDesc} {u : Value} (hu : P.underlying t = some d) (hd : d.isRow = false) (hc : w.cell? ⟨b, o, none⟩ = some u) :
    (Instr.loadAt t (.pointer (some ⟨b, o, none⟩))).run P w = .ok u w := by
  simp only [Instr.loadAt, Instr.sureAddr, loadVar, Sem.run_bind, Sem.run_pure, Result.andThen_ok, run_isAgg hu, hd, Bool.false_eq_true, if_false, run_load, hc]
theorem cLoad_inv {t : Nat} {x : Operand} {f : Fm → Heap → K1 → Bool} (hf : cLoad P t x = some f) {fr : Fm} {k : K1} (h : f fr σ k = true) :
    ∃ v, k v = true ∧ ∀ ρ w cv, VR ev ρ (oval x fr) cv → HR ev B σ ρ w → ∃ u, (Instr.loadAt t cv).run P w = .ok u w ∧ VR ev ρ v u := by
  unfold cLoad at hf
  cases hl : lay P t with
  | none => rw [hl] at hf; cases hf
  | some bn =>
    obtain ⟨b, n⟩ := bn
    obtain ⟨d, i, hu, hi, hd, hn⟩ := lay_spec hl
    rw [hl] at hf
    cases b with
    | true =>
      simp only [Option.some.injEq] at hf
      subst hf
      obtain ⟨v, hk, hv⟩ := ldRow_inv (ev := ev) (B := B) h
      refine ⟨v, hk, fun ρ w cv hc hr => ?_⟩
      obtain ⟨b, o, cs, rfl, hra, hlen, hvv⟩ := hv ρ w cv hc hr
      exact ⟨_, run_loadAt_mid w b o t cs d hra hu hd (by rw [hi]; simp [hn, hlen]), hvv⟩
    | false =>
      simp only [Option.some.injEq] at hf
      subst hf
      obtain ⟨v, hk, hv⟩ := ldOne_inv (ev := ev) (B := B) h
      refine ⟨v, hk, fun ρ w cv hc hr => ?_⟩
      obtain ⟨b, o, u, rfl, hcell, hvv⟩ := hv ρ w cv hc hr
      exact ⟨_, run_loadAt_one hu hd hcell, hvv⟩
-- the cells of a value
theorem cellsV_inv {x : AV} {k : List AV → Bool} (h : cellsV x k = true) : ∃ l, k l = true ∧ ∀ ρ cv, VR ev ρ x cv → ∃ cs, cv.cells = cs.toArray ∧ VRs ev ρ l cs ∧ ∀ v ∈ cs, v.oneCell' = true := by
  have one : ∀ {x : AV}, (∀ l, x ≠ .ag l) → (∀ l, x ≠ .tu l) → k [x] = true → ∃ l, k l = true ∧ ∀ ρ cv, VR ev ρ x cv → ∃ cs, cv.cells = cs.toArray ∧ VRs ev ρ l cs ∧ ∀ v ∈ cs, v.oneCell' = true := fun {x} h1 h2 hk =>
    ⟨[x], hk, fun ρ cv hc => by
      rcases hc.one with ⟨l, e⟩ | ⟨l, e⟩ | h3
      · exact absurd e (h1 l)
      · exact absurd e (h2 l)
      · refine ⟨[cv], ?_, .cons hc .nil, fun v hv => by rw [List.mem_singleton.1 hv]; exact h3⟩
        cases cv <;> first | rfl | exact absurd h3 (by decide) | exact nomatch (show false = true from h3)⟩
  cases x with
  | ag l => exact ⟨l, h, fun ρ cv hc => by obtain ⟨cs, rfl, h1, h2⟩ := hc.asAg; exact ⟨cs, rfl, h1, h2⟩⟩
  | tu l => exact nomatch (show false = true from h)
  | _ => exact one (fun l e => by cases e) (fun l e => by cases e) h
theorem lenIs_inv {α : Type} {l : List α} {n : Nat} {t : Bool} (h : lenIs l n t = true) : l.length = n ∧ t = true := by
  unfold lenIs at h
  rw [lenN_eq] at h
  obtain ⟨h1, h2⟩ := guard_inv h
  exact ⟨Nat.eq_of_beq_eq_true h1, h2⟩
-- pure ones
theorem nilCk_inv {x : AV} {k : K1} (h : nilCk x k = true) : k x = true ∧ ((∃ r o, x = .p r o) ∨ ∃ f l, x = .fn f l) := by
  cases x <;> first | exact ⟨h, .inl ⟨_, _, rfl⟩⟩ | exact ⟨h, .inr ⟨_, _, rfl⟩⟩ | exact nomatch (show false = true from h)
theorem pickK_eq {x y : AV} {b : Bool} {k : K1} : pickK x y b k = k (if b then x else y) := by cases b <;> rfl
theorem eqOp_inv {op : BinOp} {b : Bool} {k : AV → Bool} (h : eqOp op b k = true) : (op = .eql ∧ k (.b b) = true) ∨ (op = .neq ∧ k (.b (!b)) = true) := by
  cases op
  case eql => have h' : fB b k = true := h; rw [fB_eq] at h'; exact .inl ⟨rfl, h'⟩
  case neq => have h' : fB (Bool.not b) k = true := h; rw [fB_eq] at h'; exact .inr ⟨rfl, h'⟩
  all_goals exact nomatch (show false = true from h)
theorem eqvB_eq (x y : Bool) : eqvB x y = (x == y) := by cases x <;> cases y <;> rfl
theorem nilP_inv {x : AV} {k : Bool → Bool} (h : nilP x k = true) : (x = .nilp ∧ k true = true) ∨ (∃ r o, x = .p r o) ∧ k false = true := by
  cases x <;> first | exact .inl ⟨rfl, h⟩ | exact .inr ⟨⟨_, _, rfl⟩, h⟩ | exact nomatch (show false = true from h)
theorem nilS_inv {x : AV} {k : Bool → Bool} (h : nilS x k = true) : (x = .nils ∧ k true = true) ∨ (∃ r o n c z, x = .sl r o n c z) ∧ k false = true := by
  cases x <;> first | exact .inl ⟨rfl, h⟩ | exact .inr ⟨⟨_, _, _, _, _, rfl⟩, h⟩ | exact nomatch (show false = true from h)
theorem nilF_inv {x : AV} {k : Bool → Bool} (h : nilF x k = true) : (x = .nilf ∧ k true = true) ∨ (∃ f l, x = .fn f l) ∧ k false = true := by
  cases x <;> first | exact .inl ⟨rfl, h⟩ | exact .inr ⟨⟨_, _, rfl⟩, h⟩ | exact nomatch (show false = true from h)
theorem tk_spec {t n : Nat} (h : tk P t = n) (hn : n ≠ 0) : (n = 1 ∧ P.underlying t = some .bool) ∨ (n = 2 ∧ ∃ e, P.underlying t = some (.pointer e)) ∨ (n = 3 ∧ ∃ e, P.underlying t = some (.slice e)) ∨ (n = 4 ∧ ∃ a b c, P.underlying t = some (.func a b c)) ∨ (n = 5 ∧ P.underlying t = some .string) ∨ (n = 6 ∧ ∃ q, P.underlying t = some (.int q)) := by
  unfold tk at h
  split at h <;> subst h
  · exact .inl ⟨rfl, ‹_›⟩
  · exact .inr (.inl ⟨rfl, _, ‹_›⟩)
  · exact .inr (.inr (.inl ⟨rfl, _, ‹_›⟩))
  · exact .inr (.inr (.inr (.inl ⟨rfl, _, _, _, ‹_›⟩)))
  · exact .inr (.inr (.inr (.inr (.inl ⟨rfl, ‹_›⟩))))
  · exact .inr (.inr (.inr (.inr (.inr ⟨rfl, _, ‹_›⟩))))
  · exact absurd rfl hn
end Go.Rk
