/-
  Words of our own, of no program: the reckoner: what a bigger heap changes not; values that are found alike.
-/
import Derived.Test.YtlkchdbbpnkbfaaGreatDoorRkN
namespace Go.Rk
open Go.RowKit
variable {P : Program} {ev : Nat → Nat} {B : Nat} {ρ : Ren} {σ σ' : Heap} {w : World}
-- alike
theorem eqO_inv {c d : Option Nat} (h : eqO c d = true) : c = d := by
  cases c <;> cases d <;> first | rfl | exact nomatch (show false = true from h) | exact congrArg some (Nat.eq_of_beq_eq_true h)
theorem and_inv {a b : Bool} (h : Bool.and a b = true) : a = true ∧ b = true := by cases a <;> cases b <;> first | exact ⟨rfl, rfl⟩ | exact nomatch (show false = true from h)
theorem eqId_inv {r q : Id} (h : eqId r q = true) : r = q := Id.num_inj (Nat.eq_of_beq_eq_true h)
theorem kc_inj' {q q' : IntKind} (h : Nat.beq (kc q) (kc q') = true) : q = q' := by cases q <;> cases q' <;> first | rfl | exact absurd h (by decide)
theorem eqS_inv {x y : AV} (h : eqS x y = true) : x = y := by
  cases x <;> cases y <;> first | exact nomatch (show false = true from h) | skip
  case un.un => rfl
  case b.b x y => cases x <;> cases y <;> first | rfl | exact nomatch (show false = true from h)
  case i.i q m q' n =>
    obtain ⟨h1, h2⟩ := and_inv (show Bool.and (Nat.beq (kc q) (kc q')) (m == n) = true from h)
    rw [kc_inj' h1, eq_of_beq h2]
  case s.s l r =>
    rw [eqN_iff.1 (show eqN l r = true from h)]
  case cx.cx q r m q' r' m' =>
    obtain ⟨h0, h3⟩ := and_inv (show Bool.and (Nat.beq (fkc q) (fkc q')) (Bool.and (Nat.beq r r') (Nat.beq m m')) = true from h)
    obtain ⟨h1, h2⟩ := and_inv h3
    have hq : q = q' := by cases q <;> cases q' <;> first | rfl | exact absurd h0 (by decide)
    rw [hq, Nat.eq_of_beq_eq_true h1, Nat.eq_of_beq_eq_true h2]
  case nilp.nilp => rfl
  case p.p r o q u =>
    obtain ⟨h1, h2⟩ := and_inv (show Bool.and (eqId r q) (Nat.beq o u) = true from h)
    rw [eqId_inv h1, Nat.eq_of_beq_eq_true h2]
  case nils.nils => rfl
  case sl.sl r o n c z r' o' n' c' z' =>
    obtain ⟨h1, h2⟩ := and_inv (show Bool.and (eqId r r') (Bool.and (Nat.beq o o') (Bool.and (Nat.beq n n') (Bool.and (eqO c c') (Nat.beq z z')))) = true from h)
    obtain ⟨h3, h4⟩ := and_inv h2
    obtain ⟨h5, h6⟩ := and_inv h4
    obtain ⟨h7, h8⟩ := and_inv h6
    rw [eqId_inv h1, Nat.eq_of_beq_eq_true h3, Nat.eq_of_beq_eq_true h5, eqO_inv h7, Nat.eq_of_beq_eq_true h8]
  case nilf.nilf => rfl
  case nat.nat j l j' l' =>
    obtain ⟨h1, h2⟩ := and_inv (show Bool.and (Nat.beq j j') (Nat.beq l l') = true from h)
    rw [Nat.eq_of_beq_eq_true h1, Nat.eq_of_beq_eq_true h2]
  case osl.osl j l j' l' =>
    obtain ⟨h1, h2⟩ := and_inv (show Bool.and (Nat.beq j j') (Nat.beq l l') = true from h)
    rw [Nat.eq_of_beq_eq_true h1, Nat.eq_of_beq_eq_true h2]
theorem eqL_inv : ∀ {l r : List AV}, eqL l r = true → l = r
  | [], [], _ => rfl
  | x :: l, y :: r, h => by
    obtain ⟨h1, h2⟩ := and_inv (show Bool.and (eqS x y) (eqL l r) = true from h)
    rw [eqS_inv h1, eqL_inv h2]
  | [], _ :: _, h => nomatch (show false = true from h)
  | _ :: _, [], h => nomatch (show false = true from h)
theorem eqA_inv {x y : AV} (h : eqA x y = true) : x = y := by
  cases x <;> first | exact eqS_inv h | skip
  case ag l => cases y <;> first | exact congrArg AV.ag (eqL_inv h) | exact nomatch (show false = true from h)
/-- An operation of a drawn region that yields a value. -/
theorem noTu_ld {o : Oper} {f : Fm → Heap → K1 → Bool} (hc : noTu o (comp P o) = .ld f) {fr : Fm} {k : K1} (h : f fr σ k = true) : ∃ v, k v = true ∧ (isRd o = true → isTu v = false) ∧ LdS P ev B o fr σ v := by
  unfold noTu at hc
  split at hc
  · rename_i g hg hrd
    simp only [CO.ld.injEq] at hc
    subst hc
    obtain ⟨v, h1, h2⟩ := comp_ld (ev := ev) (B := B) hg h
    rcases iff_inv h1 with ⟨g1, h3⟩ | ⟨g1, h3⟩
    · cases h3
    · exact ⟨v, h3, fun _ => g1, h2⟩
  · rename_i hn
    obtain ⟨v, h1, h2⟩ := comp_ld (ev := ev) (B := B) hc h
    exact ⟨v, h1, fun hrd => absurd hrd (hn f hc), h2⟩
theorem noTu_al {o : Oper} {f : Fm → Heap → K2 → Bool} (hc : noTu o (comp P o) = .al f) : comp P o = .al f := by
  unfold noTu at hc
  split at hc
  · cases hc
  · exact hc
theorem noTu_hv {o : Oper} {f : CallF → Fm → Heap → K2 → Bool} (hc : noTu o (comp P o) = .hv f) : comp P o = .hv f := by
  unfold noTu at hc
  split at hc
  · cases hc
  · exact hc
end Go.Rk
