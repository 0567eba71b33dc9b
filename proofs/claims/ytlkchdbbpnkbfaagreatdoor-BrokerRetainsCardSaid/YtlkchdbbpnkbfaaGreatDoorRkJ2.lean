/-
  Words of our own, of no program: the reckoner: slices of slices, and what else yields a value.
-/
import Derived.Test.YtlkchdbbpnkbfaaGreatDoorRkJ
namespace Go.Rk
open Go.RowKit
variable {P : Program} {ev : Nat → Nat} {B : Nat} {ρ : Ren} {σ : Heap} {w : World}
theorem isZ_inv {c : Option Nat} (h : isZ c = true) : c = some 0 := by
  cases c with
  | none => exact nomatch (show false = true from h)
  | some n => cases n with
    | zero => rfl
    | succ n => exact nomatch (show false = true from h)
theorem sl_arith {o a k z E : Nat} (h : o + k * z ≤ E) (ha : a ≤ k) : o + a * z + (k - a) * z ≤ E := by
  have : a * z + (k - a) * z = k * z := by rw [← Nat.add_mul]; congr 1; omega
  omega
theorem sl_arith2 {o a k z E : Nat} (h : o + k * z = E) (ha : a ≤ k) : o + a * z + (k - a) * z = E := by
  have : a * z + (k - a) * z = k * z := by rw [← Nat.add_mul]; congr 1; omega
  omega
/-- A slice of a slice: what lies at its address. -/
theorem slice_at {b a base o l m z : Nat} (hlm : l ≤ m) (ha : m ≠ 0 → a = base + o) :
    ∃ a', (if m = l then some (⟨b, a, none⟩ : Addr) else (some (⟨b, a, none⟩ : Addr)).map (·.add (l * z))) = some ⟨b, a', none⟩ ∧ (m - l ≠ 0 → a' = base + (o + l * z)) := by
  by_cases h : m = l
  · exact ⟨a, by rw [if_pos h], fun h' => absurd (by omega) h'⟩
  · refine ⟨a + l * z, by rw [if_neg h]; simp [Addr.add_mid], fun _ => ?_⟩
    rw [ha (by omega)]; omega
theorem slSl_inv {x : AV} {lo hi mx : Option AV} {k : K1} {t e : Nat} {i : TypeInfo} (hu : P.underlying t = some (.slice e)) (hi' : P.info? e = some i) (hz : 0 < i.size) (hmh : mx = none ∨ hi ≠ none) (h : slSl x lo hi mx i.size σ k = true) :
    ∃ v, k v = true ∧ ∀ ρ w cx cl ch cm, VR ev ρ x cx → OV ev ρ lo cl → OV ev ρ hi ch → OV ev ρ mx cm → HR ev B σ ρ w → ∃ cv, (Instr.sliceAt t cx cl ch cm).run P w = .ok cv w ∧ VR ev ρ v cv := by
  cases x <;> first | exact nomatch (show false = true from h) | skip
  case nils =>
    have h0 : (bnd mx 0 fun m => guard_ (Nat.beq m 0) (bnd hi 0 fun h => guard_ (Nat.beq h 0) (bnd lo 0 fun o => guard_ (Nat.beq o 0) (k .nils)))) = true := h
    obtain ⟨m, h0, e1⟩ := bnd_inv h0
    obtain ⟨g1, h0⟩ := guard_inv h0
    obtain ⟨hh, h0, e2⟩ := bnd_inv h0
    obtain ⟨g2, h0⟩ := guard_inv h0
    obtain ⟨l, h0, e3⟩ := bnd_inv h0
    obtain ⟨g3, h0⟩ := guard_inv h0
    have m0 := Nat.eq_of_beq_eq_true g1
    have hh0 := Nat.eq_of_beq_eq_true g2
    have l0 := Nat.eq_of_beq_eq_true g3
    subst m0 hh0 l0
    refine ⟨_, h0, fun ρ w cx cl ch cm hx hlo hhi hmx hr => ⟨.slice none 0 0, ?_, .nils⟩⟩
    rw [hx.asNils]
    have e2' : (hi = none ∧ (0 : Nat) = 0 ∧ mx = none) ∨ ∃ q, hi = some (.i q ((0 : Nat) : Int)) := e2.imp (fun ⟨a, b⟩ => ⟨a, b, hmh.resolve_right (fun hn => hn a)⟩) id
    have hb := sliceBounds_run (P := P) (w := w) (isS := true) (len := 0) (cap := 0) hlo hhi hmx e1 e2' e3 (Nat.le_refl _) (Nat.le_refl _) (Nat.le_refl _)
    simp [Instr.sliceAt, Instr.slice, run_underlying hu, hb, sizeOf, typeInfo, hi']
  case sl r o n c z =>
    obtain ⟨gz, h0⟩ := guard_inv (show guard_ (Nat.beq z i.size) _ = true from h)
    have hzz := Nat.eq_of_beq_eq_true gz
    subst hzz
    cases mx with
    | none =>
      obtain ⟨hh, h0, e2⟩ := bnd_inv (show bnd hi n _ = true from h0)
      obtain ⟨h0, hcap⟩ := capGe_inv (ev := ev) (B := B) hz h0
      obtain ⟨a, h0, e3⟩ := bnd_inv h0
      obtain ⟨g2, h0⟩ := guard_inv h0
      rw [forceN_eq] at h0
      obtain ⟨c', h0, hc'⟩ := slC_inv h0
      have g2' : a ≤ hh := Nat.le_of_ble_eq_true g2
      have mk : ∃ o', k (.sl r o' (Nat.sub hh a) c' i.size) = true ∧ ((c' = some 0 ∧ o' = o) ∨ o' = o + a * i.size) := by
        rw [iff_eq, forceN_eq] at h0
        split at h0
        · exact ⟨o, h0, .inl ⟨isZ_inv ‹_›, rfl⟩⟩
        · exact ⟨_, h0, .inr rfl⟩
      obtain ⟨o', hk, ho'⟩ := mk
      refine ⟨_, hk, fun ρ w cx cl ch cm hx hlo hhi hmx hr => ?_⟩
      obtain ⟨b, base, E, a0, kk, hρ, rfl, hnk, ha0, hE, hk1, hk2⟩ := hx.asSl
      have hhk : hh ≤ kk := hcap ρ w b base E kk hr hρ hnk hk1 hk2
      have hb := sliceBounds_run (P := P) (w := w) (isS := true) (len := n) (cap := kk) hlo hhi hmx (.inl ⟨rfl, rfl⟩) (e2.imp (fun ⟨x, y⟩ => ⟨x, y, rfl⟩) id) e3 (Nat.le_refl _) hhk g2'
      obtain ⟨a', ea, hea⟩ := slice_at (b := b) (a := a0) (base := base) (o := o) (l := a) (m := kk) (z := i.size) (by omega) ha0
      refine ⟨.slice (some ⟨b, a', none⟩) (hh - a) (kk - a), ?_, ?_⟩
      · simp only [Instr.sliceAt, Instr.slice, Sem.run_bind, run_underlying hu w, Result.andThen_ok, hb, sizeOf, typeInfo, run_program, hi', Sem.run_pure, ea]
      · rcases ho' with ⟨rfl, rfl⟩ | rfl
        · rcases hc' with ⟨-, e⟩ | ⟨j, rfl, e⟩
          · cases e
          · have hj := hk1 j rfl
            simp only [Option.some.injEq] at e
            have hka : kk - a = 0 := by omega
            exact .sl hρ (by show hh - a ≤ kk - a; omega) (fun h' => absurd hka h') (by rw [hka]; omega) (fun j' e' => by simp only [Option.some.injEq] at e'; omega) (fun e' => by cases e')
        · refine .sl hρ (by show hh - a ≤ kk - a; omega) hea (sl_arith hE (by omega)) ?_ ?_
          · rcases hc' with ⟨-, rfl⟩ | ⟨j, rfl, rfl⟩
            · intro j e; cases e
            · intro j' e; simp only [Option.some.injEq] at e; have := hk1 j rfl; omega
          · rcases hc' with ⟨rfl, rfl⟩ | ⟨j, rfl, rfl⟩
            · intro _; exact sl_arith2 (hk2 rfl) (by omega)
            · intro e; cases e
    | some vm =>
      obtain ⟨q, m, rfl, h0⟩ := asI_inv (show (asI vm fun _ m => natK m _) = true from h0)
      obtain ⟨m, rfl, h0⟩ := natK_inv h0
      obtain ⟨h0, hcap⟩ := capGe_inv (ev := ev) (B := B) hz h0
      obtain ⟨hh, h0, e2⟩ := bnd_inv h0
      obtain ⟨g1, h0⟩ := guard_inv h0
      obtain ⟨a, h0, e3⟩ := bnd_inv h0
      obtain ⟨g2, h0⟩ := guard_inv h0
      rw [forceN_eq, forceN_eq] at h0
      have g1' : hh ≤ m := Nat.le_of_ble_eq_true g1
      have g2' : a ≤ hh := Nat.le_of_ble_eq_true g2
      have mk : ∃ o', k (.sl r o' (Nat.sub hh a) (some (Nat.sub m a)) i.size) = true ∧ ((m - a = 0 ∧ o' = o) ∨ o' = o + a * i.size) := by
        rw [iff_eq, forceN_eq] at h0
        split at h0
        · have e0 := Nat.eq_of_beq_eq_true ‹_›
          have e0' : m - a = 0 := e0
          exact ⟨o, by rw [e0]; exact h0, .inl ⟨e0', rfl⟩⟩
        · exact ⟨_, h0, .inr rfl⟩
      obtain ⟨o', hk, ho'⟩ := mk
      refine ⟨_, hk, fun ρ w cx cl ch cm hx hlo hhi hmx hr => ?_⟩
      obtain ⟨b, base, E, a0, kk, hρ, rfl, hnk, ha0, hE, hk1, hk2⟩ := hx.asSl
      have hmk : m ≤ kk := hcap ρ w b base E kk hr hρ hnk hk1 hk2
      have hb := sliceBounds_run (P := P) (w := w) (isS := true) (len := n) (cap := kk) hlo hhi hmx (.inr ⟨q, rfl⟩) (e2.imp (fun ⟨x, y⟩ => absurd x (hmh.resolve_left (by simp))) id) e3 hmk g1' g2'
      obtain ⟨a', ea, hea⟩ := slice_at (b := b) (a := a0) (base := base) (o := o) (l := a) (m := m) (z := i.size) (by omega) (fun h' => ha0 (by omega))
      refine ⟨.slice (some ⟨b, a', none⟩) (hh - a) (m - a), ?_, ?_⟩
      · simp only [Instr.sliceAt, Instr.slice, Sem.run_bind, run_underlying hu w, Result.andThen_ok, hb, sizeOf, typeInfo, run_program, hi', Sem.run_pure, ea]
      · have hE' : o + m * i.size ≤ E := by
          have := Nat.mul_le_mul_right i.size hmk
          omega
        rcases ho' with ⟨hma, rfl⟩ | rfl
        · exact .sl hρ (by show hh - a ≤ m - a; omega) (fun h' => absurd hma h') (by rw [hma]; omega) (fun j' e' => by simp only [Option.some.injEq] at e'; exact e') (fun e' => by cases e')
        · exact .sl hρ (by show hh - a ≤ m - a; omega) hea (sl_arith hE' (by omega)) (fun j' e' => by simp only [Option.some.injEq] at e'; exact e') (fun e' => by cases e')
end Go.Rk
