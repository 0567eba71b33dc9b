/-
  What the row says of an argument, with the form's own reach: each slice that is read takes less than 2^47 bytes.
-/
import Derived.Test.YtpgnlhfokffioaaDoorRead
import Derived.SizedLaws
namespace Go.Proofs.YtpgnlhfokffioaaDoor
open Go.RowKit
/-- These cells read at type t, and what is read keeps within the reach. -/
def RdZ (P : Program) (w : World) (t : TypeId) (cs : List Value) : Prop :=
  ∃ (H : Type) (enc : TypeId × Value → H) (base : Nat) (spare : Nat → Bool) (held : Bool) (fuel : Nat) (x : DataW H × List MemPlace), DataW.trod enc P w base spare held fuel t cs = some x ∧ (x.1.weights P t).all (· ≤ reachBytes) = true
section
variable {P : Program} {w : World} {t e : TypeId} {cs : List Value}
theorem RdZ.rd (h : RdZ P w t cs) : Rd P w t cs := by
  obtain ⟨H, enc, base, spare, held, fuel, x, h, -⟩ := h
  exact ⟨H, enc, base, spare, held, fuel, x, h⟩
theorem weightsAll_mem {H : Type} {e : TypeId} {l : List (DataW H)} {d : DataW H} (hd : d ∈ l) : ∀ n ∈ d.weights P e, n ∈ DataW.weightsAll P e l := by
  induction l with
  | nil => simp at hd
  | cons a r ih =>
    intro n hn
    simp only [DataW.weightsAll, List.mem_append]
    rcases List.mem_cons.1 hd with rfl | hd
    · exact .inl hn
    · exact .inr (ih hd n hn)
theorem RdZ.slice (ht : P.underlying t = some (.slice e)) (hpos : 0 < P.cellsOf e) (h : RdZ P w t cs) :
    ∃ (ao : Option Addr) (len cap : Nat), cs = [.slice ao len cap] ∧ len ≤ cap ∧ cap ≤ maxLen ∧ len * P.bytesOf e ≤ reachBytes ∧ (ao = none → cap = 0) ∧
      (0 < len → ∃ b off, ao = some ⟨b, off, none⟩ ∧ b < w.heap.size ∧ ∀ i, i < len → ∃ cs', Cells w b (off + i * P.cellsOf e) (P.cellsOf e) cs' ∧ RdZ P w e cs') := by
  obtain ⟨H, enc, base, spare, held, fuel, x, h, hz⟩ := h
  rcases Go.Deep.open_slice ht h with ⟨rfl, _⟩ | ⟨a, len, cap, m, n, D, Pl, rfl, hb, hl, hm, hmm, hx, hel⟩
  · exact ⟨none, 0, 0, rfl, Nat.le_refl _, by simp, by simp, fun _ => rfl, fun h => by omega⟩
  · rw [hx] at hz
    simp only [DataW.weights, ht, List.all_cons, List.all_append, List.all_eq_true, Bool.and_eq_true, decide_eq_true_eq, List.length_map, List.length_range] at hz
    obtain ⟨hz0, hz1, -⟩ := hz
    have hle : len ≤ m := by rw [hmm]; split <;> omega
    refine ⟨some a, len, cap, rfl, hl, hm, Nat.le_trans (Nat.mul_le_mul_right _ (by omega)) hz0, by simp, fun hlen => ?_⟩
    obtain ⟨cs0, h0, _⟩ := hel 0 (by omega)
    obtain ⟨_, hl0, hc0⟩ := World.cells?_some h0
    have hc := hc0 0 hpos
    have hadd : (a.add (0 * P.cellsOf e)).add 0 = a := by simp [Addr.add]
    rw [hadd, List.getElem?_eq_getElem (by omega)] at hc
    have hspot := World.cell?_spot hc
    obtain ⟨b, off, spot⟩ := a
    obtain rfl : spot = none := hspot
    refine ⟨b, off, rfl, ?_, fun i hi => ?_⟩
    · rcases Nat.lt_or_ge b w.heap.size with h | h
      · exact h
      · simp [World.cell?, Array.getElem?_eq_none h] at hc
    · obtain ⟨cs', h1, h2⟩ := hel i (by omega)
      obtain ⟨_, h3, h4⟩ := World.cells?_some h1
      have key : ∀ p q : Nat, ((⟨b, off, none⟩ : Addr).add p).add q = ⟨b, off + p + q, none⟩ := by
        intro p q; unfold Addr.add; split <;> split <;> simp_all
      refine ⟨cs', ⟨h3, fun j hj => ?_⟩, H, enc, base, spare, held, n, _, h2, ?_⟩
      · rw [← h4 j hj, key]
      · simp only [List.all_eq_true, decide_eq_true_eq]
        exact fun q hq => hz1 q (weightsAll_mem (List.mem_map.2 ⟨i, by simpa using hi, rfl⟩) q hq)
theorem RdZ.slOf {α : Type} {p : World → Nat → Nat → α → Prop} {size : Nat} (ht : P.underlying t = some (.slice e)) (hs : P.cellsOf e = size) (hpos : 0 < size) (h : RdZ P w t cs)
    (hp : ∀ b off cs', b < w.heap.size → Cells w b off size cs' → RdZ P w e cs' → ∃ q, p w b off q) : ∃ v L, cs = [v] ∧ SlOf w size p v L ∧ L.length * P.bytesOf e ≤ reachBytes := by
  subst hs
  obtain ⟨ao, len, cap, rfl, h1, h2, hr, h3, h4⟩ := h.slice ht hpos
  by_cases h0 : 0 < len
  · obtain ⟨b, off, rfl, hb, hel⟩ := h4 h0
    obtain ⟨L, hL, hq⟩ := list_of_choice (p := fun i q => p w b (off + i * P.cellsOf e) q) fun i hi => by
      obtain ⟨cs', hc, hr⟩ := hel i hi
      exact hp b _ cs' hb hc hr
    exact ⟨_, L, rfl, ⟨_, cap, by rw [hL], by omega, h2, h3, fun _ => ⟨b, off, rfl, hb, hq⟩⟩, by rw [hL]; exact hr⟩
  · have : len = 0 := by omega
    subst this
    exact ⟨_, [], rfl, ⟨ao, cap, rfl, h1, h2, h3, fun hne => (hne rfl).elim⟩, by simp⟩
theorem RdZ.bytes (ht : P.underlying t = some (.slice e)) (hs : P.cellsOf e = 1) (hby : P.bytesOf e = 1) (he : P.underlying e = some (.int .u8)) (h : RdZ P w t cs) : ∃ v l, cs = [v] ∧ Sl w v l ∧ l.length ≤ 140737488351232 := by
  obtain ⟨v, L, rfl, ⟨ao, cap, rfl, h1, h2, h3, h4⟩, h5⟩ := h.slOf (p := fun w b off x => w.cell? ⟨b, off, none⟩ = some (B8 x)) ht hs (by omega) (by
    intro b off cs' _ hc hr
    obtain ⟨x, rfl⟩ := hr.rd.u8 he
    exact ⟨x, by simpa using hc.2 0 (by omega)⟩)
  refine ⟨_, L, rfl, ⟨ao, cap, rfl, h1, h2, h3, fun hne => ?_⟩, by rw [hby] at h5; simp [reachBytes] at h5; omega⟩
  obtain ⟨b, off, rfl, hb, hq⟩ := h4 hne
  exact ⟨b, off, rfl, hb, fun i x hx => by simpa using hq i x hx⟩
end
end Go.Proofs.YtpgnlhfokffioaaDoor
