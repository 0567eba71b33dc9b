/-
  Words of our own, of no program: what the row says of an argument (it can be read), taken apart by its type; and the last step of a law of one parameter.
-/
import Derived.Test.YtpgnlhfokffioaaDoorBase
import Derived.ProofKit
import Derived.OpenShut
import Derived.ChangeArms
import Derived.Deep.Slices
namespace Go.Proofs.YtpgnlhfokffioaaDoor
open Go.RowKit
/-- These cells read at type t. -/
def Rd (P : Program) (w : World) (t : TypeId) (cs : List Value) : Prop :=
  ∃ (H : Type) (enc : TypeId × Value → H) (base : Nat) (spare : Nat → Bool) (held : Bool) (fuel : Nat) (x : DataW H × List MemPlace), DataW.trod enc P w base spare held fuel t cs = some x
section
variable {P : Program} {w : World} {t e : TypeId} {cs : List Value}
theorem Rd.int {k : IntKind} (ht : P.underlying t = some (.int k)) (h : Rd P w t cs) : ∃ n, cs = [.int k n] ∧ (Lit.int k n).wf = true := by
  obtain ⟨H, enc, base, spare, held, fuel, x, h⟩ := h
  obtain ⟨n, h1, _, h2⟩ := DataW.trod_int ht h
  exact ⟨n, h1, h2⟩
theorem Rd.i64 (ht : P.underlying t = some (.int .i64)) (h : Rd P w t cs) : ∃ n, cs = [.int .i64 n] ∧ -9223372036854775808 ≤ n ∧ n < 9223372036854775808 := by
  obtain ⟨n, h1, h2⟩ := h.int ht
  simp [Lit.wf, IntKind.min, IntKind.max, IntKind.signed, IntKind.bits] at h2
  exact ⟨n, h1, by omega, by omega⟩
theorem Rd.u8 (ht : P.underlying t = some (.int .u8)) (h : Rd P w t cs) : ∃ x : UInt8, cs = [B8 x] := by
  obtain ⟨n, h1, h2⟩ := h.int ht
  simp [Lit.wf, IntKind.min, IntKind.max, IntKind.signed, IntKind.bits] at h2
  refine ⟨UInt8.ofNat n.toNat, ?_⟩
  rw [h1]; simp only [B8, UInt8.toNat_ofNat']
  congr 2; omega
theorem Rd.u32 (ht : P.underlying t = some (.int .u32)) (h : Rd P w t cs) : ∃ n, cs = [.int .u32 n] ∧ 0 ≤ n ∧ n < 4294967296 := by
  obtain ⟨n, h1, h2⟩ := h.int ht
  simp [Lit.wf, IntKind.min, IntKind.max, IntKind.signed, IntKind.bits] at h2
  exact ⟨n, h1, by omega, by omega⟩
theorem Rd.u64 (ht : P.underlying t = some (.int .u64)) (h : Rd P w t cs) : ∃ n, cs = [.int .u64 n] ∧ 0 ≤ n ∧ n < 18446744073709551616 := by
  obtain ⟨n, h1, h2⟩ := h.int ht
  simp [Lit.wf, IntKind.min, IntKind.max, IntKind.signed, IntKind.bits] at h2
  exact ⟨n, h1, by omega, by omega⟩
theorem Rd.bool (ht : P.underlying t = some .bool) (h : Rd P w t cs) : ∃ b, cs = [.bool b] := by
  obtain ⟨H, enc, base, spare, held, fuel, x, h⟩ := h
  cases fuel with
  | zero => simp [DataW.trod] at h
  | succ n =>
    unfold DataW.trod at h
    rw [ht] at h
    split at h <;> simp_all
theorem Rd.string (ht : P.underlying t = some .string) (h : Rd P w t cs) : ∃ s : ByteArray, cs = [.string s] ∧ s.size ≤ maxLen := by
  obtain ⟨H, enc, base, spare, held, fuel, x, h⟩ := h
  obtain ⟨n, h1, _, h2⟩ := DataW.trod_string ht h
  exact ⟨n, h1, h2⟩
theorem Rd.struct {fs : Array Field} (ht : P.underlying t = some (.struct fs)) (h : Rd P w t cs) : cs.length = P.cellsOf t ∧ ∀ (i : Nat) (f : Field), fs[i]? = some f → Rd P w f.type ((cs.drop f.offset).take (P.cellsOf f.type)) := by
  obtain ⟨H, enc, base, spare, held, fuel, x, h⟩ := h
  obtain ⟨xs, n, _, _, h1, hsz, h2⟩ := DataW.trod_struct ht h
  refine ⟨h1, fun i f hf => ?_⟩
  have hi : i < xs.length := by
    rw [hsz]; rcases Nat.lt_or_ge i fs.size with h | h
    · exact h
    · rw [Array.getElem?_eq_none h] at hf; simp at hf
  exact ⟨H, enc, base, spare, held, n, xs[i], by rw [h2 i f hf, List.getElem?_eq_getElem hi]⟩
/-- An element of a row: its cells. -/
def Cells (w : World) (b off n : Nat) (cs : List Value) : Prop := cs.length = n ∧ ∀ j, j < n → w.cell? ⟨b, off + j, none⟩ = cs[j]?
theorem Rd.slice (ht : P.underlying t = some (.slice e)) (hpos : 0 < P.cellsOf e) (h : Rd P w t cs) :
    ∃ (ao : Option Addr) (len cap : Nat), cs = [.slice ao len cap] ∧ len ≤ cap ∧ cap ≤ maxLen ∧ (ao = none → cap = 0) ∧
      (0 < len → ∃ b off, ao = some ⟨b, off, none⟩ ∧ b < w.heap.size ∧ ∀ i, i < len → ∃ cs', Cells w b (off + i * P.cellsOf e) (P.cellsOf e) cs' ∧ Rd P w e cs') := by
  obtain ⟨H, enc, base, spare, held, fuel, x, h⟩ := h
  rcases Go.Deep.open_slice ht h with ⟨rfl, _⟩ | ⟨a, len, cap, m, n, D, Pl, rfl, hb, hl, hm, hmm, _, hel⟩
  · exact ⟨none, 0, 0, rfl, Nat.le_refl _, by simp, fun _ => rfl, fun h => by omega⟩
  · refine ⟨some a, len, cap, rfl, hl, hm, by simp, fun hlen => ?_⟩
    have hle : len ≤ m := by rw [hmm]; split <;> omega
    obtain ⟨cs0, h0, _⟩ := hel 0 (by omega)
    obtain ⟨_, hl0, hc0⟩ := World.cells?_some h0
    have hc := hc0 0 hpos
    have hadd : (a.add (0 * P.cellsOf e)).add 0 = a := by simp [Addr.add]
    rw [hadd, List.getElem?_eq_getElem (by omega)] at hc
    have hspot := World.cell?_spot hc
    obtain ⟨b, off, spot⟩ := a
    obtain rfl : spot = none := hspot
    refine ⟨b, off, rfl, ?_, fun i hi => ?_⟩
    · rcases Nat.lt_or_ge b w.heap.size with h | h
      · exact h
      · simp [World.cell?, Array.getElem?_eq_none h] at hc
    · obtain ⟨cs', h1, h2⟩ := hel i (by omega)
      obtain ⟨_, h3, h4⟩ := World.cells?_some h1
      have key : ∀ p q : Nat, ((⟨b, off, none⟩ : Addr).add p).add q = ⟨b, off + p + q, none⟩ := by
        intro p q; unfold Addr.add; split <;> split <;> simp_all
      refine ⟨cs', ⟨h3, fun j hj => ?_⟩, H, enc, base, spare, held, n, _, h2⟩
      rw [← h4 j hj, key]
theorem list_of_choice {α : Type} {n : Nat} {p : Nat → α → Prop} (h : ∀ i, i < n → ∃ q, p i q) : ∃ L : List α, L.length = n ∧ ∀ i q, L[i]? = some q → p i q := by
  induction n with
  | zero => exact ⟨[], rfl, by simp⟩
  | succ n ih =>
    obtain ⟨L, hL, hp⟩ := ih fun i hi => h i (by omega)
    obtain ⟨q, hq⟩ := h n (by omega)
    refine ⟨L ++ [q], by simp [hL], fun i x hx => ?_⟩
    rcases Nat.lt_or_ge i n with hi | hi
    · rw [List.getElem?_append_left (by omega)] at hx; exact hp i x hx
    · rw [List.getElem?_append_right (by omega), hL] at hx
      have : i = n := by
        rcases Nat.lt_or_ge (i - n) 1 with h | h
        · omega
        · rw [List.getElem?_eq_none (by simpa using h)] at hx; simp at hx
      subst this
      simp at hx; subst hx; exact hq
/-- A slice whose elements, of so many cells each, are as p says. -/
def SlOf {α : Type} (w : World) (size : Nat) (p : World → Nat → Nat → α → Prop) (v : Value) (L : List α) : Prop :=
  ∃ ao cap, v = .slice ao L.length cap ∧ L.length ≤ cap ∧ cap ≤ maxLen ∧ (ao = none → cap = 0) ∧ (L ≠ [] → ∃ b off, ao = some ⟨b, off, none⟩ ∧ b < w.heap.size ∧ ∀ i q, L[i]? = some q → p w b (off + i * size) q)
theorem Rd.slOf {α : Type} {p : World → Nat → Nat → α → Prop} {size : Nat} (ht : P.underlying t = some (.slice e)) (hs : P.cellsOf e = size) (hpos : 0 < size) (h : Rd P w t cs)
    (hp : ∀ b off cs', b < w.heap.size → Cells w b off size cs' → Rd P w e cs' → ∃ q, p w b off q) : ∃ v L, cs = [v] ∧ SlOf w size p v L := by
  subst hs
  obtain ⟨ao, len, cap, rfl, h1, h2, h3, h4⟩ := h.slice ht hpos
  by_cases h0 : 0 < len
  · obtain ⟨b, off, rfl, hb, hel⟩ := h4 h0
    obtain ⟨L, hL, hq⟩ := list_of_choice (p := fun i q => p w b (off + i * P.cellsOf e) q) fun i hi => by
      obtain ⟨cs', hc, hr⟩ := hel i hi
      exact hp b _ cs' hb hc hr
    exact ⟨_, L, rfl, _, cap, by rw [hL], by omega, h2, h3, fun _ => ⟨b, off, rfl, hb, hq⟩⟩
  · have : len = 0 := by omega
    subst this
    exact ⟨_, [], rfl, ao, cap, rfl, h1, h2, h3, fun hne => (hne rfl).elim⟩
theorem Rd.bytes (ht : P.underlying t = some (.slice e)) (hs : P.cellsOf e = 1) (he : P.underlying e = some (.int .u8)) (h : Rd P w t cs) : ∃ v l, cs = [v] ∧ Sl w v l := by
  obtain ⟨v, L, rfl, ao, cap, rfl, h1, h2, h3, h4⟩ := h.slOf (p := fun w b off x => w.cell? ⟨b, off, none⟩ = some (B8 x)) ht hs (by omega) (by
    intro b off cs' _ hc hr
    obtain ⟨x, rfl⟩ := hr.u8 he
    exact ⟨x, by simpa using hc.2 0 (by omega)⟩)
  refine ⟨_, L, rfl, ao, cap, rfl, h1, h2, h3, fun hne => ?_⟩
  obtain ⟨b, off, rfl, hb, hq⟩ := h4 hne
  exact ⟨b, off, rfl, hb, fun i x hx => by simpa using hq i x hx⟩
end
end Go.Proofs.YtpgnlhfokffioaaDoor
