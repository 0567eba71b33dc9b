/-
  A disk, as laws ask for it: operations, with what they tell as letters.
-/
import Derived.Test.YtcglmkcefenjcaaDkP
namespace Go.Proofs.Ytcglmkcefenjcaa
open Go.RowKit Go.Lib
def armOK (d : ED) : Prop := d.arm = true → d.off = false → 1 ≤ d.left ∧ d.left < 9223372036854775808
theorem armOK.congr {d d' : ED} (h : armOK d) (e1 : d'.arm = d.arm) (e2 : d'.off = d.off) (e3 : d'.left = d.left) : armOK d' := by
  unfold armOK; rw [e1, e2, e3]; exact h
theorem armOK.powD {d : ED} (h : armOK d) : armOK (powD d) := by
  unfold Go.Proofs.Ytcglmkcefenjcaa.powD
  split
  · rename_i hc
    rw [Bool.and_eq_true] at hc
    have h1 := h hc.1 (by simpa using hc.2)
    intro _ h3
    have h4 : ¬ (d.left - 1 < 1) := of_decide_eq_false h3
    show 1 ≤ d.left - 1 ∧ d.left - 1 < _
    omega
  · exact h
theorem armOK.askD {d : ED} (h : armOK d) (k n : Int) (b : List UInt8) : armOK (askD d k n b) := by
  unfold Go.Proofs.Ytcglmkcefenjcaa.askD
  split
  · exact h.powD.congr rfl rfl rfl
  · exact h.powD
theorem perfD_pow (d : ED) (r : Rq) : (perfD d r).arm = d.arm ∧ (perfD d r).off = d.off ∧ (perfD d r).left = d.left ∧ (perfD d r).last = d.last := by
  unfold perfD
  split
  · exact ⟨rfl, rfl, rfl, rfl⟩
  · split
    · split <;> exact ⟨rfl, rfl, rfl, rfl⟩
    · split <;> exact ⟨rfl, rfl, rfl, rfl⟩
theorem armOK.compD {d : ED} (h : armOK d) (n : Int) : armOK (compD d n) := by
  unfold Go.Proofs.Ytcglmkcefenjcaa.compD
  split
  · have h2 := perfD_pow { Go.Proofs.Ytcglmkcefenjcaa.powD d with ps := d.ps.eraseIdx n.toNat } (compR d n)
    exact h.powD.congr h2.1 h2.2.1 h2.2.2.1
  · exact h.powD
theorem armOK.offD {d : ED} (n : Int) (hn : n < 9223372036854775808) : armOK (offD d n) := by
  intro _ h2
  have h3 : ¬ n < 1 := by
    have : (d.off || decide (n < 1)) = false := h2
    rw [Bool.or_eq_false_iff] at this
    exact of_decide_eq_false this.2
  show 1 ≤ n ∧ n < _
  omega
theorem newD_ok {b : List UInt8} (h : newOK b = true) : DOK (newD b) ∧ armOK (newD b) := by
  unfold newOK at h
  simp only [Bool.and_eq_true, beq_iff_eq, decide_eq_true_eq] at h
  refine ⟨⟨⟨?_, ?_, ?_, ?_, ?_, List.nodup_nil⟩, fun r hr => (nomatch hr)⟩, fun h => (nomatch h)⟩
  · show 1 ≤ (List.replicate (b.length / 64) false).length; rw [List.length_replicate]; exact h.2.1
  · show (List.replicate (b.length / 64) false).length ≤ 4096; rw [List.length_replicate]; exact h.2.2
  · show b.length = (List.replicate (b.length / 64) false).length * 64; rw [List.length_replicate]; omega
  · show b.length = (List.replicate (b.length / 64) false).length * 64; rw [List.length_replicate]; omega
  · intro i
    show i ∈ ([] : List Nat) ↔ (List.replicate (b.length / 64) false)[i]? = some true
    rw [List.getElem?_replicate]
    constructor
    · intro h; cases h
    · intro h; split at h <;> simp at h
theorem DOK.offD {d : ED} (h : DOK d) (n : Int) : DOK (offD d n) := ⟨h.inv.offD n, fun r hr => (h.rq r hr).congr rfl⟩
theorem DOK.crash {d : ED} (h : DOK d) : DOK { d with off := true } := ⟨h.inv.congr rfl rfl rfl rfl, fun r hr => (h.rq r hr).congr rfl⟩
/-- All that a disk wants of its own numbers. -/
structure Dall (d : ED) : Prop where
  ok : DOK d
  arm : armOK d
  last : 0 ≤ d.last ∧ d.last ≤ 1000000
  len : d.ps.length ≤ 100000
/-- What a call asks and leaves, as a law wants it. -/
abbrev DP (B : Nat) (H : List Nat) (q : Nat) (w : World) (d' : ED) (w' : World) : Prop := Dk B H q d' w' ∧ Kz H w w' ∧ Below B w w'
section
variable {B q : Nat} {H : List Nat} {d d' : ED} {w : World} {e i : Int}
theorem dWrite {n : Int} {va : Option Addr} {vc m : Nat} {b : List UInt8} (hM : Dk B H q d w) (hq : q ∉ H) (ha : Dall d) (hD : ∀ X, Kz H w X → Below B w X → Sl X (.slice va m vc) b) (hm : b.length = m) (hbl : m ≤ 1000000) (he : askE d 0 n m = e) (hi : askI d 0 n m = i) (hd : askD d 0 n b = d') :
    Calls Try.prog 46 #[.pointer (some ⟨q, 0, none⟩), .int .i64 n, .slice va m vc] w fun z w' => z = .returned (.tuple #[.int .i64 i, .int .i64 e]) ∧ DP B H q w d' w' := by
  subst hm he hi hd; exact write_any hM hq ha.arm ha.last hD hbl
theorem dRead {n : Int} (hM : Dk B H q d w) (hq : q ∉ H) (ha : Dall d) (he : askE d 1 n 0 = e) (hi : askI d 1 n 0 = i) (hd : askD d 1 n [] = d') :
    Calls Try.prog 35 #[.pointer (some ⟨q, 0, none⟩), .int .i64 n] w fun z w' => z = .returned (.tuple #[.int .i64 i, .int .i64 e]) ∧ DP B H q w d' w' := by
  subst he hi hd; exact read_any hM hq ha.arm ha.last
theorem dFlush (hM : Dk B H q d w) (hq : q ∉ H) (ha : Dall d) (he : askE d 2 0 0 = e) (hi : askI d 2 0 0 = i) (hd : askD d 2 0 [] = d') :
    Calls Try.prog 37 #[.pointer (some ⟨q, 0, none⟩)] w fun z w' => z = .returned (.tuple #[.int .i64 i, .int .i64 e]) ∧ DP B H q w d' w' := by
  subst he hi hd; exact flush_any hM hq ha.arm ha.last
theorem dComplete {n : Int} {b : List UInt8} {m : Nat} (hM : Dk B H q d w) (hq : q ∉ H) (ha : Dall d) (hm : b.length = m) (he : compE d n = e) (hi : compI d n = i) (hb : compB d n = b) (hd : compD d n = d') :
    Calls Try.prog 39 #[.pointer (some ⟨q, 0, none⟩), .int .i64 n] w fun z w' => ∃ a c, z = .returned (.tuple #[.int .i64 i, .slice a m c, .int .i64 e]) ∧ DP B H q w d' w' ∧ w'.ownsRow w.heap.size 5 1 (.slice a m c) m (b.map B8) ∧ ∀ k, (Value.slice a m c).ownBlock = some k → Dk B (k :: H) q d' w' := by
  subst he hi hd hb hm
  refine (complete_any hM hq ha.arm ha.ok.inv ha.ok.rq ha.len).mono ?_
  rintro z w' ⟨v, h1, h2, h3, h4, h5, h6⟩
  obtain ⟨a, c, rfl⟩ := own_slice h5
  exact ⟨a, c, h1, ⟨h2, h3, h4⟩, h5, h6⟩
theorem dCrash {P : List Int} {va : Option Addr} {vc m pn : Nat} {b : List UInt8} (hM : Dk B H q d w) (hq : q ∉ H) (ha : Dall d) (hpn : P.length = pn) (hP : ∀ X, Kz H w X → Below B w X → SlR X 1 (.slice va pn vc) (P.map intR)) (hm : b.length = m) (hb : crashD d P = b) :
    Calls Try.prog 43 #[.pointer (some ⟨q, 0, none⟩), .slice va pn vc] w fun z w' => ∃ a c, z = .returned (.slice a m c) ∧ DP B H q w ({ d with off := true } : ED) w' ∧ w'.ownsRow w.heap.size 5 1 (.slice a m c) m (b.map B8) ∧ ∀ k, (Value.slice a m c).ownBlock = some k → Dk B (k :: H) q ({ d with off := true } : ED) w' := by
  subst hm hb hpn
  refine (crash_any hM hq ha.ok.inv hP).mono ?_
  rintro z w' ⟨v, h1, h2, h3, h4, h5, h6⟩
  obtain ⟨a, c, rfl⟩ := own_slice h5
  exact ⟨a, c, h1, ⟨h2, h3, h4⟩, h5, h6⟩
theorem dOff (n : Int) (hM : Dk B H q d w) (hq : q ∉ H) :
    Calls Try.prog 41 #[.pointer (some ⟨q, 0, none⟩), .int .i64 n] w fun z w' => z = .returned (.tuple #[]) ∧ DP B H q w (offD d n) w' := dkoff_any n hM hq
end
section
variable {B q : Nat} {H : List Nat} {d : ED} {W W' : World}
/-- A block that is held is written. -/
theorem Dk.chg {k : Nat} (h : Dk B H q d W) (s : W.grownBy W' (some k)) (hk : k ∈ H) (hne : k ≠ q) : Dk B H q d W' := by
  obtain ⟨an, cn, ad, cd, ay, cy, aw, cw, ap, cp, PL, h1, h2, h3, h4⟩ := h
  exact ⟨an, cn, ad, cd, ay, cy, aw, cw, ap, cp, PL, h1.chg s hne.symm, h2, h3, h4.chg s (List.mem_cons_of_mem _ hk)⟩
theorem Dk.qlt (h : Dk B H q d W) : q < W.heap.size ∧ B ≤ q := by
  obtain ⟨an, cn, ad, cd, ay, cy, aw, cw, ap, cp, PL, k1, k2, k3, k4⟩ := h
  exact ⟨k1.2.2, k3⟩
end
end Go.Proofs.Ytcglmkcefenjcaa
