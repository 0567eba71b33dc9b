/-
  A disk: a request is taken out and carried out.
-/
import Derived.Test.YtcglmkcefenjcaaDkH
namespace Go.Proofs.Ytcglmkcefenjcaa
open Go.RowKit Go.Lib
/-- What holds of a disk at any time. -/
structure Dinv (d : ED) : Prop where
  n1 : 1 ≤ d.dy.length
  n2 : d.dy.length ≤ 4096
  hn : d.now.length = d.dy.length * 64
  hd : d.dur.length = d.dy.length * 64
  hw : ∀ i, i ∈ d.wr ↔ d.dy[i]? = some true
  nd : d.wr.Nodup
theorem Dinv.lt {d : ED} (h : Dinv d) : ∀ i ∈ d.wr, i < d.dy.length := fun i hi => by
  have := (h.hw i).1 hi
  exact (List.getElem?_eq_some_iff.1 this).1
theorem Dinv.wl {d : ED} (h : Dinv d) : d.wr.length ≤ d.dy.length := by
  have h1 : d.wr ⊆ List.range d.dy.length := fun i hi => List.mem_range.2 (h.lt i hi)
  have h2 := h.nd.length_le_of_subset h1
  simpa using h2
structure rqOK (d : ED) (r : Rq) : Prop where
  k : r.k = 0 ∨ r.k = 1 ∨ r.k = 2
  n : r.k ≠ 2 → 0 ≤ r.n ∧ r.n < d.dy.length
  n2 : r.k = 2 → r.n = 0
  b : r.k = 0 → r.b.length = 64
theorem perf_any {B q : Nat} {H : List Nat} {d : ED} {w : World} {r : Rq} {va : Option Addr} {vc : Nat} (hM : Dk B H q d w) (hq : q ∉ H) (hI : Dinv d) (hr : rqOK d r) (hD : ∀ X, Kz H w X → Below B w X → Sl X (.slice va r.b.length vc) r.b) :
    Calls Try.prog 79 #[.pointer (some ⟨q, 0, none⟩), .agg #[.int .i64 r.id, .int .i64 r.k, .int .i64 r.n, .slice va r.b.length vc]] w fun e w' => ∃ v, e = .returned v ∧ Dk B H q (perfD d r) w' ∧ Kz H w w' ∧ Below B w w' ∧ w'.ownsRow w.heap.size 5 1 v (perfB d r).length ((perfB d r).map B8) ∧ ∀ k, v.ownBlock = some k → Dk B (k :: H) q (perfD d r) w' := by
  obtain ⟨ri, rk, rn, b⟩ := r
  obtain ⟨hk, hn, hn2, hb⟩ := hr
  dsimp only at hk hn hn2 hb hD ⊢
  have h3 := hI.hn
  have h4 := hI.n2
  rcases hk with rfl | rfl | rfl
  · obtain ⟨h1, h2⟩ := hn (by decide)
    obtain ⟨m, rfl⟩ : ∃ m : Nat, rn = m := ⟨rn.toNat, by omega⟩
    refine (perf_w (m := m) hM hq (by omega) (by omega) (by omega) (by have := hI.wl; omega) (hb rfl) hD).mono ?_
    rintro e w' ⟨v, rfl, h1, h2, h3, h4, h5⟩
    have e : perfD d ⟨ri, 0, (m : Int), b⟩ = (if d.dy[m]? = some true then ({ d with now := splice d.now (m * 64) b } : ED) else { ({ d with now := splice d.now (m * 64) b } : ED) with dy := d.dy.set m true, wr := d.wr ++ [m] }) := by simp [perfD]
    refine ⟨v, rfl, ?_, h2, h3, by simpa [perfB] using h4, fun k hk => ?_⟩
    · rw [e]; exact h1
    · rw [e]; exact h5 k hk
  · obtain ⟨h1, h2⟩ := hn (by decide)
    obtain ⟨m, rfl⟩ : ∃ m : Nat, rn = m := ⟨rn.toNat, by omega⟩
    have hs : (secD d.now m).length = 64 := by simp [secD]; omega
    refine (perf_r (m := m) hM hq (by omega) (by omega)).mono ?_
    rintro e w' ⟨v, rfl, h1, h2, h3, h4, h5⟩
    exact ⟨v, rfl, by simpa [perfD] using h1, h2, h3, by simpa [perfB, hs] using h4, fun k hk => by simpa [perfD] using h5 k hk⟩
  · obtain rfl := hn2 rfl
    refine (perf_f (m := 0) hM hq hI.n1 hI.hn hI.hd hI.lt (by omega) (by have := hI.wl; omega)).mono ?_
    rintro e w' ⟨v, rfl, h1, h2, h3, h4, h5⟩
    exact ⟨v, rfl, by simpa [perfD] using h1, h2, h3, by simpa [perfB] using h4, fun k hk => by simpa [perfD] using h5 k hk⟩
theorem Owns.out {B : Nat} {H : List Nat} {R : List OR} {W : World} {r : OR} {i g : Nat} (h : Owns B H R W) (hi : R[i]? = some r) (hg : r.v.ownBlock = some g) : Owns B (g :: H) (R.eraseIdx i) W := by
  have hs : (R.eraseIdx i).Sublist R := List.eraseIdx_sublist ..
  refine ⟨fun x hx => h.at_ x (hs.subset hx), h.two.sublist hs, fun k hk => ?_⟩
  rcases List.mem_cons.1 hk with rfl | hk
  · refine ⟨(blk_lt (h.get hi) hg).2, fun x hx e => ?_⟩
    obtain ⟨j, hne, hj⟩ := List.mem_eraseIdx_iff_getElem?.1 hx
    have hp := List.pairwise_iff_getElem.1 h.two
    obtain ⟨hjl, rfl⟩ := List.getElem?_eq_some_iff.1 hj
    obtain ⟨hil, rfl⟩ := List.getElem?_eq_some_iff.1 hi
    rcases Nat.lt_or_gt_of_ne hne with h1 | h1
    · exact hp j i hjl hil h1 _ e hg
    · exact hp i j hil hjl h1 _ hg e
  · exact ⟨(h.held k hk).1, fun x hx => (h.held k hk).2 x (hs.subset hx)⟩
/-- A request's bytes are taken out: a block that is held keeps them. -/
theorem Owns.outB {B : Nat} {H : List Nat} {R : List OR} {W : World} {i g0 n : Nat} {v : Value} {b : List UInt8} (h : Owns B H R W) (hi : R[i]? = some ⟨5, 1, v, n, b.map B8⟩) (h0 : g0 ∈ H) : ∃ g, (g = g0 ∨ g ∉ H) ∧ Owns B (g :: H) (R.eraseIdx i) W ∧ ∀ X, Kz [g] W X → Sl X v b := by
  have ho : W.ownsRow B 5 1 v n (b.map B8) := h.get hi
  cases hg : v.ownBlock with
  | none =>
    have hs : Owns B (g0 :: H) (R.eraseIdx i) W := (h.sub (List.eraseIdx_sublist R i)).subH (fun k hk => (List.mem_cons.1 hk).elim (fun e => e ▸ h0) id)
    obtain ⟨hl, h2⟩ := ho
    rcases h2 with ⟨rfl, hn⟩ | ⟨g', cap', cur, rfl, -⟩
    · have hb : b = [] := List.eq_nil_of_length_eq_zero (by simp at hl; omega)
      subst hb
      exact ⟨g0, .inl rfl, hs, fun X _ => Sl_nil X⟩
    · cases hg
  | some g =>
    refine ⟨g, .inr (fun hm => (h.held g hm).2 _ (List.mem_of_getElem? hi) hg), h.out hi hg, fun X hX => ?_⟩
    obtain ⟨ao, cap, rfl, h1, h2, h3, h4⟩ := (Sl.of_own ho).1
    refine ⟨ao, cap, rfl, h1, h2, h3, fun e => ?_⟩
    obtain ⟨b0, so, rfl, hlt, hc⟩ := h4 e
    have hgb : b0 = g := by
      cases so with
      | zero => simpa [Value.ownBlock] using hg
      | succ so => simp [Value.ownBlock] at hg; exact hg
    subst hgb
    have eb := hX.blk b0 (List.mem_cons_self ..) hlt
    exact ⟨b0, so, rfl, Nat.lt_of_lt_of_le hlt hX.size, fun j x hj => (World.cell?_of_block (w := W) (w' := X) eb).trans (hc j x hj)⟩
end Go.Proofs.Ytcglmkcefenjcaa
