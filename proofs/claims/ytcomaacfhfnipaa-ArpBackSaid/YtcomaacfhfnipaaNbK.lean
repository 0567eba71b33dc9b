/-
  Neighbours: the library's Clone; Delete over a row of our own; who was silent longest.
-/
import Derived.Test.YtcomaacfhfnipaaNbI
import Derived.Test.YtcomaacfhfnipaaArpD
namespace Go.Proofs.Ytcomaacfhfnipaa
open Go.RowKit
/-- A list of neighbours, a row of our own. -/
def NbOwn (w : World) (base : Nat) (v : Value) (L : List Nb) : Prop := w.ownsRow base 61 3 v L.length (L.map rowNeighbour).flatten
theorem nb_three (L : List Nb) : ∀ r ∈ L.map rowNeighbour, r.length = 3 := by intro r hr; obtain ⟨y, -, rfl⟩ := List.mem_map.1 hr; rfl
theorem nb_one (L : List Nb) : ∀ u ∈ (L.map rowNeighbour).flatten, u.oneCell' = true := by
  intro u hu
  obtain ⟨r, hr, hu⟩ := List.mem_flatten.1 hu
  obtain ⟨y, -, rfl⟩ := List.mem_map.1 hr
  simp at hu
  rcases hu with rfl | rfl | rfl <;> rfl
theorem NbOwn.slr {w : World} {base : Nat} {v : Value} {L : List Nb} (h : NbOwn w base v L) : SlR w 3 v (L.map rowNeighbour) := (SlR.of_own (by decide) (nb_three L) h).1
theorem NbOwn.below {w w' : World} {base : Nat} {v : Value} {L : List Nb} (h : NbOwn w base v L) (hb : Below w.heap.size w w') : NbOwn w' base v L := below_own h hb
theorem NbOwn.nil (w : World) (base : Nat) : NbOwn w base (.slice none 0 0) [] := World.ownsRow_nil _ _ _ _
theorem SlR.toNb {w : World} {v : Value} {L : List Nb} (h : SlR w 3 v (L.map rowNeighbour)) : SlOf w 3 Nb.At v L := by
  obtain ⟨ao, cap, rfl, h1, h2, h3, h4⟩ := h
  rw [List.length_map] at h1
  refine ⟨ao, cap, by rw [List.length_map], h1, h2, h3, fun hne => ?_⟩
  obtain ⟨b, off, rfl, hlt, hB⟩ := h4 (by simpa using hne)
  refine ⟨b, off, rfl, hlt, fun i q hi => ?_⟩
  have := hB i (rowNeighbour q) (by rw [List.getElem?_map, hi]; rfl)
  exact ⟨by simpa using this 0 _ rfl, by simpa using this 1 _ rfl, by simpa using this 2 _ rfl⟩
theorem SlOf.nbR {w : World} {v : Value} {L : List Nb} (h : SlOf w 3 Nb.At v L) : SlR w 3 v (L.map rowNeighbour) := by
  obtain ⟨ao, cap, rfl, h1, h2, h3, h4⟩ := h
  refine ⟨ao, cap, by rw [List.length_map], by rw [List.length_map]; exact h1, h2, h3, fun hne => ?_⟩
  obtain ⟨b, off, rfl, hlt, hB⟩ := h4 (by simpa using hne)
  refine ⟨b, off, rfl, hlt, fun i q hi j u hu => ?_⟩
  rw [List.getElem?_map] at hi
  obtain ⟨x, hx, rfl⟩ := Option.map_eq_some_iff.1 hi
  obtain ⟨c0, c1, c2⟩ := hB i x hx
  match j, hu with
  | 0, hu => simp at hu; subst hu; exact c0
  | 1, hu => simp at hu; subst hu; exact c1
  | 2, hu => simp at hu; subst hu; exact c2
  | j + 3, hu => simp at hu
theorem NbOwn.of {w : World} {base : Nat} {v : Value} {L : List Nb} (h : NbOwn w base v L) : SlOf w 3 Nb.At v L := h.slr.toNb
/-- The cells of the elements, where a slice leads. -/
theorem SlR.news {w : World} {ad : Addr} {cap n : Nat} {L : List (List Value)} (hn : 0 < n) (hL : ∀ r ∈ L, r.length = n) (h : SlR w n (.slice (some ad) L.length cap) L) : ∀ j u, L.flatten[j]? = some u → w.cell? (ad.add j) = some u := by
  obtain ⟨ao, c, hv, h1, h2, h3, h4⟩ := h
  simp only [Value.slice.injEq] at hv
  obtain ⟨rfl, -, rfl⟩ := hv
  intro j u hj
  have hne : L ≠ [] := by rintro rfl; simp at hj
  obtain ⟨b, off, hae, hb, hB⟩ := h4 hne
  injection hae with hae
  subst hae
  have hjl : j < L.length * n := by
    have := (List.getElem?_eq_some_iff.1 hj).1
    rwa [flatten_len L hL] at this
  have hdm := Nat.div_add_mod j n
  have hmod := Nat.mod_lt j hn
  have hdl : j / n < L.length := (Nat.div_lt_iff_lt_mul hn).2 hjl
  have hq := List.getElem?_eq_getElem hdl
  have hfg := flatten_get L hL (j / n) _ hq (j % n) hmod
  rw [show j / n * n + j % n = j by rw [Nat.mul_comm]; exact hdm, hj] at hfg
  have := hB (j / n) _ hq (j % n) u hfg.symm
  rw [add_off]
  rw [show off + j / n * n + j % n = off + j by rw [Nat.add_assoc, show j / n * n + j % n = j by rw [Nat.mul_comm]; exact hdm]] at this
  exact this
set_option maxRecDepth 100000 in
set_option maxHeartbeats 1000000 in
theorem nbClone_any (v : Value) (L : List Nb) (w : World) (hl : L.length ≤ 1000000) (hv : SlR w 3 v (L.map rowNeighbour)) :
    Calls Try.prog 51 #[v] w fun e w' => ∃ v', e = .returned v' ∧ Below w.heap.size w w' ∧ NbOwn w' w.heap.size v' L := by
  obtain ⟨ao, cap, rfl, hcl, hcm, hn, -⟩ := id hv
  rw [List.length_map] at hcl
  obtain ⟨i0, hi, hz0, hz1, hz2⟩ := info_parts infoNeighbour
  have hen : ∀ (wx : World) (a : Option Addr) (n c : Nat), (binOp .eql 48 (.slice a n c) (.slice none 0 0)).run Try.prog wx = .ok (.bool a.isNone) wx := fun wx a n c => Lib.run_eql_slice_nil wx _ _ a n c 0 0 Try.underlying48
  cases ao with
  | none =>
    have hc := hn rfl
    have hl0 : L = [] := List.eq_nil_of_length_eq_zero (by omega)
    subst hl0 hc
    go_enter Try.func51, Try.ntmps51
    go_wp2
    go_ret
    exact ⟨_, rfl, Below.refl _ _, World.ownsRow_nil _ _ _ _⟩
  | some ad =>
    have hown : (w.alloc (.cells #[] 61)).ownsRow w.heap.size 61 3 (.slice (some ⟨w.heap.size, 0, none⟩) 0 0) 0 [] := World.ownsRow_made w #[] 0 (Nat.le_refl _) (by simp) rfl
    have hnews := SlR.news (by decide) (nb_three L) (hv.below ((Below.refl _ w).alloc (Nat.le_refl _) (.cells #[] 61)))
    have hfl : ((L.map rowNeighbour).flatten).length = L.length * 3 := by rw [flatten_len _ (nb_three L), List.length_map]
    have h1 := nb_one L
    rw [List.length_map]
    unfold NbOwn
    generalize (L.map rowNeighbour).flatten = xs at *
    have HN := Lib.hid hnews
    have H1 := Lib.hid h1
    have HF := Lib.hid hfl
    clear hnews hn h1 hfl hv
    go_enter Try.func51, Try.ntmps51
    go_wp2_with (first
      | (at_builtin; refine wpList_append_at _ rfl _ _ 48 rfl w.heap.size 61 i0 (.agg #[.int .i64 0, .int .i64 0, .int .i64 0]) 3 24 Try.underlying48 hi hz0 hz1 hz2 rfl (by decide) _ _ _ rfl hown ad L.length cap xs rfl ?c0 ?c1 ?c2 ?c3 ?c4 ?c5 ?_))
    case c0 => exact HF.out
    case c1 => exact HN.out
    case c2 => exact H1.out
    case c3 => unfold maxLen; omega
    case c4 => omega
    case c5 => simp
    intro v' w1 hown' hgrow hat
    have hb : Below w.heap.size w w1 := ((Below.refl _ w).alloc (Nat.le_refl _) _).grown hgrow (by simp) (by intro k hk; simp [Value.ownBlock] at hk; omega)
    have HO := Lib.hid hown'
    clear hown' hgrow hat
    go_wp2
    go_ret
    exact ⟨_, rfl, hb, HO.out⟩
theorem nbDelete_any (base i : Nat) (v : Value) (L : List Nb) (w : World) (hown : NbOwn w base v L) (hi : i < L.length) :
    Calls Try.prog 57 #[v, .int .i64 i, .int .i64 ((i + 1 : Nat) : Int)] w fun e w' => ∃ v', e = .returned v' ∧ NbOwn w' base v' (L.eraseIdx i) ∧ Grew w w' v v' := by
  have hone := nb_one L
  have hlen : (L.eraseIdx i).length = L.length - 1 := by rw [List.length_eraseIdx, if_pos hi]
  have hfl : ((L.map rowNeighbour).flatten).length = L.length * 3 := by rw [flatten_len _ (nb_three L), List.length_map]
  have hgoal : ((L.eraseIdx i).map rowNeighbour).flatten = ((L.map rowNeighbour).flatten).take (i * 3) ++ ((L.map rowNeighbour).flatten).drop ((i + 1) * 3) := by
    rw [List.eraseIdx_eq_take_drop_succ, List.map_append, List.flatten_append, List.map_take, List.map_drop, flatten_take 3 _ (nb_three L), flatten_drop 3 _ (nb_three L)]
  unfold NbOwn at *
  rw [hgoal, hlen]
  generalize (L.map rowNeighbour).flatten = xs at *
  generalize L.length = n at *
  obtain ⟨m, rfl⟩ : ∃ m, n = m + 1 := ⟨n - 1, by omega⟩
  rcases hown.2 with ⟨rfl, h0⟩ | ⟨g, cap, cur, rfl, hbg, hg, hnc, hcm, hcs, htake⟩
  · omega
  · refine (nbDelete_row g cap m i cur w hg hcs (by omega) hnc hcm (by rw [htake]; exact hone)).mono ?_
    rintro e w' ⟨rfl, c2, hs2, ht2, rfl⟩
    have e1 : cur.toList.take (i * 3) = xs.take (i * 3) := by rw [← htake, List.take_take, Nat.min_eq_left (by omega)]
    have e2 : (cur.toList.drop ((i + 1) * 3)).take ((m - i) * 3) = xs.drop ((i + 1) * 3) := by rw [← htake, List.drop_take]; congr 1; omega
    refine ⟨_, rfl, ⟨by rw [List.length_append, List.length_take, List.length_drop, hfl]; omega, .inr ⟨g, cap, c2, rfl, hbg, setRow_heap w g cur c2 _ _ hg, by omega, hcm, by rw [hs2, hcs], by rw [show m + 1 - 1 = m by omega, ht2, e1, e2]⟩⟩,
      ⟨rfl, rfl, rfl, by show w.heap.size ≤ (w.setRow g c2).heap.size; rw [setRow_size]; exact Nat.le_refl _, fun k _ hk => setRow_other w g k c2 (fun e => hk (by simp [Value.ownBlock, e]))⟩, .inl rfl⟩
end Go.Proofs.Ytcomaacfhfnipaa
