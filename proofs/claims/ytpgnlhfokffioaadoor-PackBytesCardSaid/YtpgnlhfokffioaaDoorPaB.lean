/-
  Parts of a stream: the library's Clone; a buffer's twin.
-/
import Derived.Test.YtpgnlhfokffioaaDoorPaA
import Derived.Test.YtpgnlhfokffioaaDoorClone
namespace Go.Proofs.YtpgnlhfokffioaaDoor
open Go.RowKit
theorem add_off (g o k : Nat) : (⟨g, o, none⟩ : Addr).add k = ⟨g, o + k, none⟩ := by unfold Addr.add; split <;> simp_all
/-- The cells of the elements, where a slice leads. -/
theorem SlR.news {w : World} {ad : Addr} {cap n : Nat} {L : List (List Value)} (hn : 0 < n) (hL : ∀ r ∈ L, r.length = n) (h : SlR w n (.slice (some ad) L.length cap) L) : ∀ j u, L.flatten[j]? = some u → w.cell? (ad.add j) = some u := by
  obtain ⟨ao, c, hv, h1, h2, h3, h4⟩ := h
  simp only [Value.slice.injEq] at hv
  obtain ⟨rfl, -, rfl⟩ := hv
  intro j u hj
  have hne : L ≠ [] := by rintro rfl; simp at hj
  obtain ⟨b, off, hae, hb, hB⟩ := h4 hne
  injection hae with hae
  subst hae
  have hjl : j < L.length * n := by
    have := (List.getElem?_eq_some_iff.1 hj).1
    rwa [flatten_len L hL] at this
  have hdm := Nat.div_add_mod j n
  have hmod := Nat.mod_lt j hn
  have hdl : j / n < L.length := (Nat.div_lt_iff_lt_mul hn).2 hjl
  have hq := List.getElem?_eq_getElem hdl
  have hfg := flatten_get L hL (j / n) _ hq (j % n) hmod
  rw [show j / n * n + j % n = j by rw [Nat.mul_comm]; exact hdm, hj] at hfg
  have := hB (j / n) _ hq (j % n) u hfg.symm
  rw [add_off]
  rw [show off + j / n * n + j % n = off + j by rw [Nat.add_assoc, show j / n * n + j % n = j by rw [Nat.mul_comm]; exact hdm]] at this
  exact this
variable {α : Type}
theorem rows_one (K : DK α) (PL : List (α × Value)) (h : ∀ q ∈ PL, q.2.oneCell' = true) : ∀ u ∈ (PL.map (fun q => K.row q.1 q.2)).flatten, u.oneCell' = true := by
  intro u hu
  obtain ⟨r, hr, hu⟩ := List.mem_flatten.1 hu
  obtain ⟨y, hy, rfl⟩ := List.mem_map.1 hr
  exact K.one _ _ (h y hy) u hu
/-- The slices beside what they hold. -/
theorem sl_pairs {K : DK α} {w : World} {v : Value} {L : List α} (h : K.Sl w v L) : ∃ PL : List (α × Value), PL.map Prod.fst = L ∧ SlR w K.n v (PL.map (fun q => K.row q.1 q.2)) ∧ ∀ q ∈ PL, Sl w q.2 (K.dat q.1) := by
  obtain ⟨ao, cap, rfl, h1, h2, h3, h4⟩ := h
  by_cases hne : L = []
  · subst hne
    exact ⟨[], rfl, ⟨ao, cap, rfl, h1, h2, h3, fun h => (h rfl).elim⟩, fun q hq => by simp at hq⟩
  · obtain ⟨b, off, rfl, hlt, hq⟩ := h4 hne
    obtain ⟨PL, hPL, hp⟩ := list_of_choice (n := L.length) (p := fun i (q : α × Value) => L[i]? = some q.1 ∧ Sl w q.2 (K.dat q.1) ∧ ∀ j u, (K.row q.1 q.2)[j]? = some u → w.cell? ⟨b, off + i * K.n + j, none⟩ = some u) fun i hi => by
      obtain ⟨v, hs, hc⟩ := hq i L[i] (List.getElem?_eq_getElem hi)
      exact ⟨(L[i], v), List.getElem?_eq_getElem hi, hs, hc⟩
    have hm : PL.map Prod.fst = L := by
      refine List.ext_getElem? fun i => ?_
      rw [List.getElem?_map]
      rcases Nat.lt_or_ge i PL.length with hi | hi
      · rw [List.getElem?_eq_getElem hi]
        exact ((hp i _ (List.getElem?_eq_getElem hi)).1).symm
      · rw [List.getElem?_eq_none hi, List.getElem?_eq_none (by omega)]; rfl
    refine ⟨PL, hm, ⟨_, cap, by rw [List.length_map, hPL], by rw [List.length_map, hPL]; exact h1, h2, h3, fun _ => ⟨b, off, rfl, hlt, fun i r hi j u hu => ?_⟩⟩, fun q hq => ?_⟩
    · rw [List.getElem?_map] at hi
      obtain ⟨q, hq', rfl⟩ := Option.map_eq_some_iff.1 hi
      exact (hp i q hq').2.2 j u hu
    · obtain ⟨i, hi⟩ := List.getElem?_of_mem hq
      exact (hp i q hi).2.1
/-- A list of our own, the bytes of whose first k elements are our own too. -/
structure Half (t : TypeId) (w0 : World) (B : Nat) (w : World) (v : Value) (PL : List (EP × Value)) (k : Nat) : Prop where
  low : Below w0.heap.size w0 w
  bot : w0.heap.size ≤ B
  top : B ≤ w.heap.size
  row : w.ownsRow B t 2 v PL.length (PL.map (fun q => KPart.row q.1 q.2)).flatten
  dat : ∀ q ∈ PL.take k, w.ownsRow B 5 1 q.2 q.1.d.length (q.1.d.map B8)
  ne : ∀ q ∈ PL.take k, ∀ j, q.2.ownBlock = some j → v.ownBlock ≠ some j
  two : (PL.take k).Pairwise fun p q => ∀ j, p.2.ownBlock = some j → q.2.ownBlock ≠ some j
  rest : ∀ q ∈ PL.drop k, Sl w0 q.2 q.1.d
theorem flat_setP (a : EP) (d : Value) : ∀ (PL : List (EP × Value)) (k : Nat) (q : EP × Value), PL[k]? = some q → q.1 = a → ((PL.set k (a, d)).map (fun q => KPart.row q.1 q.2)).flatten = ((PL.map (fun q => KPart.row q.1 q.2)).flatten).set (k * 2 + 1) d
  | [], _, _, h, _ => by simp at h
  | p :: r, 0, q, h, hq => by
    simp at h; subst h; subst hq
    rfl
  | p :: r, k + 1, q, h, hq => by
    have ih := flat_setP a d r k q (by simpa using h) hq
    rw [List.set_cons_succ, List.map_cons, List.flatten_cons, ih, List.map_cons, List.flatten_cons, show (k + 1) * 2 + 1 = k * 2 + 1 + 1 + 1 by omega]
    rfl
theorem Half.step {t : TypeId} {w0 wr W2 : World} {B g cap n : Nat} {PL : List (EP × Value)} {k : Nat} {a : EP} {vd d : Value} (hn : n = PL.length) (h : Half t w0 B wr (.slice (some ⟨g, 0, none⟩) n cap) PL k) (hk : PL[k]? = some (a, vd)) (hb : Below wr.heap.size wr W2) (hd : W2.ownsRow wr.heap.size 5 1 d a.d.length (a.d.map B8)) :
    Half t w0 B (W2.setCell ⟨g, k * 2 + 1, none⟩ d) (.slice (some ⟨g, 0, none⟩) n cap) (PL.set k (a, d)) (k + 1) := by
  subst hn
  have hsz := h.top
  have hbot := h.bot
  have hkl := (List.getElem?_eq_some_iff.1 hk).1
  have hgb := blk_lt h.row (k := g) rfl
  have hset : (PL.set k (a, d)).take (k + 1) = PL.take k ++ [(a, d)] := by
    rw [List.take_add_one, List.getElem?_set_self hkl, List.take_set, List.set_eq_of_length_le (by rw [List.length_take]; omega)]; rfl
  have hst := (below_own h.row hb).stored (k * 2 + 1) d
  have hnew : ∀ j, d.ownBlock = some j → wr.heap.size ≤ j := fun j hj => (blk_lt hd hj).1
  have hgr := grown_set1 W2 g (k * 2 + 1) d
  refine ⟨(h.low.trans (hb.mono h.low.size)).setCell (Nat.le_trans hbot hgb.1) _, hbot, by rw [World.size_setCell]; exact Nat.le_trans hsz hb.size, ?_, fun q hq => ?_, fun q hq j hj e => ?_, ?_, fun q hq => ?_⟩
  · rw [List.length_set, flat_setP a d PL k (a, vd) hk rfl]; exact hst.1
  · rw [hset] at hq
    rcases List.mem_append.1 hq with hq | hq
    · exact own_stay (below_own (h.dat q hq) hb) hgr (fun j hj e => h.ne q hq j hj e.symm)
    · simp at hq; subst hq
      exact own_stay (own_mono hd hsz) hgr (fun j hj e => by have := hnew j hj; injection e with e; omega)
  · rw [hset] at hq
    rcases List.mem_append.1 hq with hq | hq
    · exact h.ne q hq j hj e
    · simp at hq; subst hq
      have := hnew j hj
      simp [Value.ownBlock] at e; omega
  · rw [hset, List.pairwise_append]
    refine ⟨h.two, List.pairwise_singleton _ _, fun p hp q hq j hj e => ?_⟩
    simp at hq; subst hq
    have := hnew j e
    have := (blk_lt (h.dat p hp) hj).2
    omega
  · refine h.rest q ?_
    rw [List.drop_set_of_lt (by omega)] at hq
    exact List.mem_of_mem_drop (by rw [List.drop_drop] ; exact hq : q ∈ (PL.drop k).drop 1)
theorem Half.done {t : TypeId} {B : Nat} {w0 w : World} {v : Value} {PL : List (EP × Value)} (h : Half t w0 B w v PL PL.length) : DOwn KPart t w B v PL := by
  obtain ⟨-, -, -, h1, h2, h3, h4, -⟩ := h
  rw [List.take_length] at h2 h3 h4
  exact ⟨h1, h2, h3, h4⟩
end Go.Proofs.YtpgnlhfokffioaaDoor
