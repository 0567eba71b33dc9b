/-
  Lists of Message: the library's Clone; Delete over a row of our own; who was silent longest.
-/
import Derived.Test.YtoibdhncfdjdoaaDoorMsI
namespace Go.Proofs.YtoibdhncfdjdoaaDoor
open Go.RowKit
def EMessage.At (w : World) (b off : Nat) (q : EMessage) : Prop := w.cell? ⟨b, off, none⟩ = some (.string q.t) ∧ w.cell? ⟨b, off + 1, none⟩ = some (.string q.p) ∧ w.cell? ⟨b, off + 2, none⟩ = some (.int .i64 q.q) ∧ w.cell? ⟨b, off + 3, none⟩ = some (.bool q.r)
/-- A list of them, a row of our own. -/
def MsOwn (w : World) (base : Nat) (v : Value) (L : List EMessage) : Prop := w.ownsRow base 60 4 v L.length (L.map rowMessage).flatten
theorem ms_n (L : List EMessage) : ∀ r ∈ L.map rowMessage, r.length = 4 := by intro r hr; obtain ⟨y, -, rfl⟩ := List.mem_map.1 hr; rfl
theorem ms_one (L : List EMessage) : ∀ u ∈ (L.map rowMessage).flatten, u.oneCell' = true := by
  intro u hu
  obtain ⟨r, hr, hu⟩ := List.mem_flatten.1 hu
  obtain ⟨y, -, rfl⟩ := List.mem_map.1 hr
  simp at hu
  rcases hu with rfl | rfl | rfl | rfl <;> rfl
theorem MsOwn.slr {w : World} {base : Nat} {v : Value} {L : List EMessage} (h : MsOwn w base v L) : SlR w 4 v (L.map rowMessage) := (SlR.of_own (by decide) (ms_n L) h).1
theorem MsOwn.below {w w' : World} {base : Nat} {v : Value} {L : List EMessage} (h : MsOwn w base v L) (hb : Below w.heap.size w w') : MsOwn w' base v L := below_own h hb
theorem MsOwn.nil (w : World) (base : Nat) : MsOwn w base (.slice none 0 0) [] := World.ownsRow_nil _ _ _ _
theorem SlR.toMs {w : World} {v : Value} {L : List EMessage} (h : SlR w 4 v (L.map rowMessage)) : SlOf w 4 EMessage.At v L := by
  obtain ⟨ao, cap, rfl, h1, h2, h3, h4⟩ := h
  rw [List.length_map] at h1
  refine ⟨ao, cap, by rw [List.length_map], h1, h2, h3, fun hne => ?_⟩
  obtain ⟨b, off, rfl, hlt, hB⟩ := h4 (by simpa using hne)
  refine ⟨b, off, rfl, hlt, fun i q hi => ?_⟩
  have := hB i (rowMessage q) (by rw [List.getElem?_map, hi]; rfl)
  exact ⟨by simpa using this 0 _ rfl, by simpa using this 1 _ rfl, by simpa using this 2 _ rfl, by simpa using this 3 _ rfl⟩
theorem SlOf.msR {w : World} {v : Value} {L : List EMessage} (h : SlOf w 4 EMessage.At v L) : SlR w 4 v (L.map rowMessage) := by
  obtain ⟨ao, cap, rfl, h1, h2, h3, h4⟩ := h
  refine ⟨ao, cap, by rw [List.length_map], by rw [List.length_map]; exact h1, h2, h3, fun hne => ?_⟩
  obtain ⟨b, off, rfl, hlt, hB⟩ := h4 (by simpa using hne)
  refine ⟨b, off, rfl, hlt, fun i q hi j u hu => ?_⟩
  rw [List.getElem?_map] at hi
  obtain ⟨x, hx, rfl⟩ := Option.map_eq_some_iff.1 hi
  obtain ⟨c0, c1, c2, c3⟩ := hB i x hx
  match j, hu with
  | 0, hu => simp at hu; subst hu; exact c0
  | 1, hu => simp at hu; subst hu; exact c1
  | 2, hu => simp at hu; subst hu; exact c2
  | 3, hu => simp at hu; subst hu; exact c3
  | j + 4, hu => simp at hu
theorem MsOwn.of {w : World} {base : Nat} {v : Value} {L : List EMessage} (h : MsOwn w base v L) : SlOf w 4 EMessage.At v L := h.slr.toMs
/-- The cells of the elements, where a slice leads. -/
theorem SlR.news {w : World} {ad : Addr} {cap n : Nat} {L : List (List Value)} (hn : 0 < n) (hL : ∀ r ∈ L, r.length = n) (h : SlR w n (.slice (some ad) L.length cap) L) : ∀ j u, L.flatten[j]? = some u → w.cell? (ad.add j) = some u := by
  obtain ⟨ao, c, hv, h1, h2, h3, h4⟩ := h
  simp only [Value.slice.injEq] at hv
  obtain ⟨rfl, -, rfl⟩ := hv
  intro j u hj
  have hne : L ≠ [] := by rintro rfl; simp at hj
  obtain ⟨b, off, hae, hb, hB⟩ := h4 hne
  injection hae with hae
  subst hae
  have hjl : j < L.length * n := by
    have := (List.getElem?_eq_some_iff.1 hj).1
    rwa [flatten_len L hL] at this
  have hdm := Nat.div_add_mod j n
  have hmod := Nat.mod_lt j hn
  have hdl : j / n < L.length := (Nat.div_lt_iff_lt_mul hn).2 hjl
  have hq := List.getElem?_eq_getElem hdl
  have hfg := flatten_get L hL (j / n) _ hq (j % n) hmod
  rw [show j / n * n + j % n = j by rw [Nat.mul_comm]; exact hdm, hj] at hfg
  have := hB (j / n) _ hq (j % n) u hfg.symm
  rw [add_off]
  rw [show off + j / n * n + j % n = off + j by rw [Nat.add_assoc, show j / n * n + j % n = j by rw [Nat.mul_comm]; exact hdm]] at this
  exact this
set_option maxRecDepth 100000 in
set_option maxHeartbeats 1000000 in
theorem msClone_any (v : Value) (L : List EMessage) (w : World) (hl : L.length ≤ 1000000) (hv : SlR w 4 v (L.map rowMessage)) :
    Calls Tryd.prog 56 #[v] w fun e w' => ∃ v', e = .returned v' ∧ Below w.heap.size w w' ∧ MsOwn w' w.heap.size v' L := by
  obtain ⟨ao, cap, rfl, hcl, hcm, hn, -⟩ := id hv
  rw [List.length_map] at hcl
  obtain ⟨i0, hi, hz0, hz1, hz2⟩ := info_parts infoMessage
  have hen : ∀ (wx : World) (a : Option Addr) (n c : Nat), (binOp .eql 53 (.slice a n c) (.slice none 0 0)).run Tryd.prog wx = .ok (.bool a.isNone) wx := fun wx a n c => Lib.run_eql_slice_nil wx _ _ a n c 0 0 Tryd.underlying53
  cases ao with
  | none =>
    have hc := hn rfl
    have hl0 : L = [] := List.eq_nil_of_length_eq_zero (by omega)
    subst hl0 hc
    go_enter Tryd.func56, Tryd.ntmps56
    go_wp2
    go_ret
    exact ⟨_, rfl, Below.refl _ _, World.ownsRow_nil _ _ _ _⟩
  | some ad =>
    have hown : (w.alloc (.cells #[] 60)).ownsRow w.heap.size 60 4 (.slice (some ⟨w.heap.size, 0, none⟩) 0 0) 0 [] := World.ownsRow_made w #[] 0 (Nat.le_refl _) (by simp) rfl
    have hnews := SlR.news (by decide) (ms_n L) (hv.below ((Below.refl _ w).alloc (Nat.le_refl _) (.cells #[] 60)))
    have hfl : ((L.map rowMessage).flatten).length = L.length * 4 := by rw [flatten_len _ (ms_n L), List.length_map]
    have h1 := ms_one L
    rw [List.length_map]
    unfold MsOwn
    generalize (L.map rowMessage).flatten = xs at *
    have HN := Lib.hid hnews
    have H1 := Lib.hid h1
    have HF := Lib.hid hfl
    clear hnews hn h1 hfl hv
    go_enter Tryd.func56, Tryd.ntmps56
    go_wp2_with (first
      | (at_builtin; refine wpList_append_at _ rfl _ _ 53 rfl w.heap.size 60 i0 (.agg #[.string ByteArray.empty, .string ByteArray.empty, .int .i64 0, .bool false]) 4 48 Tryd.underlying53 hi hz0 hz1 hz2 rfl (by decide) _ _ _ rfl hown ad L.length cap xs rfl ?c0 ?c1 ?c2 ?c3 ?c4 ?c5 ?_))
    case c0 => exact HF.out
    case c1 => exact HN.out
    case c2 => exact H1.out
    case c3 => unfold maxLen; omega
    case c4 => omega
    case c5 => simp
    intro v' w1 hown' hgrow hat
    have hb : Below w.heap.size w w1 := ((Below.refl _ w).alloc (Nat.le_refl _) _).grown hgrow (by simp) (by intro k hk; simp [Value.ownBlock] at hk; omega)
    have HO := Lib.hid hown'
    clear hown' hgrow hat
    go_wp2
    go_ret
    exact ⟨_, rfl, hb, HO.out⟩
theorem msDelete_any (base i : Nat) (v : Value) (L : List EMessage) (w : World) (hown : MsOwn w base v L) (hi : i < L.length) :
    Calls Tryd.prog 57 #[v, .int .i64 i, .int .i64 ((i + 1 : Nat) : Int)] w fun e w' => ∃ v', e = .returned v' ∧ MsOwn w' base v' (L.eraseIdx i) ∧ Grew w w' v v' := by
  have hone := ms_one L
  have hlen : (L.eraseIdx i).length = L.length - 1 := by rw [List.length_eraseIdx, if_pos hi]
  have hfl : ((L.map rowMessage).flatten).length = L.length * 4 := by rw [flatten_len _ (ms_n L), List.length_map]
  have hgoal : ((L.eraseIdx i).map rowMessage).flatten = ((L.map rowMessage).flatten).take (i * 4) ++ ((L.map rowMessage).flatten).drop ((i + 1) * 4) := by
    rw [List.eraseIdx_eq_take_drop_succ, List.map_append, List.flatten_append, List.map_take, List.map_drop, flatten_take 4 _ (ms_n L), flatten_drop 4 _ (ms_n L)]
  unfold MsOwn at *
  rw [hgoal, hlen]
  generalize (L.map rowMessage).flatten = xs at *
  generalize L.length = n at *
  obtain ⟨m, rfl⟩ : ∃ m, n = m + 1 := ⟨n - 1, by omega⟩
  rcases hown.2 with ⟨rfl, h0⟩ | ⟨g, cap, cur, rfl, hbg, hg, hnc, hcm, hcs, htake⟩
  · omega
  · refine (msDelete_row g cap m i cur w hg hcs (by omega) hnc hcm (by rw [htake]; exact hone)).mono ?_
    rintro e w' ⟨rfl, c2, hs2, ht2, rfl⟩
    have e1 : cur.toList.take (i * 4) = xs.take (i * 4) := by rw [← htake, List.take_take, Nat.min_eq_left (by omega)]
    have e2 : (cur.toList.drop ((i + 1) * 4)).take ((m - i) * 4) = xs.drop ((i + 1) * 4) := by rw [← htake, List.drop_take]; congr 1; omega
    refine ⟨_, rfl, ⟨by rw [List.length_append, List.length_take, List.length_drop, hfl]; omega, .inr ⟨g, cap, c2, rfl, hbg, setRow_heap w g cur c2 _ _ hg, by omega, hcm, by rw [hs2, hcs], by rw [show m + 1 - 1 = m by omega, ht2, e1, e2]⟩⟩,
      ⟨rfl, rfl, rfl, by show w.heap.size ≤ (w.setRow g c2).heap.size; rw [setRow_size]; exact Nat.le_refl _, fun k _ hk => setRow_other w g k c2 (fun e => hk (by simp [Value.ownBlock, e]))⟩, .inl rfl⟩
end Go.Proofs.YtoibdhncfdjdoaaDoor
