/-
  What was said last: the mathematics of KeptLast.
-/
import Derived.Test.YtoibdhncfdjdoaaDoorKeH
import Derived.Test.YtoibdhncfdjdoaaDoorTopN
namespace Go.Proofs.YtoibdhncfdjdoaaDoor
open Go.RowKit Go.Lib
theorem kept_mk {L : List EMessage} (h1 : L.length ≤ 16) (h2 : ∀ x ∈ L, msgB x = true ∧ noneB x = false) (h3 : Rising L) : keptB L = true := by
  refine kept_good h1 fun k hk => ?_
  obtain ⟨x, hx⟩ : ∃ x, L[k]? = some x := ⟨_, List.getElem?_eq_getElem hk⟩
  obtain ⟨g1, g2⟩ := h2 x (List.mem_of_getElem? hx)
  cases k with
  | zero => rw [okAt_zero hx, g1, g2]; rfl
  | succ j =>
    obtain ⟨p, hp⟩ : ∃ p, L[j]? = some p := ⟨_, List.getElem?_eq_getElem (by omega)⟩
    rw [okAt_succ hp hx, g1, g2, h3 j (j + 1) p x hp hx (by omega)]; rfl
theorem kept_all {L : List EMessage} (h : keptB L = true) : ∀ x ∈ L, msgB x = true ∧ noneB x = false := by
  intro x hx
  obtain ⟨j, hj⟩ := List.getElem?_of_mem hx
  exact kept_msg h hj
theorem rising_cons {a : EMessage} {T : List EMessage} (h1 : ∀ q ∈ T, sl a.t q.t = true) (h2 : Rising T) : Rising (a :: T) := by
  intro i j p q hp hq hij
  cases j with
  | zero => omega
  | succ j =>
    rw [List.getElem?_cons_succ] at hq
    cases i with
    | zero => rw [List.getElem?_cons_zero] at hp; injection hp with hp; subst hp; exact h1 q (List.mem_of_getElem? hq)
    | succ i => rw [List.getElem?_cons_succ] at hp; exact h2 i j p q hp hq (by omega)
theorem rising_drop {L : List EMessage} (h : Rising L) (k : Nat) : Rising (L.drop k) := by
  intro i j p q hp hq hij
  rw [List.getElem?_drop] at hp hq
  exact h _ _ p q hp hq (by omega)
theorem rising_uni {L : List EMessage} (h : Rising L) {x y : EMessage} (hx : x ∈ L) (hy : y ∈ L) (he : x.t = y.t) : x = y := by
  obtain ⟨i, hi⟩ := List.getElem?_of_mem hx
  obtain ⟨j, hj⟩ := List.getElem?_of_mem hy
  rcases Nat.lt_trichotomy i j with hlt | heq | hgt
  · have := h i j x y hi hj hlt; rw [he, sl_irr] at this; cases this
  · subst heq; rw [hi] at hj; injection hj
  · have := h j i y x hj hi hgt; rw [he, sl_irr] at this; cases this
theorem place_ex {L : List EMessage} (hr : Rising L) (t : ByteArray) : Place L t (placeN L t) := by
  have h1 : placeN L t ≤ L.length := by unfold placeN; exact (List.takeWhile_sublist _).length_le
  refine ⟨h1, fun k q hk hl => ?_, fun k q hk hl => ?_⟩
  · have hm : q ∈ L.takeWhile (fun q => sl q.t t) := by
      have hpre : L.takeWhile (fun q => sl q.t t) <+: L := List.takeWhile_prefix _
      obtain ⟨s, hs⟩ := hpre
      have : (L.takeWhile (fun q => sl q.t t))[k]? = some q := by
        rw [← hs, List.getElem?_append_left (by unfold placeN at hl; exact hl)] at hk
        exact hk
      exact List.mem_of_getElem? this
    have := List.all_takeWhile (p := fun q : EMessage => sl q.t t) (l := L)
    exact List.all_eq_true.1 this q hm
  · have hlt : placeN L t < L.length := by have := (List.getElem?_eq_some_iff.1 hk).1; omega
    have hdw : ∃ y, L[placeN L t]? = some y ∧ sl y.t t = false := by
      have hne : L.dropWhile (fun q => sl q.t t) ≠ [] := by
        intro h
        have := congrArg List.length (List.takeWhile_append_dropWhile (p := fun q : EMessage => sl q.t t) (l := L))
        rw [h, List.append_nil] at this
        unfold placeN at hlt
        omega
      obtain ⟨y, r, hy⟩ := List.exists_cons_of_ne_nil hne
      refine ⟨y, ?_, ?_⟩
      · have hL := List.takeWhile_append_dropWhile (p := fun q : EMessage => sl q.t t) (l := L)
        rw [hy] at hL
        have h2 : (L.takeWhile (fun q => sl q.t t) ++ y :: r)[(L.takeWhile (fun q => sl q.t t)).length]? = some y := by
          rw [List.getElem?_append_right (Nat.le_refl _)]; simp
        rw [hL] at h2
        exact h2
      · have := List.head_dropWhile_not (p := fun q : EMessage => sl q.t t) (l := L) hne
        have hh : (L.dropWhile (fun q => sl q.t t)).head hne = y := by simp [hy]
        rw [hh] at this
        simpa using this
    obtain ⟨y, hy, hys⟩ := hdw
    rcases Nat.eq_or_lt_of_le hl with he | hgt
    · rw [← he, hy] at hk; injection hk with hk; rw [← hk]; exact hys
    · cases hs : sl q.t t with
      | false => rfl
      | true => have := sl_trans (hr _ _ y q hy hk hgt) hs; rw [hys] at this; cases this
theorem th_none {L : List EMessage} (hr : Rising L) {t : ByteArray} (h : thB L t = false) : ∀ y ∈ L, y.t ≠ t := by
  intro y hy he
  obtain ⟨k, hk⟩ := List.getElem?_of_mem hy
  have hp := place_ex hr t
  have hkp : k = placeN L t := by
    rcases Nat.lt_trichotomy k (placeN L t) with h1 | h1 | h1
    · have := hp.low k y hk h1; rw [he, sl_irr] at this; cases this
    · exact h1
    · have hlt : placeN L t < L.length := by have := (List.getElem?_eq_some_iff.1 hk).1; omega
      have hz := List.getElem?_eq_getElem hlt
      have h2 := hr _ k _ y hz hk h1
      rw [he, hp.high _ _ hz (Nat.le_refl _)] at h2; cases h2
  unfold thB thereB at h
  rw [← hkp, hk] at h
  exact (of_decide_eq_false h) he
/-- What stays when a topic is taken out. -/
theorem out_facts {L : List EMessage} (h : keptB L = true) (t : ByteArray) : keptB (outL L t) = true ∧ Place (outL L t) t (placeN L t) ∧ (∀ y ∈ outL L t, y.t ≠ t) ∧ (∀ y ∈ L, y.t = t ∨ y ∈ outL L t) ∧ (∀ y ∈ outL L t, y ∈ L) ∧ (outL L t).length ≤ L.length ∧ (thB L t = true → (outL L t).length + 1 = L.length) := by
  have hr := kept_rising h
  have h16 := (kept_parts h).1
  have hp := place_ex hr t
  unfold outL
  cases ht : thB L t with
  | false =>
    rw [if_neg Bool.false_ne_true]
    exact ⟨h, hp, th_none hr ht, fun y hy => .inr hy, fun y hy => hy, Nat.le_refl _, fun h => by cases h⟩
  | true =>
    rw [if_pos rfl]
    have hlt := thB_lt ht
    obtain ⟨x, hx⟩ : ∃ x, L[placeN L t]? = some x := ⟨_, List.getElem?_eq_getElem hlt⟩
    have hxt : x.t = t := by unfold thB thereB at ht; rw [hx] at ht; exact of_decide_eq_true ht
    have hlen : (L.eraseIdx (placeN L t)).length + 1 = L.length := by rw [List.length_eraseIdx, if_pos hlt]; omega
    have hre : Rising (L.eraseIdx (placeN L t)) := by
      intro a b p q hpa hqb hab
      rw [List.getElem?_eraseIdx] at hpa hqb
      by_cases h1 : a < placeN L t
      · rw [if_pos h1] at hpa
        by_cases h2 : b < placeN L t
        · rw [if_pos h2] at hqb; exact hr a b p q hpa hqb hab
        · rw [if_neg h2] at hqb; exact hr a (b + 1) p q hpa hqb (by omega)
      · rw [if_neg h1] at hpa
        rw [if_neg (by omega)] at hqb
        exact hr (a + 1) (b + 1) p q hpa hqb (by omega)
    have hne : ∀ y ∈ L.eraseIdx (placeN L t), y.t ≠ t := by
      intro y hy he
      obtain ⟨k, hk⟩ := List.getElem?_of_mem hy
      rw [List.getElem?_eraseIdx] at hk
      split at hk
      · have := hr k _ y x hk hx (by assumption); rw [he, hxt, sl_irr] at this; cases this
      · have := hr _ (k + 1) x y hx hk (by omega); rw [he, hxt, sl_irr] at this; cases this
    refine ⟨kept_mk (by omega) (fun y hy => kept_all h y (List.mem_of_mem_eraseIdx hy)) hre, ⟨by omega, fun k q hk hl => ?_, fun k q hk hl => ?_⟩, hne, fun y hy => ?_, fun y hy => List.mem_of_mem_eraseIdx hy, by omega, fun _ => hlen⟩
    · rw [List.getElem?_eraseIdx, if_pos hl] at hk; exact hp.low k q hk hl
    · rw [List.getElem?_eraseIdx, if_neg (by omega)] at hk; exact hp.high (k + 1) q hk (by omega)
    · obtain ⟨k, hk⟩ := List.getElem?_of_mem hy
      rcases Nat.lt_trichotomy k (placeN L t) with h1 | h1 | h1
      · right
        refine List.mem_of_getElem? (i := k) ?_
        rw [List.getElem?_eraseIdx, if_pos h1]; exact hk
      · left; rw [h1, hx] at hk; injection hk with hk; rw [← hk]; exact hxt
      · right
        refine List.mem_of_getElem? (i := k - 1) ?_
        rw [List.getElem?_eraseIdx, if_neg (by omega), show k - 1 + 1 = k by omega]; exact hk
/-- What a list is with one said. -/
theorem put_facts {L : List EMessage} (h : keptB L = true) {x : EMessage} (hx : msgB x = true) (hf : (!noneB x && !thB L x.t && decide (L.length = 16)) = false) :
    keptB (putL L x) = true ∧ (∀ y ∈ L, y.t = x.t ∨ y ∈ putL L x) ∧ (∀ y ∈ putL L x, y.t = x.t → y = x ∧ noneB x = false) ∧ (noneB x = false → x ∈ putL L x) := by
  obtain ⟨g1, g2, g3, g4, g5, g6, g7⟩ := out_facts h x.t
  have h16 := (kept_parts h).1
  have hr := kept_rising g1
  unfold putL
  cases hN : noneB x with
  | true =>
    rw [if_pos rfl]
    exact ⟨g1, g4, fun y hy he => (g3 y hy he).elim, fun h => by cases h⟩
  | false =>
    rw [if_neg Bool.false_ne_true]
    have hlen : (outL L x.t).length < 16 := by
      rw [hN] at hf
      cases ht : thB L x.t with
      | true => have := g7 ht; omega
      | false => rw [ht] at hf; have : ¬ L.length = 16 := by intro h; rw [h] at hf; simp at hf
                 omega
    generalize outL L x.t = X at *
    generalize placeN L x.t = i at *
    have hl1 : (X.take i).length = i := by rw [List.length_take]; have := g2.le; omega
    have hfront : ∀ q ∈ X.take i, sl q.t x.t = true := by
      intro q hq
      obtain ⟨k, hk⟩ := List.getElem?_of_mem hq
      rw [List.getElem?_take] at hk
      split at hk
      · exact g2.low k q hk (by assumption)
      · cases hk
    have hback : ∀ q ∈ X.drop i, sl x.t q.t = true := by
      intro q hq
      obtain ⟨k, hk⟩ := List.getElem?_of_mem hq
      rw [List.getElem?_drop] at hk
      have h1 := g2.high _ q hk (by omega)
      rcases sl_tri q.t x.t with h2 | h2 | h2
      · rw [h1] at h2; cases h2
      · exact (g3 q (List.mem_of_getElem? hk) h2).elim
      · exact h2
    have hmem : ∀ y, y ∈ X.take i ++ x :: X.drop i ↔ y = x ∨ y ∈ X := by
      intro y
      rw [List.mem_append, List.mem_cons]
      constructor
      · rintro (h | h | h)
        · exact .inr (List.mem_of_mem_take h)
        · exact .inl h
        · exact .inr (List.mem_of_mem_drop h)
      · rintro (h | h)
        · exact .inr (.inl h)
        · have : y ∈ X.take i ++ X.drop i := by rw [List.take_append_drop]; exact h
          rcases List.mem_append.1 this with h | h
          · exact .inl h
          · exact .inr (.inr h)
    refine ⟨kept_mk (by rw [List.length_append, List.length_cons, hl1, List.length_drop]; have := g2.le; omega) (fun y hy => ?_) ?_, fun y hy => ?_, fun y hy he => ?_, fun _ => (hmem x).2 (.inl rfl)⟩
    · rcases (hmem y).1 hy with rfl | hy
      · exact ⟨hx, hN⟩
      · exact kept_all g1 y hy
    · intro a b p q hpa hqb hab
      have hr2 : Rising (x :: X.drop i) := rising_cons hback (rising_drop hr i)
      rcases Nat.lt_or_ge a i with h1 | h1
      · rw [List.getElem?_append_left (by omega)] at hpa
        have hpt := hpa
        rw [List.getElem?_take, if_pos h1] at hpt
        rcases Nat.lt_or_ge b i with h2 | h2
        · rw [List.getElem?_append_left (by omega), List.getElem?_take, if_pos h2] at hqb
          exact hr a b p q hpt hqb hab
        · rw [List.getElem?_append_right (by omega)] at hqb
          have hpx := hfront p (List.mem_of_getElem? hpa)
          rcases List.mem_cons.1 (List.mem_of_getElem? hqb) with rfl | hq
          · exact hpx
          · exact sl_trans hpx (hback q hq)
      · rw [List.getElem?_append_right (by omega)] at hpa hqb
        exact hr2 _ _ p q hpa hqb (by omega)
    · rcases g4 y hy with h | h
      · exact .inl h
      · exact .inr ((hmem y).2 (.inr h))
    · rcases (hmem y).1 hy with rfl | hy
      · exact ⟨rfl, rfl⟩
      · exact (g3 y hy he).elim
/-- How many have that topic. -/
def cntN (L : List EMessage) (t : ByteArray) : Nat := L.countP (fun y => y.t.toList == t.toList)
theorem cnt_one {L : List EMessage} (hr : Rising L) {x : EMessage} (hx : x ∈ L) : cntN L x.t = 1 := by
  unfold cntN
  obtain ⟨i, hi⟩ := List.getElem?_of_mem hx
  have hlt := (List.getElem?_eq_some_iff.1 hi).1
  have hz : ∀ y, y ∈ L.take i ∨ y ∈ L.drop (i + 1) → (y.t.toList == x.t.toList) = false := by
    intro y hy
    refine beq_eq_false_iff_ne.2 fun e => ?_
    have he := toL_inj e
    rcases hy with hy | hy
    · obtain ⟨k, hk⟩ := List.getElem?_of_mem hy
      rw [List.getElem?_take] at hk
      split at hk
      · have := hr k i y x hk hi (by assumption); rw [he, sl_irr] at this; cases this
      · cases hk
    · obtain ⟨k, hk⟩ := List.getElem?_of_mem hy
      rw [List.getElem?_drop] at hk
      have := hr i _ x y hi hk (by omega); rw [he, sl_irr] at this; cases this
  have hL : L = L.take i ++ x :: L.drop (i + 1) := by
    have h2 : L[i] = x := by rw [List.getElem?_eq_getElem hlt] at hi; exact Option.some.inj hi
    rw [← h2, ← List.drop_eq_getElem_cons hlt, List.take_append_drop]
  rw [hL, List.countP_append, List.countP_cons_of_pos (by simp)]
  rw [List.countP_eq_zero.2 (fun y hy => by rw [hz y (.inl hy)]; exact Bool.false_ne_true), List.countP_eq_zero.2 (fun y hy => by rw [hz y (.inr hy)]; exact Bool.false_ne_true)]
theorem cnt_zero {L : List EMessage} {t : ByteArray} (h : ∀ y ∈ L, y.t ≠ t) : cntN L t = 0 := by
  unfold cntN
  exact List.countP_eq_zero.2 fun y hy e => h y hy (toL_inj (eq_of_beq e))
theorem msg_name {x : EMessage} (h : msgB x = true) : nameB x.t.data.toList = true := by
  unfold msgB at h
  rw [Bool.and_eq_true] at h
  exact h.1
/-- Asked by its own topic. -/
theorem own_hit {L : List EMessage} (h : keptB L = true) {x : EMessage} (hx : x ∈ L) : matchR L x.t = ([x], 0) := by
  have hn := msg_name (kept_all h x hx).1
  have hr := kept_rising h
  unfold matchR
  rw [h, self_filt hn]
  simp only [Bool.and_self, if_true]
  congr 1
  have hit : ∀ y ∈ L, hitB x.t y = (y.t.toList == x.t.toList) := by
    intro y hy
    unfold hitB
    rw [self_match hn _ (msg_name (kept_all h y hy).1)]
    by_cases he : y.t = x.t
    · rw [he]; simp
    · rw [beq_eq_false_iff_ne.2 (fun e => he (toL_inj e)), decide_eq_false]
      intro e
      exact he (ByteArray.ext (Array.toList_inj.1 e.symm))
  rw [List.filter_congr hit]
  have h1 := cnt_one hr hx
  unfold cntN at h1
  rw [List.countP_eq_length_filter] at h1
  obtain ⟨y, hy⟩ := List.length_eq_one_iff.1 h1
  have hm : x ∈ L.filter (fun y => y.t.toList == x.t.toList) := List.mem_filter.2 ⟨hx, by simp⟩
  rw [hy] at hm ⊢
  rw [List.mem_singleton.1 hm]
/-- Does a topic begin with the dollar? -/
def dolB (x : EMessage) : Bool := x.t.data.toList.head? == some 36
theorem hash_hit {L : List EMessage} (h : keptB L = true) : matchR L ⟨#[35]⟩ = (L.filter (fun x => !dolB x), 0) := by
  unfold matchR
  rw [h, show filtB (⟨#[35]⟩ : ByteArray).data.toList = true by decide +kernel]
  simp only [Bool.and_self, if_true]
  congr 1
  refine List.filter_congr fun x hx => ?_
  unfold hitB dolB
  exact (self_hash (msg_name (kept_all h x hx).1)).2
theorem dol_len (L : List EMessage) : (L.filter (fun x => !dolB x)).length + L.countP dolB = L.length := by
  induction L with
  | nil => rfl
  | cons a r ih =>
    cases hd : dolB a with
    | true => rw [List.filter_cons_of_neg (by simp [hd]), List.countP_cons_of_pos hd, List.length_cons]; omega
    | false => rw [List.filter_cons_of_pos (by simp [hd]), List.countP_cons_of_neg (by simp [hd]), List.length_cons, List.length_cons]; omega
theorem messagesEq (t1 : ByteArray) (p1 : ByteArray) (q1 : Int) (r1 : Bool) (t2 : ByteArray) (p2 : ByteArray) (q2 : Int) (r2 : Bool) (w : World) : (binOp .eql 60 (.agg #[.string t1, .string p1, .int .i64 q1, .bool r1]) (.agg #[.string t2, .string p2, .int .i64 q2, .bool r2])).run Tryd.prog w = .ok (.bool ((t1.toList == t2.toList) && (p1.toList == p2.toList) && (q1 == q2) && (r1 == r2))) w := by
  rw [run_eql_struct, show (10000 : Nat) = 9999 + 1 from rfl, run_equalIn_agg w 9999 _ _ _ (by kernel_rfl) (by kernel_rfl)]
  simp [go_sem, Program.fieldsOf, Tryd.underlying60, Op.eqFields, part, Tryd.underlying4, Tryd.underlying3, Tryd.underlying9]
  by_cases h0 : t1.toList = t2.toList <;> by_cases h1 : p1.toList = p2.toList <;> by_cases h2 : q1 = q2 <;> by_cases h3 : r1 = r2 <;> simp [*]
theorem messagesGuardE (x y : Operand) (xs ys : Array Value) (w : World) : (eqGuard .eql 60 x y (.agg xs) (.agg ys)).run Tryd.prog w = .ok () w := run_eqGuard_agg w .eql _ x y xs ys (by kernel_rfl)
end Go.Proofs.YtoibdhncfdjdoaaDoor
