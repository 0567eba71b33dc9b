/-
  Who wants what: the mathematics of SubsOrders.
-/
import Derived.Test.YtoibdhncfdjdoaaDoorSuH
namespace Go.Proofs.YtoibdhncfdjdoaaDoor
open Go.RowKit Go.Lib
theorem subs_mk {L : List EWish} (h1 : L.length ≤ 16) (h2 : ∀ x ∈ L, wishB x = true) (h3 : Rising L) : subsB L = true := by
  refine subs_good h1 fun k hk => ?_
  obtain ⟨x, hx⟩ : ∃ x, L[k]? = some x := ⟨_, List.getElem?_eq_getElem hk⟩
  cases k with
  | zero => rw [okAt_zero hx]; exact h2 x (List.mem_of_getElem? hx)
  | succ j =>
    obtain ⟨p, hp⟩ : ∃ p, L[j]? = some p := ⟨_, List.getElem?_eq_getElem (by omega)⟩
    rw [okAt_succ hp hx, h2 x (List.mem_of_getElem? hx), h3 j (j + 1) p x hp hx (by omega)]; rfl
theorem subs_all {L : List EWish} (h : subsB L = true) : ∀ x ∈ L, wishB x = true := by
  intro x hx
  obtain ⟨j, hj⟩ := List.getElem?_of_mem hx
  exact subs_wish h hj
theorem rising_cons {a : EWish} {T : List EWish} (h1 : ∀ q ∈ T, sl a.f q.f = true) (h2 : Rising T) : Rising (a :: T) := by
  intro i j p q hp hq hij
  cases j with
  | zero => omega
  | succ j =>
    rw [List.getElem?_cons_succ] at hq
    cases i with
    | zero => rw [List.getElem?_cons_zero] at hp; injection hp with hp; subst hp; exact h1 q (List.mem_of_getElem? hq)
    | succ i => rw [List.getElem?_cons_succ] at hp; exact h2 i j p q hp hq (by omega)
theorem rising_drop {L : List EWish} (h : Rising L) (k : Nat) : Rising (L.drop k) := by
  intro i j p q hp hq hij
  rw [List.getElem?_drop] at hp hq
  exact h _ _ p q hp hq (by omega)
theorem rising_head {L : List EWish} (h : Rising L) {i : Nat} {x : EWish} (hx : L[i]? = some x) : ∀ q ∈ L.drop (i + 1), sl x.f q.f = true := by
  intro q hq
  obtain ⟨j, hj⟩ := List.getElem?_of_mem hq
  rw [List.getElem?_drop] at hj
  exact h i _ x q hx hj (by omega)
theorem place_front {T : List EWish} {t : ByteArray} (h : ∀ q ∈ T, sl t q.f = true) : placeN T t = 0 ∧ thB T t = false := by
  have hp : placeN T t = 0 := place_eq ⟨Nat.zero_le _, fun k q _ hk => by omega, fun k q hk _ => sl_asym (h q (List.mem_of_getElem? hk))⟩
  refine ⟨hp, ?_⟩
  unfold thB thereB
  rw [hp]
  cases T with
  | nil => rfl
  | cons q r => exact decide_eq_false (fun e => by have := h q (by simp); rw [e, sl_irr] at this; cases this)
theorem drop_cons {L : List EWish} {i : Nat} {x : EWish} (hx : L[i]? = some x) : L.drop i = x :: L.drop (i + 1) := by
  have hlt := (List.getElem?_eq_some_iff.1 hx).1
  rw [List.drop_eq_getElem_cons hlt]
  congr 1
  rw [List.getElem?_eq_getElem hlt] at hx
  exact Option.some.inj hx
theorem subs_drop {L : List EWish} (h : subsB L = true) (k : Nat) : subsB (L.drop k) = true :=
  subs_mk (by have := (subs_parts h).1; rw [List.length_drop]; omega) (fun x hx => subs_all h x (List.mem_of_mem_drop hx)) (rising_drop (subs_rising h) k)
/-- Another QoS, the same filter. -/
theorem ord_add1 {S : List EWish} (h : subsB S = true) {i : Nat} {x : EWish} (hx : S[i]? = some x) {q : Int} (hq : 0 ≤ q ∧ q ≤ 2) : addR (S.drop (i + 1)) ⟨x.f, q⟩ = (⟨x.f, q⟩ :: S.drop (i + 1), 0) := by
  have hw : wishB ⟨x.f, q⟩ = true := by
    have := subs_wish h hx
    unfold wishB at this ⊢
    rw [Bool.and_eq_true] at this
    rw [this.1, Bool.true_and, Bool.and_eq_true, decide_eq_true_eq, decide_eq_true_eq]
    exact hq
  obtain ⟨h1, h2⟩ := place_front (rising_head (subs_rising h) hx)
  have hlt := (List.getElem?_eq_some_iff.1 hx).1
  have h16 := (subs_parts h).1
  have hne : ¬ (S.drop (i + 1)).length = 16 := by rw [List.length_drop]; omega
  unfold addR addL
  rw [subs_drop h, hw]
  simp only [h2, h1, hne, Bool.and_self, if_true, Bool.false_eq_true, if_false, List.take_zero, List.nil_append, List.drop_zero]
theorem ord_ok1 {S : List EWish} (h : subsB S = true) {i : Nat} {x : EWish} (hx : S[i]? = some x) {q : Int} (hq : 0 ≤ q ∧ q ≤ 2) : subsB (⟨x.f, q⟩ :: S.drop (i + 1)) = true := by
  have hw : wishB ⟨x.f, q⟩ = true := by
    have := subs_wish h hx
    unfold wishB at this ⊢
    rw [Bool.and_eq_true] at this
    rw [this.1, Bool.true_and, Bool.and_eq_true, decide_eq_true_eq, decide_eq_true_eq]
    exact hq
  have hlt := (List.getElem?_eq_some_iff.1 hx).1
  have h16 := (subs_parts h).1
  refine subs_mk (by rw [List.length_cons, List.length_drop]; omega) (fun y hy => ?_) (rising_cons (fun y hy => show sl x.f y.f = true from rising_head (subs_rising h) hx y hy) (rising_drop (subs_rising h) _))
  rcases List.mem_cons.1 hy with rfl | hy
  · exact hw
  · exact subs_all h y (List.mem_of_mem_drop hy)
theorem ord_add2 {S : List EWish} (h : subsB S = true) {i : Nat} {x : EWish} (hx : S[i]? = some x) {q : Int} (hq : 0 ≤ q ∧ q ≤ 2) : addR (⟨x.f, q⟩ :: S.drop (i + 1)) x = (S.drop i, 0) := by
  have hp : placeN (⟨x.f, q⟩ :: S.drop (i + 1)) x.f = 0 := by
    unfold placeN
    rw [List.takeWhile_cons_of_neg (p := fun q : EWish => sl q.f x.f) (by rw [sl_irr]; exact Bool.false_ne_true)]; rfl
  have ht : thB (⟨x.f, q⟩ :: S.drop (i + 1)) x.f = true := by unfold thB thereB; rw [hp]; exact decide_eq_true rfl
  unfold addR addL
  rw [ord_ok1 h hx hq, subs_wish h hx]
  simp only [ht, hp, Bool.and_self, if_true, List.set_cons_zero]
  rw [drop_cons hx]
theorem place_self {S : List EWish} (h : subsB S = true) {i : Nat} {x : EWish} (hx : S[i]? = some x) : placeN S x.f = i ∧ thB S x.f = true := by
  have hr := subs_rising h
  have hp : placeN S x.f = i := place_eq ⟨Nat.le_of_lt (List.getElem?_eq_some_iff.1 hx).1, fun k q hk hl => hr k i q x hk hx hl, fun k q hk hl => by
    rcases Nat.lt_or_ge i k with h2 | h2
    · exact sl_asym (hr i k x q hx hk h2)
    · obtain rfl : k = i := by omega
      rw [hx] at hk; injection hk with hk; rw [hk]; exact sl_irr _⟩
  refine ⟨hp, ?_⟩
  unfold thB thereB
  rw [hp, hx]
  exact decide_eq_true rfl
theorem subs_erase {S : List EWish} (h : subsB S = true) (i : Nat) : subsB (S.eraseIdx i) = true := by
  refine subs_mk (by have := List.length_eraseIdx_le S i; have := (subs_parts h).1; omega) (fun x hx => subs_all h x (List.mem_of_mem_eraseIdx hx)) ?_
  intro a b p q hp hq hab
  have hr := subs_rising h
  rw [List.getElem?_eraseIdx] at hp hq
  by_cases h1 : a < i
  · rw [if_pos h1] at hp
    by_cases h2 : b < i
    · rw [if_pos h2] at hq; exact hr a b p q hp hq hab
    · rw [if_neg h2] at hq; exact hr a (b + 1) p q hp hq (by omega)
  · rw [if_neg h1] at hp
    rw [if_neg (by omega)] at hq
    exact hr (a + 1) (b + 1) p q hp hq (by omega)
theorem ord_drop1 {S : List EWish} (h : subsB S = true) {i : Nat} {x : EWish} (hx : S[i]? = some x) : dropR S x.f = (S.eraseIdx i, 0) := by
  obtain ⟨h1, h2⟩ := place_self h hx
  unfold dropR
  rw [h, h2, h1]; rfl
theorem place_gone {S : List EWish} (h : subsB S = true) {i : Nat} {x : EWish} (hx : S[i]? = some x) : placeN (S.eraseIdx i) x.f = i ∧ thB (S.eraseIdx i) x.f = false := by
  have hr := subs_rising h
  have hlt := (List.getElem?_eq_some_iff.1 hx).1
  have hp : placeN (S.eraseIdx i) x.f = i := place_eq ⟨by rw [List.length_eraseIdx, if_pos hlt]; omega, fun k q hk hl => by
    rw [List.getElem?_eraseIdx, if_pos hl] at hk; exact hr k i q x hk hx hl, fun k q hk hl => by
    rw [List.getElem?_eraseIdx, if_neg (by omega)] at hk; exact sl_asym (hr i (k + 1) x q hx hk (by omega))⟩
  refine ⟨hp, ?_⟩
  unfold thB thereB
  rw [hp, List.getElem?_eraseIdx, if_neg (by omega)]
  cases hq : S[i + 1]? with
  | none => rfl
  | some q => exact decide_eq_false (fun e => by have := hr i (i + 1) x q hx hq (by omega); rw [e, sl_irr] at this; cases this)
theorem ord_drop2 {S : List EWish} (h : subsB S = true) {i : Nat} {x : EWish} (hx : S[i]? = some x) : dropR (S.eraseIdx i) x.f = ([], 3) := by
  obtain ⟨h1, h2⟩ := place_gone h hx
  unfold dropR
  rw [subs_erase h i, h2]; rfl
theorem ord_add3 {S : List EWish} (h : subsB S = true) {i : Nat} {x : EWish} (hx : S[i]? = some x) : addR (S.eraseIdx i) x = (S, 0) := by
  obtain ⟨h1, h2⟩ := place_gone h hx
  have hlt := (List.getElem?_eq_some_iff.1 hx).1
  have h16 := (subs_parts h).1
  have hne : ¬ (S.eraseIdx i).length = 16 := by rw [List.length_eraseIdx, if_pos hlt]; omega
  unfold addR addL
  rw [subs_erase h i, subs_wish h hx]
  simp only [h2, h1, hne, Bool.and_self, if_true, Bool.false_eq_true, if_false]
  congr 1
  rw [List.eraseIdx_eq_take_drop_succ, List.take_left' (by rw [List.length_take]; omega), List.drop_left' (by rw [List.length_take]; omega), ← drop_cons hx, List.take_append_drop]
/-- The list with a wish more is one that may be. -/
theorem subs_addL {L : List EWish} (h : subsB L = true) {x : EWish} (hx : wishB x = true) (hl : thB L x.f = true ∨ L.length < 16) {i : Nat} (hp : Place L x.f i) : subsB (addL L x) = true ∧ (∀ y ∈ L, y.f ∈ (addL L x).map (·.f)) ∧ x.f ∈ (addL L x).map (·.f) ∧ (addL L x).length ≤ 16 := by
  have h16 := (subs_parts h).1
  have hr := subs_rising h
  have hpi := place_eq hp
  unfold addL
  cases ht : thB L x.f with
  | true =>
    have hlt := thB_lt ht
    rw [if_pos rfl]
    rw [hpi] at hlt ⊢
    obtain ⟨y0, hy0⟩ : ∃ y, L[i]? = some y := ⟨_, List.getElem?_eq_getElem hlt⟩
    have hyf : y0.f = x.f := by
      unfold thB thereB at ht
      rw [hpi, hy0] at ht
      exact of_decide_eq_true ht
    have hmap : (L.set i x).map (·.f) = L.map (·.f) := by
      rw [List.map_set]
      refine List.ext_getElem? fun k => ?_
      rw [List.getElem?_set]
      by_cases hk : i = k
      · subst hk; rw [if_pos rfl, List.getElem?_map, hy0]; simp [hyf, hlt]
      · rw [if_neg hk]
    refine ⟨subs_mk (by rw [List.length_set]; exact h16) (fun y hy => ?_) ?_, fun y hy => by rw [hmap]; exact List.mem_map_of_mem hy, by rw [hmap, ← hyf]; exact List.mem_map_of_mem (List.mem_of_getElem? hy0), by rw [List.length_set]; exact h16⟩
    · rcases List.mem_or_eq_of_mem_set hy with hy | rfl
      · exact subs_all h y hy
      · exact hx
    · have hkey : ∀ (k : Nat) (p : EWish), (L.set i x)[k]? = some p → ∃ p' : EWish, L[k]? = some p' ∧ p'.f = p.f := by
        intro k p hk
        have : ((L.set i x).map (·.f))[k]? = some p.f := by rw [List.getElem?_map, hk]; rfl
        rw [hmap, List.getElem?_map] at this
        obtain ⟨p', h1, h2⟩ := Option.map_eq_some_iff.1 this
        exact ⟨p', h1, h2⟩
      intro a b p q hpa hqb hab
      obtain ⟨p', h1, h2⟩ := hkey a p hpa
      obtain ⟨q', h3, h4⟩ := hkey b q hqb
      rw [← h2, ← h4]
      exact hr a b p' q' h1 h3 hab
  | false =>
    rw [if_neg Bool.false_ne_true]
    have hlen : L.length < 16 := by rcases hl with h | h; · rw [ht] at h; cases h
                                    · exact h
    rw [hpi]
    have hil := hp.le
    have hl1 : (L.take i).length = i := by rw [List.length_take]; omega
    have hfront : ∀ q ∈ L.take i, sl q.f x.f = true := by
      intro q hq
      obtain ⟨k, hk⟩ := List.getElem?_of_mem hq
      rw [List.getElem?_take] at hk
      split at hk
      · exact hp.low k q hk (by assumption)
      · cases hk
    have hback : ∀ q ∈ L.drop i, sl x.f q.f = true := by
      intro q hq
      obtain ⟨k, hk⟩ := List.getElem?_of_mem hq
      rw [List.getElem?_drop] at hk
      have h1 := hp.high _ q hk (by omega)
      rcases sl_tri q.f x.f with h2 | h2 | h2
      · rw [h1] at h2; cases h2
      · exfalso
        -- the first one behind the place is another
        have hlt : i < L.length := by have := (List.getElem?_eq_some_iff.1 hk).1; omega
        obtain ⟨y0, hy0⟩ : ∃ y, L[i]? = some y := ⟨_, List.getElem?_eq_getElem hlt⟩
        have hy : y0.f ≠ x.f := by
          unfold thB thereB at ht
          rw [hpi, hy0] at ht
          exact of_decide_eq_false ht
        have hge := hp.high i y0 hy0 (Nat.le_refl _)
        rcases Nat.eq_zero_or_pos k with hk0 | hk0
        · subst hk0
          rw [Nat.add_zero, hy0] at hk
          injection hk with hk
          exact hy (by rw [hk]; exact h2)
        · have := hr i (i + k) y0 q hy0 hk (by omega)
          rw [h2, hge] at this; cases this
      · exact h2
    refine ⟨subs_mk (by rw [List.length_append, List.length_cons, hl1, List.length_drop]; omega) (fun y hy => ?_) ?_, fun y hy => ?_, by simp, by rw [List.length_append, List.length_cons, hl1, List.length_drop]; omega⟩
    · rcases List.mem_append.1 hy with hy | hy
      · exact subs_all h y (List.mem_of_mem_take hy)
      · rcases List.mem_cons.1 hy with rfl | hy
        · exact hx
        · exact subs_all h y (List.mem_of_mem_drop hy)
    · intro a b p q hpa hqb hab
      have hr2 : Rising (x :: L.drop i) := rising_cons hback (rising_drop hr i)
      rcases Nat.lt_or_ge a i with h1 | h1
      · rw [List.getElem?_append_left (by omega)] at hpa
        have hpt := hpa
        rw [List.getElem?_take, if_pos h1] at hpt
        rcases Nat.lt_or_ge b i with h2 | h2
        · rw [List.getElem?_append_left (by omega), List.getElem?_take, if_pos h2] at hqb
          exact hr a b p q hpt hqb hab
        · rw [List.getElem?_append_right (by omega)] at hqb
          have hpx := hfront p (List.mem_of_getElem? hpa)
          rcases List.mem_cons.1 (List.mem_of_getElem? hqb) with rfl | hq
          · exact hpx
          · exact sl_trans hpx (hback q hq)
      · rw [List.getElem?_append_right (by omega)] at hpa hqb
        exact hr2 _ _ p q hpa hqb (by omega)
    · have : y ∈ L.take i ++ L.drop i := by rw [List.take_append_drop]; exact hy
      rw [List.map_append, List.map_cons]
      rcases List.mem_append.1 this with h | h
      · exact List.mem_append.2 (.inl (List.mem_map_of_mem h))
      · exact List.mem_append.2 (.inr (List.mem_cons_of_mem _ (List.mem_map_of_mem h)))
theorem pigeon : ∀ (n : Nat) (f : Nat → List UInt8) (L : List (List UInt8)), (∀ i, i < n → f i ∈ L) → (∀ i j, i < j → j < n → f i ≠ f j) → n ≤ L.length
  | 0, _, _, _, _ => Nat.zero_le _
  | n + 1, f, L, h1, h2 => by
    have hm := h1 n (by omega)
    have ih := pigeon n f (L.erase (f n)) (fun i hi => (List.mem_erase_of_ne (h2 i n hi (by omega))).2 (h1 i (by omega))) (fun i j hij hj => h2 i j hij (by omega))
    rw [List.length_erase_of_mem hm] at ih
    have := List.length_pos_of_mem hm
    omega
/-- The names that are tried in turn. -/
def zf (i : Nat) : ByteArray := (⟨#[122, 47]⟩ : ByteArray) ++ ⟨#[UInt8.ofNat (97 + i % 26), UInt8.ofNat (97 + i / 26 % 26)]⟩
theorem zf_data (i : Nat) : (zf i).data.toList = [122, 47, UInt8.ofNat (97 + i % 26), UInt8.ofNat (97 + i / 26 % 26)] := by
  unfold zf; rw [ByteArray.data_append, Array.toList_append]; rfl
theorem zf_ne (i j : Nat) (hij : i < j) (hj : j < 26) : (zf i).data.toList ≠ (zf j).data.toList := by
  rw [zf_data, zf_data]
  intro h
  injection h with _ h; injection h with _ h; injection h with h _
  have := congrArg UInt8.toNat h
  rw [UInt8.toNat_ofNat', UInt8.toNat_ofNat'] at this
  omega
theorem zf_tab : ((List.range 26).all fun a => (List.range 26).all fun b => filtB [122, 47, UInt8.ofNat (97 + a), UInt8.ofNat (97 + b)]) = true := by decide +kernel
theorem zf_wish (i : Nat) : wishB ⟨zf i, 0⟩ = true := by
  have h1 := List.all_eq_true.1 zf_tab (i % 26) (List.mem_range.2 (Nat.mod_lt _ (by decide)))
  have h2 := List.all_eq_true.1 h1 (i / 26 % 26) (List.mem_range.2 (Nat.mod_lt _ (by decide)))
  unfold wishB
  rw [zf_data, h2]; rfl
/-- One more. -/
def om (c : Nat) : ByteArray := ((⟨#[111, 110, 101, 47, 109, 111, 114, 101, 47]⟩ : ByteArray) ++ ⟨#[UInt8.ofNat (97 + c)]⟩) ++ ⟨#[47, 33, 63]⟩
theorem om_data (c : Nat) : (om c).data.toList = [111, 110, 101, 47, 109, 111, 114, 101, 47, UInt8.ofNat (97 + c), 47, 33, 63] := by
  unfold om; rw [ByteArray.data_append, ByteArray.data_append, Array.toList_append, Array.toList_append]; rfl
theorem om_tab : ((List.range 26).all fun a => filtB [111, 110, 101, 47, 109, 111, 114, 101, 47, UInt8.ofNat (97 + a), 47, 33, 63]) = true := by decide +kernel
theorem om_wish (c : Nat) (hc : c < 26) : wishB ⟨om c, 0⟩ = true := by
  have h1 := List.all_eq_true.1 om_tab c (List.mem_range.2 hc)
  unfold wishB
  rw [om_data, h1]; rfl
/-- Does a filter begin so? -/
def preB (f : ByteArray) : Bool := (f.extract 0 9).toList == (⟨#[111, 110, 101, 47, 109, 111, 114, 101, 47]⟩ : ByteArray).toList
def hitB (x : EWish) : Bool := decide (9 < x.f.size) && preB x.f
theorem om_hit (c : Nat) : decide (9 < (om c).size) = true ∧ preB (om c) = true := by
  constructor
  · rw [Lib.size_eq, om_data]; rfl
  · unfold preB
    rw [Lib.extract_toList, om_data, Lib.toList_data]; rfl
end Go.Proofs.YtoibdhncfdjdoaaDoor
