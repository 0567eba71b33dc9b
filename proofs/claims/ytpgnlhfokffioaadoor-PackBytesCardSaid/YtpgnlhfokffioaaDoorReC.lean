/-
  Pieces of a stream: as code and page reckon: the mathematics.
-/
import Derived.Test.YtpgnlhfokffioaaDoorReB
namespace Go.Proofs.YtpgnlhfokffioaaDoor
/-- The reference's place of a byte, going round. -/
theorem ref_at (next seq : Int) (k : Nat) (hk : k < 65536) (W : Win) (hW : W.length = 2048) (x : UInt8) :
    (∀ p : Nat, (offv seq next + k) % 4294967296 = p → p < 2048 → diffv seq next + k = p) ∧ (2048 ≤ (offv seq next + k) % 4294967296 → lay1 W (diffv seq next + k) x = W) := by
  have h1 := offv_bd seq next
  have h2 := diff_off (a := seq) (b := next)
  have h3 := diff_off2 (a := seq) (b := next)
  refine ⟨fun p hp hl => ?_, fun h => ?_⟩
  · by_cases h : offv seq next < 2147483648
    · rw [h2 h]; omega
    · rw [h3 (by omega)]; omega
  · unfold lay1
    rw [if_neg]
    rw [hW]
    by_cases h : offv seq next < 2147483648
    · rw [h2 h]; omega
    · rw [h3 (by omega)]; omega
/-- A part's place in the reference's window. -/
theorem okP_head {next last : Int} {p : EP} {r : List EP} (h : okP next last (p :: r) = true) : 0 ≤ p.s ∧ p.s < 4294967296 ∧ 0 < p.d.length ∧ p.d.length ≤ 2048 ∧ last < offv p.s next ∧ offv p.s next < 2048 ∧ offv p.s next + p.d.length ≤ 2048 ∧ okP next (offv p.s next + p.d.length) r = true := by
  unfold okP at h
  rw [Bool.and_eq_true, decide_eq_true_eq] at h
  exact ⟨h.1.1, h.1.2.1, h.1.2.2.1, h.1.2.2.2.1, h.1.2.2.2.2.1, h.1.2.2.2.2.2.1, h.1.2.2.2.2.2.2, h.2⟩
theorem fillW_append (next : Int) (A B : List EP) (W : Win) : fillW next W (A ++ B) = fillW next (fillW next W A) B := List.foldl_append
theorem fillW_free (next : Int) : ∀ (A : List EP) (last : Int) (W : Win), W.length = 2048 → okP next last A = true → 0 ≤ last → last ≤ 2048 → Free W last → Free (fillW next W A) (endP next A last)
  | [], _, _, _, _, _, _, h => h
  | p :: r, last, W, hW, hok, h0, h1, h => by
    obtain ⟨-, -, -, -, h2, h3, h4, h5⟩ := okP_head hok
    have hd := diff_off (a := p.s) (b := next) (by omega)
    have hb := offv_bd p.s next
    refine fillW_free next r _ (layW W (diffv p.s next) p.d) (by rw [layW_len, hW]) h5 (by omega) (by omega) ?_
    refine free_layW p.d (free_mono h (by omega)) ?_
    rw [hd]; omega
/-- The next byte of a part falls on a free place. -/
theorem part_free {next : Int} {A : List EP} {p : EP} {k : Nat} {x : UInt8} (hA : okP next 0 A = true) (hp : okP next (endP next A 0) (p :: []) = true) (hk : p.d[k]? = some x) :
    ∃ o : Nat, offv p.s next = o ∧ o + k < 2048 ∧ (layW (fillW next win0 A) (diffv p.s next) (p.d.take k))[o + k]? = some none ∧ layW (fillW next win0 A) (diffv p.s next) (p.d.take (k + 1)) = (layW (fillW next win0 A) (diffv p.s next) (p.d.take k)).set (o + k) (some x) := by
  obtain ⟨-, -, -, -, h2, h3, h4, -⟩ := okP_head hp
  have hb := offv_bd p.s next
  have hkl := (List.getElem?_eq_some_iff.1 hk).1
  obtain ⟨o, ho⟩ := Int.eq_ofNat_of_zero_le hb.1
  have hd := diff_off (a := p.s) (b := next) (by omega)
  have he := okP_end next A 0 hA (by omega) (by omega)
  have hf := fillW_free next A 0 win0 win0_len hA (by omega) (by omega) free_win0
  have hl : (layW (fillW next win0 A) (diffv p.s next) (p.d.take k)).length = 2048 := by rw [layW_len, fillW_len, win0_len]
  have hfree : Free (layW (fillW next win0 A) (diffv p.s next) (p.d.take k)) ((o + k : Nat) : Int) := by
    refine free_layW _ (free_mono hf (by omega)) ?_
    rw [hd, List.length_take]; omega
  refine ⟨o, ho, by omega, hfree (o + k) (by omega) (by omega), ?_⟩
  rw [layW_take hk, hd, ho, show ((o : Int) + (k : Int)) = ((o + k : Nat) : Int) by omega]
  rw [hd, ho] at hfree hl
  exact lay1_free hfree (by omega) (by omega) x
/-- As the code asks whether a part lies within the window. -/
theorem inside_code (next seq : Int) (n : Nat) (hn : 0 ≤ next ∧ next < 4294967296) (hs : 0 ≤ seq ∧ seq < 4294967296) (h0 : 0 < n) (hl : n ≤ 2048) :
    (meetS next 2048 seq n = seq ∧ meetN next 2048 seq n = n) ↔ (offv seq next < 2048 ∧ offv seq next + n ≤ 2048) := by
  have hm := meet_code next 2048 seq n hn hs ⟨by omega, by omega⟩ ⟨by omega, by omega⟩
  have hb := offv_bd seq next
  have hd : diffv next seq = -offv seq next ∨ (2147483648 < offv seq next ∧ diffv next seq = 4294967296 - offv seq next) := by unfold diffv offv; omega
  generalize diffv next seq = g at *
  generalize offv seq next = o at *
  by_cases hc : min (g + 2048) (n : Int) ≤ max g 0
  · obtain ⟨e1, e2⟩ := hm.1 hc
    rw [e1, e2]
    constructor
    · rintro ⟨-, h⟩; omega
    · rintro ⟨h1, h2⟩; omega
  · obtain ⟨e1, e2⟩ := hm.2 (by omega)
    rw [e1, e2]
    constructor
    · rintro ⟨h1, h2⟩
      have hg : max g 0 = 0 := by omega
      omega
    · rintro ⟨h1, h2⟩
      have hg : max g 0 = 0 := by omega
      rw [hg]
      refine ⟨by unfold addv; omega, by omega⟩
/-- How far the code's runs have come. -/
def PcAt (W : Win) (at' : Nat) (t : List UInt8) (P : List (Nat × List UInt8)) : Prop :=
  (at' = 0 ∧ t = [] ∧ P = []) ∨ (0 < at' ∧ (at' = 2049 ∨ (at' ≤ 2048 ∧ W[at' - 1]? = some none)) ∧ toldN W < at' ∧ t = (W.take (toldN W)).map byt ∧ P = partsL W (min at' 2048))
theorem pc_end {W : Win} {at' : Nat} {t : List UInt8} {P : List (Nat × List UInt8)} (h : PcAt W at' t P) (hat : 2048 ≤ at') : t = (W.take (toldN W)).map byt ∧ P = partsL W 2048 := by
  rcases h with ⟨h, -, -⟩ | ⟨-, -, -, h1, h2⟩
  · omega
  · exact ⟨h1, by rw [h2, Nat.min_eq_right hat]⟩
theorem some_of {W : Win} {a : Nat} (hl : a < W.length) (h : W[a]? ≠ some none) : ∃ x, W[a]? = some (some x) := by
  rw [List.getElem?_eq_getElem hl] at h ⊢
  cases hx : W[a] with
  | none => exact (h (by rw [hx])).elim
  | some x => exact ⟨x, rfl⟩
theorem pc_step {W : Win} (hW : W.length = 2048) {at' a : Nat} {t : List UInt8} {P : List (Nat × List UInt8)} (h : PcAt W at' t P) (hat : at' < 2048) (ha : at' ≤ a) (hle : a ≤ 2048) (hall : ∀ j, at' ≤ j → j < a → ∃ x, W[j]? = some (some x)) (hend : a = 2048 ∨ W[a]? = some none) :
    PcAt W (a + 1) (if at' = 0 then ((W.drop at').take (a - at')).map byt else t) (if 0 < at' ∧ at' < a then P ++ [(at', ((W.drop at').take (a - at')).map byt)] else P) := by
  have hlast : partsL W (min (a + 1) 2048) = partsL W a := by
    rcases hend with rfl | he
    · rfl
    · have : a < 2048 := by
        have := (List.getElem?_eq_some_iff.1 he).1; omega
      rw [Nat.min_eq_left (by omega), parts_none he]
  have hs : a + 1 = 2049 ∨ (a + 1 ≤ 2048 ∧ W[a + 1 - 1]? = some none) := by
    rcases hend with rfl | he
    · exact .inl rfl
    · have := (List.getElem?_eq_some_iff.1 he).1
      exact .inr ⟨by omega, by simpa using he⟩
  rcases h with ⟨rfl, rfl, rfl⟩ | ⟨h0, h1, h2, rfl, rfl⟩
  · have ht : toldN W = a := toldN_eq (by omega) (fun i x hi hx => by obtain ⟨y, hy⟩ := hall i (by omega) hi; rw [hy] at hx; injection hx with hx; rw [← hx]; rfl) (fun x hx => by
      rcases hend with rfl | he
      · have := (List.getElem?_eq_some_iff.1 hx).1; omega
      · rw [he] at hx; injection hx with hx; rw [← hx]; rfl)
    refine .inr ⟨by omega, hs, by omega, ?_, ?_⟩
    · rw [if_pos rfl, ht, List.drop_zero, Nat.sub_zero]
    · rw [if_neg (by omega), hlast, parts_told (by omega)]
  · have h1' : W[at' - 1]? = some none := by
      rcases h1 with h1 | h1
      · omega
      · exact h1.2
    have hmin : min at' 2048 = at' := Nat.min_eq_left (by omega)
    refine .inr ⟨by omega, hs, by omega, by rw [if_neg (by omega)], ?_⟩
    rw [hlast, hmin]
    by_cases hlt : at' < a
    · rw [if_pos ⟨h0, hlt⟩]
      have := parts_run (W := W) (i := at') (by omega) (.inr h1') (a - at') (by omega) (fun j hj => hall (at' + j) (by omega) (by omega))
      rw [show at' + (a - at') = a by omega] at this
      exact this.symm
    · rw [if_neg (by omega), show a = at' by omega]
theorem parts_ne {W : Win} : ∀ (i : Nat), toldN W < i → (∃ y, W[i - 1]? = some (some y)) → partsL W i ≠ []
  | 0, h, _ => by omega
  | j + 1, h, hy => by
    obtain ⟨y, hy⟩ := hy
    have hy' : W[j]? = some (some y) := by simpa using hy
    have hl := (List.getElem?_eq_some_iff.1 hy').1
    have hlt : toldN W < j := by
      rcases Nat.lt_or_ge (toldN W) j with hh | hh
      · exact hh
      · have e : toldN W = j := by omega
        have := told_end (W := W) (x := some y) (by rw [e]; exact hy')
        cases this
    by_cases hp : W[j - 1]? = some none
    · rw [parts_first (by omega) hy' (.inr hp)]; simp
    · obtain ⟨z, hz⟩ := some_of (by omega : j - 1 < W.length) hp
      rw [parts_next (by omega) hy' (by omega) hz]
      intro he
      have h9 := snocLast_len (partsL W j) y
      rw [he] at h9
      exact parts_ne j hlt ⟨z, hz⟩ (List.eq_nil_of_length_eq_zero (by simpa using h9.symm))
/-- A byte more of the page's runs. -/
theorem page_step {W : Win} {i : Nat} {x : UInt8} (ht : toldN W ≤ i) (h : W[i]? = some (some x)) :
    (((i = 0 ∨ W[i - 1]? = some none) ∧ partsL W (i + 1) = partsL W i ++ [(i, [x])])) ∨ (i ≠ 0 ∧ (∃ y, W[i - 1]? = some (some y)) ∧ (∃ (A : List (Nat × List UInt8)) (n : Nat) (d : List UInt8), partsL W i = A ++ [(n, d)] ∧ partsL W (i + 1) = A ++ [(n, d ++ [x])])) := by
  by_cases h0 : i = 0
  · exact .inl ⟨.inl h0, parts_first ht h (.inl h0)⟩
  · have hl := (List.getElem?_eq_some_iff.1 h).1
    by_cases hp : W[i - 1]? = some none
    · exact .inl ⟨.inr hp, parts_first ht h (.inr hp)⟩
    · obtain ⟨y, hy⟩ := some_of (by omega : i - 1 < W.length) hp
      refine .inr ⟨h0, ⟨y, hy⟩, ?_⟩
      have hnx := parts_next ht h h0 hy
      have hlt : toldN W < i := by
        rcases Nat.lt_or_ge (toldN W) i with hh | hh
        · exact hh
        · have e : toldN W = i := by omega
          have := told_end (W := W) (x := some x) (by rw [e]; exact h)
          cases this
      have hne : partsL W i ≠ [] := parts_ne i hlt (some_of (by omega) hp)
      obtain ⟨A, p, hA⟩ := (List.eq_nil_or_concat (partsL W i)).resolve_left hne
      rw [List.concat_eq_append] at hA
      refine ⟨A, p.1, p.2, by rw [hA], ?_⟩
      rw [hnx, hA, snocLast_snoc]
end Go.Proofs.YtpgnlhfokffioaaDoor
