/-
  Pieces of a stream: what a buffer is, what is laid into its window: the mathematics.
-/
import Derived.Test.YtpgnlhfokffioaaDoorReA
import Derived.Test.YtpgnlhfokffioaaDoorSpanC
namespace Go.Proofs.YtpgnlhfokffioaaDoor
structure EP where
  s : Int
  d : List UInt8
def offv (a b : Int) : Int := (a - b) % 4294967296
theorem offv_bd (a b : Int) : 0 ≤ offv a b ∧ offv a b < 4294967296 := by unfold offv; omega
/-- Parts that may be, behind a number that was the last one's end. -/
def okP (next : Int) : Int → List EP → Bool
  | _, [] => true
  | last, p :: r => decide (0 ≤ p.s ∧ p.s < 4294967296 ∧ 0 < p.d.length ∧ p.d.length ≤ 2048 ∧ last < offv p.s next ∧ offv p.s next < 2048 ∧ offv p.s next + p.d.length ≤ 2048) && okP next (offv p.s next + p.d.length) r
def bufB (next : Int) (L : List EP) : Bool := decide (0 ≤ next ∧ next < 4294967296 ∧ L.length ≤ 8) && okP next 0 L
/-- The last one's end, behind some. -/
def endP (next : Int) : List EP → Int → Int
  | [], last => last
  | p :: r, _ => endP next r (offv p.s next + p.d.length)
theorem okP_append (next : Int) : ∀ (A B : List EP) (last : Int), okP next last (A ++ B) = (okP next last A && okP next (endP next A last) B)
  | [], _, _ => by simp [okP, endP]
  | p :: r, B, last => by
    show (_ && okP next _ (r ++ B)) = ((_ && okP next _ r) && _)
    rw [okP_append next r B, Bool.and_assoc]; rfl
theorem endP_append (next : Int) : ∀ (A B : List EP) (last : Int), endP next (A ++ B) last = endP next B (endP next A last)
  | [], _, _ => rfl
  | p :: r, B, last => by
    show endP next (r ++ B) _ = endP next B (endP next r _)
    rw [endP_append next r B]
theorem okP_end (next : Int) : ∀ (A : List EP) (last : Int), okP next last A = true → 0 ≤ last → last ≤ 2048 → 0 ≤ endP next A last ∧ endP next A last ≤ 2048
  | [], _, _, h0, h1 => ⟨h0, h1⟩
  | p :: r, last, h, h0, h1 => by
    unfold okP at h
    rw [Bool.and_eq_true, decide_eq_true_eq] at h
    exact okP_end next r _ h.2 (by omega) (by omega)
theorem diff_off {a b : Int} (h : offv a b < 2147483648) : diffv a b = offv a b := by unfold diffv offv at *; omega
theorem diff_off2 {a b : Int} (h : 2147483648 ≤ offv a b) : diffv a b = offv a b - 4294967296 := by unfold diffv offv at *; omega
/-- The window of a buffer. -/
def fillW (next : Int) (W : Win) (L : List EP) : Win := L.foldl (fun W p => layW W (diffv p.s next) p.d) W
def win0 : Win := List.replicate 2048 none
theorem win0_len : win0.length = 2048 := List.length_replicate
theorem fillW_len (next : Int) : ∀ (L : List EP) (W : Win), (fillW next W L).length = W.length
  | [], _ => rfl
  | p :: r, W => by
    show (fillW next (layW W _ p.d) r).length = _
    rw [fillW_len next r, layW_len]
/-- Nothing is there from a place on. -/
def Free (W : Win) (k : Int) : Prop := ∀ i : Nat, k ≤ (i : Int) → i < W.length → W[i]? = some none
theorem free_lay1 {W : Win} {k p : Int} (x : UInt8) (h : Free W k) (hp : p < k) : Free (lay1 W p x) k := by
  intro i hi hl
  rw [lay1_len] at hl
  unfold lay1
  split
  · split
    · rw [List.getElem?_set_ne (by omega)]; exact h i hi hl
    · exact h i hi hl
  · exact h i hi hl
theorem free_layW : ∀ (D : List UInt8) {W : Win} {k o : Int}, Free W k → o + D.length ≤ k → Free (layW W o D) k
  | [], _, _, _, h, _ => h
  | x :: D, W, k, o, h, hk => by
    rw [List.length_cons] at hk
    exact free_layW D (free_lay1 x h (by omega)) (by omega)
theorem free_mono {W : Win} {k k' : Int} (h : Free W k) (hk : k ≤ k') : Free W k' := fun i hi hl => h i (by omega) hl
theorem free_win0 : Free win0 0 := fun i _ hl => by
  rw [win0_len] at hl
  unfold win0
  rw [List.getElem?_replicate, if_pos hl]
/-- A place that is free is laid. -/
theorem lay1_free {W : Win} {k : Int} {p : Nat} (h : Free W k) (hp : k ≤ p) (hl : p < W.length) (x : UInt8) : lay1 W p x = W.set p (some x) := by
  rw [lay1_at hl, if_neg]
  have := h p hp hl
  rw [List.getElem?_eq_getElem hl] at this
  injection this with this
  rw [this]; exact Bool.false_ne_true
/-- What comes of a buffer and a piece. -/
def addW (next : Int) (L : List EP) (seq : Int) (D : List UInt8) : Win := layW (fillW next win0 L) (diffv seq next) D
def addP (next : Int) (L : List EP) (seq : Int) (D : List UInt8) : List EP := (partsL (addW next L seq D) 2048).map fun q => ⟨addv next q.1, q.2⟩
def addFits (next : Int) (L : List EP) (seq : Int) (D : List UInt8) : Bool := decide ((partsL (addW next L seq D) 2048).length ≤ 8)
def addNext (next : Int) (L : List EP) (seq : Int) (D : List UInt8) : Int := if addFits next L seq D then addv next (toldN (addW next L seq D)) else next
def addParts (next : Int) (L : List EP) (seq : Int) (D : List UInt8) : List EP := if addFits next L seq D then addP next L seq D else L
def addTold (next : Int) (L : List EP) (seq : Int) (D : List UInt8) : List UInt8 := if addFits next L seq D then ((addW next L seq D).take (toldN (addW next L seq D))).map byt else []
theorem addW_len (next : Int) (L : List EP) (seq : Int) (D : List UInt8) : (addW next L seq D).length = 2048 := by unfold addW; rw [layW_len, fillW_len, win0_len]
/-- As the code reckons what both have in common. -/
theorem lay_code (next seq : Int) (D : List UInt8) (W : Win) (hW : W.length = 2048) (hn : 0 ≤ next ∧ next < 4294967296) (hs : 0 ≤ seq ∧ seq < 4294967296) (hD : D.length ≤ 65536) :
    (meetN next 2048 seq D.length = 0 → layW W (diffv seq next) D = W) ∧
    (meetN next 2048 seq D.length ≠ 0 → ∃ a f n : Nat, diffv (meetS next 2048 seq D.length) next = a ∧ diffv (meetS next 2048 seq D.length) seq = f ∧ meetN next 2048 seq D.length = n ∧ a + n ≤ 2048 ∧ f + n ≤ D.length ∧ 0 < n ∧ layW W (diffv seq next) D = layW W a ((D.drop f).take n)) := by
  have hm := meet_code next 2048 seq D.length hn hs ⟨by omega, by omega⟩ ⟨by omega, by omega⟩
  have hd : diffv next seq = -diffv seq next ∨ (diffv next seq = -2147483648 ∧ diffv seq next = -2147483648) := by unfold diffv; omega
  have hb1 := diffv_bd next seq
  have hb2 := diffv_bd seq next
  by_cases hc : min (diffv next seq + 2048) D.length ≤ max (diffv next seq) 0
  · obtain ⟨e1, e2⟩ := hm.1 hc
    refine ⟨fun _ => ?_, fun h => absurd e2 h⟩
    by_cases h0 : D = []
    · subst h0; rfl
    · have hpos : 0 < D.length := List.length_pos_iff.2 h0
      exact layW_none D W _ (by rw [hW]; omega)
  · obtain ⟨e1, e2⟩ := hm.2 (by omega)
    refine ⟨fun h => by omega, fun _ => ?_⟩
    have hd2 : diffv next seq = -diffv seq next := by omega
    have hS : diffv (meetS next 2048 seq D.length) next = max (diffv seq next) 0 ∧ diffv (meetS next 2048 seq D.length) seq = max (diffv next seq) 0 := by
      rw [e1]
      generalize hg : diffv next seq = g at *
      rcases (show (0 ≤ g ∧ max g 0 = g) ∨ (g < 0 ∧ max g 0 = 0) by omega) with ⟨h1, h2⟩ | ⟨h1, h2⟩
      · rw [h2]; unfold diffv addv at *; omega
      · rw [h2]; unfold diffv addv at *; omega
    rw [hS.1, hS.2, e2]
    generalize diffv next seq = g at *
    generalize diffv seq next = o at *
    subst hd2
    obtain ⟨a, ha⟩ := Int.eq_ofNat_of_zero_le (show 0 ≤ max o 0 by omega)
    obtain ⟨f, hf⟩ := Int.eq_ofNat_of_zero_le (show 0 ≤ max (-o) 0 by omega)
    obtain ⟨n, hn'⟩ := Int.eq_ofNat_of_zero_le (show 0 ≤ min (-o + 2048) (D.length : Int) - max (-o) 0 by omega)
    refine ⟨a, f, n, ha, hf, hn', by omega, by omega, by omega, ?_⟩
    have hdr : layW W o D = layW W a (D.drop f) := by
      by_cases ho : o ≤ 0
      · rw [layW_drop f (by omega), show o + (f : Int) = a by omega]
      · rw [show f = 0 by omega, List.drop_zero, show o = (a : Int) by omega]
    rw [hdr]
    by_cases hh : (D.length : Int) ≤ -o + 2048
    · rw [List.take_of_length_le (by rw [List.length_drop]; omega)]
    · exact layW_front n (by rw [hW]; omega)
end Go.Proofs.YtpgnlhfokffioaaDoor
