/-
  Sums of records: the mathematics, of no program: a half byte by the table is four bits; what a sum tells apart.
-/
import Derived.Test.YtkljlgmidmlmlaaDoorRows
namespace Go.Proofs.YtkljlgmidmlmlaaDoor
abbrev W32 := BitVec 32
def crcBit (r : W32) : W32 := (r >>> 1) ^^^ (if r.getLsbD 0 then 0xedb88320#32 else 0#32)
theorem crcBit_xor (a b : W32) : crcBit (a ^^^ b) = crcBit a ^^^ crcBit b := by
  unfold crcBit
  rw [BitVec.ushiftRight_xor_distrib]
  have h : (a ^^^ b).getLsbD 0 = (a.getLsbD 0 ^^ b.getLsbD 0) := by simp
  rw [h]
  generalize a >>> 1 = x
  generalize b >>> 1 = y
  cases a.getLsbD 0 <;> cases b.getLsbD 0
  all_goals
    apply BitVec.eq_of_getLsbD_eq
    intro i _
    simp only [BitVec.getLsbD_xor, BitVec.getLsbD_zero, Bool.false_xor, Bool.true_xor, Bool.not_true, Bool.xor_false, if_true, Bool.false_eq_true, if_false]
    try (cases x.getLsbD i <;> cases y.getLsbD i <;> cases (0xedb88320#32).getLsbD i <;> rfl)
theorem crcBit_even (a : W32) (h : a.getLsbD 0 = false) : crcBit a = a >>> 1 := by unfold crcBit; rw [h]; simp
def crcBit4 (r : W32) : W32 := crcBit (crcBit (crcBit (crcBit r)))
theorem crcBit4_xor (a b : W32) : crcBit4 (a ^^^ b) = crcBit4 a ^^^ crcBit4 b := by unfold crcBit4; simp only [crcBit_xor]
theorem split4 (r : W32) : r = (r &&& 0xfffffff0#32) ^^^ (r &&& 15#32) := by
  apply BitVec.eq_of_getLsbD_eq
  intro i hi
  simp only [BitVec.getLsbD_xor, BitVec.getLsbD_and]
  have : ∀ j : Fin 32, (0xfffffff0#32).getLsbD j.val = !(15#32).getLsbD j.val := by decide
  have h := this ⟨i, hi⟩
  dsimp only at h
  rw [h]
  cases r.getLsbD i <;> cases (15#32).getLsbD i <;> rfl
theorem split_hi (r : W32) : crcBit4 (r &&& 0xfffffff0#32) = r >>> 4 := by
  have low : ∀ i, i < 4 → (r &&& 0xfffffff0#32).getLsbD i = false := by
    intro i hi
    rw [BitVec.getLsbD_and]
    have : (0xfffffff0#32).getLsbD i = false := by
      match i, hi with
      | 0, _ => rfl
      | 1, _ => rfl
      | 2, _ => rfl
      | 3, _ => rfl
    rw [this]; simp
  unfold crcBit4
  obtain ⟨q, hq⟩ : ∃ q, q = r &&& 0xfffffff0#32 := ⟨_, rfl⟩
  rw [← hq] at low ⊢
  rw [crcBit_even q (low 0 (by omega)), crcBit_even (q >>> 1) (by rw [BitVec.getLsbD_ushiftRight]; exact low 1 (by omega)), crcBit_even (q >>> 1 >>> 1) (by simp only [BitVec.getLsbD_ushiftRight]; exact low 2 (by omega)), crcBit_even (q >>> 1 >>> 1 >>> 1) (by simp only [BitVec.getLsbD_ushiftRight]; exact low 3 (by omega))]
  rw [hq]
  simp only [← BitVec.shiftRight_add]
  apply BitVec.eq_of_getLsbD_eq
  intro i hi
  simp only [BitVec.getLsbD_ushiftRight, BitVec.getLsbD_and]
  by_cases h : 4 + i < 32
  · have : (0xfffffff0#32).getLsbD (1 + 1 + 1 + 1 + i) = true := by
      have : ∀ j : Fin 28, (0xfffffff0#32).getLsbD (1 + 1 + 1 + 1 + j.val) = true := by decide
      exact this ⟨i, by omega⟩
    rw [this]; simp
  · rw [BitVec.getLsbD_of_ge _ _ (by omega)]; rw [BitVec.getLsbD_of_ge _ _ (by omega)]; simp
def crcT : List (BitVec 32) := [0x00000000, 0x1db71064, 0x3b6e20c8, 0x26d930ac, 0x76dc4190, 0x6b6b51f4, 0x4db26158, 0x5005713c, 0xedb88320, 0xf00f9344, 0xd6d6a3e8, 0xcb61b38c, 0x9b64c2b0, 0x86d3d2d4, 0xa00ae278, 0xbdbdf21c]
theorem crcT_ok : ∀ k : Fin 16, crcBit4 (BitVec.ofNat 32 k.val) = crcT.getD k.val 0 := by decide +kernel
theorem nib_lt (r : W32) : (r &&& 15#32).toNat < 16 := by
  rw [BitVec.toNat_and]; exact Nat.lt_of_le_of_lt Nat.and_le_right (by decide)
/-- A half byte by the table is four bits by the reference. -/
theorem nibble (r : W32) : (r >>> 4) ^^^ crcT.getD (r &&& 15#32).toNat 0 = crcBit4 r := by
  conv => rhs; rw [split4 r, crcBit4_xor, split_hi]
  congr 1
  have := crcT_ok ⟨(r &&& 15#32).toNat, nib_lt r⟩
  simp only [BitVec.ofNat_toNat, BitVec.setWidth_eq] at this
  exact this.symm
/-- What a byte makes of a sum. -/
def crcByte (r : W32) (x : UInt8) : W32 := crcBit4 (crcBit4 (r ^^^ BitVec.ofNat 32 x.toNat))
def crcV (r : W32) (l : List UInt8) : W32 := l.foldl crcByte r
theorem crcV_app (r : W32) (a b : List UInt8) : crcV r (a ++ b) = crcV (crcV r a) b := List.foldl_append
theorem crcV_snoc (r : W32) (l : List UInt8) (x : UInt8) : crcV r (l ++ [x]) = crcByte (crcV r l) x := by simp [crcV]
/-- The sum. -/
def crcS (s : W32) (l : List UInt8) : W32 := ~~~ (crcV (~~~ s) l)
theorem crcS_app (s : W32) (a b : List UInt8) : crcS s (a ++ b) = crcS (crcS s a) b := by
  unfold crcS; rw [crcV_app, BitVec.not_not]
theorem crcS_nil (s : W32) : crcS s [] = s := by unfold crcS crcV; simp
/-! a sum tells bytes apart -/
theorem crcBit_inj0 (a : W32) (h : crcBit a = 0#32) : a = 0#32 := by
  unfold crcBit at h
  have h31 : (a >>> 1).getLsbD 31 = false := by rw [BitVec.getLsbD_ushiftRight]; exact BitVec.getLsbD_of_ge _ _ (by omega)
  have hb : a.getLsbD 0 = false := by
    cases hx : a.getLsbD 0
    · rfl
    · rw [hx] at h
      have := congrArg (fun v : BitVec 32 => v.getLsbD 31) h
      simp only [BitVec.getLsbD_xor, h31, if_true] at this
      exact absurd this (by decide)
  rw [hb] at h
  simp only [Bool.false_eq_true, if_false, BitVec.xor_zero] at h
  apply BitVec.eq_of_getLsbD_eq
  intro i hi
  match i with
  | 0 => rw [hb]; simp
  | i + 1 =>
    have := congrArg (fun v : BitVec 32 => v.getLsbD i) h
    simp only [BitVec.getLsbD_ushiftRight] at this
    rw [Nat.add_comm] at this
    rw [this]; simp
theorem xor_eq_zero (a b : W32) (h : a ^^^ b = 0#32) : a = b := by
  have : a ^^^ b ^^^ b = 0#32 ^^^ b := by rw [h]
  rw [BitVec.xor_assoc, BitVec.xor_self, BitVec.xor_zero, BitVec.zero_xor] at this; exact this
theorem crcBit_inj (a b : W32) (h : crcBit a = crcBit b) : a = b := by
  apply xor_eq_zero
  apply crcBit_inj0
  rw [crcBit_xor, h, BitVec.xor_self]
theorem crcBit4_inj (a b : W32) (h : crcBit4 a = crcBit4 b) : a = b := crcBit_inj _ _ (crcBit_inj _ _ (crcBit_inj _ _ (crcBit_inj _ _ h)))
theorem crcByte_inj (a b : W32) (x : UInt8) (h : crcByte a x = crcByte b x) : a = b := by
  have := crcBit4_inj _ _ (crcBit4_inj _ _ h)
  have h2 : a ^^^ BitVec.ofNat 32 x.toNat ^^^ BitVec.ofNat 32 x.toNat = b ^^^ BitVec.ofNat 32 x.toNat ^^^ BitVec.ofNat 32 x.toNat := by rw [this]
  simpa [BitVec.xor_assoc] using h2
theorem crcV_inj (l : List UInt8) : ∀ a b : W32, crcV a l = crcV b l → a = b := by
  induction l with
  | nil => intro a b h; exact h
  | cons x t ih => intro a b h; exact crcByte_inj a b x (ih _ _ h)
/-! what was turned -/
def crcB8 (r : W32) : W32 := crcBit4 (crcBit4 r)
theorem crcB8_xor (a b : W32) : crcB8 (a ^^^ b) = crcB8 a ^^^ crcB8 b := by unfold crcB8; rw [crcBit4_xor, crcBit4_xor]
theorem crcB8_inj (a b : W32) (h : crcB8 a = crcB8 b) : a = b := crcBit4_inj _ _ (crcBit4_inj _ _ h)
theorem crcByte_eq (r : W32) (x : UInt8) : crcByte r x = crcB8 (r ^^^ BitVec.ofNat 32 x.toNat) := rfl
theorem ofNat_inj (x y : UInt8) (h : BitVec.ofNat 32 x.toNat = BitVec.ofNat 32 y.toNat) : x = y := by
  have := congrArg BitVec.toNat h
  simp only [BitVec.toNat_ofNat] at this
  have h1 := x.toNat_lt; have h2 := y.toNat_lt
  rw [Nat.mod_eq_of_lt (by omega), Nat.mod_eq_of_lt (by omega)] at this
  exact UInt8.toNat_inj.1 this
theorem xor_cancel_left (a b c : W32) (h : a ^^^ b = a ^^^ c) : b = c := by
  have : a ^^^ (a ^^^ b) = a ^^^ (a ^^^ c) := by rw [h]
  rwa [← BitVec.xor_assoc, ← BitVec.xor_assoc, BitVec.xor_self, BitVec.zero_xor, BitVec.zero_xor] at this
theorem crcByte_byte (r : W32) (x y : UInt8) (h : crcByte r x = crcByte r y) : x = y := by
  rw [crcByte_eq, crcByte_eq] at h
  exact ofNat_inj x y (xor_cancel_left _ _ _ (crcB8_inj _ _ h))
/-- One byte is another: the sum is. -/
theorem crc_one (s : W32) (l : List UInt8) (k : Nat) (x y : UInt8) (hx : l[k]? = some x) (hne : y ≠ x) : crcS s (l.set k y) ≠ crcS s l := by
  have hk : k < l.length := by
    rcases Nat.lt_or_ge k l.length with h | h
    · exact h
    · rw [List.getElem?_eq_none h] at hx; simp at hx
  have hl : l = l.take k ++ x :: l.drop (k + 1) := by
    rw [List.getElem?_eq_getElem hk] at hx
    obtain rfl : l[k] = x := by simpa using hx
    rw [List.getElem_cons_drop, List.take_append_drop]
  have hs : l.set k y = l.take k ++ y :: l.drop (k + 1) := List.set_eq_take_append_cons_drop.trans (by rw [if_pos hk])
  intro h
  unfold crcS at h
  have h2 : crcV (~~~ s) (l.set k y) = crcV (~~~ s) l := by have := congrArg (fun v : W32 => ~~~ v) h; simpa using this
  rw [hs, crcV_app] at h2
  conv at h2 => rhs; rw [hl, crcV_app]
  exact hne (crcByte_byte _ _ _ (crcV_inj _ _ _ h2))
theorem crc_far : ∀ k : Fin 8, ∀ e : UInt8, crcB8 (BitVec.ofNat 32 (2 ^ k.val)) ≠ BitVec.ofNat 32 e.toNat := by
  have h : ∀ k : Fin 8, 256 ≤ (crcB8 (BitVec.ofNat 32 (2 ^ k.val))).toNat := by decide +kernel
  intro k e he
  have h1 := h k
  rw [he, BitVec.toNat_ofNat] at h1
  have := e.toNat_lt
  omega
theorem ofNat_xor (x d : UInt8) : BitVec.ofNat 32 (x ^^^ d).toNat = BitVec.ofNat 32 x.toNat ^^^ BitVec.ofNat 32 d.toNat := by
  apply BitVec.eq_of_toNat_eq
  have h1 := x.toNat_lt; have h2 := d.toNat_lt; have h3 := (x ^^^ d).toNat_lt
  rw [BitVec.toNat_xor, BitVec.toNat_ofNat, BitVec.toNat_ofNat, BitVec.toNat_ofNat, Nat.mod_eq_of_lt (by omega), Nat.mod_eq_of_lt (by omega), Nat.mod_eq_of_lt (by omega)]
  simp
/-- One bit is turned, and anything of the byte behind it: the sum is another. -/
theorem crc_two (s : W32) (l : List UInt8) (k : Nat) (x y d e : UInt8) (b : Fin 8) (hx : l[k]? = some x) (hy : l[k + 1]? = some y) (hd : d.toNat = 2 ^ b.val) :
    crcS s ((l.set k (x ^^^ d)).set (k + 1) (y ^^^ e)) ≠ crcS s l := by
  have hk : k + 1 < l.length := by
    rcases Nat.lt_or_ge (k + 1) l.length with h | h
    · exact h
    · rw [List.getElem?_eq_none h] at hy; simp at hy
  have hl : l = l.take k ++ x :: y :: l.drop (k + 2) := by
    rw [List.getElem?_eq_getElem (by omega)] at hx hy
    obtain rfl : l[k] = x := by simpa using hx
    obtain rfl : l[k + 1] = y := by simpa using hy
    rw [List.getElem_cons_drop, List.getElem_cons_drop, List.take_append_drop]
  have hs : (l.set k (x ^^^ d)).set (k + 1) (y ^^^ e) = l.take k ++ (x ^^^ d) :: (y ^^^ e) :: l.drop (k + 2) := by
    have hlt : (l.take k).length = k := by rw [List.length_take]; omega
    conv => lhs; rw [hl]
    rw [List.set_append_right _ _ (by omega), hlt, Nat.sub_self, List.set_cons_zero, List.set_append_right _ _ (by omega), hlt, show k + 1 - k = 1 by omega, List.set_cons_succ, List.set_cons_zero]
  intro h
  unfold crcS at h
  have h2 : crcV (~~~ s) ((l.set k (x ^^^ d)).set (k + 1) (y ^^^ e)) = crcV (~~~ s) l := by have := congrArg (fun v : W32 => ~~~ v) h; simpa using this
  rw [hs, crcV_app] at h2
  conv at h2 => rhs; rw [hl, crcV_app]
  have h3 : crcByte (crcByte (crcV (~~~ s) (l.take k)) (x ^^^ d)) (y ^^^ e) = crcByte (crcByte (crcV (~~~ s) (l.take k)) x) y := crcV_inj _ _ _ h2
  generalize crcV (~~~ s) (l.take k) = r at h3
  rw [crcByte_eq, crcByte_eq _ y] at h3
  have h4 := crcB8_inj _ _ h3
  rw [crcByte_eq, crcByte_eq, ofNat_xor, ofNat_xor, ← BitVec.xor_assoc r, crcB8_xor] at h4
  generalize crcB8 (r ^^^ BitVec.ofNat 32 x.toNat) = p at h4
  rw [BitVec.xor_assoc] at h4
  have h5 := xor_cancel_left _ _ _ h4
  rw [BitVec.xor_comm (BitVec.ofNat 32 y.toNat), ← BitVec.xor_assoc] at h5
  have h6 : crcB8 (BitVec.ofNat 32 d.toNat) ^^^ BitVec.ofNat 32 e.toNat = 0#32 := by
    have := congrArg (fun v => v ^^^ BitVec.ofNat 32 y.toNat) h5
    simpa [BitVec.xor_assoc] using this
  have h7 := xor_eq_zero _ _ h6
  rw [hd] at h7
  exact crc_far b e h7
end Go.Proofs.YtkljlgmidmlmlaaDoor
