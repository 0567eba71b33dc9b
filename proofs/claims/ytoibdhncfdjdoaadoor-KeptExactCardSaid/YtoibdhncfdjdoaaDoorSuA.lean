/-
  The order of texts: of no program; comparing two texts.
-/
import Derived.Test.YtoibdhncfdjdoaaDoorBase
import Derived.Lib.Bytealg
import Derived.Lib.Strings
import Derived.Laws.Cover1
import Derived.Laws.Strings
namespace Go.Proofs.YtoibdhncfdjdoaaDoor
open Go.RowKit
abbrev bl (a b : List UInt8) : Bool := Op.bytesLess a b
/-- One text ahead of another. -/
def sl (a b : ByteArray) : Bool := Op.bytesLess a.toList b.toList
theorem bl_irr : ∀ l, bl l l = false
  | [] => by simp [Op.bytesLess]
  | a :: l => by
    have := bl_irr l
    simp [Op.bytesLess, this]
theorem bl_cons (a b : UInt8) (x y : List UInt8) : bl (a :: x) (b :: y) = true ↔ a.toNat < b.toNat ∨ (a = b ∧ bl x y = true) := by
  simp [Op.bytesLess, UInt8.lt_iff_toNat_lt]
theorem bl_trans : ∀ a b c, bl a b = true → bl b c = true → bl a c = true
  | _, [], _, h, _ => by simp [Op.bytesLess] at h
  | _, _ :: _, [], _, h => by simp [Op.bytesLess] at h
  | [], _ :: _, _ :: _, _, _ => by simp [Op.bytesLess]
  | a :: x, b :: y, c :: z, h1, h2 => by
    rw [bl_cons] at h1 h2 ⊢
    rcases h1 with h1 | ⟨rfl, h1⟩
    · rcases h2 with h2 | ⟨rfl, h2⟩
      · exact .inl (by omega)
      · exact .inl h1
    · rcases h2 with h2 | ⟨rfl, h2⟩
      · exact .inl h2
      · exact .inr ⟨rfl, bl_trans x y z h1 h2⟩
theorem bl_tri : ∀ a b, bl a b = true ∨ a = b ∨ bl b a = true
  | [], [] => .inr (.inl rfl)
  | [], _ :: _ => .inl (by simp [Op.bytesLess])
  | _ :: _, [] => .inr (.inr (by simp [Op.bytesLess]))
  | a :: x, b :: y => by
    rw [bl_cons, bl_cons]
    rcases Nat.lt_trichotomy a.toNat b.toNat with h | h | h
    · exact .inl (.inl h)
    · have e : a = b := UInt8.toNat_inj.1 h
      subst e
      rcases bl_tri x y with h | h | h
      · exact .inl (.inr ⟨rfl, h⟩)
      · exact .inr (.inl (by rw [h]))
      · exact .inr (.inr (.inr ⟨rfl, h⟩))
    · exact .inr (.inr (.inl h))
theorem bl_cmp : ∀ a b, Lib.compareBytes a b = if bl a b then -1 else if a = b then 0 else 1
  | [], [] => by simp [Op.bytesLess, Lib.compareBytes]
  | [], _ :: _ => by simp [Op.bytesLess, Lib.compareBytes]
  | _ :: _, [] => by simp [Op.bytesLess, Lib.compareBytes]
  | a :: x, b :: y => by
    rw [Lib.compareBytes, bl_cmp x y]
    by_cases h1 : a < b
    · have : bl (a :: x) (b :: y) = true := (bl_cons ..).2 (.inl (UInt8.lt_iff_toNat_lt.1 h1))
      simp only [h1, this, if_true]
    · rw [if_neg h1]
      have h1n : ¬ a.toNat < b.toNat := fun h => h1 (UInt8.lt_iff_toNat_lt.2 h)
      by_cases h2 : b < a
      · have h2n := UInt8.lt_iff_toNat_lt.1 h2
        have hne : ¬ a = b := fun e => by subst e; omega
        have : bl (a :: x) (b :: y) = false := by
          cases h : bl (a :: x) (b :: y) with
          | false => rfl
          | true =>
            rw [bl_cons] at h
            rcases h with h | ⟨e, -⟩
            · omega
            · exact (hne e).elim
        rw [if_pos h2, this]
        simp [hne]
      · have e : a = b := UInt8.toNat_inj.1 (by have : ¬ b.toNat < a.toNat := fun h => h2 (UInt8.lt_iff_toNat_lt.2 h); omega)
        subst e
        rw [if_neg h2]
        have : bl (a :: x) (a :: y) = bl x y := by
          cases h : bl x y with
          | true => exact (bl_cons ..).2 (.inr ⟨rfl, h⟩)
          | false =>
            cases h3 : bl (a :: x) (a :: y) with
            | false => rfl
            | true =>
              rw [bl_cons] at h3
              rcases h3 with h3 | ⟨-, h3⟩
              · omega
              · rw [h] at h3; cases h3
        rw [this]
        simp
theorem toL_inj {a b : ByteArray} (h : a.toList = b.toList) : a = b := by
  rw [ByteArray.toList_eq, ByteArray.toList_eq] at h
  exact ByteArray.ext (Array.toList_inj.1 h)
theorem sl_irr (a : ByteArray) : sl a a = false := bl_irr _
theorem sl_trans {a b c : ByteArray} (h1 : sl a b = true) (h2 : sl b c = true) : sl a c = true := bl_trans _ _ _ h1 h2
theorem sl_tri (a b : ByteArray) : sl a b = true ∨ a = b ∨ sl b a = true := by
  rcases bl_tri a.toList b.toList with h | h | h
  · exact .inl h
  · exact .inr (.inl (toL_inj h))
  · exact .inr (.inr h)
theorem sl_asym {a b : ByteArray} (h : sl a b = true) : sl b a = false := by
  cases h2 : sl b a with
  | false => rfl
  | true => have := sl_trans h h2; rw [sl_irr] at this; cases this
theorem sl_ne {a b : ByteArray} (h : sl a b = true) : a ≠ b := by
  rintro rfl; rw [sl_irr] at h; cases h
/-- What comparing them says. -/
def cmpB (a b : ByteArray) : Int := if sl a b = true then -1 else if a = b then 0 else 1
theorem cmpB_eq (a b : ByteArray) : Lib.compareBytes a.data.toList b.data.toList = cmpB a b := by
  rw [bl_cmp, ← Lib.toList_data, ← Lib.toList_data]
  unfold cmpB sl bl
  by_cases h : a = b
  · subst h; simp
  · rw [if_neg (show ¬ a.toList = b.toList from fun e => h (toL_inj e)), if_neg h]
set_option maxHeartbeats 1000000 in
set_option maxRecDepth 100000 in
theorem bytealgCompare_any (a b : ByteArray) (w : World) :
    Calls Tryd.prog 74 #[.string a, .string b] w fun e w' => e = .returned (.int .i64 (Lib.compareBytes a.data.toList b.data.toList)) ∧ w' = w := by
  go_enter Tryd.func74, Tryd.ntmps74
  go_wp2
  rw [run_callFunc_extern Tryd.func81 (by kernel_rfl) (by kernel_rfl) (by kernel_rfl) (e := Extern.BytealgCompare.compare) (by kernel_rfl), Lib.run_compareString]
  simp only [Result.andThen]
  rw [Oper.upon_value]
  go_wp2
  go_ret
  exact ⟨rfl, rfl⟩
set_option maxHeartbeats 1000000 in
theorem compare_any (a b : ByteArray) (w : World) :
    Calls Tryd.prog 61 #[.string a, .string b] w fun e w' => e = .returned (.int .i64 (cmpB a b)) ∧ w' = w := by
  rw [← cmpB_eq]
  go_enter Tryd.func61, Tryd.ntmps61
  go_wp2_with (go_at_call 74; refine (bytealgCompare_any _ _ _).mono ?_; rintro e w' ⟨rfl, rfl⟩)
  go_ret
  exact ⟨rfl, rfl⟩
end Go.Proofs.YtoibdhncfdjdoaaDoor
