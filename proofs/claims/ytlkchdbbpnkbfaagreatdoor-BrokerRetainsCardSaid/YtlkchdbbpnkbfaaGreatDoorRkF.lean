/-
  Words of our own, of no program: the reckoner: numbers and texts.
-/
import Derived.Test.YtlkchdbbpnkbfaaGreatDoorRkD
import Derived.Laws.StructEq
namespace Go.Rk
open Go.RowKit
variable {P : Program} {ev : Nat → Nat} {ρ : Ren}
theorem wrap_half (q : IntKind) {m : Nat} (h : m < half q) : q.wrap (m : Int) = (m : Int) := by
  cases q <;> simp only [half] at h <;> simp only [IntKind.wrap, IntKind.bits, IntKind.signed] <;> simp <;> omega
theorem wrN_eq (q : IntKind) (m : Nat) (k : Int → Bool) : wrN q m k = k (q.wrap (m : Int)) := by
  unfold wrN
  rw [iff_eq, forceN_eq, forceI_eq]
  split
  · rename_i h
    rw [wrap_half q (Nat.le_of_ble_eq_true h)]; rfl
  · rfl
theorem addF_eq (q : IntKind) (x y : Int) (k : Int → Bool) : addF q x y k = k (q.wrap (x + y)) :=
  onNN_eq (fun m n hx hy => by rw [wrN_eq, hx, hy]; rfl) (forceI_eq _ _)
theorem subF_eq (q : IntKind) (x y : Int) (k : Int → Bool) : subF q x y k = k (q.wrap (x - y)) :=
  onNN_eq (fun m n hx hy => by
    rw [iff_eq, wrN_eq, forceI_eq, hx, hy]
    split
    · rename_i h
      have := Nat.le_of_ble_eq_true h
      rw [show ((Nat.sub m n : Nat) : Int) = (m : Int) - n from by rw [Nat.sub_eq]; omega]
    · rfl) (forceI_eq _ _)
theorem mulF_eq (q : IntKind) (x y : Int) (k : Int → Bool) : mulF q x y k = k (q.wrap (x * y)) :=
  onNN_eq (fun m n hx hy => by rw [wrN_eq, hx, hy]; rfl) (forceI_eq _ _)
theorem quoF_inv {q : IntKind} {x y : Int} {k : Int → Bool} (h : quoF q x y k = true) : y ≠ 0 ∧ k (q.wrap (x.tdiv y)) = true := by
  have e : quoF q x y k = (if y = 0 then false else k (q.wrap (x.tdiv y))) := onNN_eq (fun m n hx hy => by
    rw [iff_eq, wrN_eq, hx, hy]
    by_cases h0 : n = 0
    · subst h0; rfl
    · rw [if_neg (by simpa using h0), if_neg (by omega)]; rfl) (by rw [iff_eq, forceI_eq]; simp)
  rw [e] at h
  split at h
  · cases h
  · exact ⟨‹_›, h⟩
theorem remF_inv {x y : Int} {k : Int → Bool} (h : remF x y k = true) : y ≠ 0 ∧ k (x.tmod y) = true := by
  have e : remF x y k = (if y = 0 then false else k (x.tmod y)) := onNN_eq (fun m n hx hy => by
    rw [iff_eq, forceN_eq, hx, hy]
    by_cases h0 : n = 0
    · subst h0; rfl
    · rw [if_neg (by simpa using h0), if_neg (by omega)]; rfl) (by rw [iff_eq, forceI_eq]; simp)
  rw [e] at h
  split at h
  · cases h
  · exact ⟨‹_›, h⟩
theorem shlF_inv {q : IntKind} {x y : Int} {k : Int → Bool} (h : shlF q x y k = true) : ¬ y < 0 ∧ k (q.wrap (x * 2 ^ (min y.toNat q.bits))) = true := by
  have e : shlF q x y k = (if y < 0 then false else k (q.wrap (x * 2 ^ (min y.toNat q.bits)))) := onNN_eq (fun m n hx hy => by
    rw [iff_eq, wrN_eq, forceI_eq, hx, hy, if_neg (show ¬ ((n : Int) < 0) by omega)]
    split
    · rename_i hle
      have := Nat.le_of_ble_eq_true hle
      rw [Int.toNat_natCast, Nat.min_eq_left (by omega), Nat.mul_eq]
      rfl
    · rfl) (by rw [iff_eq, forceI_eq]; simp)
  rw [e] at h
  split at h
  · cases h
  · exact ⟨‹_›, h⟩
theorem shrF_inv {q : IntKind} {x y : Int} {k : Int → Bool} (h : shrF q x y k = true) : ¬ y < 0 ∧ k (x.fdiv (2 ^ (min y.toNat q.bits))) = true := by
  have e : shrF q x y k = (if y < 0 then false else k (x.fdiv (2 ^ (min y.toNat q.bits)))) := onNN_eq (fun m n hx hy => by
    rw [iff_eq, forceN_eq, forceI_eq, hx, hy, if_neg (show ¬ ((n : Int) < 0) by omega)]
    split
    · rename_i hle
      have := Nat.le_of_ble_eq_true hle
      rw [Int.toNat_natCast, Nat.min_eq_left (by omega)]
      congr 1
      rw [Int.fdiv_eq_ediv_of_nonneg _ (by exact Int.pow_nonneg (by decide))]
      show ((Nat.div m (Nat.pow 2 n) : Nat) : Int) = _
      have : (2 : Int) ^ n = ((2 ^ n : Nat) : Int) := by push_cast; rfl
      rw [this]; rfl
    · rfl) (by rw [iff_eq, forceI_eq]; simp)
  rw [e] at h
  split at h
  · cases h
  · exact ⟨‹_›, h⟩
theorem iff_kk {b : Bool} {k : Bool → Bool} : iff_ b (k true) (k false) = k b := by cases b <;> rfl
theorem eqF_eq (x y : Int) (k : Bool → Bool) : eqF x y k = k (x == y) :=
  onNN_eq (fun m n hx hy => by
    rw [iff_kk, hx, hy]
    congr 1
    rw [Bool.eq_iff_iff]
    simp
    omega) iff_kk
theorem ltF_eq (x y : Int) (k : Bool → Bool) : ltF x y k = k (decide (x < y)) :=
  onNN_eq (fun m n hx hy => by
    rw [iff_kk, hx, hy]
    congr 1
    rw [Bool.eq_iff_iff]
    simp [Nat.ble_eq]; omega) iff_kk
theorem leF_eq (x y : Int) (k : Bool → Bool) : leF x y k = k (decide (x ≤ y)) :=
  onNN_eq (fun m n hx hy => by
    rw [iff_kk, hx, hy]
    congr 1
    rw [Bool.eq_iff_iff]
    simp [Nat.ble_eq]) iff_kk
theorem kc_inj {q q' : IntKind} (h : Nat.beq (kc q) (kc q') = true) : q = q' := by
  have h' := Nat.eq_of_beq_eq_true h
  cases q <;> cases q' <;> first | rfl | exact absurd h' (by decide)
theorem sameK_inv {q q' : IntKind} {t : Bool} (h : sameK q q' t = true) : q = q' ∧ t = true := by
  obtain ⟨h1, h2⟩ := guard_inv h
  exact ⟨kc_inj h1, h2⟩
/-- What a value operation says. -/
def Val (ev : Nat → Nat) (ρ : Ren) (P : Program) (s : Sem Value) (v : AV) : Prop := ∀ w : World, ∃ cv, s.run P w = .ok cv w ∧ VR ev ρ v cv
theorem fB_eq (b : Bool) (k : AV → Bool) : fB b k = k (.b b) := by cases b <;> rfl
theorem binI_inv {op : BinOp} {q q' : IntKind} {x y : Int} {k : AV → Bool} (h : binI op q x q' y k = true) :
    ∃ v, k v = true ∧ ∀ t, Val ev ρ P (Go.binOp op t (.int q x) (.int q' y)) v := by
  cases op <;> unfold binI at h <;> dsimp only at h
  case shl => obtain ⟨h1, h2⟩ := shlF_inv h; exact ⟨_, h2, fun t w => ⟨_, by simp only [Go.binOp, Op.shift, h1, if_false]; rfl, .i _ _⟩⟩
  case shr => obtain ⟨h1, h2⟩ := shrF_inv h; exact ⟨_, h2, fun t w => ⟨_, by simp only [Go.binOp, Op.shift, h1, if_false]; rfl, .i _ _⟩⟩
  all_goals
    obtain ⟨hq, h2⟩ := sameK_inv h
    subst hq
    clear h
    have h := h2
    clear h2
  case add => rw [addF_eq] at h; exact ⟨_, h, fun t w => ⟨_, by simp [Go.binOp, Op.intArith], .i _ _⟩⟩
  case sub => rw [subF_eq] at h; exact ⟨_, h, fun t w => ⟨_, by simp [Go.binOp, Op.intArith], .i _ _⟩⟩
  case mul => rw [mulF_eq] at h; exact ⟨_, h, fun t w => ⟨_, by simp [Go.binOp, Op.intArith], .i _ _⟩⟩
  case quo => obtain ⟨h1, h2⟩ := quoF_inv h; exact ⟨_, h2, fun t w => ⟨_, by simp [Go.binOp, Op.intDiv, h1], .i _ _⟩⟩
  case rem => obtain ⟨h1, h2⟩ := remF_inv h; exact ⟨_, h2, fun t w => ⟨_, by simp [Go.binOp, Op.intDiv, h1], .i _ _⟩⟩
  case and => unfold bitsF at h; rw [forceI_eq] at h; exact ⟨_, h, fun t w => ⟨_, by simp [Go.binOp, Op.intBits], .i _ _⟩⟩
  case or => unfold bitsF at h; rw [forceI_eq] at h; exact ⟨_, h, fun t w => ⟨_, by simp [Go.binOp, Op.intBits], .i _ _⟩⟩
  case xor => unfold bitsF at h; rw [forceI_eq] at h; exact ⟨_, h, fun t w => ⟨_, by simp [Go.binOp, Op.intBits], .i _ _⟩⟩
  case andNot => unfold bitsF at h; rw [forceI_eq] at h; exact ⟨_, h, fun t w => ⟨_, by simp [Go.binOp, Op.intBits], .i _ _⟩⟩
  case eql => rw [eqF_eq] at h; exact ⟨_, h, fun t w => ⟨_, by simp [Go.binOp, Op.intCmp], .b _⟩⟩
  case neq => rw [eqF_eq] at h; exact ⟨_, h, fun t w => ⟨_, by simp [Go.binOp, Op.intCmp]; rfl, .b _⟩⟩
  case lss => rw [ltF_eq] at h; exact ⟨_, h, fun t w => ⟨_, by simp [Go.binOp, Op.intCmp], .b _⟩⟩
  case leq => rw [leF_eq] at h; exact ⟨_, h, fun t w => ⟨_, by simp [Go.binOp, Op.intCmp], .b _⟩⟩
  case gtr => rw [ltF_eq] at h; exact ⟨_, h, fun t w => ⟨_, by simp [Go.binOp, Op.intCmp], .b _⟩⟩
  case geq => rw [leF_eq] at h; exact ⟨_, h, fun t w => ⟨_, by simp [Go.binOp, Op.intCmp], .b _⟩⟩
-- texts
theorem eqN_iff : ∀ {l r : List Nat}, eqN l r = true ↔ l = r
  | [], [] => by simp [eqN]
  | [], _ :: _ => by simp [eqN]
  | _ :: _, [] => by simp [eqN]
  | x :: l, y :: r => by
    show guard_ (Nat.beq x y) (eqN l r) = true ↔ _
    constructor
    · intro h
      obtain ⟨h1, h2⟩ := guard_inv h
      rw [Nat.eq_of_beq_eq_true h1, eqN_iff.1 h2]
    · intro h
      injection h with h1 h2
      subst h1
      subst h2
      rw [Nat.beq_refl]
      exact eqN_iff.2 rfl
theorem lenN_eq {α : Type} (l : List α) (k : Nat → Bool) : lenN l k = k l.length := by
  have : ∀ (l : List α) (n : Nat), List.rec (motive := fun _ => Nat → Bool) k (fun _ _ ih n => forceN (Nat.succ n) ih) l n = k (n + l.length) := by
    intro l
    induction l with
    | nil => intro n; rfl
    | cons x l ih => intro n; show forceN (Nat.succ n) _ = _; rw [forceN_eq, ih]; congr 1; simp; omega
  unfold lenN
  rw [this]; simp
theorem appN_eq : ∀ (l r : List Nat) (k : List Nat → Bool), appN l r k = k (l ++ r)
  | [], _, _ => rfl
  | x :: t, r, k => by
    show appN t r (fun t => k (x :: t)) = _
    rw [appN_eq t r]; rfl
theorem dropN_inv : ∀ {n : Nat} {l : List Nat} {k : List Nat → Bool}, dropN n l k = true → n ≤ l.length ∧ k (l.drop n) = true
  | 0, _, _, h => ⟨Nat.zero_le _, h⟩
  | n + 1, [], _, h => absurd h (by simp [dropN])
  | n + 1, x :: t, k, h => by
    have h' : dropN n t k = true := h
    obtain ⟨h1, h2⟩ := dropN_inv h'
    exact ⟨by simp; omega, h2⟩
theorem takeN_inv : ∀ {n : Nat} {l : List Nat} {k : List Nat → Bool}, takeN n l k = true → n ≤ l.length ∧ k (l.take n) = true
  | 0, l, _, h => ⟨Nat.zero_le _, by rw [List.take_zero]; exact h⟩
  | n + 1, [], _, h => absurd h (by simp [takeN])
  | n + 1, x :: t, k, h => by
    have h' : takeN n t (fun r => k (x :: r)) = true := h
    obtain ⟨h1, h2⟩ := takeN_inv h'
    exact ⟨by simp; omega, h2⟩
theorem getN_inv : ∀ {l : List Nat} {n : Nat} {k : Nat → Bool}, getN l n k = true → ∃ v, l[n]? = some v ∧ k v = true
  | [], _, _, h => absurd h (by simp [getN])
  | x :: t, 0, k, h => ⟨x, rfl, h⟩
  | x :: t, n + 1, k, h => by
    have h' : getN t n k = true := h
    obtain ⟨v, h1, h2⟩ := getN_inv h'
    exact ⟨v, by simpa using h1, h2⟩
theorem byteNs_inj {s t : ByteArray} : (s.toList == t.toList) = eqN (byteNs s) (byteNs t) := by
  rw [Bool.eq_iff_iff, eqN_iff, beq_iff_eq, ByteArray.toList_eq, ByteArray.toList_eq]
  unfold byteNs
  constructor
  · intro h; rw [h]
  · intro h
    refine List.map_inj_right (fun x y e => ?_) |>.1 h
    exact UInt8.toNat_inj.1 e
theorem ltN_bytes : ∀ (l r : List UInt8), Op.bytesLess l r = ltN (l.map (·.toNat)) (r.map (·.toNat))
  | [], [] => rfl
  | _ :: _, [] => rfl
  | [], _ :: _ => rfl
  | a :: x, b :: y => by
    show _ = iff_ (Nat.ble (Nat.succ a.toNat) b.toNat) true (guard_ (Nat.beq a.toNat b.toNat) (ltN (x.map (·.toNat)) (y.map (·.toNat))))
    rw [← ltN_bytes x y]
    show (decide (a < b) || (a == b && Op.bytesLess x y)) = _
    have e1 : Nat.ble (Nat.succ a.toNat) b.toNat = decide (a < b) := by
      rw [Bool.eq_iff_iff, Nat.ble_eq, decide_eq_true_eq, UInt8.lt_iff_toNat_lt]; exact Iff.rfl
    have e2 : Nat.beq a.toNat b.toNat = (a == b) := by
      rw [Bool.eq_iff_iff, Nat.beq_eq, beq_iff_eq]; exact UInt8.toNat_inj
    rw [e1, e2]
    cases decide (a < b) <;> cases (a == b) <;> rfl
theorem byteNs_size (s : ByteArray) : (byteNs s).length = s.size := by unfold byteNs; rw [List.length_map, Array.length_toList]; rfl
theorem byteNs_append (s t : ByteArray) : byteNs (s ++ t) = byteNs s ++ byteNs t := by
  unfold byteNs
  rw [ByteArray.data_append]; simp
theorem strlt (s t : ByteArray) : Op.bytesLess s.toList t.toList = ltN (byteNs s) (byteNs t) := by
  rw [ltN_bytes, ByteArray.toList_eq, ByteArray.toList_eq]; rfl
theorem binS_inv {op : BinOp} {s t : ByteArray} {k : AV → Bool} (h : binS op (byteNs s) (byteNs t) k = true) :
    ∃ v, k v = true ∧ ∀ ty, Val ev ρ P (Go.binOp op ty (.string s) (.string t)) v := by
  have orE : ∀ a b : Bool, iff_ a true b = (a || b) := fun a b => by cases a <;> rfl
  cases op <;> unfold binS at h <;> dsimp only at h <;> try exact nomatch (show false = true from h)
  case add =>
    rw [lenN_eq, lenN_eq] at h
    obtain ⟨h1, h2⟩ := guard_inv h
    rw [appN_eq] at h2
    refine ⟨_, h2, fun ty w => ⟨.string (s ++ t), ?_, .s (byteNs_append s t)⟩⟩
    have h3 := Nat.le_of_ble_eq_true h1
    rw [byteNs_size, byteNs_size] at h3
    have h4 : s.size + t.size ≤ 9223372036854775807 := h3
    have h5 : ¬ (IntKind.i64.max < ((s.size + t.size : Nat) : Int)) := by simp only [IntKind.max, IntKind.signed, IntKind.bits]; simp; omega
    simp only [Go.binOp, Op.stringOp, gt_iff_lt, h5, if_false]
    rfl
  all_goals rw [fB_eq] at h
  all_goals refine ⟨_, h, fun ty w => ⟨_, ?_, .b _⟩⟩
  all_goals simp only [Go.binOp, Op.stringOp, byteNs_inj, strlt, orE]; rfl
end Go.Rk
