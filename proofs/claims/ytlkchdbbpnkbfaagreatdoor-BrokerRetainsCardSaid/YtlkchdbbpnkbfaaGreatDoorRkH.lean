/-
  Words of our own, of no program: the reckoner: operations that yield a value, the world standing (more).
-/
import Derived.Test.YtlkchdbbpnkbfaaGreatDoorRkG
namespace Go.Rk
open Go.RowKit
variable {P : Program} {ev : Nat → Nat} {B : Nat} {ρ : Ren} {σ : Heap} {w : World}
theorem eqIn_nilp (d : Nat) {t e : Nat} {a : Option Addr} (ht : P.underlying t = some (.pointer e)) : (Op.equalIn (d + 1) t (.pointer none) (.pointer a)).run P w = .ok a.isNone w := by
  simp [Op.equalIn, run_underlying ht]
theorem equal_nilp {t e : Nat} {a : Option Addr} (ht : P.underlying t = some (.pointer e)) : (Op.equal t (.pointer none) (.pointer a)).run P w = .ok a.isNone w := eqIn_nilp 9999 ht
theorem eqIn_p_nil (d : Nat) {t e : Nat} {a : Addr} (ht : P.underlying t = some (.pointer e)) : (Op.equalIn (d + 1) t (.pointer (some a)) (.pointer none)).run P w = .ok false w := by
  simp [Op.equalIn, run_underlying ht]
theorem equal_p_nil {t e : Nat} {a : Addr} (ht : P.underlying t = some (.pointer e)) : (Op.equal t (.pointer (some a)) (.pointer none)).run P w = .ok false w := eqIn_p_nil 9999 ht
theorem eqIn_nils (d : Nat) {t e : Nat} {a : Option Addr} {n c : Nat} (ht : P.underlying t = some (.slice e)) : (Op.equalIn (d + 1) t (.slice none 0 0) (.slice a n c)).run P w = .ok a.isNone w := by
  simp [Op.equalIn, run_underlying ht]
theorem equal_nils {t e : Nat} {a : Option Addr} {n c : Nat} (ht : P.underlying t = some (.slice e)) : (Op.equal t (.slice none 0 0) (.slice a n c)).run P w = .ok a.isNone w := eqIn_nils 9999 ht
theorem eqIn_s_nil (d : Nat) {t e : Nat} {a : Addr} {n c : Nat} (ht : P.underlying t = some (.slice e)) : (Op.equalIn (d + 1) t (.slice (some a) n c) (.slice none 0 0)).run P w = .ok false w := by
  simp [Op.equalIn, run_underlying ht]
theorem equal_s_nil {t e : Nat} {a : Addr} {n c : Nat} (ht : P.underlying t = some (.slice e)) : (Op.equal t (.slice (some a) n c) (.slice none 0 0)).run P w = .ok false w := eqIn_s_nil 9999 ht
theorem eqIn_nilf (d : Nat) {t : Nat} {a b : Array Nat} {c : Bool} (ht : P.underlying t = some (.func a b c)) : (Op.equalIn (d + 1) t .nilFunc .nilFunc).run P w = .ok true w := by
  simp [Op.equalIn, run_underlying ht]
theorem equal_nilf {t : Nat} {a b : Array Nat} {c : Bool} (ht : P.underlying t = some (.func a b c)) : (Op.equal t .nilFunc .nilFunc).run P w = .ok true w := eqIn_nilf 9999 ht
theorem eqIn_nilf_f (d : Nat) {t : Nat} {a b : Array Nat} {c : Bool} {g : Fn} {x y : Array Value} (ht : P.underlying t = some (.func a b c)) : (Op.equalIn (d + 1) t .nilFunc (.func g x y)).run P w = .ok false w := by
  simp [Op.equalIn, run_underlying ht]
theorem equal_nilf_f {t : Nat} {a b : Array Nat} {c : Bool} {g : Fn} {x y : Array Value} (ht : P.underlying t = some (.func a b c)) : (Op.equal t .nilFunc (.func g x y)).run P w = .ok false w := eqIn_nilf_f 9999 ht
theorem eqIn_f_nilf (d : Nat) {t : Nat} {a b : Array Nat} {c : Bool} {g : Fn} {x y : Array Value} (ht : P.underlying t = some (.func a b c)) : (Op.equalIn (d + 1) t (.func g x y) .nilFunc).run P w = .ok false w := by
  simp [Op.equalIn, run_underlying ht]
theorem equal_f_nilf {t : Nat} {a b : Array Nat} {c : Bool} {g : Fn} {x y : Array Value} (ht : P.underlying t = some (.func a b c)) : (Op.equal t (.func g x y) .nilFunc).run P w = .ok false w := eqIn_f_nilf 9999 ht
theorem eqIn_bool (d : Nat) {t : Nat} {a b : Bool} (ht : P.underlying t = some .bool) : (Op.equalIn (d + 1) t (.bool a) (.bool b)).run P w = .ok (a == b) w := by
  simp [Op.equalIn, run_underlying ht]
theorem equal_bool {t : Nat} {a b : Bool} (ht : P.underlying t = some .bool) : (Op.equal t (.bool a) (.bool b)).run P w = .ok (a == b) w := eqIn_bool 9999 ht
theorem kc3 {q : IntKind} (h : Nat.beq (kc q) 3 = true) : q = .i64 := by
  have h' := Nat.eq_of_beq_eq_true h
  cases q <;> first | rfl | exact absurd h' (by decide)
theorem iff_false_inv {b t : Bool} (h : iff_ b t false = true) : b = true ∧ t = true := by cases b with | true => exact ⟨rfl, h⟩ | false => exact nomatch (show false = true from h)
theorem isNilp_inv {x : AV} (h : isNilp x = true) : x = .nilp := by cases x <;> first | rfl | exact nomatch (show false = true from h)
theorem isNils_inv {x : AV} (h : isNils x = true) : x = .nils := by cases x <;> first | rfl | exact nomatch (show false = true from h)
theorem isNilf_inv {x : AV} (h : isNilf x = true) : x = .nilf := by cases x <;> first | rfl | exact nomatch (show false = true from h)
theorem natR_inv {op : BinOp} {lb : Nat} {n : Int} {k : K1} (h : natR op lb n k = true) : (op = .gtr ∧ n < (lb : Int) ∧ k (.b true) = true) ∨ (op = .geq ∧ n ≤ (lb : Int) ∧ k (.b true) = true) := by
  cases op <;> first | exact nomatch (show false = true from h) | skip
  case gtr => obtain ⟨h1, h2⟩ := iff_false_inv h; exact .inl ⟨rfl, of_decide_eq_true h1, h2⟩
  case geq => obtain ⟨h1, h2⟩ := iff_false_inv h; exact .inr ⟨rfl, of_decide_eq_true h1, h2⟩
theorem natL_inv {op : BinOp} {lb : Nat} {n : Int} {k : K1} (h : natL op n lb k = true) : (op = .lss ∧ n < (lb : Int) ∧ k (.b true) = true) ∨ (op = .leq ∧ n ≤ (lb : Int) ∧ k (.b true) = true) := by
  cases op <;> first | exact nomatch (show false = true from h) | skip
  case lss => obtain ⟨h1, h2⟩ := iff_false_inv h; exact .inl ⟨rfl, of_decide_eq_true h1, h2⟩
  case leq => obtain ⟨h1, h2⟩ := iff_false_inv h; exact .inr ⟨rfl, of_decide_eq_true h1, h2⟩
theorem remZ_inv {op : BinOp} {r : Nat} {k : K1} (h : remZ op r k = true) : op = .rem ∧ r ≠ 0 ∧ k (.i .i64 ((r : Int) - 2)) = true := by
  cases op <;> first | exact nomatch (show false = true from h) | skip
  case rem =>
    match r, h with
    | 1, h => exact ⟨rfl, by omega, h⟩
    | p + 2, h =>
      refine ⟨rfl, by omega, ?_⟩
      have e : ((p + 2 : Nat) : Int) - 2 = Int.ofNat p := by show ((p + 2 : Nat) : Int) - 2 = (p : Int); omega
      rw [e]
      exact h
/-- Two values: what there is of the result, for whatever places. -/
theorem binV_inv {op : BinOp} {t : Nat} {x y : AV} {k : K1} (h : binV x op (tk P t) y k = true) :
    ∃ v, k v = true ∧ ∀ ρ cx cy, VR ev ρ x cx → VR ev ρ y cy → Val ev ρ P (Go.binOp op t cx cy) v := by
  cases x <;> first | exact nomatch (show false = true from h) | skip
  case i q n =>
    have h' : iRight y op q n k = true := h
    cases y <;> first | exact nomatch (show false = true from h') | skip
    case i q' m =>
      have h2 : binI op q n q' m k = true := h'
      obtain ⟨v, hk, hv⟩ := binI_inv (ev := ev) (ρ := fun _ => none) (P := P) h2
      refine ⟨v, hk, fun ρ cx cy hx hy => ?_⟩
      rw [hx.asI, hy.asI]
      exact fun w => let ⟨cv, h1, h2⟩ := hv t w; ⟨cv, h1, h2.mono (fun _ _ e => by cases e)⟩
    case nat j lb =>
      obtain ⟨h1, h2⟩ := guard_inv (show guard_ (Nat.beq (kc q) 3) (natL op n lb k) = true from h')
      have hq := kc3 h1
      subst hq
      rcases natL_inv h2 with ⟨rfl, h3, hk⟩ | ⟨rfl, h3, hk⟩ <;> refine ⟨_, hk, fun ρ cx cy hx hy w => ⟨.bool true, ?_, .b _⟩⟩ <;> obtain ⟨rfl, hlb⟩ := hy.asNat <;> rw [hx.asI] <;> simp [Go.binOp, Op.intCmp] <;> omega
  case cx q0 r j =>
    obtain ⟨q, n, rfl, h⟩ := asI_inv (show (asI y fun q n => guard_ (Nat.beq (kc q) 3) (Int.rec (motive := fun _ => Bool) (fun m => guard_ (Nat.beq m 2) (remZ op r k)) (fun _ => false) n)) = true from h)
    obtain ⟨h1, h2⟩ := guard_inv h
    have hq := kc3 h1
    subst hq
    cases n with
    | negSucc n => exact nomatch (show false = true from h2)
    | ofNat n =>
      obtain ⟨h3, h4⟩ := guard_inv (show guard_ (Nat.beq n 2) (remZ op r k) = true from h2)
      have hn := Nat.eq_of_beq_eq_true h3
      subst hn
      obtain ⟨rfl, hr0, hk⟩ := remZ_inv h4
      refine ⟨_, hk, fun ρ cx cy hx hy w => ?_⟩
      rw [hy.asI]
      cases hx with
      | z h =>
        have ht := h.resolve_left hr0
        refine ⟨.int .i64 ((r : Int) - 2), ?_, .i _ _⟩
        rw [← ht]
        simp [Go.binOp, Op.intDiv]
  case nat j lb =>
    obtain ⟨q, n, rfl, h⟩ := asI_inv (show (asI y fun q n => guard_ (Nat.beq (kc q) 3) (natR op lb n k)) = true from h)
    obtain ⟨h1, h2⟩ := guard_inv h
    have hq := kc3 h1
    subst hq
    rcases natR_inv h2 with ⟨rfl, h3, hk⟩ | ⟨rfl, h3, hk⟩ <;> refine ⟨_, hk, fun ρ cx cy hx hy w => ⟨.bool true, ?_, .b _⟩⟩ <;> obtain ⟨rfl, hlb⟩ := hx.asNat <;> rw [hy.asI] <;> simp [Go.binOp, Op.intCmp] <;> omega
  case s l =>
    obtain ⟨r, rfl, h2⟩ := asS_inv (show (asS y fun r => binS op l r k) = true from h)
    by_cases hl : ∃ s, byteNs s = l
    · by_cases hr : ∃ s, byteNs s = r
      · obtain ⟨s, hs⟩ := hl
        obtain ⟨s', hs'⟩ := hr
        rw [← hs, ← hs'] at h2
        obtain ⟨v, hk, -⟩ := binS_inv (ev := ev) (ρ := fun _ => none) (P := P) h2
        have huniq : ∀ ρ cx cy, VR ev ρ (.s l) cx → VR ev ρ (.s r) cy → cx = .string s ∧ cy = .string s' := fun ρ cx cy hx hy => by
          obtain ⟨a, rfl, ha⟩ := hx.asS
          obtain ⟨b, rfl, hb⟩ := hy.asS
          have e1 : a.toList = s.toList := by have := @byteNs_inj a s; rw [ha, hs, eqN_iff.2 rfl] at this; simpa using this
          have e2 : b.toList = s'.toList := by have := @byteNs_inj b s'; rw [hb, hs', eqN_iff.2 rfl] at this; simpa using this
          rw [ByteArray.toList_eq, ByteArray.toList_eq] at e1 e2
          exact ⟨by rw [show a = s from ByteArray.ext (Array.toList_inj.1 e1)], by rw [show b = s' from ByteArray.ext (Array.toList_inj.1 e2)]⟩
        obtain ⟨v, hk, hv⟩ := binS_inv (ev := ev) (ρ := fun _ => none) (P := P) h2
        refine ⟨v, hk, fun ρ cx cy hx hy => ?_⟩
        obtain ⟨rfl, rfl⟩ := huniq ρ cx cy hx hy
        exact fun w => let ⟨cv, h1, h2⟩ := hv t w; ⟨cv, h1, h2.mono (fun _ _ e => by cases e)⟩
      · have hk : ∃ v, k v = true := by
          cases op <;> unfold binS at h2 <;> dsimp only at h2 <;> first | exact nomatch (show false = true from h2) | skip
          case add => rw [lenN_eq, lenN_eq] at h2; obtain ⟨-, h3⟩ := guard_inv h2; rw [appN_eq] at h3; exact ⟨_, h3⟩
          all_goals rw [fB_eq] at h2; exact ⟨_, h2⟩
        obtain ⟨v, hk⟩ := hk
        exact ⟨v, hk, fun ρ cx cy hx hy => absurd (let ⟨s, _, e⟩ := hy.asS; ⟨s, e⟩) hr⟩
    · have hk : ∃ v, k v = true := by
        cases op <;> unfold binS at h2 <;> dsimp only at h2 <;> first | exact nomatch (show false = true from h2) | skip
        case add => rw [lenN_eq, lenN_eq] at h2; obtain ⟨-, h3⟩ := guard_inv h2; rw [appN_eq] at h3; exact ⟨_, h3⟩
        all_goals rw [fB_eq] at h2; exact ⟨_, h2⟩
      obtain ⟨v, hk⟩ := hk
      exact ⟨v, hk, fun ρ cx cy hx hy => absurd (let ⟨s, _, e⟩ := hx.asS; ⟨s, e⟩) hl⟩
  case b a =>
    obtain ⟨h1, h2⟩ := guard_inv (show guard_ (Nat.beq (tk P t) 1) (asB y fun z => eqOp op (eqvB a z) k) = true from h)
    obtain ⟨b, rfl, h3⟩ := asB_inv h2
    rw [eqvB_eq] at h3
    have ht : P.underlying t = some .bool := by rcases tk_spec (Nat.eq_of_beq_eq_true h1) (by decide) with h | h | h | h | h | h <;> first | exact h.2 | (obtain ⟨h, -⟩ := h; cases h)
    rcases eqOp_inv h3 with ⟨rfl, hk⟩ | ⟨rfl, hk⟩ <;> refine ⟨_, hk, fun ρ cx cy hx hy w => ⟨_, ?_, .b _⟩⟩ <;> rw [hx.asB, hy.asB] <;> simp [Go.binOp, equal_bool ht]
  case nilp =>
    obtain ⟨h1, h2⟩ := guard_inv (show guard_ (Nat.beq (tk P t) 2) (nilP y fun z => eqOp op z k) = true from h)
    obtain ⟨e, ht⟩ : ∃ e, P.underlying t = some (.pointer e) := by rcases tk_spec (Nat.eq_of_beq_eq_true h1) (by decide) with h | h | h | h | h | h <;> first | exact h.2 | (obtain ⟨h, -⟩ := h; cases h)
    rcases nilP_inv h2 with ⟨rfl, h3⟩ | ⟨⟨r, o, rfl⟩, h3⟩ <;> rcases eqOp_inv h3 with ⟨rfl, hk⟩ | ⟨rfl, hk⟩ <;> refine ⟨_, hk, fun ρ cx cy hx hy w => ⟨_, ?_, .b _⟩⟩
    · rw [hx.asNilp, hy.asNilp]; simp [Go.binOp, equal_nilp ht]
    · rw [hx.asNilp, hy.asNilp]; simp [Go.binOp, equal_nilp ht]
    · obtain ⟨_, _, _, _, rfl⟩ := hy.asP; rw [hx.asNilp]; simp [Go.binOp, equal_nilp ht]
    · obtain ⟨_, _, _, _, rfl⟩ := hy.asP; rw [hx.asNilp]; simp [Go.binOp, equal_nilp ht]
  case p r o =>
    obtain ⟨h1, h2⟩ := guard_inv (show guard_ (Nat.beq (tk P t) 2) (guard_ (isNilp y) (eqOp op false k)) = true from h)
    obtain ⟨h2, h3⟩ := guard_inv h2
    have hy0 := isNilp_inv h2
    subst hy0
    obtain ⟨e, ht⟩ : ∃ e, P.underlying t = some (.pointer e) := by rcases tk_spec (Nat.eq_of_beq_eq_true h1) (by decide) with h | h | h | h | h | h <;> first | exact h.2 | (obtain ⟨h, -⟩ := h; cases h)
    rcases eqOp_inv h3 with ⟨rfl, hk⟩ | ⟨rfl, hk⟩ <;> refine ⟨_, hk, fun ρ cx cy hx hy w => ⟨_, ?_, .b _⟩⟩ <;> obtain ⟨_, _, _, _, rfl⟩ := hx.asP <;> rw [hy.asNilp] <;> simp [Go.binOp, equal_p_nil ht]
  case nils =>
    obtain ⟨h1, h2⟩ := guard_inv (show guard_ (Nat.beq (tk P t) 3) (nilS y fun z => eqOp op z k) = true from h)
    obtain ⟨e, ht⟩ : ∃ e, P.underlying t = some (.slice e) := by rcases tk_spec (Nat.eq_of_beq_eq_true h1) (by decide) with h | h | h | h | h | h <;> first | exact h.2 | (obtain ⟨h, -⟩ := h; cases h)
    rcases nilS_inv h2 with ⟨rfl, h3⟩ | ⟨⟨r, o, n, c, z, rfl⟩, h3⟩ <;> rcases eqOp_inv h3 with ⟨rfl, hk⟩ | ⟨rfl, hk⟩ <;> refine ⟨_, hk, fun ρ cx cy hx hy w => ⟨_, ?_, .b _⟩⟩
    · rw [hx.asNils, hy.asNils]; simp [Go.binOp, equal_nils ht]
    · rw [hx.asNils, hy.asNils]; simp [Go.binOp, equal_nils ht]
    · obtain ⟨_, _, _, _, _, _, rfl, -⟩ := hy.asSl; rw [hx.asNils]; simp [Go.binOp, equal_nils ht]
    · obtain ⟨_, _, _, _, _, _, rfl, -⟩ := hy.asSl; rw [hx.asNils]; simp [Go.binOp, equal_nils ht]
  case sl r o n c z =>
    obtain ⟨h1, h2⟩ := guard_inv (show guard_ (Nat.beq (tk P t) 3) (guard_ (isNils y) (eqOp op false k)) = true from h)
    obtain ⟨h2, h3⟩ := guard_inv h2
    have hy0 := isNils_inv h2
    subst hy0
    obtain ⟨e, ht⟩ : ∃ e, P.underlying t = some (.slice e) := by rcases tk_spec (Nat.eq_of_beq_eq_true h1) (by decide) with h | h | h | h | h | h <;> first | exact h.2 | (obtain ⟨h, -⟩ := h; cases h)
    rcases eqOp_inv h3 with ⟨rfl, hk⟩ | ⟨rfl, hk⟩ <;> refine ⟨_, hk, fun ρ cx cy hx hy w => ⟨_, ?_, .b _⟩⟩ <;> obtain ⟨_, _, _, _, _, _, rfl, -⟩ := hx.asSl <;> rw [hy.asNils] <;> simp [Go.binOp, equal_s_nil ht]
  case nilf =>
    obtain ⟨h1, h2⟩ := guard_inv (show guard_ (Nat.beq (tk P t) 4) (nilF y fun z => eqOp op z k) = true from h)
    obtain ⟨a, b, c, ht⟩ : ∃ a b c, P.underlying t = some (.func a b c) := by rcases tk_spec (Nat.eq_of_beq_eq_true h1) (by decide) with h | h | h | h | h | h <;> first | exact h.2 | (obtain ⟨h, -⟩ := h; cases h)
    rcases nilF_inv h2 with ⟨rfl, h3⟩ | ⟨⟨f, l, rfl⟩, h3⟩ <;> rcases eqOp_inv h3 with ⟨rfl, hk⟩ | ⟨rfl, hk⟩ <;> refine ⟨_, hk, fun ρ cx cy hx hy w => ⟨_, ?_, .b _⟩⟩
    · rw [hx.asNilf, hy.asNilf]; simp [Go.binOp, equal_nilf ht]
    · rw [hx.asNilf, hy.asNilf]; simp [Go.binOp, equal_nilf ht]
    · obtain ⟨_, rfl, -⟩ := hy.asFn; rw [hx.asNilf]; simp [Go.binOp, equal_nilf_f ht]
    · obtain ⟨_, rfl, -⟩ := hy.asFn; rw [hx.asNilf]; simp [Go.binOp, equal_nilf_f ht]
  case fn f l =>
    obtain ⟨h1, h2⟩ := guard_inv (show guard_ (Nat.beq (tk P t) 4) (guard_ (isNilf y) (eqOp op false k)) = true from h)
    obtain ⟨h2, h3⟩ := guard_inv h2
    have hy0 := isNilf_inv h2
    subst hy0
    obtain ⟨a, b, c, ht⟩ : ∃ a b c, P.underlying t = some (.func a b c) := by rcases tk_spec (Nat.eq_of_beq_eq_true h1) (by decide) with h | h | h | h | h | h <;> first | exact h.2 | (obtain ⟨h, -⟩ := h; cases h)
    rcases eqOp_inv h3 with ⟨rfl, hk⟩ | ⟨rfl, hk⟩ <;> refine ⟨_, hk, fun ρ cx cy hx hy w => ⟨_, ?_, .b _⟩⟩ <;> obtain ⟨_, rfl, -⟩ := hx.asFn <;> rw [hy.asNilf] <;> simp [Go.binOp, equal_f_nilf ht]
end Go.Rk
