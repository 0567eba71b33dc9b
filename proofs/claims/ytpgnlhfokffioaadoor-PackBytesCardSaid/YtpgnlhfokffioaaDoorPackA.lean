/-
  Packets: bytes put behind bytes of one's own: contracts.
-/
import Derived.Test.YtpgnlhfokffioaaDoorOwn
import Derived.Lib.AppendStr
namespace Go.Proofs.YtpgnlhfokffioaaDoor
open Go.RowKit
set_option maxRecDepth 100000 in
set_option maxHeartbeats 1000000 in
theorem appendString_any (base n0 : Nat) (vb : Value) (xs : List UInt8) (s : ByteArray) (w : World) (hown : w.ownsRow base 5 1 vb n0 (xs.map B8)) (hs : s.size ≤ 1000000) (hn0 : n0 ≤ 900000) (hbase : base ≤ w.heap.size) :
    Calls Tryd.prog 76 #[vb, .string s] w fun e w' => ∃ v', e = .returned v' ∧ Below base w w' ∧ w'.ownsRow base 5 1 v' (n0 + 2 + s.size) ((xs ++ bigv s.size 2 ++ s.data.toList).map B8) := by
  obtain ⟨i0, hi, hz0, hz1, hz2⟩ := info_parts infoU8
  go_enter Tryd.func76, Tryd.ntmps76
  go_wp2_with fail
  refine (numAppend_any base n0 vb xs 2 s.size _ hown (by decide) (by omega) hbase).mono ?_
  rintro e w1 ⟨v1, rfl, hg1, ho1⟩
  have hs1 := hg1.1.size
  have hb1 : Below base w w1 := grew_below hg1 hbase (fun q hq => (hown.lt q hq).1)
  have HB1 := Lib.hid hb1
  clear hg1 hb1
  go_wp2_with (refine Lib.wpList_append_own_string _ rfl _ _ 31 9 rfl base 5 i0 Tryd.underlying31 Tryd.underlying9 hi hz0 hz1 hz2 _ _ _ rfl ho1 s rfl (by unfold maxLen; omega) (by omega) (by omega) ?_)
  intro v' w' ho2 hg2 _
  go_wp2
  go_ret
  exact ⟨_, rfl, HB1.out.grown hg2 (by omega) (fun k hk => (ho1.lt k hk).1), by simp only [List.map_append, List.append_assoc]; exact ho2⟩
def flg (b : Bool) (f : Int) : Int := if b then f else 0
theorem flag_any (b : Bool) (f : Int) (w : World) : Calls Tryd.prog 75 #[.bool b, .int .i64 f] w fun e w' => e = .returned (.int .i64 (flg b f)) ∧ w = w' := by
  cases b
  all_goals
    go_enter Tryd.func75, Tryd.ntmps75
    go_wp2
    go_ret
    exact ⟨rfl, rfl⟩
theorem bit_any (b : Bool) (n : UInt8) (w : World) : Calls Tryd.prog 61 #[.bool b, B8 n] w fun e w' => e = .returned (B8 (if b then n else 0)) ∧ w = w' := by
  cases b
  all_goals
    go_enter Tryd.func61, Tryd.ntmps61
    go_wp2
    go_ret
    exact ⟨rfl, rfl⟩
/-- A length in groups of seven bits, the lowest first. -/
def lenB : Nat → Nat → List UInt8
  | 0, n => [UInt8.ofNat n]
  | k + 1, n => if n < 128 then [UInt8.ofNat n] else UInt8.ofNat (n % 128 + 128) :: lenB k (n / 128)
set_option maxRecDepth 100000 in
set_option maxHeartbeats 1000000 in
theorem rtext_any (base n0 : Nat) (vb : Value) (xs : List UInt8) (s : ByteArray) (w : World) (hown : w.ownsRow base 5 1 vb n0 (xs.map B8)) (hs : s.size ≤ 1000000) (hn0 : n0 ≤ 900000) (hbase : base ≤ w.heap.size) :
    Calls Tryd.prog 87 #[vb, .string s] w fun e w' => ∃ v', e = .returned v' ∧ Below base w w' ∧ w'.ownsRow base 5 1 v' (n0 + 2 + s.size) ((xs ++ bigv s.size 2 ++ s.data.toList).map B8) := by
  obtain ⟨i0, hi, hz0, hz1, hz2⟩ := info_parts infoU8
  go_enter Tryd.func87, Tryd.ntmps87
  go_wp2_with fail
  refine (big_any 2 s.size _ (by decide)).mono ?_
  rintro e w1 ⟨v1, rfl, hg1, ho1⟩
  have hb1 := grew_nil hg1
  have hs1 := hb1.size
  have hoK := below_own hown hb1
  have HS1 := Lib.hid (Sl.of_own (l := bigv s.size 2) ho1).1
  have HB1 := Lib.hid hb1
  obtain ⟨ao1, cap1, rfl⟩ := own_slice ho1
  clear hg1 hb1 ho1 hown
  go_wp2_with (first
    | (at_builtin; refine appendAll rfl _ _ 31 5 rfl base i0 Tryd.underlying31 hi hz0 hz1 hz2 _ _ _ (bigv s.size 2) rfl hoK _ rfl HS1.out (by omega) (by simp [bigv_length]) (by omega) ?_; intro v3 w3 ho3 hg3; rw [bigv_length] at ho3; have HB3 := Lib.hid (grew_below hg3 (by omega) (fun q hq => (hoK.lt q hq).1)); have hs3 := HB3.out.size; clear hg3)
    | (refine Lib.wpList_append_own_string _ rfl _ _ 31 9 rfl base 5 i0 Tryd.underlying31 Tryd.underlying9 hi hz0 hz1 hz2 _ _ _ rfl ho3 s rfl (by unfold maxLen; omega) (by omega) (by omega) ?_; intro v' w' ho2 hg2 _))
  go_ret
  exact ⟨_, rfl, ((HB1.out.mono hbase).trans HB3.out).grown hg2 (by omega) (fun k hk => (ho3.lt k hk).1), by simp only [List.map_append, List.append_assoc] at ho2 ⊢; exact ho2⟩
end Go.Proofs.YtpgnlhfokffioaaDoor
