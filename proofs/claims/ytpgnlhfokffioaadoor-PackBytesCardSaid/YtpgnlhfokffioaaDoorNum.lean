/-
  Numbers as bytes: num.Append, num.Read, and the reference's Big and Of.
-/
import Derived.Test.YtpgnlhfokffioaaDoorBytes
namespace Go.Proofs.YtpgnlhfokffioaaDoor
open Go.RowKit
/-- Byte i of a number, the lowest is 0. -/
def byteAt (v : Int) (i : Nat) : UInt8 := UInt8.ofNat (v / 2 ^ (8 * i) % 256).toNat
theorem byteAt_toNat (v : Int) (i : Nat) : ((byteAt v i).toNat : Int) = v / 2 ^ (8 * i) % 256 := by
  unfold byteAt; simp only [UInt8.toNat_ofNat']; omega
/-- The n lower bytes of a number, the highest first. -/
def bigv (v : Int) : Nat → List UInt8
  | 0 => []
  | n + 1 => byteAt v n :: bigv v n
theorem bigv_length (v : Int) (n : Nat) : (bigv v n).length = n := by induction n with | zero => rfl | succ n ih => simp [bigv, ih]
set_option maxRecDepth 100000 in
set_option maxHeartbeats 1000000 in
theorem numAppend_any (base n0 : Nat) (vb : Value) (xs : List UInt8) (n : Nat) (v : Int) (w : World) (hown : w.ownsRow base 5 1 vb n0 (xs.map B8)) (hn : n ≤ 8) (hn0 : n0 ≤ 1000000) (hbase : base ≤ w.heap.size) :
    Calls Tryd.prog 77 #[vb, .int .i64 n, .int .i64 v] w fun e w' => ∃ v', e = .returned v' ∧ Grew w w' vb v' ∧ w'.ownsRow base 5 1 v' (n0 + n) ((xs ++ bigv v n).map B8) := by
  obtain ⟨i0, hi, hz0, hz1, hz2⟩ := info_parts infoU8
  go_enter Tryd.func77, Tryd.ntmps77
  go_wp2
  go_loopw [0, 7] (fun m i wr => ∃ (j c : Nat) (ys : List UInt8), j ≤ n ∧ i = .int .i64 ((j : Int) - 1) ∧ Grew w wr vb m ∧ c + j = n0 + n ∧ xs ++ bigv v n = ys ++ bigv v j ∧ wr.ownsRow base 5 1 m c (ys.map B8)) (fun _ i _ => (intOf i + 1).toNat)
  case atStart => exact ⟨n, n0, xs, by omega, rfl, Grew.refl _ _, rfl, rfl, hown⟩
  case round =>
    obtain ⟨j, c, ys, hj, rfl, hg, hcj, hys, hown1⟩ := hrel
    clear hown
    have HY := Lib.hid hys; clear hys
    have HJ := Lib.hid hcj
    have hc1 : c ≤ n0 + n := by omega
    clear hcj
    have hsz := hg.1.size
    by_cases h0 : 1 ≤ j
    · obtain ⟨q, rfl⟩ : ∃ q, j = q + 1 := ⟨j - 1, by omega⟩
      rw [show (((q + 1 : Nat) : Int) - 1) = (q : Int) by omega]
      have hb := byteAt_toNat v q
      have HB := Lib.hid hb; clear hb
      go_wp2_with (first
        | (at_builtin; refine wpList_append_at _ rfl _ _ 31 rfl base 5 i0 (.int .u8 0) 1 1 Tryd.underlying31 hi hz0 hz1 hz2 rfl (by decide) _ _ _ rfl (hown1.alloc _) ⟨wr.heap.size, 0, none⟩ 1 1 [B8 (byteAt v q)] rfl rfl ?c1 ?c2 ?c3 ?c4 ?c5 ?_))
      case c1 =>
        intro t u hj
        match t, hj with
        | 0, hj => simp at hj; subst hj; simp [Addr.add]; exact HB.out.symm
      case c2 => intro u hu; simp at hu; subst hu; rfl
      case c3 => unfold maxLen; omega
      case c4 => omega
      case c5 => simp; omega
      intro v' w1 hown' hgrow hat
      have hg2 := hg.app hgrow hat
      have hown2 : w1.ownsRow base 5 1 v' (c + 1) ((ys ++ [byteAt v q]).map B8) := by rw [List.map_append]; exact hown'
      clear hown' hgrow hat hg hown1
      go_wp2
      go_roundw
      case rel => exact ⟨q, c + 1, _, by omega, by go_num, hg2, by have := HJ.out; omega, by rw [HY.out, List.append_assoc]; rfl, hown2⟩
      case measure => simp [intOf]
    · have : j = 0 := by omega
      subst this
      go_wp2
      go_ret
      have h1 := HJ.out
      have h2 : c = n0 + n := by omega
      have h3 : ys = xs ++ bigv v n := by rw [HY.out]; simp [bigv]
      rw [← h3, ← h2]
      exact ⟨_, rfl, hg, hown1⟩
set_option maxRecDepth 100000 in
set_option maxHeartbeats 1000000 in
theorem big_any (n : Nat) (v : Int) (w : World) (hn : n ≤ 8) :
    Calls Tryd.prog 88 #[.int .i64 v, .int .i64 n] w fun e w' => ∃ v', e = .returned v' ∧ Grew w w' (.slice none 0 0) v' ∧ w'.ownsRow w.heap.size 5 1 v' n ((bigv v n).map B8) := by
  obtain ⟨i0, hi, hz0, hz1, hz2⟩ := info_parts infoU8
  go_enter Tryd.func88, Tryd.ntmps88
  go_wp2
  go_loopw [5, 6] (fun m i wr => ∃ (j c : Nat) (ys : List UInt8), j ≤ n ∧ i = .int .i64 ((j : Int) - 1) ∧ Grew w wr (.slice none 0 0) m ∧ c + j = n ∧ bigv v n = ys ++ bigv v j ∧ wr.ownsRow w.heap.size 5 1 m c (ys.map B8)) (fun _ i _ => (intOf i + 1).toNat)
  case atStart => exact ⟨n, 0, [], by omega, rfl, Grew.refl _ _, by omega, rfl, World.ownsRow_nil _ _ _ _⟩
  case round =>
    obtain ⟨j, c, ys, hj, rfl, hg, hcj, hys, hown1⟩ := hrel
    have HY := Lib.hid hys; clear hys
    have HJ := Lib.hid hcj
    have hc1 : c ≤ n := by omega
    clear hcj
    have hsz := hg.1.size
    by_cases h0 : 1 ≤ j
    · obtain ⟨q, rfl⟩ : ∃ q, j = q + 1 := ⟨j - 1, by omega⟩
      rw [show (((q + 1 : Nat) : Int) - 1) = (q : Int) by omega]
      have hb := byteAt_toNat v q
      have HB := Lib.hid hb; clear hb
      go_wp2_with (first
        | (at_builtin; refine wpList_append_at _ rfl _ _ 31 rfl w.heap.size 5 i0 (.int .u8 0) 1 1 Tryd.underlying31 hi hz0 hz1 hz2 rfl (by decide) _ _ _ rfl (hown1.alloc _) ⟨wr.heap.size, 0, none⟩ 1 1 [B8 (byteAt v q)] rfl rfl ?c1 ?c2 ?c3 ?c4 ?c5 ?_))
      case c1 =>
        intro t u hj
        match t, hj with
        | 0, hj => simp at hj; subst hj; simp [Addr.add]; exact HB.out.symm
      case c2 => intro u hu; simp at hu; subst hu; rfl
      case c3 => unfold maxLen; omega
      case c4 => omega
      case c5 => simp; omega
      intro v' w1 hown' hgrow hat
      have hg2 := hg.app hgrow hat
      have hown2 : w1.ownsRow w.heap.size 5 1 v' (c + 1) ((ys ++ [byteAt v q]).map B8) := by rw [List.map_append]; exact hown'
      clear hown' hgrow hat hg hown1
      go_wp2
      go_roundw
      case rel => exact ⟨q, c + 1, _, by omega, by go_num, hg2, by have := HJ.out; omega, by rw [HY.out, List.append_assoc]; rfl, hown2⟩
      case measure => simp [intOf]
    · have : j = 0 := by omega
      subst this
      go_wp2
      go_ret
      have h1 := HJ.out
      have h2 : c = n := by omega
      have h3 : ys = bigv v n := by rw [HY.out]; simp [bigv]
      rw [← h3, ← h2]
      exact ⟨_, rfl, hg, hown1⟩
/-- The number that bytes are, the highest first. -/
def ofv (l : List UInt8) : Int := l.foldl (fun v x => v * 256 + (x.toNat : Int)) 0
theorem ofv_snoc (l : List UInt8) (x : UInt8) : ofv (l ++ [x]) = ofv l * 256 + x.toNat := by simp [ofv, List.foldl_append]
theorem ofv_aux (l : List UInt8) : ∀ a : Int, 0 ≤ a → 0 ≤ l.foldl (fun v x => v * 256 + (x.toNat : Int)) a ∧ l.foldl (fun v x => v * 256 + (x.toNat : Int)) a < (a + 1) * 256 ^ l.length := by
  induction l with
  | nil => intro a h; simp; omega
  | cons x t ih =>
    intro a h
    have hx := x.toNat_lt
    obtain ⟨h1, h2⟩ := ih (a * 256 + x.toNat) (by omega)
    refine ⟨h1, Int.lt_of_lt_of_le h2 ?_⟩
    rw [List.length_cons, Int.pow_succ, Int.mul_comm (256 ^ t.length) 256, ← Int.mul_assoc]
    exact Int.mul_le_mul_of_nonneg_right (by omega) (Int.pow_nonneg (by decide))
theorem ofv_bd (l : List UInt8) : 0 ≤ ofv l ∧ ofv l < 256 ^ l.length := by
  have := ofv_aux l 0 (Int.le_refl 0)
  simpa [ofv] using this
set_option maxRecDepth 100000 in
set_option maxHeartbeats 1000000 in
theorem numRead_any (v : Value) (l : List UInt8) (w : World) (hl : l.length ≤ 6) (hv : Sl w v l) :
    Calls Tryd.prog 91 #[v] w fun e w' => e = .returned (.int .i64 (ofv l)) ∧ w = w' := by
  obtain ⟨ao, cap, rfl, hcl, hcm, -, hB⟩ := hv
  have HB := Lib.hid hB; clear hB
  go_enter Tryd.func91, Tryd.ntmps91
  go_wp2
  go_loop [3, 8] (fun x i => ∃ k : Nat, k ≤ l.length ∧ i = .int .i64 k ∧ x = .int .i64 (ofv (l.take k))) (fun _ i => l.length - (intOf i).toNat)
  case atStart => exact ⟨0, by omega, rfl, rfl⟩
  case round =>
    obtain ⟨k, hk, rfl, rfl⟩ := hrel
    have hbd := ofv_bd (l.take k)
    have hkl : (l.take k).length = k := by rw [List.length_take]; omega
    have hp : (256 : Int) ^ (l.take k).length ≤ 256 ^ 6 := by
      rw [hkl]; exact_mod_cast Nat.pow_le_pow_right (n := 256) (by omega) (by omega : k ≤ 6)
    obtain ⟨y, hy⟩ : ∃ y, y = ofv (l.take k) := ⟨_, rfl⟩
    rw [← hy] at hbd ⊢
    have hy0 : 0 ≤ y := hbd.1
    have hlt : k < l.length ∨ k = l.length := by omega
    rcases hlt with hlt | rfl
    · have hk6 : k ≤ 5 := by omega
      have hy1 : y < 1099511627776 := by
        have : (256 : Int) ^ (l.take k).length ≤ 256 ^ 5 := by
          rw [hkl]; exact_mod_cast Nat.pow_le_pow_right (n := 256) (by omega) hk6
        omega
      obtain ⟨b, off, rfl, hbw, hBB⟩ := HB.out (by intro h; simp [h] at hlt)
      obtain ⟨x, hx, hcx, hx1⟩ := hBB.get k hlt
      have orb := or_byte y (x.toNat : Int) hy0 (by omega) (by omega) hx1
      have hnx : ofv (l.take (k + 1)) = y * 256 + x.toNat := by
        rw [List.take_add_one, hx, hy]; exact ofv_snoc _ _
      have HY := Lib.hid hy; have HX := Lib.hid hx; have HN := Lib.hid hnx; clear hy hx hnx hp hkl hbd hBB
      go_wp2
      go_round
      case rel => exact ⟨k + 1, by omega, by go_num, by rw [HN.out]⟩
      case measure => simp [intOf]; omega
    · have hfin : ofv l = y := by rw [hy, List.take_length]
      have HY := Lib.hid hfin; clear hfin hy hp hkl hbd HB
      go_wp2
      go_ret
      exact ⟨by rw [HY.out]; rfl, rfl⟩
set_option maxRecDepth 100000 in
set_option maxHeartbeats 1000000 in
theorem of_any (v : Value) (l : List UInt8) (w : World) (hl : l.length ≤ 6) (hv : Sl w v l) :
    Calls Tryd.prog 93 #[v] w fun e w' => e = .returned (.int .i64 (ofv l)) ∧ w = w' := by
  obtain ⟨ao, cap, rfl, hcl, hcm, -, hB⟩ := hv
  have HB := Lib.hid hB; clear hB
  go_enter Tryd.func93, Tryd.ntmps93
  go_wp2
  go_loop [3, 4] (fun x i => ∃ k : Nat, k ≤ l.length ∧ i = .int .i64 k ∧ x = .int .i64 (ofv (l.take k))) (fun _ i => l.length - (intOf i).toNat)
  case atStart => exact ⟨0, by omega, rfl, rfl⟩
  case round =>
    obtain ⟨k, hk, rfl, rfl⟩ := hrel
    have hbd := ofv_bd (l.take k)
    have hkl : (l.take k).length = k := by rw [List.length_take]; omega
    have hp : (256 : Int) ^ (l.take k).length ≤ 256 ^ 6 := by
      rw [hkl]; exact_mod_cast Nat.pow_le_pow_right (n := 256) (by omega) (by omega : k ≤ 6)
    obtain ⟨y, hy⟩ : ∃ y, y = ofv (l.take k) := ⟨_, rfl⟩
    rw [← hy] at hbd ⊢
    have hy0 : 0 ≤ y := hbd.1
    have hlt : k < l.length ∨ k = l.length := by omega
    rcases hlt with hlt | rfl
    · have hk6 : k ≤ 5 := by omega
      have hy1 : y < 1099511627776 := by
        have : (256 : Int) ^ (l.take k).length ≤ 256 ^ 5 := by
          rw [hkl]; exact_mod_cast Nat.pow_le_pow_right (n := 256) (by omega) hk6
        omega
      obtain ⟨b, off, rfl, hbw, hBB⟩ := HB.out (by intro h; simp [h] at hlt)
      obtain ⟨x, hx, hcx, hx1⟩ := hBB.get k hlt
      have orb := or_byte y (x.toNat : Int) hy0 (by omega) (by omega) hx1
      have hnx : ofv (l.take (k + 1)) = y * 256 + x.toNat := by
        rw [List.take_add_one, hx, hy]; exact ofv_snoc _ _
      have HY := Lib.hid hy; have HX := Lib.hid hx; have HN := Lib.hid hnx; clear hy hx hnx hp hkl hbd hBB
      go_wp2
      go_round
      case rel => exact ⟨k + 1, by omega, by go_num, by rw [HN.out]⟩
      case measure => simp [intOf]; omega
    · have hfin : ofv l = y := by rw [hy, List.take_length]
      have HY := Lib.hid hfin; clear hfin hy hp hkl hbd HB
      go_wp2
      go_ret
      exact ⟨by rw [HY.out]; rfl, rfl⟩
/-- The same, where the count stands as a numeral. -/
theorem numApp_k (base n0 : Nat) (vb : Value) (xs : List UInt8) (k : Int) (n : Nat) (v : Int) (w : World) (hk : k = (n : Int)) (hown : w.ownsRow base 5 1 vb n0 (xs.map B8)) (hn : n ≤ 8) (hn0 : n0 ≤ 1000000) (hbase : base ≤ w.heap.size) :
    Calls Tryd.prog 77 #[vb, .int .i64 k, .int .i64 v] w fun e w' => ∃ v', e = .returned v' ∧ Grew w w' vb v' ∧ w'.ownsRow base 5 1 v' (n0 + n) ((xs ++ bigv v n).map B8) := by
  subst hk; exact numAppend_any base n0 vb xs n v w hown hn hn0 hbase
theorem big_k (k : Int) (n : Nat) (v : Int) (w : World) (hk : k = (n : Int)) (hn : n ≤ 8) :
    Calls Tryd.prog 88 #[.int .i64 v, .int .i64 k] w fun e w' => ∃ v', e = .returned v' ∧ Grew w w' (.slice none 0 0) v' ∧ w'.ownsRow w.heap.size 5 1 v' n ((bigv v n).map B8) := by
  subst hk; exact big_any n v w hn
end Go.Proofs.YtpgnlhfokffioaaDoor
