/-
  Memory: Put and Write of what there is room for, and their mathematics.
-/
import Derived.Test.YtibmjljofopldaaMemE
import Derived.Test.YtibmjljofopldaaCopy
import Derived.Deep.Heap
import Derived.RegionTactic
namespace Go.Proofs.Ytibmjljofopldaa
open Go.RowKit
/-- k bytes of a number laid from place p, the lowest first. -/
def putk (l : List UInt8) (p : Nat) (v : Int) : Nat → List UInt8
  | 0 => l
  | k + 1 => (putk l p v k).set (p + k) (byteAt v k)
theorem putk_len (l : List UInt8) (p : Nat) (v : Int) (k : Nat) : (putk l p v k).length = l.length := by induction k with | zero => rfl | succ k ih => simp [putk, ih]
theorem putk_in (l : List UInt8) (p : Nat) (v : Int) (k j : Nat) (hj : j < k) (hl : p + k ≤ l.length) : (putk l p v k)[p + j]? = some (byteAt v j) := by
  induction k with
  | zero => omega
  | succ k ih =>
    simp only [putk]
    rcases Nat.lt_or_ge j k with h | h
    · rw [List.getElem?_set_ne (by omega)]; exact ih h (by omega)
    · obtain rfl : j = k := by omega
      rw [List.getElem?_set_self (by rw [putk_len]; omega)]
theorem putk_out (l : List UInt8) (p : Nat) (v : Int) (k q : Nat) (hq : q < p ∨ p + k ≤ q) : (putk l p v k)[q]? = l[q]? := by
  induction k with
  | zero => rfl
  | succ k ih => simp only [putk]; rw [List.getElem?_set_ne (by omega)]; exact ih (by omega)
theorem byteAt_succ (v : Int) (k : Nat) : byteAt (v / 256) k = byteAt v (k + 1) := by
  unfold byteAt
  have e : v / 256 / 2 ^ (8 * k) = v / 2 ^ (8 * (k + 1)) := by
    rw [Int.ediv_ediv_of_nonneg (by omega)]
    congr 1
    rw [show 8 * (k + 1) = 8 + 8 * k from by omega, Int.pow_add]; rfl
  rw [e]
theorem lev_digits : ∀ (n p : Nat) (v : Int) (L : List UInt8), (∀ k, k < n → L[p + k]? = some (byteAt v k)) → lev (seg L p n) = v % 256 ^ n
  | 0, p, v, L, _ => by simp [seg, lev]
  | n + 1, p, v, L, h => by
    rw [seg_cons L p n (byteAt v 0) (by simpa using h 0 (by omega))]
    have ih := lev_digits n (p + 1) (v / 256) L (fun k hk => by
      rw [byteAt_succ, show p + 1 + k = p + (k + 1) from by omega]; exact h (k + 1) (by omega))
    simp only [lev, ih, byteAt_toNat]
    have e1 : (256 : Int) ^ (n + 1) = 256 * 256 ^ n := by rw [Int.pow_succ, Int.mul_comm]
    rw [e1]
    have hp : (0 : Int) < 256 ^ n := Int.pow_pos (by omega)
    generalize (256 : Int) ^ n = m at hp
    simp only [Nat.mul_zero, Int.pow_zero, Int.ediv_one]
    have h1 := Int.emod_add_mul_ediv v 256
    have h2 := Int.emod_add_mul_ediv (v / 256) m
    have h3 := Int.emod_nonneg (v / 256) (by omega : m ≠ 0)
    have h4 := Int.emod_lt_of_pos (v / 256) hp
    have h5 : v = (v % 256 + 256 * (v / 256 % m)) + 256 * m * (v / 256 / m) := by
      have : 256 * (v / 256) = 256 * (v / 256 % m) + 256 * m * (v / 256 / m) := by
        rw [Int.mul_assoc, ← Int.mul_add, h2]
      omega
    have h6 : 0 ≤ v % 256 + 256 * (v / 256 % m) := by omega
    have h7 : v % 256 + 256 * (v / 256 % m) < 256 * m := by omega
    conv => rhs; rw [h5]
    rw [Int.add_mul_emod_self_left, Int.emod_eq_of_lt h6 h7]
theorem lev_put (l : List UInt8) (p n : Nat) (v : Int) (hl : p + n ≤ l.length) : lev (seg (putk l p v n) p n) = v % 256 ^ n :=
  lev_digits n p v _ fun k hk => putk_in l p v n k hk hl
theorem grown_set (w : World) (b j : Nat) (v : Value) : w.grownBy (w.setCell ⟨b, j, none⟩ v) (some b) :=
  ⟨rfl, rfl, rfl, by simp, fun k _ hne => Go.Deep.blk_setCell_other _ _ _ _ (by intro h; exact hne (by rw [h]))⟩
theorem grown_below {w w' : World} {b B : Nat} (h : w.grownBy w' (some b)) (hb : B ≤ b) (hB : B ≤ w.heap.size) : Below B w w' :=
  (Below.refl B w).grown h hB (by intro k hk; cases hk; exact hb)
set_option maxRecDepth 100000 in
set_option maxHeartbeats 1000000 in
theorem memPut_ok (base g b i n N cap : Nat) (v : Int) (l : List UInt8) (w : World) (hc : w.cell? ⟨g, 0, none⟩ = some (.slice (some ⟨b, 0, none⟩) N cap)) (hO : w.ownsRow base 5 1 (.slice (some ⟨b, 0, none⟩) N cap) N (l.map B8)) (hgb : g ≠ b) (hN : N ≤ 1000000) (hn : n = 1 ∨ n = 2 ∨ n = 4 ∨ n = 8) (hi : i + n ≤ N) :
    Calls Try.prog 19 #[.pointer (some ⟨g, 0, none⟩), .int .i64 i, .int .i64 n, .int .u64 v] w fun e w' => e = .returned (.int .i64 0) ∧ w.grownBy w' (some b) ∧ w'.heap.size = w.heap.size ∧ w'.ownsRow base 5 1 (.slice (some ⟨b, 0, none⟩) N cap) N ((putk l i v n).map B8) := by
  have A := memNumber_any g i n (some ⟨b, 0, none⟩) N cap w hc (by omega)
  have hE : numE N i n = 0 := by
    unfold numE
    rw [if_pos (by omega), if_pos (by omega)]
  rw [hE] at A
  have A := Lib.hid A
  clear hE
  go_enter Try.func19, Try.ntmps19
  go_wp2
  refine wp_scope_end rfl rfl fun J' HJ => ?_
  refine wpSpine_seq rfl fun K hK => ?_
  go_wp2_with fail
  refine A.out.mono ?_
  rintro e w' ⟨rfl, rfl⟩
  go_wp2
  refine wpSpine_seq rfl fun K hK => ?_
  go_wp2
  refine wpSpine_seq rfl fun K hK => ?_
  go_wp2
  go_loopw [18] (fun j wr => ∃ k : Nat, k ≤ n ∧ j = .int .i64 k ∧ w.grownBy wr (some b) ∧ wr.heap.size = w.heap.size ∧ wr.cell? ⟨g, 0, none⟩ = some (.slice (some ⟨b, 0, none⟩) N cap) ∧ wr.ownsRow base 5 1 (.slice (some ⟨b, 0, none⟩) N cap) N ((putk l i v k).map B8)) (fun j _ => n - (intOf j).toNat)
  case atStart => exact ⟨0, by omega, rfl, grown_refl _ _, rfl, hc, hO⟩
  case round =>
    obtain ⟨k, hk, rfl, hg, hsz, hcr, hOr⟩ := hrel
    clear hO hc
    by_cases h0 : k < n
    · obtain ⟨u, hu⟩ := own_ex hOr (i + k) (by omega)
      have hf := hOr.frozenAt (i + k)
      have hb := byteAt_toNat v k
      have hadd : IntKind.i64.wrap ((i : Int) + (k : Int)) = (i : Int) + (k : Int) := IntWalk.i64_in _ ⟨by omega, by omega⟩
      have HB := Lib.hid hb; have HO := Lib.hid hOr; have HG := Lib.hid hg
      clear hb hOr hg
      have hmul : IntKind.i64.wrap (8 * (k : Int)) = 8 * (k : Int) := IntWalk.i64_in _ ⟨by omega, by omega⟩
      have hs0 : (0 : Int) ≤ 8 * (k : Int) := by omega
      have hs1 : 8 * (k : Int) ≤ 64 := by omega
      have htn : (8 * (k : Int)).toNat = 8 * k := by omega
      go_wp2_with fail
      go_region
      rw [← HB.out]
      have g2 := grown_trans HG.out (grown_set wr b (i + k) (.int .u8 ((byteAt v k).toNat : Int))) (by intro q hq; cases hq; exact .inl rfl)
      have g3 : w.grownBy (wr.setCell ⟨b, i + k, none⟩ (.int .u8 ((byteAt v k).toNat : Int))).drew (some b) := ⟨g2.os, g2.tape, g2.output, g2.size, g2.block⟩
      have o2 : (wr.setCell ⟨b, i + k, none⟩ (.int .u8 ((byteAt v k).toNat : Int))).drew.ownsRow base 5 1 (.slice (some ⟨b, 0, none⟩) N cap) N ((putk l i v (k + 1)).map B8) := own_set HO.out (i + k) (byteAt v k)
      have c2 : (wr.setCell ⟨b, i + k, none⟩ (.int .u8 ((byteAt v k).toNat : Int))).drew.cell? ⟨g, 0, none⟩ = some (.slice (some ⟨b, 0, none⟩) N cap) := (World.cell?_of_block (w := wr) (Go.Deep.blk_setCell_other _ _ _ _ hgb)).trans hcr
      have s2 : (wr.setCell ⟨b, i + k, none⟩ (.int .u8 ((byteAt v k).toNat : Int))).drew.heap.size = w.heap.size := by rw [← hsz]; simp
      have G3 := Lib.hid g3; have O2 := Lib.hid o2; have C2 := Lib.hid c2; have S2 := Lib.hid s2
      clear g2 g3 o2 c2 s2 HO HG HB hcr hu hf
      go_wp2
      go_roundw
      case rel => exact ⟨k + 1, by omega, by go_num, G3.out, S2.out, C2.out, O2.out⟩
      case measure => simp [intOf]; omega
    · obtain rfl : k = n := by omega
      go_wp2
      refine wpSpine_label (HJ _ _ ?_)
      go_wp2
      rw [Exit.noGoto_ret]
      exact bodyPost_ret (v := .int .i64 0) (by simp [results, Try.results19, go_sem]) rfl ⟨rfl, hg, hsz, hOr⟩
end Go.Proofs.Ytibmjljofopldaa
