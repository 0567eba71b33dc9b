/-
  Memory: Get of what is there, and its mathematics.
-/
import Derived.Test.YtibmjljofopldaaMemD
import Derived.Test.YtibmjljofopldaaMemB
import Derived.Test.YtibmjljofopldaaMemC
namespace Go.Proofs.Ytibmjljofopldaa
open Go.RowKit
/-- The number that bytes are, the lowest first. -/
def lev : List UInt8 → Int
  | [] => 0
  | x :: t => (x.toNat : Int) + 256 * lev t
theorem lev_bd : ∀ l : List UInt8, 0 ≤ lev l ∧ lev l < 256 ^ l.length
  | [] => by simp [lev]
  | x :: t => by
    have h := lev_bd t
    have hx := x.toNat_lt
    have e : (256 : Int) ^ (t.length + 1) = 256 ^ t.length * 256 := by rw [Int.pow_succ]
    simp only [lev, List.length_cons, e]
    omega
theorem lev_lt : ∀ (l : List UInt8) (k : Nat), l.length ≤ k → lev l < 256 ^ k
  | [], k, _ => by simp only [lev]; exact Int.pow_pos (by omega)
  | x :: t, 0, h => by simp at h
  | x :: t, k + 1, h => by
    have ih := lev_lt t k (by simpa using h)
    have hx := x.toNat_lt
    have e : (256 : Int) ^ (k + 1) = 256 ^ k * 256 := by rw [Int.pow_succ]
    simp only [lev, e]; omega
theorem or_byte_u64 (x y : Int) (hx : 0 ≤ x) (hx' : x < 72057594037927936) (hy : 0 ≤ y) (hy' : y < 256) : bits .or .u64 (x * 256) y = x * 256 + y := by
  obtain ⟨x, rfl⟩ := Int.eq_ofNat_of_zero_le hx
  obtain ⟨y, rfl⟩ := Int.eq_ofNat_of_zero_le hy
  have h1 : (BitVec.ofInt 64 ((x : Int) * 256)).toNat = x * 256 := by rw [ofInt_toNat]; omega
  have h2 : (BitVec.ofInt 64 (y : Int)).toNat = y := by rw [ofInt_toNat]; omega
  show IntKind.wrap .u64 (((BitVec.ofInt 64 ((x : Int) * 256) ||| BitVec.ofInt 64 (y : Int)).toNat : Nat) : Int) = _
  have h3 : x * 256 ||| y = x * 256 + y := by
    have := Nat.two_pow_add_eq_or_of_lt (i := 8) (b := y) (by omega) x
    rw [show x * 256 = 2 ^ 8 * x from by omega, ← this]
  rw [BitVec.toNat_or, h1, h2, h3]
  simp [IntKind.wrap, IntKind.bits, IntKind.signed]; omega
/-- The bytes from place p, so many. -/
def seg (l : List UInt8) (p n : Nat) : List UInt8 := (l.drop p).take n
theorem seg_cons (l : List UInt8) (p n : Nat) (x : UInt8) (hx : l[p]? = some x) : seg l p (n + 1) = x :: seg l (p + 1) n := by
  unfold seg
  rw [List.drop_eq_getElem?_toList_append, hx]; simp
theorem seg_len (l : List UInt8) (p n : Nat) : (seg l p n).length ≤ n := by unfold seg; rw [List.length_take]; omega
set_option maxRecDepth 100000 in
set_option maxHeartbeats 1000000 in
theorem memGet_ok (g b off i n N cap : Nat) (l : List UInt8) (w : World) (hc : w.cell? ⟨g, 0, none⟩ = some (.slice (some ⟨b, off, none⟩) N cap)) (hS : Sl w (.slice (some ⟨b, off, none⟩) N cap) l) (hN : N ≤ 1000000) (hn : n = 1 ∨ n = 2 ∨ n = 4 ∨ n = 8) (hi : i + n ≤ N) :
    Calls Try.prog 28 #[.pointer (some ⟨g, 0, none⟩), .int .i64 i, .int .i64 n] w fun e w' => e = .returned (.tuple #[.int .u64 (lev (seg l i n)), .int .i64 0]) ∧ ∃ m, w' = w.drewN m := by
  have A := memNumber_any g i n (some ⟨b, off, none⟩) N cap w hc (by omega)
  have hE : numE N i n = 0 := by
    unfold numE
    rw [if_pos (by omega), if_pos (by omega)]
  rw [hE] at A
  have A := Lib.hid A
  obtain ⟨ao, cap', hv, -, -, -, hB⟩ := hS
  simp only [Value.slice.injEq] at hv
  obtain ⟨hv1, hNl, hv3⟩ := hv
  subst hv3
  have hB' := Lib.hid hB
  clear hB hE
  go_enter Try.func28, Try.ntmps28
  go_wp2
  refine wp_scope_end rfl rfl fun J' HJ => ?_
  refine wpSpine_seq rfl fun K hK => ?_
  go_wp2
  refine wpSpine_seq rfl fun K hK => ?_
  go_wp2_with fail
  refine A.out.mono ?_
  rintro e w' ⟨rfl, rfl⟩
  go_wp2
  refine wpSpine_seq rfl fun K hK => ?_
  go_wp2
  refine wpSpine_seq rfl fun K hK => ?_
  go_wp2
  go_loopw [8, 10] (fun v j wr => ∃ k : Nat, k ≤ n ∧ j = .int .i64 ((k : Int) - 1) ∧ v = .int .u64 (lev (seg l (i + k) (n - k))) ∧ wr = w) (fun _ j _ => (intOf j + 1).toNat)
  case atStart => exact ⟨n, by omega, rfl, by simp [seg, lev], rfl⟩
  case round =>
    obtain ⟨k, hk, rfl, rfl, rfl⟩ := hrel
    by_cases h0 : 1 ≤ k
    · obtain ⟨q, rfl⟩ : ∃ q, k = q + 1 := ⟨k - 1, by omega⟩
      obtain ⟨b', off', he, hbw, hBB⟩ := hB'.out (by intro h; simp [h] at hNl; omega)
      subst he
      simp only [Option.some.injEq, Addr.mk.injEq, and_true] at hv1
      obtain ⟨rfl, rfl⟩ := hv1
      obtain ⟨x, hx, hcx, hx1⟩ := hBB.get (i + q) (by omega)
      have hnx : lev (seg l (i + q) (n - q)) = lev (seg l (i + (q + 1)) (n - (q + 1))) * 256 + x.toNat := by
        rw [show n - q = (n - (q + 1)) + 1 from by omega, seg_cons l (i + q) _ x hx, lev, show i + q + 1 = i + (q + 1) from by omega]; omega
      obtain ⟨y, hy⟩ : ∃ y, y = lev (seg l (i + (q + 1)) (n - (q + 1))) := ⟨_, rfl⟩
      have hy0 : 0 ≤ y := by rw [hy]; exact (lev_bd _).1
      have hy1 : y < 72057594037927936 := by rw [hy]; exact lev_lt _ 7 (Nat.le_trans (seg_len _ _ _) (by omega))
      rw [← hy] at hnx ⊢
      have orb := or_byte_u64 y (x.toNat : Int) hy0 hy1 (by omega) hx1
      rw [show (((q + 1 : Nat) : Int) - 1) = (q : Int) by omega]
      have hadd : IntKind.i64.wrap ((i : Int) + (q : Int)) = (i : Int) + (q : Int) := IntWalk.i64_in _ ⟨by omega, by omega⟩
      have HX := Lib.hid hnx
      clear hnx hy hBB hB'
      go_wp2
      go_roundw
      case rel => exact ⟨q, by omega, by go_num, by rw [HX.out], trivial⟩
      case measure => simp [intOf]
    · obtain rfl : k = 0 := by omega
      go_wp2
      refine wpSpine_label (HJ _ _ ?_)
      go_wp2
      rw [Exit.noGoto_ret]
      exact bodyPost_ret (v := .tuple #[.int .u64 (lev (seg l i n)), .int .i64 0]) (by simp [results, Try.results28, go_sem]) rfl ⟨rfl, 0, rfl⟩
end Go.Proofs.Ytibmjljofopldaa
