/-
  Memory: the reference's, plain bytes.
-/
import Derived.Test.YtibmjljofopldaaMemI
namespace Go.Proofs.Ytibmjljofopldaa
open Go.RowKit
theorem rin_any (g : Nat) (a n : Int) (ao : Option Addr) (N cap : Nat) (w : World) (b : Bool) (hc : w.cell? ⟨g, 0, none⟩ = some (.slice ao N cap)) (hN : N ≤ 1000000) (h0 : 0 ≤ n) (h1 : n ≤ 9223372036854775807) (hb : b = decide (0 ≤ a ∧ a ≤ N - n)) :
    Calls Try.prog 53 #[.pointer (some ⟨g, 0, none⟩), .int .i64 a, .int .i64 n] w fun e w' => e = .returned (.bool b) ∧ w = w' := by
  have HB := Lib.hid hb; clear hb
  by_cases h2 : 0 ≤ a
  · by_cases h3 : a ≤ N
    · have hw : IntKind.i64.wrap ((N : Int) - a) = (N : Int) - a := IntWalk.i64_in _ ⟨by omega, by omega⟩
      by_cases h4 : n ≤ (N : Int) - a
      · go_enter Try.func53, Try.ntmps53
        go_wp2
        go_ret
        exact ⟨by rw [HB.out]; congr 2; simp; omega, rfl⟩
      · go_enter Try.func53, Try.ntmps53
        go_wp2
        go_ret
        exact ⟨by rw [HB.out]; congr 2; simp; omega, rfl⟩
    · go_enter Try.func53, Try.ntmps53
      go_wp2
      go_ret
      exact ⟨by rw [HB.out]; congr 2; simp; omega, rfl⟩
  · go_enter Try.func53, Try.ntmps53
    go_wp2
    go_ret
    exact ⟨by rw [HB.out]; congr 2; simp; omega, rfl⟩
set_option maxRecDepth 100000 in
theorem rGet_bad (g : Nat) (a n : Int) (ao : Option Addr) (N cap : Nat) (w : World) (hc : w.cell? ⟨g, 0, none⟩ = some (.slice ao N cap)) (hN : N ≤ 1000000) (h : numE N a n ≠ 0) :
    Calls Try.prog 29 #[.pointer (some ⟨g, 0, none⟩), .int .i64 a, .int .i64 n] w fun e w' => e = .returned (.tuple #[.int .u64 0, .int .i64 (numE N a n)]) ∧ w = w' := by
  by_cases hn : n = 1 ∨ n = 2 ∨ n = 4 ∨ n = 8
  · have hh : ¬ (0 ≤ a ∧ a ≤ (N : Int) - n) := by
      intro q; apply h; unfold numE; rw [if_pos hn, if_pos q]
    have hE : numE N a n = 2 := by unfold numE; rw [if_pos hn, if_neg hh]
    rw [hE]
    have B := Lib.hid (rin_any g a n ao N cap w false hc hN (by omega) (by omega) (by simpa using hh))
    clear hc hh hE h
    rcases hn with rfl | rfl | rfl | rfl
    all_goals
      go_enter Try.func29, Try.ntmps29
      go_wp2_with fail
      go_at_call 53
      refine B.out.mono ?_
      rintro e w' ⟨rfl, rfl⟩
      go_wp2
      exact bodyPost_ret (v := .tuple #[.int .u64 0, .int .i64 2]) (by simp [results, Try.results29, go_sem]) rfl ⟨rfl, rfl⟩
  · have hE : numE N a n = 1 := by unfold numE; rw [if_neg hn]
    rw [hE]
    have n1 : (n != 1) = true := by simp; omega
    have n2 : (n != 2) = true := by simp; omega
    have n4 : (n != 4) = true := by simp; omega
    have n8 : (n != 8) = true := by simp; omega
    clear hn hE h
    go_enter Try.func29, Try.ntmps29
    go_wp2
    exact bodyPost_ret (v := .tuple #[.int .u64 0, .int .i64 1]) (by simp [results, Try.results29, go_sem]) rfl ⟨rfl, rfl⟩
set_option maxRecDepth 100000 in
theorem rPut_bad (g : Nat) (a n : Int) (ao : Option Addr) (N cap : Nat) (w : World) (hc : w.cell? ⟨g, 0, none⟩ = some (.slice ao N cap)) (hN : N ≤ 1000000) (h : numE N a n ≠ 0) (v : Int) :
    Calls Try.prog 20 #[.pointer (some ⟨g, 0, none⟩), .int .i64 a, .int .i64 n, .int .u64 v] w fun e w' => e = .returned (.int .i64 (numE N a n)) ∧ w = w' := by
  by_cases hn : n = 1 ∨ n = 2 ∨ n = 4 ∨ n = 8
  · have hh : ¬ (0 ≤ a ∧ a ≤ (N : Int) - n) := by
      intro q; apply h; unfold numE; rw [if_pos hn, if_pos q]
    have hE : numE N a n = 2 := by unfold numE; rw [if_pos hn, if_neg hh]
    rw [hE]
    have B := Lib.hid (rin_any g a n ao N cap w false hc hN (by omega) (by omega) (by simpa using hh))
    clear hc hh hE h
    rcases hn with rfl | rfl | rfl | rfl
    all_goals
      go_enter Try.func20, Try.ntmps20
      go_wp2_with fail
      go_at_call 53
      refine B.out.mono ?_
      rintro e w' ⟨rfl, rfl⟩
      go_wp2
      exact bodyPost_ret (v := .int .i64 2) (by simp [results, Try.results20, go_sem]) rfl ⟨rfl, rfl⟩
  · have hE : numE N a n = 1 := by unfold numE; rw [if_neg hn]
    rw [hE]
    have n1 : (n != 1) = true := by simp; omega
    have n2 : (n != 2) = true := by simp; omega
    have n4 : (n != 4) = true := by simp; omega
    have n8 : (n != 8) = true := by simp; omega
    clear hn hE h
    go_enter Try.func20, Try.ntmps20
    go_wp2
    exact bodyPost_ret (v := .int .i64 1) (by simp [results, Try.results20, go_sem]) rfl ⟨rfl, rfl⟩
set_option maxRecDepth 100000 in
set_option maxHeartbeats 2000000 in
theorem rGet_ok (g b off i n N cap : Nat) (l : List UInt8) (w : World) (hc : w.cell? ⟨g, 0, none⟩ = some (.slice (some ⟨b, off, none⟩) N cap)) (hS : Sl w (.slice (some ⟨b, off, none⟩) N cap) l) (hN : N ≤ 1000000) (hn : n = 1 ∨ n = 2 ∨ n = 4 ∨ n = 8) (hi : i + n ≤ N) :
    Calls Try.prog 29 #[.pointer (some ⟨g, 0, none⟩), .int .i64 i, .int .i64 n] w fun e w' => e = .returned (.tuple #[.int .u64 (lev (seg l i n)), .int .i64 0]) ∧ w = w' := by
  have B := Lib.hid (rin_any g i n (some ⟨b, off, none⟩) N cap w true hc hN (by omega) (by omega) (by simp; omega))
  obtain ⟨ao, cap', hv, -, -, -, hB⟩ := hS
  simp only [Value.slice.injEq] at hv
  obtain ⟨hv1, hNl, hv3⟩ := hv
  subst hv3
  have hB' := Lib.hid hB
  have hT : (((n : Int) != 1) = false) ∨ (((n : Int) != 1) = true ∧ ((n : Int) != 2) = false) ∨ (((n : Int) != 1) = true ∧ ((n : Int) != 2) = true ∧ ((n : Int) != 4) = false) ∨ (((n : Int) != 1) = true ∧ ((n : Int) != 2) = true ∧ ((n : Int) != 4) = true ∧ ((n : Int) != 8) = false) := by
    rcases hn with rfl | rfl | rfl | rfl <;> decide
  have hn8 : n ≤ 8 := by omega
  have hn1 : 1 ≤ n := by omega
  clear hB hn
  rcases hT with t1 | ⟨t1, t2⟩ | ⟨t1, t2, t3⟩ | ⟨t1, t2, t3, t4⟩
  all_goals
    go_enter Try.func29, Try.ntmps29
    go_wp2_with fail
    go_at_call 53
    refine B.out.mono ?_
    rintro e w' ⟨rfl, rfl⟩
    go_wp2
    go_loop [8, 9] (fun v j => ∃ k : Nat, k ≤ n ∧ j = .int .i64 ((k : Int) - 1) ∧ v = .int .u64 (lev (seg l (i + k) (n - k)))) (fun _ j => (intOf j + 1).toNat)
    case atStart => exact ⟨n, by omega, rfl, by simp [seg, lev]⟩
    case round =>
      obtain ⟨k, hk, rfl, rfl⟩ := hrel
      by_cases h0 : 1 ≤ k
      · obtain ⟨q, rfl⟩ : ∃ q, k = q + 1 := ⟨k - 1, by omega⟩
        obtain ⟨b', off', he, hbw, hBB⟩ := hB'.out (by intro h; simp [h] at hNl; omega)
        subst he
        simp only [Option.some.injEq, Addr.mk.injEq, and_true] at hv1
        obtain ⟨rfl, rfl⟩ := hv1
        obtain ⟨x, hx, hcx, hx1⟩ := hBB.get (i + q) (by omega)
        have hnx : lev (seg l (i + q) (n - q)) = lev (seg l (i + (q + 1)) (n - (q + 1))) * 256 + x.toNat := by
          rw [show n - q = (n - (q + 1)) + 1 from by omega, seg_cons l (i + q) _ x hx, lev, show i + q + 1 = i + (q + 1) from by omega]; omega
        obtain ⟨y, hy⟩ : ∃ y, y = lev (seg l (i + (q + 1)) (n - (q + 1))) := ⟨_, rfl⟩
        have hy0 : 0 ≤ y := by rw [hy]; exact (lev_bd _).1
        have hy1 : y < 72057594037927936 := by rw [hy]; exact lev_lt _ 7 (Nat.le_trans (seg_len _ _ _) (by omega))
        rw [← hy] at hnx ⊢
        have orb := or_byte_u64 y (x.toNat : Int) hy0 hy1 (by omega) hx1
        rw [show (((q + 1 : Nat) : Int) - 1) = (q : Int) by omega]
        have hadd : IntKind.i64.wrap ((i : Int) + (q : Int)) = (i : Int) + (q : Int) := IntWalk.i64_in _ ⟨by omega, by omega⟩
        have HX := Lib.hid hnx
        clear hnx hy hBB hB'
        go_wp2
        go_round
        case rel => exact ⟨q, by omega, by go_num, by rw [HX.out]⟩
        case measure => simp [intOf]
      · obtain rfl : k = 0 := by omega
        go_wp2
        exact bodyPost_ret (v := .tuple #[.int .u64 (lev (seg l i n)), .int .i64 0]) (by simp [results, Try.results29, go_sem]) rfl ⟨rfl, rfl⟩
set_option maxRecDepth 100000 in
set_option maxHeartbeats 2000000 in
theorem rPut_ok (base g b i n N cap : Nat) (v : Int) (l : List UInt8) (w : World) (hc : w.cell? ⟨g, 0, none⟩ = some (.slice (some ⟨b, 0, none⟩) N cap)) (hO : w.ownsRow base 5 1 (.slice (some ⟨b, 0, none⟩) N cap) N (l.map B8)) (hgb : g ≠ b) (hN : N ≤ 1000000) (hn : n = 1 ∨ n = 2 ∨ n = 4 ∨ n = 8) (hi : i + n ≤ N) :
    Calls Try.prog 20 #[.pointer (some ⟨g, 0, none⟩), .int .i64 i, .int .i64 n, .int .u64 v] w fun e w' => e = .returned (.int .i64 0) ∧ w.grownBy w' (some b) ∧ w'.heap.size = w.heap.size ∧ w'.ownsRow base 5 1 (.slice (some ⟨b, 0, none⟩) N cap) N ((putk l i v n).map B8) := by
  have B := Lib.hid (rin_any g i n (some ⟨b, 0, none⟩) N cap w true hc hN (by omega) (by omega) (by simp; omega))
  have hT : (((n : Int) != 1) = false) ∨ (((n : Int) != 1) = true ∧ ((n : Int) != 2) = false) ∨ (((n : Int) != 1) = true ∧ ((n : Int) != 2) = true ∧ ((n : Int) != 4) = false) ∨ (((n : Int) != 1) = true ∧ ((n : Int) != 2) = true ∧ ((n : Int) != 4) = true ∧ ((n : Int) != 8) = false) := by
    rcases hn with rfl | rfl | rfl | rfl <;> decide
  have hn8 : n ≤ 8 := by omega
  clear hn
  rcases hT with t1 | ⟨t1, t2⟩ | ⟨t1, t2, t3⟩ | ⟨t1, t2, t3, t4⟩
  all_goals
    go_enter Try.func20, Try.ntmps20
    go_wp2_with fail
    go_at_call 53
    refine B.out.mono ?_
    rintro e w' ⟨rfl, rfl⟩
    go_wp2
    go_loopw [9] (fun j wr => ∃ k : Nat, k ≤ n ∧ j = .int .i64 k ∧ w.grownBy wr (some b) ∧ wr.heap.size = w.heap.size ∧ wr.cell? ⟨g, 0, none⟩ = some (.slice (some ⟨b, 0, none⟩) N cap) ∧ wr.ownsRow base 5 1 (.slice (some ⟨b, 0, none⟩) N cap) N ((putk l i v k).map B8)) (fun j _ => n - (intOf j).toNat)
    case atStart => exact ⟨0, by omega, rfl, grown_refl _ _, rfl, hc, hO⟩
    case round =>
      obtain ⟨k, hk, rfl, hg, hsz, hcr, hOr⟩ := hrel
      clear hO hc
      by_cases h0 : k < n
      · obtain ⟨u, hu⟩ := own_ex hOr (i + k) (by omega)
        have hf := hOr.frozenAt (i + k)
        have hb := byteAt_toNat v k
        have hadd : IntKind.i64.wrap ((i : Int) + (k : Int)) = (i : Int) + (k : Int) := IntWalk.i64_in _ ⟨by omega, by omega⟩
        have HB := Lib.hid hb; have HO := Lib.hid hOr; have HG := Lib.hid hg
        clear hb hOr hg
        have hmul : IntKind.i64.wrap (8 * (k : Int)) = 8 * (k : Int) := IntWalk.i64_in _ ⟨by omega, by omega⟩
        have hs0 : (0 : Int) ≤ 8 * (k : Int) := by omega
        have hs1 : 8 * (k : Int) ≤ 64 := by omega
        have htn : (8 * (k : Int)).toNat = 8 * k := by omega
        go_wp2_with fail
        go_region
        rw [← HB.out]
        have g2 := grown_trans HG.out (grown_set wr b (i + k) (.int .u8 ((byteAt v k).toNat : Int))) (by intro q hq; cases hq; exact .inl rfl)
        have g3 : w.grownBy (wr.setCell ⟨b, i + k, none⟩ (.int .u8 ((byteAt v k).toNat : Int))).drew (some b) := ⟨g2.os, g2.tape, g2.output, g2.size, g2.block⟩
        have o2 : (wr.setCell ⟨b, i + k, none⟩ (.int .u8 ((byteAt v k).toNat : Int))).drew.ownsRow base 5 1 (.slice (some ⟨b, 0, none⟩) N cap) N ((putk l i v (k + 1)).map B8) := own_set HO.out (i + k) (byteAt v k)
        have c2 : (wr.setCell ⟨b, i + k, none⟩ (.int .u8 ((byteAt v k).toNat : Int))).drew.cell? ⟨g, 0, none⟩ = some (.slice (some ⟨b, 0, none⟩) N cap) := (World.cell?_of_block (w := wr) (Go.Deep.blk_setCell_other _ _ _ _ hgb)).trans hcr
        have s2 : (wr.setCell ⟨b, i + k, none⟩ (.int .u8 ((byteAt v k).toNat : Int))).drew.heap.size = w.heap.size := by rw [← hsz]; simp
        have G3 := Lib.hid g3; have O2 := Lib.hid o2; have C2 := Lib.hid c2; have S2 := Lib.hid s2
        clear g2 g3 o2 c2 s2 HO HG HB hcr hu hf
        go_wp2
        go_roundw
        case rel => exact ⟨k + 1, by omega, by go_num, G3.out, S2.out, C2.out, O2.out⟩
        case measure => simp [intOf]; omega
      · obtain rfl : k = n := by omega
        go_wp2
        exact bodyPost_ret (v := .int .i64 0) (by simp [results, Try.results20, go_sem]) rfl ⟨rfl, hg, hsz, hOr⟩
end Go.Proofs.Ytibmjljofopldaa
