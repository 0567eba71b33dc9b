/-
  Packets: ip.Parse of bytes that are none: the first ways.
-/
import Derived.Test.YtgaimpopcehabaaIpG
namespace Go.Proofs.Ytgaimpopcehabaa
open Go.RowKit
set_option maxRecDepth 100000 in
theorem ipParse_short (v : Value) (l : List UInt8) (w : World) (h : l.length < 20) (hv : Sl w v l) :
    Calls Try.prog 32 #[v] w fun e w' => e = .returned (.tuple #[.agg #[.int .i64 0, .int .i64 0, .int .i64 0, .int .i64 0, .int .i64 0, .slice none 0 0], .int .i64 7]) ∧ Below w.heap.size w w' := by
  obtain ⟨ao, cap, rfl, -⟩ := id hv
  clear hv
  go_enter Try.func32, Try.ntmps32
  go_wp2_with fail
  refine wp_scope_end rfl rfl fun J' HJ => ?_
  repeat' (first | (refine wpSpine_label (HJ _ _ ?_)) | (refine wpSpine_seq rfl fun K hK => ?_; go_wp2) | (refine wp_goto (HJ _ _ ?_)))
  go_wp2
  rw [Exit.noGoto_ret]
  refine bodyPost_ret (v := .tuple #[.agg #[.int .i64 0, .int .i64 0, .int .i64 0, .int .i64 0, .int .i64 0, .slice none 0 0], .int .i64 7]) ?_ rfl ⟨rfl, ?_⟩
  · simp [results, Try.results32, go_sem]
  · repeat (first | exact Below.refl _ _ | refine Below.drew ?_ | refine bdrew ?_ _ | refine Below.setCell ?_ (by first | (simp; done) | (simp; omega)) _ | refine Below.alloc ?_ (by first | (simp; done) | (simp; omega)) _)

set_option maxRecDepth 100000 in
theorem ipParse_form (v : Value) (l : List UInt8) (w : World) (x : UInt8) (h : 20 ≤ l.length) (hx : l[0]? = some x) (hf : x.toNat / 16 ≠ 4 ∨ 4 * (x.toNat % 16) < 20) (hv : Sl w v l) :
    Calls Try.prog 32 #[v] w fun e w' => e = .returned (.tuple #[.agg #[.int .i64 0, .int .i64 0, .int .i64 0, .int .i64 0, .int .i64 0, .slice none 0 0], .int .i64 1]) ∧ Below w.heap.size w w' := by
  obtain ⟨ao, cap, rfl, -, -, -, hB⟩ := id hv
  obtain ⟨b, off, rfl, hbw, hBB⟩ := hB (by intro h0; simp [h0] at h)
  obtain ⟨y, hy, hcy, hy1⟩ := hBB.get 0 (by omega)
  rw [hx] at hy
  obtain rfl : x = y := by simpa using hy
  rw [Nat.add_zero] at hcy
  have hand := and15 x
  have hd2 : ((w.alloc (.cells #[.int .i64 0, .int .i64 0, .int .i64 0, .int .i64 0, .int .i64 0, .slice none 0 0] 45)).alloc (.cells #[.int .i64 0, .int .i64 0, .int .i64 0, .int .i64 0, .int .i64 0, .slice none 0 0] 45)).cell? ⟨b, off, none⟩ = some (.int .u8 (x.toNat : Int)) := by
    rw [World.cell?_alloc_past _ _ _ (by simp; omega), World.cell?_alloc_past _ _ _ hbw]; exact hcy
  clear hB hBB hx hy hv
  by_cases h4 : x.toNat / 16 = 4
  · have h20 : 4 * (x.toNat % 16) < 20 := by omega
    have t1 : ((x.toNat : Int) / 16 != 4) = false := by simp; omega
    have t2 : (x.toNat : Int) % 16 * 4 < 20 := by omega
    clear hf h4
    go_enter Try.func32, Try.ntmps32
    go_wp2_with fail
    refine wp_scope_end rfl rfl fun J' HJ => ?_
    repeat' (first | (refine wpSpine_label (HJ _ _ ?_)) | (refine wpSpine_seq rfl fun K hK => ?_; go_wp2) | (refine wp_goto (HJ _ _ ?_)))
    go_wp2
    rw [Exit.noGoto_ret]
    refine bodyPost_ret (v := .tuple #[.agg #[.int .i64 0, .int .i64 0, .int .i64 0, .int .i64 0, .int .i64 0, .slice none 0 0], .int .i64 1]) ?_ rfl ⟨rfl, ?_⟩
    · simp [results, Try.results32, go_sem]
    · repeat (first | exact Below.refl _ _ | refine Below.drew ?_ | refine bdrew ?_ _ | refine Below.setCell ?_ (by first | (simp; done) | (simp; omega)) _ | refine Below.alloc ?_ (by first | (simp; done) | (simp; omega)) _)
  · have t1 : ((x.toNat : Int) / 16 != 4) = true := by simp; omega
    clear hf h4
    go_enter Try.func32, Try.ntmps32
    go_wp2_with fail
    refine wp_scope_end rfl rfl fun J' HJ => ?_
    repeat' (first | (refine wpSpine_label (HJ _ _ ?_)) | (refine wpSpine_seq rfl fun K hK => ?_; go_wp2) | (refine wp_goto (HJ _ _ ?_)))
    go_wp2
    rw [Exit.noGoto_ret]
    refine bodyPost_ret (v := .tuple #[.agg #[.int .i64 0, .int .i64 0, .int .i64 0, .int .i64 0, .int .i64 0, .slice none 0 0], .int .i64 1]) ?_ rfl ⟨rfl, ?_⟩
    · simp [results, Try.results32, go_sem]
    · repeat (first | exact Below.refl _ _ | refine Below.drew ?_ | refine bdrew ?_ _ | refine Below.setCell ?_ (by first | (simp; done) | (simp; omega)) _ | refine Below.alloc ?_ (by first | (simp; done) | (simp; omega)) _)
end Go.Proofs.Ytgaimpopcehabaa
