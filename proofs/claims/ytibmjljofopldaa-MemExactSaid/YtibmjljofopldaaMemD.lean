import Derived.Test.YtibmjljofopldaaMemA
namespace Go.Proofs.Ytibmjljofopldaa
open Go.RowKit
set_option maxRecDepth 100000 in
theorem memGet_bad (g : Nat) (at' n : Int) (ao : Option Addr) (N cap : Nat) (w : World) (hc : w.cell? ⟨g, 0, none⟩ = some (.slice ao N cap)) (hN : N ≤ 9223372036854775807) (h : numE N at' n ≠ 0) :
    Calls Try.prog 28 #[.pointer (some ⟨g, 0, none⟩), .int .i64 at', .int .i64 n] w fun e w' => e = .returned (.tuple #[.int .u64 0, .int .i64 (numE N at' n)]) ∧ w = w' := by
  have A := Lib.hid (memNumber_any g at' n ao N cap w hc hN)
  clear hc
  generalize numE N at' n = E at A h ⊢
  have h0 : (E != 0) = true := by simpa using h
  clear h
  go_enter Try.func28, Try.ntmps28
  go_wp2
  refine wp_scope_end rfl rfl fun J' HJ => ?_
  repeat' (first | (refine wpSpine_label (HJ _ _ ?_)) | (refine wpSpine_seq rfl fun K hK => ?_; go_wp2_with (first | (refine A.out.mono ?_; rintro e w' ⟨rfl, rfl⟩))) | (refine wp_goto (HJ _ _ ?_)))
  go_wp2
  rw [Exit.noGoto_ret]
  exact bodyPost_ret (v := .tuple #[.int .u64 0, .int .i64 E]) (by simp [results, Try.results28, go_sem]) rfl ⟨rfl, rfl⟩
set_option maxRecDepth 100000 in
theorem memPut_bad (g : Nat) (at' n : Int) (ao : Option Addr) (N cap : Nat) (w : World) (hc : w.cell? ⟨g, 0, none⟩ = some (.slice ao N cap)) (hN : N ≤ 9223372036854775807) (h : numE N at' n ≠ 0) (v : Int) :
    Calls Try.prog 19 #[.pointer (some ⟨g, 0, none⟩), .int .i64 at', .int .i64 n, .int .u64 v] w fun e w' => e = .returned (.int .i64 (numE N at' n)) ∧ w = w' := by
  have A := Lib.hid (memNumber_any g at' n ao N cap w hc hN)
  clear hc
  generalize numE N at' n = E at A h ⊢
  have h0 : (E != 0) = true := by simpa using h
  clear h
  go_enter Try.func19, Try.ntmps19
  go_wp2
  refine wp_scope_end rfl rfl fun J' HJ => ?_
  repeat' (first | (refine wpSpine_label (HJ _ _ ?_)) | (refine wpSpine_seq rfl fun K hK => ?_; go_wp2_with (first | (refine A.out.mono ?_; rintro e w' ⟨rfl, rfl⟩))) | (refine wp_goto (HJ _ _ ?_)))
  go_wp2
  rw [Exit.noGoto_ret]
  exact bodyPost_ret (v := .int .i64 E) (by simp [results, Try.results19, go_sem]) rfl ⟨rfl, rfl⟩
end Go.Proofs.Ytibmjljofopldaa
