/-
  Packets: ip.Bytes of what may not be; what may be, by the reference.
-/
import Derived.Test.YtgaimpopcehabaaIpA
namespace Go.Proofs.Ytgaimpopcehabaa
open Go.RowKit
theorem pk_cases (s d r t i : Int) (len : Nat) : ((0 ≤ s ∧ s < 4294967296) ∧ (0 ≤ d ∧ d < 4294967296) ∧ (0 ≤ r ∧ r ≤ 255) ∧ (0 ≤ t ∧ t ≤ 255) ∧ (0 ≤ i ∧ i < 65536) ∧ len ≤ 1480) ∨
    s < 0 ∨ (0 ≤ s ∧ 4294967296 ≤ s) ∨ (0 ≤ s ∧ s < 4294967296 ∧ d < 0) ∨ (0 ≤ s ∧ s < 4294967296 ∧ 0 ≤ d ∧ 4294967296 ≤ d) ∨ (0 ≤ s ∧ s < 4294967296 ∧ 0 ≤ d ∧ d < 4294967296 ∧ 1480 < (len : Int)) ∨
    (0 ≤ s ∧ s < 4294967296 ∧ 0 ≤ d ∧ d < 4294967296 ∧ (len : Int) ≤ 1480 ∧ r < 0) ∨ (0 ≤ s ∧ s < 4294967296 ∧ 0 ≤ d ∧ d < 4294967296 ∧ (len : Int) ≤ 1480 ∧ 0 ≤ r ∧ 255 < r) ∨
    (0 ≤ s ∧ s < 4294967296 ∧ 0 ≤ d ∧ d < 4294967296 ∧ (len : Int) ≤ 1480 ∧ 0 ≤ r ∧ r ≤ 255 ∧ t < 0) ∨ (0 ≤ s ∧ s < 4294967296 ∧ 0 ≤ d ∧ d < 4294967296 ∧ (len : Int) ≤ 1480 ∧ 0 ≤ r ∧ r ≤ 255 ∧ 0 ≤ t ∧ 255 < t) ∨
    (0 ≤ s ∧ s < 4294967296 ∧ 0 ≤ d ∧ d < 4294967296 ∧ (len : Int) ≤ 1480 ∧ 0 ≤ r ∧ r ≤ 255 ∧ 0 ≤ t ∧ t ≤ 255 ∧ i < 0) ∨ (0 ≤ s ∧ s < 4294967296 ∧ 0 ≤ d ∧ d < 4294967296 ∧ (len : Int) ≤ 1480 ∧ 0 ≤ r ∧ r ≤ 255 ∧ 0 ≤ t ∧ t ≤ 255 ∧ 0 ≤ i ∧ 65536 ≤ i) := by
  by_cases a0 : s < 0
  · exact .inr (.inl (by omega))
  by_cases a1 : 4294967296 ≤ s
  · exact .inr (.inr (.inl (by omega)))
  by_cases a2 : d < 0
  · exact .inr (.inr (.inr (.inl (by omega))))
  by_cases a3 : 4294967296 ≤ d
  · exact .inr (.inr (.inr (.inr (.inl (by omega)))))
  by_cases a4 : 1480 < (len : Int)
  · exact .inr (.inr (.inr (.inr (.inr (.inl (by omega))))))
  by_cases a5 : r < 0
  · exact .inr (.inr (.inr (.inr (.inr (.inr (.inl (by omega)))))))
  by_cases a6 : 255 < r
  · exact .inr (.inr (.inr (.inr (.inr (.inr (.inr (.inl (by omega))))))))
  by_cases a7 : t < 0
  · exact .inr (.inr (.inr (.inr (.inr (.inr (.inr (.inr (.inl (by omega)))))))))
  by_cases a8 : 255 < t
  · exact .inr (.inr (.inr (.inr (.inr (.inr (.inr (.inr (.inr (.inl (by omega))))))))))
  by_cases a9 : i < 0
  · exact .inr (.inr (.inr (.inr (.inr (.inr (.inr (.inr (.inr (.inr (.inl (by omega)))))))))))
  by_cases a10 : 65536 ≤ i
  · exact .inr (.inr (.inr (.inr (.inr (.inr (.inr (.inr (.inr (.inr (.inr (by omega)))))))))))
  exact .inl ⟨⟨by omega, by omega⟩, ⟨by omega, by omega⟩, ⟨by omega, by omega⟩, ⟨by omega, by omega⟩, ⟨by omega, by omega⟩, by omega⟩
set_option maxRecDepth 100000 in
set_option maxHeartbeats 4000000 in
theorem ipBytes_bad (s d r t i : Int) (ao : Option Addr) (len cap : Nat) (w : World) (hl : len ≤ 9223372036854775807) (hf : ¬ ((0 ≤ s ∧ s < 4294967296) ∧ (0 ≤ d ∧ d < 4294967296) ∧ (0 ≤ r ∧ r ≤ 255) ∧ (0 ≤ t ∧ t ≤ 255) ∧ (0 ≤ i ∧ i < 65536) ∧ len ≤ 1480)) :
    Calls Try.prog 26 #[.agg #[.int .i64 s, .int .i64 d, .int .i64 r, .int .i64 t, .int .i64 i, .slice ao len cap]] w fun e w' => e = .returned (.tuple #[.slice none 0 0, .int .i64 1]) ∧ Below w.heap.size w w' := by
  have hc := (pk_cases s d r t i len).resolve_left hf
  clear hf
  rcases hc with h1 | h1 | h1 | h1 | h1 | h1 | h1 | h1 | h1 | h1 | h1
  all_goals
    try (obtain ⟨h1, h2⟩ := h1)
    try (obtain ⟨h2, h3⟩ := h2)
    try (obtain ⟨h3, h4⟩ := h3)
    try (obtain ⟨h4, h5⟩ := h4)
    try (obtain ⟨h5, h6⟩ := h5)
    try (obtain ⟨h6, h7⟩ := h6)
    try (obtain ⟨h7, h8⟩ := h7)
    try (obtain ⟨h8, h9⟩ := h8)
    try (obtain ⟨h9, h10⟩ := h9)
    try (obtain ⟨h10, h11⟩ := h10)
    go_enter Try.func26, Try.ntmps26
    go_wp2_with fail
    refine wp_scope_end rfl rfl fun J' HJ => ?_
    repeat' (first
      | (refine wpSpine_label (HJ _ _ ?_))
      | (refine wpSpine_seq rfl fun K hK => ?_; go_wp2)
      | (refine wp_goto (HJ _ _ ?_)))
    go_wp2
    rw [Exit.noGoto_ret]
    go_ret2
    exact ⟨rfl, (Below.refl _ w).alloc (Nat.le_refl _) _⟩
end Go.Proofs.Ytgaimpopcehabaa
