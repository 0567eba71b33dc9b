/-
  Echoes: what the statements' helpers do: the weight of rows of bytes, the row read, the first echo.
-/
import Derived.Test.YtgaimpopcehabaaIcmB
import Derived.Test.YtgaimpopcehabaaReadZ
import Derived.Test.YtgaimpopcehabaaSumF
import Derived.Test.YtgaimpopcehabaaScr
namespace Go.Proofs.Ytgaimpopcehabaa
open Go.RowKit
/-- Rows of bytes, each below 2^47. -/
def CellsB (w : World) (v : Value) (L : List (List UInt8)) : Prop :=
  ∃ ao cap, v = .slice ao L.length cap ∧ L.length ≤ maxLen ∧ (L ≠ [] → ∃ b off, ao = some ⟨b, off, none⟩ ∧ b < w.heap.size ∧ ∀ i (q : List UInt8), L[i]? = some q → q.length ≤ 140737488351232 ∧ ∃ v, w.cell? ⟨b, off + i, none⟩ = some v ∧ Sl w v q)
theorem cBs : Try.prog.cellsOf 25 = 1 := by kernel_rfl
theorem bBs : Try.prog.bytesOf 5 = 1 := by kernel_rfl
theorem cellsB_of (W : World) (v : Value) (h : RdZ Try.prog W 62 [v]) : ∃ L, CellsB W v L := by
  obtain ⟨v', L, hv, ⟨ao, cap, rfl, h1, h2, h3, h4⟩, -⟩ := h.slOf (p := fun w b off (q : List UInt8) => q.length ≤ 140737488351232 ∧ ∃ v, w.cell? ⟨b, off, none⟩ = some v ∧ Sl w v q) (size := 1) Try.underlying62 cBs (by decide) (by
    intro b off cs' hb hc hr
    obtain ⟨vb, l, hvb, hS, hl⟩ := hr.bytes Try.underlying25 (by kernel_rfl) bBs Try.underlying5
    subst hvb
    exact ⟨l, hl, vb, by simpa using hc.2 0 (by omega), hS⟩)
  obtain rfl : v = _ := by simpa using hv
  refine ⟨L, ao, cap, rfl, Nat.le_trans h1 h2, fun hne => ?_⟩
  obtain ⟨b, off, rfl, hb, hq⟩ := h4 hne
  exact ⟨b, off, rfl, hb, fun i q hi => by simpa using hq i q hi⟩
set_option maxRecDepth 100000 in
theorem weight_any (v : Value) (L : List (List UInt8)) (w : World) (hv : CellsB w v L) :
    Calls Try.prog 36 #[v] w fun e w' => ∃ N : Int, e = .returned (.int .i64 N) ∧ w = w' ∧ (N ≤ 20000 → ∀ (i : Nat) (q : List UInt8), L[i]? = some q → q.length ≤ 20000) := by
  obtain ⟨ao, cap, rfl, hlen, hB⟩ := hv
  have hlen' : L.length ≤ 9223372036854775807 := by simpa [maxLen] using hlen
  have HB := Lib.hid hB; clear hB hlen
  go_enter Try.func36, Try.ntmps36
  go_wp2
  go_loop [3, 4] (fun n i => ∃ (N : Int) (k : Nat), n = .int .i64 N ∧ i = .int .i64 k ∧ k ≤ L.length ∧ 0 ≤ N ∧ N ≤ 9223372036854775807 ∧ ∀ (j : Nat) (q : List UInt8), j < k → L[j]? = some q → (q.length : Int) ≤ N) (fun _ i => L.length - (intOf i).toNat)
  case atStart => exact ⟨L.length, 0, rfl, rfl, by omega, by omega, by omega, fun j q hj => by omega⟩
  case round =>
    obtain ⟨N, k, rfl, rfl, hk, hN0, hN, hq⟩ := hrel
    have HQ := Lib.hid hq; clear hq
    by_cases hlt : k < L.length
    · by_cases hN2 : N < 1048576
      · obtain ⟨b, off, rfl, hbw, hBB⟩ := HB.out (by intro h; simp [h] at hlt)
        obtain ⟨q, hq⟩ : ∃ q, L[k]? = some q := ⟨_, List.getElem?_eq_getElem hlt⟩
        obtain ⟨hql, vq, hc, hS⟩ := hBB k q hq
        obtain ⟨ao2, cap2, rfl, -⟩ := id hS
        have HK := Lib.hid hq
        clear hBB hS hq
        go_wp2
        go_round
        case rel => exact ⟨N + q.length, k + 1, by go_num, by go_num, by omega, by omega, by omega, fun j q' hj hq' => by
          rcases Nat.lt_or_ge j k with h | h
          · have := HQ.out j q' h hq'; omega
          · obtain rfl : j = k := by omega
            rw [HK.out] at hq'; cases hq'; omega⟩
        case measure => simp [intOf]; omega
      · clear HB
        go_wp2
        go_ret
        exact ⟨N, rfl, rfl, fun h => by omega⟩
    · clear HB
      go_wp2
      go_ret
      exact ⟨N, rfl, rfl, fun h j q hj => by
        have hj' : j < k := by
          rcases Nat.lt_or_ge j L.length with h | h
          · omega
          · rw [List.getElem?_eq_none h] at hj; cases hj
        have := HQ.out j q hj' hj; omega⟩
theorem num11_any (n : Int) (w : World) : Calls Try.prog 39 #[.int .i64 n] w fun e w' => e = .returned (.int .i64 n) ∧ w = w' := by
  go_enter Try.func39, Try.ntmps39
  go_wp2
  go_ret
  exact ⟨rfl, rfl⟩
set_option maxRecDepth 100000 in
theorem wakes11_any (w : World) : Calls Try.prog 40 #[] w fun e w' => e = .returned (.bool true) ∧ Below w.heap.size w w' := by
  have s0 : sumv 0 [8, 0, 0, 0, 0, 1, 0, 2] = 2051 := by decide
  have r0 : icmR [8, 0, 247, 252, 0, 1, 0, 2] = [0, 0, 255, 252, 0, 1, 0, 2] := by decide
  have e0 : icmE [8, 0, 247, 252, 0, 1, 0, 2] = 0 := by decide
  have s1 : sumv 0 [0, 0, 255, 252, 0, 1, 0, 2] = 65535 := by decide
  go_enter Try.func40, Try.ntmps40
  go_wp2_with fail
  refine calls_gen (fun W => W.ownsRow w.heap.size 5 1 (.slice (some ⟨w.heap.size, 0, none⟩) 8 8) 8 (([8, 0, 0, 0, 0, 1, 0, 2] : List UInt8).map B8) ∧ Below w.heap.size w W) ⟨World.ownsRow_lit (base := w.heap.size) (e := 5) (size := 1) w #[.int .u8 8, .int .u8 0, .int .u8 0, .int .u8 0, .int .u8 0, .int .u8 1, .int .u8 0, .int .u8 2] 8 (Nat.le_refl _) (by decide) rfl, (Below.refl _ _).alloc (Nat.le_refl _) _⟩ ?_
  rintro W ⟨hoW, hbW⟩
  refine (check_any _ [8, 0, 0, 0, 0, 1, 0, 2] _ (by decide) (Sl.of_own hoW).1).mono ?_
  rintro e w1 ⟨rfl, m1, rfl⟩
  rw [s0]
  have hoW1 : (W.drewN m1).ownsRow w.heap.size 5 1 (.slice (some ⟨w.heap.size, 0, none⟩) 8 8) 8 (([8, 0, 0, 0, 0, 1, 0, 2] : List UInt8).map B8) := hoW
  have f2 := hoW1.frozenAt 2
  have f3 := hoW1.frozenAt 3
  obtain ⟨u2, c2⟩ := own_ex hoW1 2 (by omega)
  obtain ⟨u3, c3⟩ := own_ex hoW1 3 (by omega)
  have HO := Lib.hid hoW1; have HB := Lib.hid (bdrew hbW m1)
  clear hoW hoW1 hbW
  go_wp2_with fail
  refine calls_gen (fun W => W.ownsRow w.heap.size 5 1 (.slice (some ⟨w.heap.size, 0, none⟩) 8 8) 8 (([8, 0, 247, 252, 0, 1, 0, 2] : List UInt8).map B8) ∧ Below w.heap.size w W) ⟨own_set (own_set HO.out 2 247) 3 252, (HB.out.setCell (Nat.le_refl _) _).setCell (Nat.le_refl _) _⟩ ?_
  rintro W2 ⟨hoW2, hbW2⟩
  clear HO HB c2 c3 f2 f3
  refine (icm_any _ [8, 0, 247, 252, 0, 1, 0, 2] _ (by decide) (Sl.of_own hoW2).1).mono ?_
  rintro e w3 ⟨v3, rfl, hb3, ho3⟩
  rw [e0]
  rw [r0] at ho3
  obtain ⟨g, cap3, rfl, -, hg, hgc, hgm, hgw⟩ := own_at ho3 (by decide)
  have c0 : w3.cell? ⟨g, 0, none⟩ = some (.int .u8 0) := ho3.cellAt 0 (by decide)
  have S3 := Lib.hid (Sl.of_own ho3).1
  have HB3 := Lib.hid (hbW2.trans (hb3.mono hbW2.size))
  have hgm' : cap3 ≤ 9223372036854775807 := by simpa [maxLen] using hgm
  simp only [List.length_cons, List.length_nil] at S3 hgc ⊢
  clear ho3 hb3 hoW2 hbW2
  go_wp2_with fail
  refine (num11_any 0 _).mono ?_
  rintro e W' ⟨rfl, rfl⟩
  go_wp2_with fail
  refine (check_any _ [0, 0, 255, 252, 0, 1, 0, 2] _ (by decide) S3.out).mono ?_
  rintro e w4 ⟨rfl, m4, rfl⟩
  rw [s1]
  go_wp2
  go_ret
  exact ⟨rfl, bdrew HB3.out m4⟩
end Go.Proofs.Ytgaimpopcehabaa
