/-
  Memory: what MemExact leans on besides.
-/
import Derived.Test.YtibmjljofopldaaMemK
namespace Go.Proofs.Ytibmjljofopldaa
open Go.RowKit
theorem MemAt.other {w w' : World} {base g2 b2 n b : Nat} {l : List UInt8} (h : MemAt w base g2 b2 n l) (hg : w.grownBy w' (some b)) (h1 : b2 ≠ b) (h2 : g2 ≠ b) : MemAt w' base g2 b2 n l :=
  ⟨(World.cell?_of_block (w := w) (hg.block g2 h.2.2.2.2.2.1 (by intro q; cases q; exact h2 rfl))).trans h.1, own_grown h.2.1 hg h1 h.2.2.2.2.2.2, h.2.2.1, h.2.2.2.1, h.2.2.2.2.1, Nat.lt_of_lt_of_le h.2.2.2.2.2.1 hg.size, Nat.lt_of_lt_of_le h.2.2.2.2.2.2 hg.size⟩
theorem own_grown2 {w w' : World} {base e n b : Nat} {v : Value} {xs : List Value} (h : w.ownsRow base e 1 v n xs) (hg : w.grownBy w' (some b)) (hb : b < base) : w'.ownsRow base e 1 v n xs := by
  obtain ⟨h1, h2⟩ := h
  refine ⟨h1, ?_⟩
  rcases h2 with h2 | ⟨g', cap', cur, hv, hbg, hh, r⟩
  · exact .inl h2
  · have hlt : g' < w.heap.size := by
      rcases Nat.lt_or_ge g' w.heap.size with h | h
      · exact h
      · rw [Array.getElem?_eq_none h] at hh; simp at hh
    exact .inr ⟨g', cap', cur, hv, hbg, (hg.block g' hlt (by intro q; injection q with q; omega)).trans hh, r⟩
theorem cell_grown {w w' : World} {b : Nat} {p : Addr} (hg : w.grownBy w' (some b)) (hlt : p.block < w.heap.size) (hne : p.block ≠ b) : w'.cell? p = w.cell? p :=
  World.cell?_of_block (w := w) (hg.block p.block hlt (by intro q; injection q with q; exact hne q))
theorem numR_any (n m : Int) (w : World) (b : Bool) (hb : b = decide (0 ≤ n ∧ n ≤ m)) : Calls Try.prog 15 #[.int .i64 n, .int .i64 m] w fun e w' => e = .returned (.bool b) ∧ w = w' := by
  have HB := Lib.hid hb; clear hb
  by_cases h0 : 0 ≤ n
  · go_enter Try.func15, Try.ntmps15
    go_wp2
    go_ret
    exact ⟨by rw [HB.out]; congr 2; simp [h0], rfl⟩
  · go_enter Try.func15, Try.ntmps15
    go_wp2
    go_ret
    exact ⟨by rw [HB.out]; congr 2; simp; omega, rfl⟩
def HvP (L : List Act1) (w : World) (e : Ending) (w' : World) : Prop := ∃ h : Bool, e = .returned (.bool h) ∧ Below w.heap.size w w' ∧ (h = false → ∀ (i : Nat) (q : Act1), L[i]? = some q → q.x.length ≤ 500)
set_option maxRecDepth 100000 in
set_option maxHeartbeats 1000000 in
theorem heavy1_full (pn : Int) (v : Value) (L : List Act1) (w : World) (hv : Acts1 w v L) :
    Calls Try.prog 13 #[.agg #[.int .i64 pn, v]] w fun e w' => HvP L w e w' := by
  obtain ⟨ao, cap, rfl, hlen, hB⟩ := hv
  have hlen' : L.length ≤ 9223372036854775807 := by simpa [maxLen] using hlen
  have HB := Lib.hid hB; clear hB hlen
  go_enter Try.func13, Try.ntmps13
  by_cases h200 : L.length ≤ 200
  · go_wp2
    have c0 : (w.alloc (.cells #[.int .i64 pn, .slice ao L.length cap] 24)).cell? ⟨w.heap.size, 1, none⟩ = some (.slice ao L.length cap) := by simp [go_sem]
    have HW0 := Lib.hid (show Below w.heap.size w (w.alloc (.cells #[.int .i64 pn, .slice ao L.length cap] 24)) from (Below.refl _ w).alloc (Nat.le_refl _) _)
    generalize (w.alloc (.cells #[.int .i64 pn, .slice ao L.length cap] 24)) = W0 at c0 HW0 ⊢
    go_loop [3] (fun i => ∃ k : Nat, k ≤ L.length ∧ i = .int .i64 k ∧ ∀ (j : Nat) (q : Act1), j < k → L[j]? = some q → q.x.length ≤ 500) (fun i => L.length - (intOf i).toNat)
    case atStart => exact ⟨0, by omega, rfl, fun j q hj => by omega⟩
    case round =>
      obtain ⟨k, hk, rfl, hall⟩ := hrel
      have HA := Lib.hid hall; clear hall
      by_cases hlt : k < L.length
      · obtain ⟨b, off, rfl, hbw, hBB⟩ := HB.out (by intro h; simp [h] at hlt)
        obtain ⟨⟨d, a, n, v, x⟩, hq⟩ : ∃ q, L[k]? = some q := ⟨_, List.getElem?_eq_getElem hlt⟩
        obtain ⟨hc0, -, hc2, -, ⟨vx, hc4, hX⟩, -, -⟩ := hBB k _ hq
        have HK := Lib.hid hq
        clear hBB hq
        dsimp only at hc0 hc2 hc4 hX
        obtain ⟨ax, cx, rfl, -⟩ := id hX
        have d0 := (HW0.out.cell (p := ⟨b, off + k * 5, none⟩) hbw).trans hc0
        have d2 := (HW0.out.cell (p := ⟨b, off + k * 5 + 2, none⟩) hbw).trans hc2
        have d4 := (HW0.out.cell (p := ⟨b, off + k * 5 + 4, none⟩) hbw).trans hc4
        clear hc0 hc2 hc4 hX
        by_cases hx : x.length ≤ 500
        · have HN := Lib.hid (show ∀ (j : Nat) (q : Act1), j < k + 1 → L[j]? = some q → q.x.length ≤ 500 from fun j q hj hq => by
            rcases Nat.lt_or_ge j k with h | h
            · exact HA.out j q h hq
            · obtain rfl : j = k := by omega
              rw [HK.out] at hq; cases hq; exact hx)
          by_cases hn : n ≤ 65536
          · go_wp2
            go_round
            case rel => exact ⟨k + 1, by omega, by go_num, HN.out⟩
            case measure => simp [intOf]; omega
          · by_cases hd : d = 6
            · subst hd
              go_wp2
              go_ret
              exact ⟨true, rfl, HW0.out, fun h => by cases h⟩
            · have hd' : (d == 6) = false := by simpa using hd
              clear hd
              go_wp2
              go_round
              case rel => exact ⟨k + 1, by omega, by go_num, HN.out⟩
              case measure => simp [intOf]; omega
        · go_wp2
          go_ret
          exact ⟨true, rfl, HW0.out, fun h => by cases h⟩
      · go_wp2
        go_ret
        exact ⟨false, rfl, HW0.out, fun _ i q hi => HA.out i q (by
          rcases Nat.lt_or_ge i L.length with h | h
          · omega
          · rw [List.getElem?_eq_none h] at hi; cases hi) hi⟩
  · go_wp2
    go_ret
    exact ⟨true, rfl, (Below.refl _ w).alloc (Nat.le_refl _) _, fun h => by cases h⟩
end Go.Proofs.Ytibmjljofopldaa
