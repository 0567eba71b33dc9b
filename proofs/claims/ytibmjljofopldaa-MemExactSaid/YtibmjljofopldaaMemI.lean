/-
  Memory: the script of layer 1, read; what is too heavy; masks of numbers.
-/
import Derived.Test.YtibmjljofopldaaMemH
import Derived.Test.YtibmjljofopldaaRead
import Derived.Test.YtibmjljofopldaaWithin
namespace Go.Proofs.Ytibmjljofopldaa
open Go.RowKit
structure Act1 where
  d : Int
  a : Int
  n : Int
  v : Int
  x : List UInt8
def Act1.At (w : World) (b off : Nat) (q : Act1) : Prop :=
  w.cell? ⟨b, off, none⟩ = some (.int .i64 q.d) ∧ w.cell? ⟨b, off + 1, none⟩ = some (.int .i64 q.a) ∧ w.cell? ⟨b, off + 2, none⟩ = some (.int .i64 q.n) ∧ w.cell? ⟨b, off + 3, none⟩ = some (.int .u64 q.v) ∧
    (∃ vx, w.cell? ⟨b, off + 4, none⟩ = some vx ∧ Sl w vx q.x) ∧ 0 ≤ q.v ∧ q.v < 18446744073709551616
def Acts1 (w : World) (v : Value) (L : List Act1) : Prop :=
  ∃ ao cap, v = .slice ao L.length cap ∧ L.length ≤ maxLen ∧ (L ≠ [] → ∃ b off, ao = some ⟨b, off, none⟩ ∧ b < w.heap.size ∧ ∀ i (q : Act1), L[i]? = some q → q.At w b (off + i * 5))
theorem cI1 : Try.prog.cellsOf 3 = 1 := by kernel_rfl
theorem cU1 : Try.prog.cellsOf 37 = 1 := by kernel_rfl
theorem cB1 : Try.prog.cellsOf 34 = 1 := by kernel_rfl
theorem cS1 : Try.prog.cellsOf 22 = 1 := by kernel_rfl
theorem acts1_of (W : World) (v : Value) (h : Rd Try.prog W 22 [v]) : ∃ L, Acts1 W v L := by
  obtain ⟨v', L, hv, ao, cap, rfl, h1, h2, h3, h4⟩ := h.slOf (p := fun w b off q => Act1.At w b off q) (size := 5) Try.underlying22 (by kernel_rfl) (by decide) (by
    intro b off cs' hb hc hr
    obtain ⟨hlen, hf⟩ := hr.struct Try.underlying39
    match cs', hc.1 with
    | [c0, c1, c2, c3, c4], _ =>
      obtain ⟨d, hd, -, -⟩ := (hf 0 _ rfl).i64 Try.underlying3
      obtain ⟨a, ha, -, -⟩ := (hf 1 _ rfl).i64 Try.underlying3
      obtain ⟨n, hn, -, -⟩ := (hf 2 _ rfl).i64 Try.underlying3
      obtain ⟨v, hv, hv0, hv1⟩ := (hf 3 _ rfl).u64 Try.underlying37
      obtain ⟨vx, x, hvx, hX⟩ := (hf 4 _ rfl).bytes Try.underlying34 (by kernel_rfl) Try.underlying5
      have e0 : c0 = .int .i64 d := by simpa [cI1] using hd
      have e1 : c1 = .int .i64 a := by simpa [cI1] using ha
      have e2 : c2 = .int .i64 n := by simpa [cI1] using hn
      have e3 : c3 = .int .u64 v := by simpa [cU1] using hv
      have e4 : c4 = vx := by simpa [cB1] using hvx
      subst e0 e1 e2 e3 e4
      refine ⟨⟨d, a, n, v, x⟩, hc.2 0 (by omega), hc.2 1 (by omega), hc.2 2 (by omega), hc.2 3 (by omega), ⟨_, hc.2 4 (by omega), hX⟩, hv0, hv1⟩)
  obtain rfl : v = _ := by simpa using hv
  exact ⟨L, ao, cap, rfl, Nat.le_trans h1 h2, h4⟩
/-- The script of layer 1, read: a number, and a slice's cell. -/
theorem script1 (W : World) (cs : List Value) (h : Rd Try.prog W 24 cs) : ∃ (n : Int) (v : Value) (L : List Act1), cs = [.int .i64 n, v] ∧ Acts1 W v L := by
  obtain ⟨hlen, hf⟩ := h.struct Try.underlying24
  have hc2 : Try.prog.cellsOf 24 = 2 := by kernel_rfl
  rw [hc2] at hlen
  match cs, hlen with
  | [c0, c1], _ =>
    obtain ⟨n, hn, -, -⟩ := (hf 0 _ rfl).i64 Try.underlying3
    have h1 := hf 1 _ rfl
    have e0 : c0 = .int .i64 n := by simpa [cI1] using hn
    subst e0
    obtain ⟨L, hL⟩ := acts1_of W c1 (by simpa [cS1] using h1)
    exact ⟨n, c1, L, rfl, hL⟩
set_option maxRecDepth 100000 in
set_option maxHeartbeats 1000000 in
theorem heavy1_any (pn : Int) (v : Value) (L : List Act1) (w : World) (hv : Acts1 w v L) :
    Calls Try.prog 13 #[.agg #[.int .i64 pn, v]] w fun e w' => ∃ h, e = .returned (.bool h) ∧ Below w.heap.size w w' := by
  obtain ⟨ao, cap, rfl, hlen, hB⟩ := hv
  have hlen' : L.length ≤ 9223372036854775807 := by simpa [maxLen] using hlen
  have HB := Lib.hid hB; clear hB hlen
  go_enter Try.func13, Try.ntmps13
  by_cases h200 : L.length ≤ 200
  · go_wp2
    have c0 : (w.alloc (.cells #[.int .i64 pn, .slice ao L.length cap] 24)).cell? ⟨w.heap.size, 1, none⟩ = some (.slice ao L.length cap) := by simp [go_sem]
    have HW0 := Lib.hid (show Below w.heap.size w (w.alloc (.cells #[.int .i64 pn, .slice ao L.length cap] 24)) from (Below.refl _ w).alloc (Nat.le_refl _) _)
    generalize (w.alloc (.cells #[.int .i64 pn, .slice ao L.length cap] 24)) = W0 at c0 HW0 ⊢
    go_loop [3] (fun i => ∃ k : Nat, k ≤ L.length ∧ i = .int .i64 k) (fun i => L.length - (intOf i).toNat)
    case atStart => exact ⟨0, by omega, rfl⟩
    case round =>
      obtain ⟨k, hk, rfl⟩ := hrel
      by_cases hlt : k < L.length
      · obtain ⟨b, off, rfl, hbw, hBB⟩ := HB.out (by intro h; simp [h] at hlt)
        obtain ⟨⟨d, a, n, v, x⟩, hq⟩ : ∃ q, L[k]? = some q := ⟨_, List.getElem?_eq_getElem hlt⟩
        obtain ⟨hc0, -, hc2, -, ⟨vx, hc4, hX⟩, -, -⟩ := hBB k _ hq
        clear hBB hq
        dsimp only at hc0 hc2 hc4 hX
        obtain ⟨ax, cx, rfl, -⟩ := id hX
        have d0 := (HW0.out.cell (p := ⟨b, off + k * 5, none⟩) hbw).trans hc0
        have d2 := (HW0.out.cell (p := ⟨b, off + k * 5 + 2, none⟩) hbw).trans hc2
        have d4 := (HW0.out.cell (p := ⟨b, off + k * 5 + 4, none⟩) hbw).trans hc4
        clear hc0 hc2 hc4 hX
        by_cases hx : x.length ≤ 500
        · by_cases hn : n ≤ 65536
          · go_wp2
            go_round
            case rel => exact ⟨k + 1, by omega, by go_num⟩
            case measure => simp [intOf]; omega
          · by_cases hd : d = 6
            · subst hd
              go_wp2
              go_ret
              first | exact ⟨.inr rfl, HW0.out⟩ | exact ⟨.inl rfl, HW0.out⟩
            · have hd' : (d == 6) = false := by simpa using hd
              clear hd
              go_wp2
              go_round
              case rel => exact ⟨k + 1, by omega, by go_num⟩
              case measure => simp [intOf]; omega
        · go_wp2
          go_ret
          first | exact ⟨.inr rfl, HW0.out⟩ | exact ⟨.inl rfl, HW0.out⟩
      · go_wp2
        go_ret
        first | exact ⟨.inr rfl, HW0.out⟩ | exact ⟨.inl rfl, HW0.out⟩
  · go_wp2
    go_ret
    exact ⟨_, rfl, (Below.refl _ w).alloc (Nat.le_refl _) _⟩
theorem own_grown {w w' : World} {base e g n cap b : Nat} {xs : List Value} (h : w.ownsRow base e 1 (.slice (some ⟨g, 0, none⟩) n cap) n xs) (hg : w.grownBy w' (some b)) (hne : g ≠ b) (hlt : g < w.heap.size) : w'.ownsRow base e 1 (.slice (some ⟨g, 0, none⟩) n cap) n xs := by
  obtain ⟨h1, h2⟩ := h
  refine ⟨h1, ?_⟩
  rcases h2 with ⟨h2, -⟩ | ⟨g', cap', cur, hv, hbg, hh, r⟩
  · cases h2
  · cases hv
    exact .inr ⟨g, cap, cur, rfl, hbg, (hg.block g hlt (by intro q; cases q; exact hne rfl)).trans hh, r⟩
theorem and_u64 (V : Int) (k : Nat) (hk : k ≤ 64) (h0 : 0 ≤ V) (h1 : V < 18446744073709551616) : bits .and .u64 V (2 ^ k - 1) = V % 2 ^ k := by
  obtain ⟨V, rfl⟩ := Int.eq_ofNat_of_zero_le h0
  have hp : (2 : Nat) ^ k ≤ 2 ^ 64 := Nat.pow_le_pow_right (by omega) hk
  have hp0 : 0 < (2 : Nat) ^ k := Nat.pow_pos (by omega)
  have e1 : ((2 : Int) ^ k - 1) = ((2 ^ k - 1 : Nat) : Int) := by
    rw [Int.natCast_sub (by omega)]; simp
  have h2 : (BitVec.ofInt 64 (V : Int)).toNat = V := by rw [ofInt_toNat]; omega
  have h3 : (BitVec.ofInt 64 ((2 ^ k - 1 : Nat) : Int)).toNat = 2 ^ k - 1 := by rw [ofInt_toNat]; omega
  rw [e1]
  show IntKind.wrap .u64 (((BitVec.ofInt 64 (V : Int) &&& BitVec.ofInt 64 ((2 ^ k - 1 : Nat) : Int)).toNat : Nat) : Int) = _
  rw [BitVec.toNat_and, h2, h3, Nat.and_two_pow_sub_one_eq_mod]
  have hm : V % 2 ^ k < 2 ^ k := Nat.mod_lt _ hp0
  rw [IntKind.wrap_u64, show ((2 : Int) ^ k) = ((2 ^ k : Nat) : Int) by simp, ← Int.natCast_emod]
  omega
end Go.Proofs.Ytibmjljofopldaa
