/-
  Memory: what each call leaves of it, whatever is asked; the first put and get.
-/
import Derived.Test.YtibmjljofopldaaMemG
namespace Go.Proofs.Ytibmjljofopldaa
open Go.RowKit
/-- A memory of n bytes l: its head in block g, its bytes in block b. -/
def MemAt (w : World) (base g b n : Nat) (l : List UInt8) : Prop :=
  w.cell? ⟨g, 0, none⟩ = some (.slice (some ⟨b, 0, none⟩) n n) ∧ w.ownsRow base 5 1 (.slice (some ⟨b, 0, none⟩) n n) n (l.map B8) ∧ g ≠ b ∧ base ≤ b ∧ base ≤ g ∧ g < w.heap.size ∧ b < w.heap.size
theorem MemAt.len {w : World} {base g b n : Nat} {l : List UInt8} (h : MemAt w base g b n l) : l.length = n := (Sl.of_own h.2.1).2.symm
theorem MemAt.mono {w : World} {base base' g b n : Nat} {l : List UInt8} (h : MemAt w base g b n l) (hb : base' ≤ base) : MemAt w base' g b n l :=
  ⟨h.1, own_mono h.2.1 hb, h.2.2.1, Nat.le_trans hb h.2.2.2.1, Nat.le_trans hb h.2.2.2.2.1, h.2.2.2.2.2.1, h.2.2.2.2.2.2⟩
theorem MemAt.below {w w' : World} {base g b n : Nat} {l : List UInt8} (h : MemAt w base g b n l) (hb : Below w.heap.size w w') : MemAt w' base g b n l :=
  ⟨(hb.cell (p := ⟨g, 0, none⟩) h.2.2.2.2.2.1).trans h.1, below_own h.2.1 hb, h.2.2.1, h.2.2.2.1, h.2.2.2.2.1, Nat.lt_of_lt_of_le h.2.2.2.2.2.1 hb.size, Nat.lt_of_lt_of_le h.2.2.2.2.2.2 hb.size⟩
theorem MemAt.grown {w w' : World} {base g b n : Nat} {l l' : List UInt8} (h : MemAt w base g b n l) (hg : w.grownBy w' (some b)) (ho : w'.ownsRow base 5 1 (.slice (some ⟨b, 0, none⟩) n n) n (l'.map B8)) : MemAt w' base g b n l' :=
  ⟨(World.cell?_of_block (w := w) (hg.block g h.2.2.2.2.2.1 (by intro q; cases q; exact h.2.2.1 rfl))).trans h.1, ho, h.2.2.1, h.2.2.2.1, h.2.2.2.2.1, Nat.lt_of_lt_of_le h.2.2.2.2.2.1 hg.size, Nat.lt_of_lt_of_le h.2.2.2.2.2.2 hg.size⟩
theorem mnew (n : Nat) (w : World) (h : n ≤ 65536) :
    Calls Try.prog 14 #[.int .i64 n] w fun e w' => ∃ g b, e = .returned (.tuple #[.pointer (some ⟨g, 0, none⟩), .int .i64 0]) ∧ Below w.heap.size w w' ∧ MemAt w' w.heap.size g b n (List.replicate n 0) := by
  refine (memNew_ok n w h).mono ?_
  rintro e w' ⟨rfl, rfl⟩
  refine ⟨_, w.heap.size, rfl, ((Below.refl _ w).alloc (Nat.le_refl _) _).alloc (by simp) _, ?_, memNew_own n w h _, by omega, Nat.le_refl _, by omega, by simp, by simp; omega⟩
  simp [go_sem]
theorem numE_ok {N : Nat} {a k : Int} (h : numE N a k = 0) : (k = 1 ∨ k = 2 ∨ k = 4 ∨ k = 8) ∧ 0 ≤ a ∧ a ≤ N - k := by
  unfold numE at h
  split at h
  · split at h
    · exact ⟨by assumption, by assumption⟩
    · omega
  · omega
theorem mget (w : World) (base g b n : Nat) (l : List UInt8) (h : MemAt w base g b n l) (hn : n ≤ 65536) (a k : Int) :
    Calls Try.prog 28 #[.pointer (some ⟨g, 0, none⟩), .int .i64 a, .int .i64 k] w fun e w' => ∃ v, e = .returned (.tuple #[.int .u64 v, .int .i64 (numE n a k)]) ∧ ∃ m, w' = w.drewN m := by
  by_cases h0 : numE n a k = 0
  · obtain ⟨hk, ha, hak⟩ := numE_ok h0
    obtain ⟨i, rfl⟩ := Int.eq_ofNat_of_zero_le ha
    obtain ⟨j, rfl⟩ := Int.eq_ofNat_of_zero_le (show 0 ≤ k by omega)
    rw [h0]
    refine (memGet_ok g b 0 i j n n l w h.1 (Sl.of_own h.2.1).1 (by omega) (by omega) (by omega)).mono ?_
    rintro e w' ⟨rfl, hm⟩
    exact ⟨_, rfl, hm⟩
  · refine (memGet_bad g a k _ n n w h.1 (by omega) h0).mono ?_
    rintro e w' ⟨rfl, rfl⟩
    exact ⟨_, rfl, 0, rfl⟩
theorem mput (w : World) (base g b n : Nat) (l : List UInt8) (h : MemAt w base g b n l) (hn : n ≤ 65536) (a k v : Int) :
    Calls Try.prog 19 #[.pointer (some ⟨g, 0, none⟩), .int .i64 a, .int .i64 k, .int .u64 v] w fun e w' => e = .returned (.int .i64 (numE n a k)) ∧ w.grownBy w' (some b) ∧ ∃ l', MemAt w' base g b n l' := by
  by_cases h0 : numE n a k = 0
  · obtain ⟨hk, ha, hak⟩ := numE_ok h0
    obtain ⟨i, rfl⟩ := Int.eq_ofNat_of_zero_le ha
    obtain ⟨j, rfl⟩ := Int.eq_ofNat_of_zero_le (show 0 ≤ k by omega)
    rw [h0]
    refine (memPut_ok base g b i j n n v l w h.1 h.2.1 h.2.2.1 (by omega) (by omega) (by omega)).mono ?_
    rintro e w' ⟨rfl, hg, -, ho⟩
    exact ⟨rfl, hg, _, h.grown hg ho⟩
  · refine (memPut_bad g a k _ n n w h.1 (by omega) h0 v).mono ?_
    rintro e w' ⟨rfl, rfl⟩
    exact ⟨rfl, grown_refl _ _, l, h⟩
def inE (n : Nat) (a : Int) (k : Nat) : Int := if 0 ≤ a ∧ a ≤ (n : Int) - k then 0 else 2
theorem mread (w : World) (base g b n : Nat) (l : List UInt8) (h : MemAt w base g b n l) (hn : n ≤ 65536) (a : Int) (k : Nat) (hk : k ≤ 1000000) :
    Calls Try.prog 21 #[.pointer (some ⟨g, 0, none⟩), .int .i64 a, .int .i64 k] w fun e w' => ∃ ao m cap, e = .returned (.tuple #[.slice ao m cap, .int .i64 (inE n a k)]) ∧ Below w.heap.size w w' ∧ (inE n a k = 0 → m = k) := by
  unfold inE
  by_cases h0 : 0 ≤ a ∧ a ≤ (n : Int) - k
  · rw [if_pos h0]
    obtain ⟨i, rfl⟩ := Int.eq_ofNat_of_zero_le h0.1
    have hl := h.len
    have hc := h.1
    have hS := (Sl.of_own h.2.1).1
    subst hl
    refine (memRead_in g b 0 i k l l.length w hc hS (by omega) (by omega)).mono ?_
    rintro e w' ⟨v', rfl, hb, ho⟩
    obtain ⟨ao, cap, rfl⟩ := own_slice ho
    exact ⟨ao, k, cap, rfl, hb, fun _ => rfl⟩
  · rw [if_neg h0]
    refine (memRead_out g a k _ n n w h.1 (by omega) (by omega) (by omega) h0).mono ?_
    rintro e w' ⟨rfl, rfl⟩
    exact ⟨none, 0, 0, rfl, Below.refl _ _, fun h => by omega⟩
theorem mwrite (w : World) (base g b n : Nat) (l : List UInt8) (h : MemAt w base g b n l) (hn : n ≤ 65536) (a : Int) (x : List UInt8) (vx : Value) (hx : Sl w vx x) (hk : x.length ≤ 1000000) :
    Calls Try.prog 26 #[.pointer (some ⟨g, 0, none⟩), .int .i64 a, vx] w fun e w' => e = .returned (.int .i64 (inE n a x.length)) ∧ w.grownBy w' (some b) ∧ ∃ l', MemAt w' base g b n l' := by
  unfold inE
  by_cases h0 : 0 ≤ a ∧ a ≤ (n : Int) - x.length
  · rw [if_pos h0]
    obtain ⟨i, rfl⟩ := Int.eq_ofNat_of_zero_le h0.1
    refine (memWrite_in base g b i n n x l vx w h.1 h.2.1 (by omega) hx (by omega)).mono ?_
    rintro e w' ⟨rfl, hg, -, ho⟩
    exact ⟨rfl, hg, _, h.grown hg ho⟩
  · rw [if_neg h0]
    refine (memWrite_out g a x vx _ n n w h.1 (by omega) hx hk h0).mono ?_
    rintro e w' ⟨rfl, rfl⟩
    exact ⟨rfl, grown_refl _ _, l, h⟩
theorem num1_any (n : Int) (w : World) : Calls Try.prog 16 #[.int .i64 n] w fun e w' => e = .returned (.int .i64 n) ∧ w = w' := by
  go_enter Try.func16, Try.ntmps16
  go_wp2
  go_ret
  exact ⟨rfl, rfl⟩
set_option maxRecDepth 100000 in
theorem wakes1_any (w : World) : Calls Try.prog 17 #[] w fun e w' => e = .returned (.bool true) ∧ Below w.heap.size w w' := by
  have hv : lev (seg (putk (List.replicate 4 0) 0 4660 2) 0 1) = 52 := by decide
  have N4 := Lib.hid (show Calls Try.prog 14 #[.int .i64 4] w _ from mnew 4 w (by omega))
  go_enter Try.func17, Try.ntmps17
  go_wp2_with fail
  refine N4.out.mono ?_
  rintro e w1 ⟨g, b, rfl, hb1, hM⟩
  go_wp2_with fail
  refine (num1_any 0 _).mono ?_
  rintro e W' ⟨rfl, rfl⟩
  go_wp2_with fail
  refine (show Calls Try.prog 19 #[.pointer (some ⟨g, 0, none⟩), .int .i64 0, .int .i64 2, .int .u64 4660] w1 _ from memPut_ok w.heap.size g b 0 2 4 4 4660 (List.replicate 4 0) w1 hM.1 hM.2.1 hM.2.2.1 (by omega) (by omega) (by omega)).mono ?_
  rintro e w2 ⟨rfl, hg, -, ho⟩
  have hM2 := hM.grown hg ho
  have hb2 := hb1.trans (grown_below hg hM.2.2.2.1 hb1.size)
  have HM := Lib.hid hM2; have HB := Lib.hid hb2
  clear hM hg ho hM2 hb2 hb1
  go_wp2_with fail
  refine (show Calls Try.prog 28 #[.pointer (some ⟨g, 0, none⟩), .int .i64 0, .int .i64 1] w2 _ from memGet_ok g b 0 0 1 4 4 (putk (List.replicate 4 0) 0 4660 2) w2 HM.out.1 (Sl.of_own HM.out.2.1).1 (by omega) (by omega) (by omega)).mono ?_
  rintro e w3 ⟨rfl, m3, rfl⟩
  rw [hv]
  have HM3 : MemAt (w2.drewN m3) w.heap.size g b 4 (putk (List.replicate 4 0) 0 4660 2) := HM.out
  have HB3 := Lib.hid (bdrew HB.out m3)
  have HM3 := Lib.hid HM3
  clear HM HB
  go_wp2_with fail
  refine (num1_any 0 _).mono ?_
  rintro e W' ⟨rfl, rfl⟩
  go_wp2_with fail
  refine (num1_any 0 _).mono ?_
  rintro e W' ⟨rfl, rfl⟩
  go_wp2_with fail
  refine (memLen_any g _ 4 4 _ HM3.out.1).mono ?_
  rintro e W' ⟨rfl, rfl⟩
  go_wp2
  go_ret
  exact ⟨rfl, HB3.out⟩
end Go.Proofs.Ytibmjljofopldaa
