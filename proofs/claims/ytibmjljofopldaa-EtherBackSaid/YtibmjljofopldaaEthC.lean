import Derived.Test.YtibmjljofopldaaEthB
import Derived.Deep.RegionWith
import Derived.Laws.ResultCell
namespace Go.Proofs.Ytibmjljofopldaa
open Go.RowKit
def frOf (l : List UInt8) : Fr := ⟨ofv (l.take 6), ofv ((l.drop 6).take 6), ofv ((l.drop 12).take 2), l.drop 14⟩
set_option maxRecDepth 100000 in
set_option maxHeartbeats 4000000 in
theorem ethParse_ok (v : Value) (l : List UInt8) (w : World) (h1 : 14 ≤ l.length) (h2 : l.length ≤ 1514) (hv : Sl w v l) :
    Calls Try.prog 44 #[v] w fun e w' => ∃ v', e = .returned (.tuple #[.agg #[.int .i64 (frOf l).dst, .int .i64 (frOf l).src, .int .i64 (frOf l).ty, v'], .int .i64 0]) ∧ Below w.heap.size w w' ∧ w'.ownsRow w.heap.size 5 1 v' (frOf l).data.length ((frOf l).data.map B8) := by
  obtain ⟨ao, cap, rfl, hcl, hcm, -, hB⟩ := id hv
  obtain ⟨b, off, rfl, -, -⟩ := hB (by intro h; simp [h] at h1)
  have hcm' : cap ≤ 9223372036854775807 := by simpa [maxLen] using hcm
  have hl14 : l.length ≤ 1514 := h2
  have S1 := Lib.hid (hv.prefix 6 (by omega)); have S2 := Lib.hid (hv.mid 6 6 (by omega)); have S3 := Lib.hid (hv.mid 12 2 (by omega)); have S4 := Lib.hid (hv.suffix 14 (by omega))
  have h14 : 14 = cap ∨ 14 < cap := by omega
  rcases h14 with rfl | h14
  · have hl14' : l.length = 14 := by omega
    have hll := Lib.hid hl14'
    rw [hl14']
    have S2 := Lib.hid (show Sl w (.slice (some ⟨b, off + 6, none⟩) 6 8) ((l.drop 6).take 6) from S2.out)
    have S3 := Lib.hid (show Sl w (.slice (some ⟨b, off + 12, none⟩) 2 2) ((l.drop 12).take 2) from S3.out)
    clear hl14' hl14 hv hcl hcm hcm' h1 h2 S4
    go_enter Try.func44, Try.ntmps44
    go_wp2_with fail
    refine wp_gen (fun W => Below w.heap.size w W ∧ W.cell? ⟨w.heap.size, 0, none⟩ = some (.int .i64 0) ∧ W.cell? ⟨w.heap.size, 1, none⟩ = some (.int .i64 0) ∧ W.cell? ⟨w.heap.size, 2, none⟩ = some (.int .i64 0) ∧ W.cell? ⟨w.heap.size, 3, none⟩ = some (.slice none 0 0) ∧ (∀ k, W.frozen? ⟨w.heap.size, k, none⟩ = false) ∧ w.heap.size < W.heap.size) ⟨(Below.refl _ w).alloc (Nat.le_refl _) _, by simp [go_sem], by simp [go_sem], by simp [go_sem], by simp [go_sem], by intro k; simp [go_sem], by simp⟩ ?_
    rintro W ⟨hbW, c0, c1, c2, c3, hfr, hsW⟩
    have A1 := Lib.hid (numRead_any _ (l.take 6) W.drew (by rw [List.length_take]; omega) (S1.out.below hbW.drew))
    have A2 := Lib.hid (numRead_any _ ((l.drop 6).take 6) W.drew (by rw [List.length_take]; omega) (S2.out.below hbW.drew))
    have A3 := Lib.hid (numRead_any _ ((l.drop 12).take 2) W.drew (by rw [List.length_take]; omega) (S3.out.below hbW.drew))
    have A4 := Lib.hid (clone_any _ [] W.drew (by simp) (Sl.none_left W.drew (some ⟨b, off, none⟩)))
    go_region_held3 (fun _ => True) (trivial) (first | ((with_reducible refine A1.out.mono ?_); rintro e w' ⟨rfl, rfl⟩) | ((with_reducible refine A2.out.mono ?_); rintro e w' ⟨rfl, rfl⟩) | ((with_reducible refine A3.out.mono ?_); rintro e w' ⟨rfl, rfl⟩) | ((with_reducible refine A4.out.mono ?_); rintro e w1 ⟨v1, rfl, hb1, ho1⟩; obtain ⟨ao1, cap1, rfl⟩ := own_slice ho1; have d0 := (hb1.cell (p := ⟨w.heap.size, 0, none⟩) hsW).trans c0; have d1 := (hb1.cell (p := ⟨w.heap.size, 1, none⟩) hsW).trans c1; have d2 := (hb1.cell (p := ⟨w.heap.size, 2, none⟩) hsW).trans c2; have d3 := (hb1.cell (p := ⟨w.heap.size, 3, none⟩) hsW).trans c3; have f0 := (hb1.frozen (p := ⟨w.heap.size, 0, none⟩) hsW).trans (hfr 0); have f1 := (hb1.frozen (p := ⟨w.heap.size, 1, none⟩) hsW).trans (hfr 1); have f2 := (hb1.frozen (p := ⟨w.heap.size, 2, none⟩) hsW).trans (hfr 2); have f3 := (hb1.frozen (p := ⟨w.heap.size, 3, none⟩) hsW).trans (hfr 3); have hs1 := hb1.size))
    have hb4 : Below w.heap.size w w1 := hbW.trans (((Below.refl _ W).drew).trans (hb1.mono (Nat.le_of_lt hsW)))
    have ho2 := own_mono ho1 (show w.heap.size ≤ W.drew.heap.size from Nat.le_of_lt hsW)
    clear f0 f1 f2 f3 c0 c1 c2 c3 hfr
    go_wp2
    refine bodyPost_ret (v := .tuple #[.agg #[.int .i64 (frOf l).dst, .int .i64 (frOf l).src, .int .i64 (frOf l).ty, .slice ao1 0 cap1], .int .i64 0]) ?_ rfl ⟨_, rfl, ?_, ?_⟩
    · simp [results, Try.results44, go_sem, frOf, d0, d1, d2, d3]
    · exact (((hb4.setCell (Nat.le_refl _) _).setCell (Nat.le_refl _) _).setCell (Nat.le_refl _) _).setCell (Nat.le_refl _) _
    · have h1' := ownsRow_setCell_below (ownsRow_setCell_below (ownsRow_setCell_below (ownsRow_setCell_below ho1 (a := ⟨w.heap.size, 0, none⟩) hsW (.int .i64 (ofv (l.take 6)))) (a := ⟨w.heap.size, 1, none⟩) hsW (.int .i64 (ofv ((l.drop 6).take 6)))) (a := ⟨w.heap.size, 2, none⟩) hsW (.int .i64 (ofv ((l.drop 12).take 2)))) (a := ⟨w.heap.size, 3, none⟩) hsW (.slice ao1 0 cap1)
      have h2' := own_mono h1' (show w.heap.size ≤ W.drew.heap.size from Nat.le_of_lt hsW)
      have hd0 : (frOf l).data = [] := by simp [frOf, hll.out]
      rw [hd0]; exact h2'
  · have e6 : (6 : Int) ≤ (cap : Int) := by omega
    have e12 : (12 : Int) ≤ (cap : Int) := by omega
    have e14 : (14 : Int) ≤ (cap : Int) := by omega
    have g14 : (14 : Int) ≤ (l.length : Int) := by omega
    have n6 : (6 = cap) = False := by simp; omega
    have n12 : (12 = cap) = False := by simp; omega
    have n14 : (14 = cap) = False := by simp; omega
    have m6 : (cap = 6) = False := by simp; omega
    have m12 : (cap = 12) = False := by simp; omega
    have m14 : (cap = 14) = False := by simp; omega
    go_enter Try.func44, Try.ntmps44
    go_wp2_with fail
    refine wp_gen (fun W => Below w.heap.size w W ∧ W.cell? ⟨w.heap.size, 0, none⟩ = some (.int .i64 0) ∧ W.cell? ⟨w.heap.size, 1, none⟩ = some (.int .i64 0) ∧ W.cell? ⟨w.heap.size, 2, none⟩ = some (.int .i64 0) ∧ W.cell? ⟨w.heap.size, 3, none⟩ = some (.slice none 0 0) ∧ (∀ k, W.frozen? ⟨w.heap.size, k, none⟩ = false) ∧ w.heap.size < W.heap.size) ⟨(Below.refl _ w).alloc (Nat.le_refl _) _, by simp [go_sem], by simp [go_sem], by simp [go_sem], by simp [go_sem], by intro k; simp [go_sem], by simp⟩ ?_
    rintro W ⟨hbW, c0, c1, c2, c3, hfr, hsW⟩
    have A1 := Lib.hid (numRead_any _ (l.take 6) W.drew (by rw [List.length_take]; omega) (S1.out.below hbW.drew))
    have A2 := Lib.hid (numRead_any _ ((l.drop 6).take 6) W.drew (by rw [List.length_take]; omega) (S2.out.below hbW.drew))
    have A3 := Lib.hid (numRead_any _ ((l.drop 12).take 2) W.drew (by rw [List.length_take]; omega) (S3.out.below hbW.drew))
    have A4 := Lib.hid (clone_any _ (l.drop 14) W.drew (by rw [List.length_drop]; omega) (S4.out.below hbW.drew))
    go_region_held3 (fun _ => True) (trivial) (first | ((with_reducible refine A1.out.mono ?_); rintro e w' ⟨rfl, rfl⟩) | ((with_reducible refine A2.out.mono ?_); rintro e w' ⟨rfl, rfl⟩) | ((with_reducible refine A3.out.mono ?_); rintro e w' ⟨rfl, rfl⟩) | ((with_reducible refine A4.out.mono ?_); rintro e w1 ⟨v1, rfl, hb1, ho1⟩; obtain ⟨ao1, cap1, rfl⟩ := own_slice ho1; have d0 := (hb1.cell (p := ⟨w.heap.size, 0, none⟩) hsW).trans c0; have d1 := (hb1.cell (p := ⟨w.heap.size, 1, none⟩) hsW).trans c1; have d2 := (hb1.cell (p := ⟨w.heap.size, 2, none⟩) hsW).trans c2; have d3 := (hb1.cell (p := ⟨w.heap.size, 3, none⟩) hsW).trans c3; have f0 := (hb1.frozen (p := ⟨w.heap.size, 0, none⟩) hsW).trans (hfr 0); have f1 := (hb1.frozen (p := ⟨w.heap.size, 1, none⟩) hsW).trans (hfr 1); have f2 := (hb1.frozen (p := ⟨w.heap.size, 2, none⟩) hsW).trans (hfr 2); have f3 := (hb1.frozen (p := ⟨w.heap.size, 3, none⟩) hsW).trans (hfr 3); have hs1 := hb1.size))
    have hb4 : Below w.heap.size w w1 := hbW.trans (((Below.refl _ W).drew).trans (hb1.mono (Nat.le_of_lt hsW)))
    have hdl : (frOf l).data.length = l.length - 14 := by simp [frOf]
    have ho2 := own_mono ho1 (show w.heap.size ≤ W.drew.heap.size from Nat.le_of_lt hsW)
    clear f0 f1 f2 f3 c0 c1 c2 c3 hfr n6 n12 n14 m6 m12 m14
    go_wp2
    refine bodyPost_ret (v := .tuple #[.agg #[.int .i64 (frOf l).dst, .int .i64 (frOf l).src, .int .i64 (frOf l).ty, .slice ao1 (l.drop 14).length cap1], .int .i64 0]) ?_ rfl ⟨_, rfl, ?_, ?_⟩
    · simp [results, Try.results44, go_sem, frOf, d0, d1, d2, d3]
    · exact (((hb4.setCell (Nat.le_refl _) _).setCell (Nat.le_refl _) _).setCell (Nat.le_refl _) _).setCell (Nat.le_refl _) _
    · have h1' := ownsRow_setCell_below (ownsRow_setCell_below (ownsRow_setCell_below (ownsRow_setCell_below ho1 (a := ⟨w.heap.size, 0, none⟩) hsW (.int .i64 (ofv (l.take 6)))) (a := ⟨w.heap.size, 1, none⟩) hsW (.int .i64 (ofv ((l.drop 6).take 6)))) (a := ⟨w.heap.size, 2, none⟩) hsW (.int .i64 (ofv ((l.drop 12).take 2)))) (a := ⟨w.heap.size, 3, none⟩) hsW (.slice ao1 (l.drop 14).length cap1)
      have h2' := own_mono h1' (show w.heap.size ≤ W.drew.heap.size from Nat.le_of_lt hsW)
      rw [List.length_drop] at h2'
      simpa [frOf] using h2'
set_option maxRecDepth 100000 in
set_option maxHeartbeats 4000000 in
theorem rParse_ok (v : Value) (l : List UInt8) (w : World) (h1 : 14 ≤ l.length) (h2 : l.length ≤ 1514) (hv : Sl w v l) :
    Calls Try.prog 45 #[v] w fun e w' => ∃ v', e = .returned (.tuple #[.agg #[.int .i64 (frOf l).dst, .int .i64 (frOf l).src, .int .i64 (frOf l).ty, v'], .int .i64 0]) ∧ Below w.heap.size w w' ∧ w'.ownsRow w.heap.size 5 1 v' (frOf l).data.length ((frOf l).data.map B8) := by
  obtain ⟨ao, cap, rfl, hcl, hcm, -, hB⟩ := id hv
  obtain ⟨b, off, rfl, -, -⟩ := hB (by intro h; simp [h] at h1)
  have hcm' : cap ≤ 9223372036854775807 := by simpa [maxLen] using hcm
  have hl14 : l.length ≤ 1514 := h2
  have S1 := Lib.hid (hv.prefix 6 (by omega)); have S2 := Lib.hid (hv.mid 6 6 (by omega)); have S3 := Lib.hid (hv.mid 12 2 (by omega)); have S4 := Lib.hid (hv.suffix 14 (by omega))
  have h14 : 14 = cap ∨ 14 < cap := by omega
  rcases h14 with rfl | h14
  · have hl14' : l.length = 14 := by omega
    have hll := Lib.hid hl14'
    rw [hl14']
    have S2 := Lib.hid (show Sl w (.slice (some ⟨b, off + 6, none⟩) 6 8) ((l.drop 6).take 6) from S2.out)
    have S3 := Lib.hid (show Sl w (.slice (some ⟨b, off + 12, none⟩) 2 2) ((l.drop 12).take 2) from S3.out)
    clear hl14' hl14 hv hcl hcm hcm' h1 h2 S4
    go_enter Try.func45, Try.ntmps45
    go_wp2_with fail
    refine wp_gen (fun W => Below w.heap.size w W ∧ W.cell? ⟨w.heap.size, 0, none⟩ = some (.int .i64 0) ∧ W.cell? ⟨w.heap.size, 1, none⟩ = some (.int .i64 0) ∧ W.cell? ⟨w.heap.size, 2, none⟩ = some (.int .i64 0) ∧ W.cell? ⟨w.heap.size, 3, none⟩ = some (.slice none 0 0) ∧ (∀ k, W.frozen? ⟨w.heap.size, k, none⟩ = false) ∧ w.heap.size < W.heap.size) ⟨(Below.refl _ w).alloc (Nat.le_refl _) _, by simp [go_sem], by simp [go_sem], by simp [go_sem], by simp [go_sem], by intro k; simp [go_sem], by simp⟩ ?_
    rintro W ⟨hbW, c0, c1, c2, c3, hfr, hsW⟩
    have A1 := Lib.hid (of_any _ (l.take 6) W.drew (by rw [List.length_take]; omega) (S1.out.below hbW.drew))
    have A2 := Lib.hid (of_any _ ((l.drop 6).take 6) W.drew (by rw [List.length_take]; omega) (S2.out.below hbW.drew))
    have A3 := Lib.hid (of_any _ ((l.drop 12).take 2) W.drew (by rw [List.length_take]; omega) (S3.out.below hbW.drew))
    have A4 := Lib.hid (copyBytes_any _ [] W.drew (by simp) (Sl.none_left W.drew (some ⟨b, off, none⟩)))
    go_region_held3 (fun _ => True) (trivial) (first | ((with_reducible refine A1.out.mono ?_); rintro e w' ⟨rfl, rfl⟩) | ((with_reducible refine A2.out.mono ?_); rintro e w' ⟨rfl, rfl⟩) | ((with_reducible refine A3.out.mono ?_); rintro e w' ⟨rfl, rfl⟩) | ((with_reducible refine A4.out.mono ?_); rintro e w1 ⟨v1, rfl, hb1, ho1⟩; obtain ⟨ao1, cap1, rfl⟩ := own_slice ho1; have d0 := (hb1.cell (p := ⟨w.heap.size, 0, none⟩) hsW).trans c0; have d1 := (hb1.cell (p := ⟨w.heap.size, 1, none⟩) hsW).trans c1; have d2 := (hb1.cell (p := ⟨w.heap.size, 2, none⟩) hsW).trans c2; have d3 := (hb1.cell (p := ⟨w.heap.size, 3, none⟩) hsW).trans c3; have f0 := (hb1.frozen (p := ⟨w.heap.size, 0, none⟩) hsW).trans (hfr 0); have f1 := (hb1.frozen (p := ⟨w.heap.size, 1, none⟩) hsW).trans (hfr 1); have f2 := (hb1.frozen (p := ⟨w.heap.size, 2, none⟩) hsW).trans (hfr 2); have f3 := (hb1.frozen (p := ⟨w.heap.size, 3, none⟩) hsW).trans (hfr 3); have hs1 := hb1.size))
    have hb4 : Below w.heap.size w w1 := hbW.trans (((Below.refl _ W).drew).trans (hb1.mono (Nat.le_of_lt hsW)))
    have ho2 := own_mono ho1 (show w.heap.size ≤ W.drew.heap.size from Nat.le_of_lt hsW)
    clear f0 f1 f2 f3 c0 c1 c2 c3 hfr
    go_wp2
    refine bodyPost_ret (v := .tuple #[.agg #[.int .i64 (frOf l).dst, .int .i64 (frOf l).src, .int .i64 (frOf l).ty, .slice ao1 0 cap1], .int .i64 0]) ?_ rfl ⟨_, rfl, ?_, ?_⟩
    · simp [results, Try.results45, go_sem, frOf, d0, d1, d2, d3]
    · exact (((hb4.setCell (Nat.le_refl _) _).setCell (Nat.le_refl _) _).setCell (Nat.le_refl _) _).setCell (Nat.le_refl _) _
    · have h1' := ownsRow_setCell_below (ownsRow_setCell_below (ownsRow_setCell_below (ownsRow_setCell_below ho1 (a := ⟨w.heap.size, 0, none⟩) hsW (.int .i64 (ofv (l.take 6)))) (a := ⟨w.heap.size, 1, none⟩) hsW (.int .i64 (ofv ((l.drop 6).take 6)))) (a := ⟨w.heap.size, 2, none⟩) hsW (.int .i64 (ofv ((l.drop 12).take 2)))) (a := ⟨w.heap.size, 3, none⟩) hsW (.slice ao1 0 cap1)
      have h2' := own_mono h1' (show w.heap.size ≤ W.drew.heap.size from Nat.le_of_lt hsW)
      have hd0 : (frOf l).data = [] := by simp [frOf, hll.out]
      rw [hd0]; exact h2'
  · have e6 : (6 : Int) ≤ (cap : Int) := by omega
    have e12 : (12 : Int) ≤ (cap : Int) := by omega
    have e14 : (14 : Int) ≤ (cap : Int) := by omega
    have g14 : (14 : Int) ≤ (l.length : Int) := by omega
    have n6 : (6 = cap) = False := by simp; omega
    have n12 : (12 = cap) = False := by simp; omega
    have n14 : (14 = cap) = False := by simp; omega
    have m6 : (cap = 6) = False := by simp; omega
    have m12 : (cap = 12) = False := by simp; omega
    have m14 : (cap = 14) = False := by simp; omega
    go_enter Try.func45, Try.ntmps45
    go_wp2_with fail
    refine wp_gen (fun W => Below w.heap.size w W ∧ W.cell? ⟨w.heap.size, 0, none⟩ = some (.int .i64 0) ∧ W.cell? ⟨w.heap.size, 1, none⟩ = some (.int .i64 0) ∧ W.cell? ⟨w.heap.size, 2, none⟩ = some (.int .i64 0) ∧ W.cell? ⟨w.heap.size, 3, none⟩ = some (.slice none 0 0) ∧ (∀ k, W.frozen? ⟨w.heap.size, k, none⟩ = false) ∧ w.heap.size < W.heap.size) ⟨(Below.refl _ w).alloc (Nat.le_refl _) _, by simp [go_sem], by simp [go_sem], by simp [go_sem], by simp [go_sem], by intro k; simp [go_sem], by simp⟩ ?_
    rintro W ⟨hbW, c0, c1, c2, c3, hfr, hsW⟩
    have A1 := Lib.hid (of_any _ (l.take 6) W.drew (by rw [List.length_take]; omega) (S1.out.below hbW.drew))
    have A2 := Lib.hid (of_any _ ((l.drop 6).take 6) W.drew (by rw [List.length_take]; omega) (S2.out.below hbW.drew))
    have A3 := Lib.hid (of_any _ ((l.drop 12).take 2) W.drew (by rw [List.length_take]; omega) (S3.out.below hbW.drew))
    have A4 := Lib.hid (copyBytes_any _ (l.drop 14) W.drew (by rw [List.length_drop]; omega) (S4.out.below hbW.drew))
    go_region_held3 (fun _ => True) (trivial) (first | ((with_reducible refine A1.out.mono ?_); rintro e w' ⟨rfl, rfl⟩) | ((with_reducible refine A2.out.mono ?_); rintro e w' ⟨rfl, rfl⟩) | ((with_reducible refine A3.out.mono ?_); rintro e w' ⟨rfl, rfl⟩) | ((with_reducible refine A4.out.mono ?_); rintro e w1 ⟨v1, rfl, hb1, ho1⟩; obtain ⟨ao1, cap1, rfl⟩ := own_slice ho1; have d0 := (hb1.cell (p := ⟨w.heap.size, 0, none⟩) hsW).trans c0; have d1 := (hb1.cell (p := ⟨w.heap.size, 1, none⟩) hsW).trans c1; have d2 := (hb1.cell (p := ⟨w.heap.size, 2, none⟩) hsW).trans c2; have d3 := (hb1.cell (p := ⟨w.heap.size, 3, none⟩) hsW).trans c3; have f0 := (hb1.frozen (p := ⟨w.heap.size, 0, none⟩) hsW).trans (hfr 0); have f1 := (hb1.frozen (p := ⟨w.heap.size, 1, none⟩) hsW).trans (hfr 1); have f2 := (hb1.frozen (p := ⟨w.heap.size, 2, none⟩) hsW).trans (hfr 2); have f3 := (hb1.frozen (p := ⟨w.heap.size, 3, none⟩) hsW).trans (hfr 3); have hs1 := hb1.size))
    have hb4 : Below w.heap.size w w1 := hbW.trans (((Below.refl _ W).drew).trans (hb1.mono (Nat.le_of_lt hsW)))
    have hdl : (frOf l).data.length = l.length - 14 := by simp [frOf]
    have ho2 := own_mono ho1 (show w.heap.size ≤ W.drew.heap.size from Nat.le_of_lt hsW)
    clear f0 f1 f2 f3 c0 c1 c2 c3 hfr n6 n12 n14 m6 m12 m14
    go_wp2
    refine bodyPost_ret (v := .tuple #[.agg #[.int .i64 (frOf l).dst, .int .i64 (frOf l).src, .int .i64 (frOf l).ty, .slice ao1 (l.drop 14).length cap1], .int .i64 0]) ?_ rfl ⟨_, rfl, ?_, ?_⟩
    · simp [results, Try.results45, go_sem, frOf, d0, d1, d2, d3]
    · exact (((hb4.setCell (Nat.le_refl _) _).setCell (Nat.le_refl _) _).setCell (Nat.le_refl _) _).setCell (Nat.le_refl _) _
    · have h1' := ownsRow_setCell_below (ownsRow_setCell_below (ownsRow_setCell_below (ownsRow_setCell_below ho1 (a := ⟨w.heap.size, 0, none⟩) hsW (.int .i64 (ofv (l.take 6)))) (a := ⟨w.heap.size, 1, none⟩) hsW (.int .i64 (ofv ((l.drop 6).take 6)))) (a := ⟨w.heap.size, 2, none⟩) hsW (.int .i64 (ofv ((l.drop 12).take 2)))) (a := ⟨w.heap.size, 3, none⟩) hsW (.slice ao1 (l.drop 14).length cap1)
      have h2' := own_mono h1' (show w.heap.size ≤ W.drew.heap.size from Nat.le_of_lt hsW)
      rw [List.length_drop] at h2'
      simpa [frOf] using h2'
theorem ethParse_bad (v : Value) (l : List UInt8) (w : World) (h : l.length < 14 ∨ 1514 < l.length) (hl : l.length ≤ 9000000000) (hv : Sl w v l) :
    Calls Try.prog 44 #[v] w fun e w' => e = .returned (.tuple #[.agg #[.int .i64 0, .int .i64 0, .int .i64 0, .slice none 0 0], .int .i64 (if l.length < 14 then 7 else 2)]) ∧ Below w.heap.size w w' := by
  obtain ⟨ao, cap, rfl, -⟩ := hv
  by_cases h1 : l.length < 14
  · rw [if_pos h1]
    go_enter Try.func44, Try.ntmps44
    go_wp2
    refine bodyPost_ret (v := .tuple #[.agg #[.int .i64 0, .int .i64 0, .int .i64 0, .slice none 0 0], .int .i64 7]) ?_ rfl ⟨rfl, ?_⟩
    · simp [results, Try.results44, go_sem]
    · repeat (first | exact Below.refl _ _ | refine Below.drew ?_ | refine bdrew ?_ _ | refine Below.setCell ?_ (by first | (simp; done) | (simp; omega)) _ | refine Below.alloc ?_ (by first | (simp; done) | (simp; omega)) _)
  · rw [if_neg h1]
    have h2 : 1514 < l.length := by omega
    clear h
    go_enter Try.func44, Try.ntmps44
    go_wp2
    refine bodyPost_ret (v := .tuple #[.agg #[.int .i64 0, .int .i64 0, .int .i64 0, .slice none 0 0], .int .i64 2]) ?_ rfl ⟨rfl, ?_⟩
    · simp [results, Try.results44, go_sem]
    · repeat (first | exact Below.refl _ _ | refine Below.drew ?_ | refine bdrew ?_ _ | refine Below.setCell ?_ (by first | (simp; done) | (simp; omega)) _ | refine Below.alloc ?_ (by first | (simp; done) | (simp; omega)) _)
theorem rParse_bad (v : Value) (l : List UInt8) (w : World) (h : l.length < 14 ∨ 1514 < l.length) (hl : l.length ≤ 9000000000) (hv : Sl w v l) :
    Calls Try.prog 45 #[v] w fun e w' => e = .returned (.tuple #[.agg #[.int .i64 0, .int .i64 0, .int .i64 0, .slice none 0 0], .int .i64 (if l.length < 14 then 7 else 2)]) ∧ Below w.heap.size w w' := by
  obtain ⟨ao, cap, rfl, -⟩ := hv
  by_cases h1 : l.length < 14
  · rw [if_pos h1]
    go_enter Try.func45, Try.ntmps45
    go_wp2
    refine bodyPost_ret (v := .tuple #[.agg #[.int .i64 0, .int .i64 0, .int .i64 0, .slice none 0 0], .int .i64 7]) ?_ rfl ⟨rfl, ?_⟩
    · simp [results, Try.results45, go_sem]
    · repeat (first | exact Below.refl _ _ | refine Below.drew ?_ | refine bdrew ?_ _ | refine Below.setCell ?_ (by first | (simp; done) | (simp; omega)) _ | refine Below.alloc ?_ (by first | (simp; done) | (simp; omega)) _)
  · rw [if_neg h1]
    have h2 : 1514 < l.length := by omega
    clear h
    go_enter Try.func45, Try.ntmps45
    go_wp2
    refine bodyPost_ret (v := .tuple #[.agg #[.int .i64 0, .int .i64 0, .int .i64 0, .slice none 0 0], .int .i64 2]) ?_ rfl ⟨rfl, ?_⟩
    · simp [results, Try.results45, go_sem]
    · repeat (first | exact Below.refl _ _ | refine Below.drew ?_ | refine bdrew ?_ _ | refine Below.setCell ?_ (by first | (simp; done) | (simp; omega)) _ | refine Below.alloc ?_ (by first | (simp; done) | (simp; omega)) _)
set_option maxRecDepth 100000 in
set_option maxHeartbeats 4000000 in
theorem eqFrame_true (d s t : Int) (v1 v2 : Value) (l : List UInt8) (w : World) (hl : l.length ≤ 1000000) (h1 : Sl w v1 l) (h2 : Sl w v2 l) :
    Calls Try.prog 42 #[.agg #[.int .i64 d, .int .i64 s, .int .i64 t, v1], .agg #[.int .i64 d, .int .i64 s, .int .i64 t, v2]] w fun e w' => e = .returned (.bool true) ∧ Below w.heap.size w w' := by
  obtain ⟨ao1, cap1, rfl, -⟩ := id h1
  obtain ⟨ao2, cap2, rfl, -⟩ := id h2
  have q1 : (d == d) = true := by simp
  have q2 : (s == s) = true := by simp
  have q3 : (t == t) = true := by simp
  have A := Lib.hid (eqBytes_any _ _ l l _ hl hl ((h1.alloc (.cells #[.int .i64 d, .int .i64 s, .int .i64 t, .slice ao1 l.length cap1] 67)).alloc (.cells #[.int .i64 d, .int .i64 s, .int .i64 t, .slice ao2 l.length cap2] 67)) ((h2.alloc (.cells #[.int .i64 d, .int .i64 s, .int .i64 t, .slice ao1 l.length cap1] 67)).alloc (.cells #[.int .i64 d, .int .i64 s, .int .i64 t, .slice ao2 l.length cap2] 67)))
  clear h1 h2
  go_enter Try.func42, Try.ntmps42
  go_wp2_with fail
  refine A.out.mono ?_
  rintro e w' ⟨rfl, m, rfl⟩
  go_wp2
  go_ret
  refine ⟨by simp, ?_⟩
  repeat (first | exact Below.refl _ _ | refine Below.drew ?_ | refine bdrew ?_ _ | refine Below.setCell ?_ (by first | (simp; done) | (simp; omega)) _ | refine Below.alloc ?_ (by first | (simp; done) | (simp; omega)) _)
set_option maxRecDepth 100000 in
set_option maxHeartbeats 4000000 in
theorem rFrame_any (d s t : Int) (ao : Option Addr) (len cap : Nat) (w : World) (hl : len ≤ 9223372036854775807) (b : Bool) (hb : b = decide ((0 ≤ d ∧ d < 281474976710656) ∧ (0 ≤ s ∧ s < 281474976710656) ∧ (0 ≤ t ∧ t < 65536) ∧ len ≤ 1500)) :
    Calls Try.prog 39 #[.agg #[.int .i64 d, .int .i64 s, .int .i64 t, .slice ao len cap]] w fun e w' => e = .returned (.bool b) ∧ Below w.heap.size w w' := by
  have hc : (b = true ∧ 0 ≤ d ∧ d < 281474976710656 ∧ 0 ≤ s ∧ s < 281474976710656 ∧ 0 ≤ t ∧ t < 65536 ∧ (len : Int) ≤ 1500) ∨ (b = false ∧ (d < 0 ∨ (0 ≤ d ∧ 281474976710656 ≤ d) ∨ (0 ≤ d ∧ d < 281474976710656 ∧ s < 0) ∨ (0 ≤ d ∧ d < 281474976710656 ∧ 0 ≤ s ∧ 281474976710656 ≤ s) ∨
      (0 ≤ d ∧ d < 281474976710656 ∧ 0 ≤ s ∧ s < 281474976710656 ∧ t < 0) ∨ (0 ≤ d ∧ d < 281474976710656 ∧ 0 ≤ s ∧ s < 281474976710656 ∧ 0 ≤ t ∧ 65536 ≤ t) ∨
      (0 ≤ d ∧ d < 281474976710656 ∧ 0 ≤ s ∧ s < 281474976710656 ∧ 0 ≤ t ∧ t < 65536 ∧ 1500 < (len : Int)))) := by
    rw [hb]; simp only [decide_eq_true_eq, decide_eq_false_iff_not]; omega
  clear hb
  rcases hc with ⟨rfl, h1, h2, h3, h4, h5, h6, h7⟩ | ⟨rfl, h1 | h1 | h1 | h1 | h1 | h1 | h1⟩
  all_goals
    try (obtain ⟨h1, h2⟩ := h1)
    try (obtain ⟨h2, h3⟩ := h2)
    try (obtain ⟨h3, h4⟩ := h3)
    try (obtain ⟨h4, h5⟩ := h4)
    try (obtain ⟨h5, h6⟩ := h5)
    try (obtain ⟨h6, h7⟩ := h6)
    go_enter Try.func39, Try.ntmps39
    go_wp2
    go_ret
    refine ⟨?_, (Below.refl _ w).alloc (Nat.le_refl _) _⟩
    first
      | rfl
      | (have q : decide ((len : Int) ≤ 1500) = false := by (simp only [decide_eq_false_iff_not]; omega)
         rw [q]; rfl)
end Go.Proofs.Ytibmjljofopldaa
