/-
  The law ReasmOnce: What was told is not told again, what is there already stays as it is, whatever comes for the same place later: whatever is handed in, the law answers true. No condition.
-/
/-
  Pieces of a stream: ReasmOnce: the walk.
-/
import Derived.Test.YtjgbiffgmafhmaaReK
import Derived.Test.YtjgbiffgmafhmaaGq
import Derived.Deep.RegionWith
import Derived.BigRegion
import Derived.Deep.Cut
namespace Go.Proofs.Ytjgbiffgmafhmaa
open Go.RowKit Go.Lib
set_option maxRecDepth 100000 in
theorem stream14_of (W : World) (cs : List Value) (h : Rd Try.prog W 51 cs) : ∃ c0 c2 n1 n3, cs = [c0, .int .i64 n1, c2, .int .i64 n3] := by
  obtain ⟨hlen, hf⟩ := h.struct Try.underlying51
  have h4 : cs.length = 4 := hlen.trans (by kernel_rfl)
  match cs, h4 with
  | [c0, c1, c2, c3], _ =>
    obtain ⟨n1, h1, -⟩ := (hf 1 _ rfl).i64 Try.underlying3
    obtain ⟨n3, h3, -⟩ := (hf 3 _ rfl).i64 Try.underlying3
    have cI : Try.prog.cellsOf 3 = 1 := by kernel_rfl
    have e1 : c1 = .int .i64 n1 := by simpa [cI] using h1
    have e3 : c3 = .int .i64 n3 := by simpa [cI] using h3
    subst e1 e3
    exact ⟨c0, c2, n1, n3, rfl⟩
theorem eo0 : okR 0 [(2, [67, 68])] = true ∧ okR 0 [(1, [98, 67, 68, 101])] = true := by decide +kernel
theorem eo1 : relP [] 2 [67, 68] = [(2, [67, 68])] ∧ relT [] 2 [67, 68] = [] := by decide +kernel
theorem eo2 : relP [(2, [67, 68])] 1 [98, 99, 100, 101] = [(1, [98, 67, 68, 101])] ∧ relT [(2, [67, 68])] 1 [98, 99, 100, 101] = [] := by decide +kernel
theorem eo3 : relP [(1, [98, 67, 68, 101])] 0 [65, 66] = [] ∧ relT [(1, [98, 67, 68, 101])] 0 [65, 66] = [65, 98, 67, 68, 101] := by decide +kernel
theorem eo4 : relP [] (-5) [122, 122, 122, 122, 122, 33] = [] ∧ relT [] (-5) [122, 122, 122, 122, 122, 33] = [33] := by decide +kernel
set_option maxRecDepth 100000 in
set_option maxHeartbeats 20000000 in
theorem reasmOnce_any (vB vA : Value) (fr sz : Int) (w : World) :
    Calls Try.prog 6 #[.agg #[vB, .int .i64 fr, vA, .int .i64 sz]] w fun e w' => e = .returned (.bool true) ∧ Below w.heap.size w w' := by
  obtain ⟨F, hF⟩ : ∃ F, F = fr % 4294967296 := ⟨_, rfl⟩
  have hFb : 0 ≤ F ∧ F < 4294967296 := by omega
  have HFB := Lib.hid hFb
  clear hFb
  have kc := fun (w : World) (C : Array Value) (n c : Nat) => Lib.run_convert_bytes_const (P := Try.prog) w 34 5 C n c Try.underlying34 Try.underlying5
  have kcd := fun (w : World) (C : Array Value) (n c : Nat) => (show (convert 34 34 (.slice (some ⟨w.heap.size, 0, none⟩) n c)).run Try.prog (w.alloc (.cells C 5)).drew = .ok (.slice (some ⟨w.heap.size, 0, none⟩) n c) (w.alloc (.cells C 5 (C.size, C.size + 1))).drew from Lib.run_convert_bytes_const (P := Try.prog) w.drew 34 5 C n c Try.underlying34 Try.underlying5)
  have R12 := Lib.hid (fun n W => radd12_any F n W)
  have N0 := Lib.hid (fun W => num14_any 0 W)
  go_enter Try.func6, Try.ntmps6
  go_wp2
  rw [← hF]
  clear hF
  refine wp_gen (fun W => Below w.heap.size w W ∧ RowAt W (w.heap.size + 1) [.int .i64 F, .slice none 0 0]) ⟨((Below.refl _ w).alloc (Nat.le_refl _) _).alloc (by simp) _, by have h := rowAt_alloc (w.alloc (.cells #[vB, .int .i64 fr, vA, .int .i64 sz] 51)) [.int .i64 F, .slice none 0 0] 24; simpa using h⟩ ?_
  rintro W0 ⟨hb0, hr0⟩
  obtain ⟨bb, hbb⟩ : ∃ bb, bb = w.heap.size + 1 := ⟨_, rfl⟩
  have hbw : w.heap.size ≤ bb := by omega
  rw [← hbb] at hr0 ⊢
  clear hbb
  have HB0 := Lib.hid hb0
  have HR0 := Lib.hid hr0
  have HS0 := Lib.hid (show KPart.Sl W0 (.slice none 0 0) (([] : List (Nat × List UInt8)).map (toP F)) from DK.Sl.nil _ _)
  clear hb0 hr0
  have A1 := fun (vd : Value) (W : World) (hv : KPart.Sl W (.slice none 0 0) ([].map (toP (F)))) (hd : Sl W vd [67, 68]) => radd_rel (next := F) (o := 2) (R := []) HFB.out (by decide) k1.1 (by decide) (by decide) eo1.1 eo1.2 (by decide) (.slice none 0 0) vd W hv hd
  simp only [show (([] : List UInt8).length : Int) = 0 from rfl, addv_zero HFB.out] at A1
  have A1 := Lib.hid A1
  have hlt1 := HR0.out.2.2
  have f0 : W0.cell? ⟨bb, 0, none⟩ = some (.int .i64 F) := HR0.out.cell rfl
  have f1 : W0.cell? ⟨bb, 1, none⟩ = some (.slice none 0 0) := HR0.out.cell rfl
  have g0 : ∀ o, (W0.alloc o).cell? ⟨bb, 0, none⟩ = some (.int .i64 F) := fun o => (((Below.refl _ W0).alloc (Nat.le_refl _) o).cell (p := ⟨bb, 0, none⟩) hlt1).trans f0
  have g1 : ∀ o, (W0.alloc o).cell? ⟨bb, 1, none⟩ = some (.slice none 0 0) := fun o => (((Below.refl _ W0).alloc (Nat.le_refl _) o).cell (p := ⟨bb, 1, none⟩) hlt1).trans f1
  have hB1 : Below W0.heap.size W0 (W0.alloc (.cells #[.int .u8 67, .int .u8 68] 5 (2, 3))).drew := ((Below.refl _ W0).alloc (Nat.le_refl _) _).drew
  have hD1 : Sl (W0.alloc (.cells #[.int .u8 67, .int .u8 68] 5 (2, 3))).drew (.slice (some ⟨W0.heap.size, 0, none⟩) 2 2) [67, 68] := Sl.litm W0 [67, 68] 5 (2, 3) (by decide)
  go_wp2_with fail
  go_cut [5, 6] from 9 (fun t5 e6 wx => e6 = .int .i64 0 ∧ ∃ a4 d4 n4 x4 y4, t5 = .slice x4 0 y4 ∧ Sl wx (.slice x4 0 y4) [] ∧ RowAt wx bb [.int .i64 (F), .slice a4 n4 d4] ∧ KPart.Sl wx (.slice a4 n4 d4) ([(2, [67, 68])].map (toP (F))) ∧ Below w.heap.size w wx)
  case first =>
    go_region_with (first | ((with_reducible refine (R12.out _ _).mono ?_); rintro e w' ⟨rfl, rfl⟩) | (refine (A1.out _ _ (HS0.out.below hB1) hD1).mono ?_; rintro e W4 ⟨v4, vt4, P4, rfl, hP4, hown4, hto4, -, hb4⟩; obtain ⟨a4, d4, rfl⟩ := hown4.slice; obtain ⟨x4, y4, rfl⟩ := own_slice hto4; have k4 := ((HR0.out.below hB1).below hb4); have k0 : W4.cell? ⟨bb, 0, none⟩ = some (.int .i64 F) := k4.cell rfl; have k1' : W4.cell? ⟨bb, 1, none⟩ = some (.slice none 0 0) := k4.cell rfl; have kf := k4.2.1))
    all_goals
      go_wp2_with fail
      go_meet
      have hbb4 : bb < (W0.alloc (.cells #[.int .u8 67, .int .u8 68] 5 (2, 3))).drew.heap.size := Nat.lt_of_lt_of_le hlt1 hB1.size
      have hq4 := (HB0.out.trans (hB1.mono HB0.out.size))
      have h5 := (down_set (j := 1) (u := .slice a4 P4.length d4) hbb4 (down_set (j := 0) (u := .int .i64 F) hbb4 hown4)).of
      rw [hP4] at h5
      exact ⟨rfl, a4, d4, P4.length, x4, y4, rfl, (Sl.of_own (own_set2 (j := 1) (u := .slice a4 P4.length d4) hbb4 (own_set2 (j := 0) (u := .int .i64 F) hbb4 hto4))).1, (k4.set1 0 (.int .i64 F) (by simp)).set1 1 (.slice a4 P4.length d4) (by simp), h5, ((hq4.trans (hb4.mono hq4.size)).setCell (p := ⟨bb, 0, none⟩) hbw _).setCell (p := ⟨bb, 1, none⟩) hbw _⟩
  case rest =>
  obtain ⟨rfl, a1, d1, n1, x1, y1, rfl, hsl1, hrow1, hpa1, hbl1⟩ := hcut
  obtain ⟨W1, hW1⟩ : ∃ W, W = wc := ⟨_, rfl⟩
  subst hW1
  obtain rfl : n1 = 1 := by obtain ⟨ao, c, hv, -⟩ := id hpa1; injection hv with _ h2 _
  have HT1 := Lib.hid hsl1
  have HR1 := Lib.hid hrow1
  have HS1 := Lib.hid hpa1
  have HB1 := Lib.hid hbl1
  clear hsl1 hrow1 hpa1 hbl1 f0 f1 g0 g1 hB1 hD1 hlt1 A1 HR0 HS0 HB0
  have A2 := fun (vd : Value) (W : World) (hv : KPart.Sl W (.slice a1 1 d1) ([(2, [67, 68])].map (toP (F)))) (hd : Sl W vd [98, 99, 100, 101]) => radd_rel (next := F) (o := 1) (R := [(2, [67, 68])]) HFB.out (by decide) eo0.1 (by decide) (by decide) eo2.1 eo2.2 (by decide) (.slice a1 1 d1) vd W hv hd
  simp only [show (([] : List UInt8).length : Int) = 0 from rfl, addv_zero HFB.out] at A2
  have A2 := Lib.hid A2
  have hlt2 := HR1.out.2.2
  have f0 : W1.cell? ⟨bb, 0, none⟩ = some (.int .i64 F) := HR1.out.cell rfl
  have f1 : W1.cell? ⟨bb, 1, none⟩ = some (.slice a1 1 d1) := HR1.out.cell rfl
  have g0 : ∀ o, (W1.alloc o).cell? ⟨bb, 0, none⟩ = some (.int .i64 F) := fun o => (((Below.refl _ W1).alloc (Nat.le_refl _) o).cell (p := ⟨bb, 0, none⟩) hlt2).trans f0
  have g1 : ∀ o, (W1.alloc o).cell? ⟨bb, 1, none⟩ = some (.slice a1 1 d1) := fun o => (((Below.refl _ W1).alloc (Nat.le_refl _) o).cell (p := ⟨bb, 1, none⟩) hlt2).trans f1
  have hB2 : Below W1.heap.size W1 (W1.alloc (.cells #[.int .u8 98, .int .u8 99, .int .u8 100, .int .u8 101] 5 (4, 5))).drew := ((Below.refl _ W1).alloc (Nat.le_refl _) _).drew
  have hD2 : Sl (W1.alloc (.cells #[.int .u8 98, .int .u8 99, .int .u8 100, .int .u8 101] 5 (4, 5))).drew (.slice (some ⟨W1.heap.size, 0, none⟩) 4 4) [98, 99, 100, 101] := Sl.litm W1 [98, 99, 100, 101] 5 (4, 5) (by decide)
  go_wp2_with fail
  go_cut [7, 8] from 9 (fun t5 e6 wx => e6 = .int .i64 0 ∧ ∃ a4 d4 n4 x4 y4, t5 = .slice x4 0 y4 ∧ Sl wx (.slice x4 0 y4) [] ∧ RowAt wx bb [.int .i64 (F), .slice a4 n4 d4] ∧ KPart.Sl wx (.slice a4 n4 d4) ([(1, [98, 67, 68, 101])].map (toP (F))) ∧ Below w.heap.size w wx)
  case first =>
    go_region_with (first | ((with_reducible refine (R12.out _ _).mono ?_); rintro e w' ⟨rfl, rfl⟩) | (refine (A2.out _ _ (HS1.out.below hB2) hD2).mono ?_; rintro e W4 ⟨v4, vt4, P4, rfl, hP4, hown4, hto4, -, hb4⟩; obtain ⟨a4, d4, rfl⟩ := hown4.slice; obtain ⟨x4, y4, rfl⟩ := own_slice hto4; have k4 := ((HR1.out.below hB2).below hb4); have k0 : W4.cell? ⟨bb, 0, none⟩ = some (.int .i64 F) := k4.cell rfl; have k1' : W4.cell? ⟨bb, 1, none⟩ = some (.slice a1 1 d1) := k4.cell rfl; have kf := k4.2.1))
    all_goals
      go_wp2_with fail
      go_meet
      have hbb4 : bb < (W1.alloc (.cells #[.int .u8 98, .int .u8 99, .int .u8 100, .int .u8 101] 5 (4, 5))).drew.heap.size := Nat.lt_of_lt_of_le hlt2 hB2.size
      have hq4 := (HB1.out.trans (hB2.mono HB1.out.size))
      have h5 := (down_set (j := 1) (u := .slice a4 P4.length d4) hbb4 (down_set (j := 0) (u := .int .i64 F) hbb4 hown4)).of
      rw [hP4] at h5
      exact ⟨rfl, a4, d4, P4.length, x4, y4, rfl, (Sl.of_own (own_set2 (j := 1) (u := .slice a4 P4.length d4) hbb4 (own_set2 (j := 0) (u := .int .i64 F) hbb4 hto4))).1, (k4.set1 0 (.int .i64 F) (by simp)).set1 1 (.slice a4 P4.length d4) (by simp), h5, ((hq4.trans (hb4.mono hq4.size)).setCell (p := ⟨bb, 0, none⟩) hbw _).setCell (p := ⟨bb, 1, none⟩) hbw _⟩
  case rest =>
  obtain ⟨rfl, a2, d2, n2, x2, y2, rfl, hsl2, hrow2, hpa2, hbl2⟩ := hcut
  obtain ⟨W2, hW2⟩ : ∃ W, W = wc := ⟨_, rfl⟩
  subst hW2
  obtain rfl : n2 = 1 := by obtain ⟨ao, c, hv, -⟩ := id hpa2; injection hv with _ h2 _
  have HT2 := Lib.hid hsl2
  have HR2 := Lib.hid hrow2
  have HS2 := Lib.hid hpa2
  have HB2 := Lib.hid hbl2
  have HT1b := Lib.hid HT1.out
  clear hsl2 hrow2 hpa2 hbl2 f0 f1 g0 g1 hB2 hD2 hlt2 A2 HR1 HS1 HB1
  obtain ⟨r0, r1⟩ : W2.cell? ⟨bb, 0, none⟩ = some (.int .i64 F) ∧ W2.cell? ⟨bb, 1, none⟩ = some (.slice a2 1 d2) := ⟨HR2.out.cell rfl, HR2.out.cell rfl⟩
  obtain ⟨_, _, hv, -, -, -, hB⟩ := id HS2.out
  injection hv with hv1 hv2 hv3
  obtain ⟨pb, po, hae, -, hel⟩ := hB (by simp)
  obtain ⟨vd, hvd, hce⟩ := hel 0 _ rfl
  have hvd : Sl W2 vd [98, 67, 68, 101] := hvd
  have d1' : W2.cell? ⟨pb, po + 1, none⟩ = some vd := by have h := hce 1 _ rfl; rw [show po + 0 * KPart.n + 1 = po + 1 by omega] at h; exact h
  rw [← hv1] at hae
  subst hae
  obtain ⟨va, vc, rfl, -⟩ := id hvd
  have hcv : (convert 34 9 (.slice va 4 vc)).run Try.prog W2 = .ok (.string ⟨#[98, 67, 68, 101]⟩) W2 := conv_of_sl hvd (by simp)
  have d1' : W2.cell? ⟨pb, po + 1, none⟩ = some (.slice va 4 vc) := d1'
  clear hB hel hce hvd hv1 hv2 hv3
  obtain ⟨N, hN⟩ : ∃ N, addv F 5 = N := ⟨_, rfl⟩
  have hNb : 0 ≤ N ∧ N < 4294967296 := by rw [← hN]; exact addv_bd _ _
  have hN5 : addv N (-5) = F := by rw [← hN, addv_addv]; exact addv_zero HFB.out
  have hN6 : addv N 1 = addv F 6 := by rw [← hN, addv_addv]; rfl
  have A3 := fun (vd : Value) (W : World) (hv : KPart.Sl W (.slice (some ⟨pb, po, none⟩) 1 d2) ([(1, [98, 67, 68, 101])].map (toP (F)))) (hd : Sl W vd [65, 66]) => radd_rel (next := F) (o := 0) (R := [(1, [98, 67, 68, 101])]) HFB.out (by decide) eo0.2 (by decide) (by decide) eo3.1 eo3.2 (by decide) (.slice (some ⟨pb, po, none⟩) 1 d2) vd W hv hd
  rw [addv_zero HFB.out] at A3
  simp only [show (([65, 98, 67, 68, 101] : List UInt8).length : Int) = 5 from rfl, hN] at A3
  have A3 := Lib.hid A3
  have A4 := fun (v vd : Value) (W : World) (hv : KPart.Sl W v (([] : List (Nat × List UInt8)).map (toP N))) (hd : Sl W vd [122, 122, 122, 122, 122, 33]) => radd_rel (next := N) (o := -5) (R := []) hNb (by decide) k1.1 (by decide) (by decide) eo4.1 eo4.2 (by decide) v vd W hv hd
  simp only [hN5, show (([33] : List UInt8).length : Int) = 1 from rfl, hN6] at A4
  have A4 := Lib.hid A4
  clear hN hNb hN5 hN6
  go_wp2_with (first | ((with_reducible refine (N0.out _).mono ?_); rintro e w' ⟨rfl, rfl⟩))
  have hB3 : Below W2.heap.size W2 (W2.alloc (.cells #[.int .u8 65, .int .u8 66] 5 (2, 3))) := (Below.refl _ W2).alloc (Nat.le_refl _) _
  have hD3 : Sl (W2.alloc (.cells #[.int .u8 65, .int .u8 66] 5 (2, 3))) (.slice (some ⟨W2.heap.size, 0, none⟩) 2 2) [65, 66] := Sl.litm W2 [65, 66] 5 (2, 3) (by decide)
  refine (A3.out _ _ (HS2.out.below hB3) hD3).mono ?_
  rintro e W4 ⟨v4, vt4, P4, rfl, hP4, hown4, hto4, -, hb4⟩
  obtain rfl : P4 = [] := by simpa using hP4
  obtain ⟨a4, d4, rfl⟩ := hown4.slice
  obtain ⟨x4, y4, rfl⟩ := own_slice hto4
  have hlt3 : bb < (W2.alloc (.cells #[.int .u8 65, .int .u8 66] 5 (2, 3))).heap.size := Nat.lt_of_lt_of_le HR2.out.2.2 hB3.size
  have k4 := ((HR2.out.below hB3).below hb4)
  have k0 : W4.cell? ⟨bb, 0, none⟩ = some (.int .i64 F) := k4.cell rfl
  have k1' : W4.cell? ⟨bb, 1, none⟩ = some (.slice (some ⟨pb, po, none⟩) 1 d2) := k4.cell rfl
  have kf := k4.2.1
  have HB5 := Lib.hid ((((HB2.out.trans (hB3.mono HB2.out.size)).trans (hb4.mono (HB2.out.trans (hB3.mono HB2.out.size)).size)).setCell (p := ⟨bb, 0, none⟩) hbw (.int .i64 N)).setCell (p := ⟨bb, 1, none⟩) hbw (.slice a4 0 d4))
  have HR5 := Lib.hid (show RowAt ((W4.setCell ⟨bb, 0, none⟩ (.int .i64 N)).setCell ⟨bb, 1, none⟩ (.slice a4 0 d4)) bb [.int .i64 N, .slice a4 0 d4] from (k4.set1 0 (.int .i64 N) (by simp)).set1 1 (.slice a4 0 d4) (by simp))
  have HT5 := Lib.hid (show World.ownsRow ((W4.setCell ⟨bb, 0, none⟩ (.int .i64 N)).setCell ⟨bb, 1, none⟩ (.slice a4 0 d4)) (bb + 1) 5 1 (.slice x4 5 y4) 5 (([65, 98, 67, 68, 101] : List UInt8).map B8) from own_mono (own_set2 (j := 1) (u := .slice a4 0 d4) hlt3 (own_set2 (j := 0) (u := .int .i64 N) hlt3 hto4)) hlt3)
  have HS5 := Lib.hid (show KPart.Sl ((W4.setCell ⟨bb, 0, none⟩ (.int .i64 N)).setCell ⟨bb, 1, none⟩ (.slice a4 0 d4)) (.slice a4 0 d4) (([] : List (Nat × List UInt8)).map (toP N)) from (down_set (j := 1) (u := .slice a4 0 d4) hlt3 (down_set (j := 0) (u := .int .i64 N) hlt3 hown4)).of)
  clear hP4 hown4 hto4 hb4 hB3 hD3 A3 r0 r1 d1' hcv HB2 HR2 HS2 HT2 HT1 HT1b hlt3
  have kc5 : ∀ (C : Array Value) (n c : Nat), (convert 34 34 (.slice (some ⟨W4.heap.size, 0, none⟩) n c)).run Try.prog (((W4.setCell ⟨bb, 0, none⟩ (.int .i64 N)).setCell ⟨bb, 1, none⟩ (.slice a4 0 d4)).alloc (.cells C 5)) = .ok (.slice (some ⟨W4.heap.size, 0, none⟩) n c) (((W4.setCell ⟨bb, 0, none⟩ (.int .i64 N)).setCell ⟨bb, 1, none⟩ (.slice a4 0 d4)).alloc (.cells C 5 (C.size, C.size + 1))) := fun C n c => by
    have h := Lib.run_convert_bytes_const (P := Try.prog) ((W4.setCell ⟨bb, 0, none⟩ (.int .i64 N)).setCell ⟨bb, 1, none⟩ (.slice a4 0 d4)) 34 5 C n c Try.underlying34 Try.underlying5
    rw [World.size_setCell, World.size_setCell] at h
    exact h
  have hD5 : Sl (((W4.setCell ⟨bb, 0, none⟩ (.int .i64 N)).setCell ⟨bb, 1, none⟩ (.slice a4 0 d4)).alloc (.cells #[.int .u8 122, .int .u8 122, .int .u8 122, .int .u8 122, .int .u8 122, .int .u8 33] 5 (6, 7))) (.slice (some ⟨W4.heap.size, 0, none⟩) 6 6) [122, 122, 122, 122, 122, 33] := by
    have h := Sl.litm ((W4.setCell ⟨bb, 0, none⟩ (.int .i64 N)).setCell ⟨bb, 1, none⟩ (.slice a4 0 d4)) [122, 122, 122, 122, 122, 33] 5 (6, 7) (by decide)
    rw [World.size_setCell, World.size_setCell] at h
    exact h
  go_wp2_with fail
  refine calls_gen (fun W => Below w.heap.size w W ∧ RowAt W bb [.int .i64 N, .slice a4 0 d4] ∧ W.ownsRow (bb + 1) 5 1 (.slice x4 5 y4) 5 (([65, 98, 67, 68, 101] : List UInt8).map B8) ∧ KPart.Sl W (.slice a4 0 d4) (([] : List (Nat × List UInt8)).map (toP N)) ∧ Sl W (.slice (some ⟨W4.heap.size, 0, none⟩) 6 6) [122, 122, 122, 122, 122, 33]) ⟨HB5.out.alloc HB5.out.size _, HR5.out.below ((Below.refl _ _).alloc (Nat.le_refl _) _), HT5.out.alloc _, HS5.out.below ((Below.refl _ _).alloc (Nat.le_refl _) _), hD5⟩ ?_
  rintro W5 ⟨hb5, hr5, ht5, hs5, hd5⟩
  refine (A4.out _ _ W5 hs5 hd5).mono ?_
  rintro e W6 ⟨v6, vt6, P6, rfl, hP6, hown6, hto6, -, hb6⟩
  obtain rfl : P6 = [] := by simpa using hP6
  obtain ⟨a6, d6, rfl⟩ := hown6.slice
  obtain ⟨x6, y6, rfl⟩ := own_slice hto6
  have hlt5 := hr5.2.2
  have k6 := hr5.below hb6
  have m0 : W6.cell? ⟨bb, 0, none⟩ = some (.int .i64 N) := k6.cell rfl
  have m1 : W6.cell? ⟨bb, 1, none⟩ = some (.slice a4 0 d4) := k6.cell rfl
  have mf := k6.2.1
  have HF := Lib.hid (show Below w.heap.size w ((W6.setCell ⟨bb, 0, none⟩ (.int .i64 (addv F 6))).setCell ⟨bb, 1, none⟩ (.slice a6 0 d6)) ∧ RowAt ((W6.setCell ⟨bb, 0, none⟩ (.int .i64 (addv F 6))).setCell ⟨bb, 1, none⟩ (.slice a6 0 d6)) bb [.int .i64 (addv F 6), .slice a6 0 d6] ∧ Sl ((W6.setCell ⟨bb, 0, none⟩ (.int .i64 (addv F 6))).setCell ⟨bb, 1, none⟩ (.slice a6 0 d6)) (.slice x4 5 y4) [65, 98, 67, 68, 101] ∧ Sl ((W6.setCell ⟨bb, 0, none⟩ (.int .i64 (addv F 6))).setCell ⟨bb, 1, none⟩ (.slice a6 0 d6)) (.slice x6 1 y6) [33] from ⟨((hb5.trans (hb6.mono hb5.size)).setCell (p := ⟨bb, 0, none⟩) hbw (.int .i64 (addv F 6))).setCell (p := ⟨bb, 1, none⟩) hbw (.slice a6 0 d6), (k6.set1 0 (.int .i64 (addv F 6)) (by simp)).set1 1 (.slice a6 0 d6) (by simp), (Sl.of_own (own_set2 (j := 1) (u := .slice a6 0 d6) (Nat.lt_succ_self bb) (own_set2 (j := 0) (u := .int .i64 (addv F 6)) (Nat.lt_succ_self bb) (below_own ht5 hb6)))).1, (Sl.of_own (own_set2 (j := 1) (u := .slice a6 0 d6) hlt5 (own_set2 (j := 0) (u := .int .i64 (addv F 6)) hlt5 hto6))).1⟩)
  clear hP6 hown6 hto6 hb6 hb5 hr5 ht5 hs5 hd5 A4 kc5 hD5 HB5 HR5 HT5 HS5 k0 k1' kf k4
  go_wp2_with fail
  refine wp_gen (fun W => Below w.heap.size w W ∧ RowAt W bb [.int .i64 (addv F 6), .slice a6 0 d6] ∧ Sl W (.slice x4 5 y4) [65, 98, 67, 68, 101] ∧ Sl W (.slice x6 1 y6) [33]) HF.out ?_
  rintro W7 ⟨hb7, hr7, ht7, hu7⟩
  have hbb7 := hr7.2.2
  have f0 : W7.cell? ⟨bb, 0, none⟩ = some (.int .i64 (addv F 6)) := hr7.cell rfl
  have f1 : W7.cell? ⟨bb, 1, none⟩ = some (.slice a6 0 d6) := hr7.cell rfl
  have gf0 := Grown.cell f0 hbb7
  have gf1 := Grown.cell f1 hbb7
  have gc1 : ∀ g : Grown W7, (convert 34 9 (.slice x4 5 y4)).run Try.prog g.w = .ok (.string ⟨#[65, 98, 67, 68, 101]⟩) g.w := fun g => conv_of_sl (ht7.below g.low) (by simp)
  have gc2 : ∀ g : Grown W7, (convert 34 9 (.slice x6 1 y6)).run Try.prog g.w = .ok (.string ⟨#[33]⟩) g.w := fun g => conv_of_sl (hu7.below g.low) (by simp)
  have QN := Lib.hid (grown_call (W := W7) (v := .int .i64 0) (fun g => (num14_any 0 g.w).mono fun _ _ ⟨he, hw⟩ => ⟨he, hw ▸ Below.refl _ _⟩))
  have QA := Lib.hid (grown_call (W := W7) (v := .int .i64 (addv F 6)) (fun g => (radd12_any F 6 g.w).mono fun _ _ ⟨he, hw⟩ => ⟨he, hw ▸ Below.refl _ _⟩))
  have QW := Lib.hid (grown_call (W := W7) (v := .bool true) (fun g => wakes14_any g.w))
  have HB7 := Lib.hid hb7
  clear hb7 hr7 ht7 hu7 f0 f1 HF m0 m1 mf k6
  refine wp_region_grown (by kernel_rfl) (by kernel_rfl) ?_
  repeat (go_big_quiet_step (first | exact QN.out _ | exact QA.out _ | exact QW.out _))
  refine wpQuiet_nil ?_
  rintro _ ⟨g9, rfl⟩
  have HB9 := Lib.hid (HB7.out.trans (g9.low.mono HB7.out.size))
  go_wp2
  go_ret
  exact ⟨by first | rfl | simp, HB9.out⟩
theorem reasmOnce_walk (W : World) (cs : List Value) (h : Rd Try.prog W 51 cs) :
    Calls Try.prog 6 #[.agg cs.toArray] W fun e W' => e = .returned (.bool true) ∧ Below W.heap.size W W' := by
  obtain ⟨c0, c2, n1, n3, rfl⟩ := stream14_of W cs h
  exact reasmOnce_any c0 c2 n1 n3 W
namespace reasmOnce
open Go.ChangeShapes Go.WideShapes Go.ChangeAt
theorem own : ownKnob Try.prog.godebug = none := by kernel_rfl
theorem laidOut : laidOutB Try.prog = true := by kernel_rfl
set_option maxRecDepth 100000 in
theorem lifted (os : Os) (started : os.Started) (H : Type) (enc : TypeId × Value → H) :
    ReturnsInHanded {} Try.checked os 6 .any (Rows.reasmOnceSpec.pre6 enc Try.prog Try.f6 Rows.reasmOnceRow.domain false) (Rows.reasmOnceSpec.post enc Try.prog Try.f6 false true false false) := by
  refine returnsInHanded_of_change (C := Try.checked) own started (by kernel_rfl) Try.func6
    (ChangeSpec.witness6 (enc := enc) (C := Try.checked) false ⟨#[], #[.agg #[.slice none 0 0, .int .i64 0, .slice none 0 0, .int .i64 0]], []⟩ 12 (by kernel_rfl) (by kernel_rfl) (by kernel_rfl) (by kernel_rfl)) ?_
  intro W base args ds gs before hval0 hW _ _
  have hval : ∀ (j : Nat) t v, Try.f6.params[j]? = some t → args[j]? = some v → Value.okWide Try.prog W .any base t v := hval0
  have hW' := hW
  obtain ⟨p, q, hA0, hV, rfl, hfz, hnd⟩ := hW
  have hA : DataW.TrodAll enc Try.prog W 0 (fun _ => true) true Try.f6.params.toList args.toList ds p := hA0
  rw [Try.params6] at hA hval
  obtain ⟨v0, vs0, d0, ds0, p0, q0, hargs, rfl, rfl, h0, r0⟩ := trodAll_cons hA
  obtain ⟨rfl, rfl, rfl⟩ := trodAll_nil r0
  obtain rfl : args = #[v0] := by cases args; simp_all
  obtain ⟨rfl, rfl⟩ := trodVars_none hV
  obtain ⟨cs0, rfl⟩ : ∃ cs0 : Array Value, v0 = .agg cs0 := by
    have h := hval 0 51 v0 rfl rfl
    unfold Value.okWide at h
    rw [Try.underlying51] at h
    exact ⟨h.choose, h.choose_spec.1⟩
  have k0 := h0
  have lt0 : ∀ x ∈ p0, x.block < W.heap.size := by obtain ⟨m, hm⟩ := k0; exact DataW.trod_lt m _ _ _ hm
  have hrd : Rd Try.prog W 51 cs0.toList := by obtain ⟨fuel, hf⟩ := h0; exact ⟨H, enc, 0, _, true, fuel, _, hf⟩
  clear hA0 hval0
  refine (show Calls Try.prog 6 _ W (fun e W' => e = .returned (.bool true) ∧ Below W.heap.size W W') from by have := reasmOnce_walk W _ hrd; rwa [Array.toArray_toList] at this).mono fun e W' ⟨he, bel⟩ => ?_
  subst he
  exact ⟨_, rfl, _, _, _, [], _, [], hW', trodAll_mk1 (shut_bool Try.underlying4 _), (trodAll_cons_mk (Below.trod laidOut (by kernel_rfl) (of_decide_eq_true (by kernel_rfl)) k0 bel lt0) trodAll_mk0), rfl, bel.frame _, fun h => by cases h⟩
theorem over : Rows.reasmOnceRow.holds Try.pinned (OpenSpec.ofChange Rows.reasmOnceSpec) :=
  OpenClaim.holds_of_wide 6 Try.f6 rfl rfl rfl rfl rfl rfl rfl ⟨rfl, rfl, rfl, rfl, rfl⟩ rfl rfl rfl rfl rfl (by kernel_rfl) Try.func6 (by kernel_rfl)
    (of_decide_eq_true (by kernel_rfl)) (by unfold Func.isWrapper; first | (rw [if_pos (by decide +kernel)]; kernel_rfl) | (rw [if_neg (by decide +kernel)]; exact ⟨rfl, rfl⟩))
    (fun os started H enc _ => lifted os started H enc)
/-- THE STATEMENT. -/
theorem proved : Rows.ReasmOnceSaid := over
end reasmOnce
-- CLAIM: ReasmOnce reasmOnce.proved
end Go.Proofs.Ytjgbiffgmafhmaa
