/-
  The law MemExact: whatever is put, got, written and read, within a memory and beyond, each call answers what the page says. No condition.
-/
import Derived.Test.YtibmjljofopldaaMemL
import Derived.Deep.RegionHeld3
import Derived.Deep.RegionWith
namespace Go.Proofs.Ytibmjljofopldaa
open Go.RowKit
theorem acts1_full (W : World) (v : Value) (h : Rd Try.prog W 22 [v]) : ∃ L, Acts1 W v L ∧ ∀ (i : Nat) (q : Act1), L[i]? = some q → q.n ≤ 9223372036854775807 := by
  obtain ⟨v', L, hv, ao, cap, rfl, h1, h2, h3, h4⟩ := h.slOf (p := fun w b off q => Act1.At w b off q ∧ q.n ≤ 9223372036854775807) (size := 5) Try.underlying22 (by kernel_rfl) (by decide) (by
    intro b off cs' hb hc hr
    obtain ⟨hlen, hf⟩ := hr.struct Try.underlying39
    match cs', hc.1 with
    | [c0, c1, c2, c3, c4], _ =>
      obtain ⟨d, hd, -, -⟩ := (hf 0 _ rfl).i64 Try.underlying3
      obtain ⟨a, ha, -, -⟩ := (hf 1 _ rfl).i64 Try.underlying3
      obtain ⟨n, hn, -, hn1⟩ := (hf 2 _ rfl).i64 Try.underlying3
      obtain ⟨v, hv, hv0, hv1⟩ := (hf 3 _ rfl).u64 Try.underlying37
      obtain ⟨vx, x, hvx, hX⟩ := (hf 4 _ rfl).bytes Try.underlying34 (by kernel_rfl) Try.underlying5
      have e0 : c0 = .int .i64 d := by simpa [cI1] using hd
      have e1 : c1 = .int .i64 a := by simpa [cI1] using ha
      have e2 : c2 = .int .i64 n := by simpa [cI1] using hn
      have e3 : c3 = .int .u64 v := by simpa [cU1] using hv
      have e4 : c4 = vx := by simpa [cB1] using hvx
      subst e0 e1 e2 e3 e4
      refine ⟨⟨d, a, n, v, x⟩, ⟨hc.2 0 (by omega), hc.2 1 (by omega), hc.2 2 (by omega), hc.2 3 (by omega), ⟨_, hc.2 4 (by omega), hX⟩, hv0, hv1⟩, by show n ≤ _; omega⟩)
  obtain rfl : v = _ := by simpa using hv
  refine ⟨L, ⟨ao, cap, rfl, Nat.le_trans h1 h2, fun hne => ?_⟩, fun i q hi => ?_⟩
  · obtain ⟨b, off, e, hb, hq⟩ := h4 hne
    exact ⟨b, off, e, hb, fun i q hi => (hq i q hi).1⟩
  · obtain ⟨b, off, e, hb, hq⟩ := h4 (by intro h; subst h; simp at hi)
    exact (hq i q hi).2
theorem script1_full (W : World) (cs : List Value) (h : Rd Try.prog W 24 cs) : ∃ (n : Int) (v : Value) (L : List Act1), cs = [.int .i64 n, v] ∧ Acts1 W v L ∧ ∀ (i : Nat) (q : Act1), L[i]? = some q → q.n ≤ 9223372036854775807 := by
  obtain ⟨hlen, hf⟩ := h.struct Try.underlying24
  have hc2 : Try.prog.cellsOf 24 = 2 := by kernel_rfl
  rw [hc2] at hlen
  match cs, hlen with
  | [c0, c1], _ =>
    obtain ⟨n, hn, -, -⟩ := (hf 0 _ rfl).i64 Try.underlying3
    have h1 := hf 1 _ rfl
    have e0 : c0 = .int .i64 n := by simpa [cI1] using hn
    subst e0
    obtain ⟨L, hL, hI⟩ := acts1_full W c1 (by simpa [cS1] using h1)
    exact ⟨n, c1, L, rfl, hL, hI⟩
theorem MemAt.belowB {w w' : World} {base g b n B : Nat} {l : List UInt8} (h : MemAt w base g b n l) (hb : Below B w w') (h1 : g < B) (h2 : b < B) : MemAt w' base g b n l := by
  obtain ⟨h3, ⟨h4, h5⟩, h6, h7, h8, h9, h10⟩ := h
  refine ⟨(hb.cell (p := ⟨g, 0, none⟩) h1).trans h3, ⟨h4, ?_⟩, h6, h7, h8, Nat.lt_of_lt_of_le h9 hb.size, Nat.lt_of_lt_of_le h10 hb.size⟩
  rcases h5 with ⟨h5, -⟩ | ⟨g', cap, cur, hv, hbg, hh, r⟩
  · cases h5
  · cases hv
    exact .inr ⟨b, n, cur, rfl, hbg, (hb.block b h2).trans hh, r⟩
set_option maxRecDepth 100000 in
set_option maxHeartbeats 4000000 in
theorem memExact_any (pn : Int) (v : Value) (L : List Act1) (w : World) (hv : Acts1 w v L) (hi64 : ∀ (i : Nat) (q : Act1), L[i]? = some q → q.n ≤ 9223372036854775807) :
    Calls Try.prog 3 #[.agg #[.int .i64 pn, v]] w fun e w' => e = .returned (.bool true) ∧ Below w.heap.size w w' := by
  have HH := Lib.hid hv
  have HI := Lib.hid hi64; clear hi64
  obtain ⟨ao, cap, rfl, hlen, hB⟩ := hv
  have hlen' : L.length ≤ 9223372036854775807 := by simpa [maxLen] using hlen
  have HB := Lib.hid hB; clear hB hlen
  go_enter Try.func3, Try.ntmps3
  go_wp2_with fail
  have c0 : (w.alloc (.cells #[.int .i64 pn, .slice ao L.length cap] 24)).cell? ⟨w.heap.size, 1, none⟩ = some (.slice ao L.length cap) := by simp [go_sem]
  have c00 : (w.alloc (.cells #[.int .i64 pn, .slice ao L.length cap] 24)).cell? ⟨w.heap.size, 0, none⟩ = some (.int .i64 pn) := by simp [go_sem]
  have HW0 := Lib.hid (show (w.alloc (.cells #[.int .i64 pn, .slice ao L.length cap] 24)).heap.size = w.heap.size + 1 ∧ Below w.heap.size w (w.alloc (.cells #[.int .i64 pn, .slice ao L.length cap] 24)) from ⟨by simp, (Below.refl _ w).alloc (Nat.le_refl _) _⟩)
  generalize (w.alloc (.cells #[.int .i64 pn, .slice ao L.length cap] 24)) = W0 at c0 c00 HW0 ⊢
  have C0 := Lib.hid c0; have C00 := Lib.hid c00; clear c0 c00
  go_at_call 13
  have hA0 : Acts1 W0 (.slice ao L.length cap) L := by
    obtain ⟨ao', cap', hv', h1, h2⟩ := HH.out
    refine ⟨ao', cap', hv', h1, fun hne => ?_⟩
    obtain ⟨b, off, rfl, hb, hq⟩ := h2 hne
    have hb0 := HW0.out.2
    refine ⟨b, off, rfl, Nat.lt_of_lt_of_le hb hb0.size, fun i q hi => ?_⟩
    obtain ⟨q0, q1, q2, q3, ⟨vx, q4, qx⟩, q5⟩ := hq i q hi
    exact ⟨(hb0.cell (p := ⟨b, off + i * 5, none⟩) hb).trans q0, (hb0.cell (p := ⟨b, off + i * 5 + 1, none⟩) hb).trans q1, (hb0.cell (p := ⟨b, off + i * 5 + 2, none⟩) hb).trans q2, (hb0.cell (p := ⟨b, off + i * 5 + 3, none⟩) hb).trans q3, ⟨vx, (hb0.cell (p := ⟨b, off + i * 5 + 4, none⟩) hb).trans q4, qx.below hb0⟩, q5⟩
  refine (heavy1_full pn _ L W0 hA0).mono ?_
  rintro e w1 ⟨hh, rfl, hb1, hx1⟩
  have HL1 := Lib.hid hb1; have HXL := Lib.hid hx1
  clear hb1 hA0 hx1
  have hW1 := HW0.out.1
  have hs1 := HL1.out.size
  cases hh
  · have HXQ := Lib.hid (HXL.out rfl)
    clear HXL
    have d00 := (HL1.out.cell (p := ⟨w.heap.size, 0, none⟩) (by simp; omega)).trans C00.out
    by_cases hpn : 0 ≤ pn ∧ pn ≤ 65536
    · obtain ⟨n, rfl⟩ := Int.eq_ofNat_of_zero_le hpn.1
      have hn65 : n ≤ 65536 := by omega
      clear hpn
      go_wp2_with fail
      go_at_call 14
      refine (mnew n w1 hn65).mono ?_
      rintro e w2 ⟨g, b, rfl, hb2, hM2⟩
      have e00 := (hb2.cell (p := ⟨w.heap.size, 0, none⟩) (by simp; omega)).trans d00
      have HL2 := Lib.hid (HL1.out.trans (hb2.mono hs1))
      have HM2 := Lib.hid (hM2.mono hs1)
      have hs2 := hb2.size
      clear hb2 hM2 HL1 d00
      go_wp2_with fail
      go_at_call 15
      refine (numR_any n 65536 w2 true (by simp; omega)).mono ?_
      rintro e W' ⟨rfl, rfl⟩
      go_wp2_with fail
      refine (num1_any 0 _).mono ?_
      rintro e W' ⟨rfl, rfl⟩
      have hmk : ∀ w, (Instr.makeSlice 34 (.int .i64 (n : Int)) (.int .i64 (n : Int))).run Try.prog w = .ok (.slice (some ⟨w.heap.size, 0, none⟩) n n) (w.alloc (.cells (madeCells #[.int .u8 0] n) 5)) := fun w =>
        run_make_row' _ _ _ 1 Try.underlying34 infoU8 rfl _ _ n (by omega) (by omega) w
      go_wp2_with fail
      have HS := Lib.hid (show Below w2.heap.size w2 ((w2.alloc (.cells (madeCells #[.int .u8 0] n) 5)).alloc (.cells #[.slice (some ⟨w2.heap.size, 0, none⟩) n n] 36)) ∧ MemAt ((w2.alloc (.cells (madeCells #[.int .u8 0] n) 5)).alloc (.cells #[.slice (some ⟨w2.heap.size, 0, none⟩) n n] 36)) w2.heap.size (w2.heap.size + 1) w2.heap.size n (List.replicate n 0) from
        ⟨((Below.refl _ w2).alloc (Nat.le_refl _) _).alloc (by simp) _, by simp [go_sem], memNew_own n w2 hn65 _, by omega, Nat.le_refl _, by omega, by simp, by simp; omega⟩)
      have hgl := HM2.out.2.2.2.2.2.1
      have hbl2 := HM2.out.2.2.2.2.2.2
      obtain ⟨b2, hb2⟩ : ∃ b2, w2.heap.size = b2 := ⟨_, rfl⟩
      rw [hb2] at HS ⊢
      obtain ⟨g2, hg2⟩ : ∃ g2, b2 + 1 = g2 := ⟨_, rfl⟩
      rw [hg2] at HS ⊢
      have hbb2 : b ≠ b2 := by omega
      have hgb2 : g2 ≠ b := by omega
      have hgb2' : g ≠ b2 := by omega
      generalize ((w2.alloc (.cells (madeCells #[.int .u8 0] n) 5)).alloc (.cells #[.slice (some ⟨b2, 0, none⟩) n n] 36)) = W3 at HS ⊢
      have hB3 : Below w2.heap.size w2 W3 := by rw [hb2]; exact HS.out.1
      have HL3 := Lib.hid (HL2.out.trans (hB3.mono HL2.out.size))
      have HM3 := Lib.hid (HM2.out.below hB3)
      have HR3 := Lib.hid (HS.out.2.mono (by omega : W0.heap.size ≤ b2))
      have f00 := (hB3.cell (p := ⟨w.heap.size, 0, none⟩) (by simp; omega)).trans e00
      have hs3 := hB3.size
      clear HS hB3 e00 HM2 hmk
      go_loopw [7] (fun i wr => ∃ (k : Nat) (l : List UInt8), k ≤ L.length ∧ i = .int .i64 k ∧ Below W0.heap.size W0 wr ∧ MemAt wr W0.heap.size g b n l ∧ MemAt wr W0.heap.size g2 b2 n l) (fun i _ => L.length - (intOf i).toNat)
      case atStart => exact ⟨0, _, by omega, rfl, HL3.out, HM3.out, HR3.out⟩
      case round =>
        obtain ⟨k, l, hk, rfl, hbl, hM, hR⟩ := hrel
        clear HM3 HR3 HL3 HL2 f00
        have cc1 := (hbl.cell (p := ⟨w.heap.size, 1, none⟩) (by simp; omega)).trans C0.out
        have f00 := (hbl.cell (p := ⟨w.heap.size, 0, none⟩) (by simp; omega)).trans C00.out
        have hszr := hbl.size
        by_cases hfin : k < L.length ∧ k < 30
        · obtain ⟨hlt, h30⟩ := hfin
          obtain ⟨b0, off, rfl, hbw, hBB⟩ := HB.out (by intro h; simp [h] at hlt)
          obtain ⟨⟨d, a, nn, V, x⟩, hq⟩ : ∃ q, L[k]? = some q := ⟨_, List.getElem?_eq_getElem hlt⟩
          obtain ⟨q0, q1, q2, q3, ⟨vx, q4, hX⟩, -, -⟩ := hBB k _ hq
          have hx500 : x.length ≤ 500 := HXQ.out k _ hq
          have hnnm : nn ≤ 9223372036854775807 := HI.out k _ hq
          clear hBB hq
          dsimp only at q0 q1 q2 q3 q4 hX
          obtain ⟨ax, cx, rfl, -⟩ := id hX
          have HX := Lib.hid hX
          clear hX
          have hbw0 : Below w.heap.size w wr := HW0.out.2.trans (hbl.mono (by omega))
          have d0 := (hbw0.cell (p := ⟨b0, off + k * 5, none⟩) hbw).trans q0
          have d1 := (hbw0.cell (p := ⟨b0, off + k * 5 + 1, none⟩) hbw).trans q1
          have d2 := (hbw0.cell (p := ⟨b0, off + k * 5 + 2, none⟩) hbw).trans q2
          have d3 := (hbw0.cell (p := ⟨b0, off + k * 5 + 3, none⟩) hbw).trans q3
          have d4 := (hbw0.cell (p := ⟨b0, off + k * 5 + 4, none⟩) hbw).trans q4
          clear q0 q1 q2 q3 q4
          have hTb : (wr.heap.size : Nat) ≠ b := by have := hM.2.2.2.2.2.2; omega
          have hTb2 : (wr.heap.size : Nat) ≠ b2 := by have := hR.2.2.2.2.2.2; omega
          have HM := Lib.hid hM; have HR := Lib.hid hR; have HL := Lib.hid hbl; have HWw0 := Lib.hid hbw0
          clear hM hR hbl hbw0
          go_wp2_with fail
          go_at_call 18
          refine calls_gen (fun W => Below wr.heap.size wr W ∧ wr.heap.size < W.heap.size ∧ W.cell? ⟨wr.heap.size, 1, none⟩ = some (.int .i64 a) ∧ W.cell? ⟨wr.heap.size, 2, none⟩ = some (.int .i64 nn) ∧ W.cell? ⟨wr.heap.size, 3, none⟩ = some (.int .u64 V) ∧ W.cell? ⟨wr.heap.size, 4, none⟩ = some (.slice ax x.length cx)) ⟨(Below.refl _ wr).alloc (Nat.le_refl _) _, by simp, by simp [go_sem], by simp [go_sem], by simp [go_sem], by simp [go_sem]⟩ ?_
          rintro W1 ⟨hbW, hsW, e1, e2, e3, c4'⟩
          have HM1 := Lib.hid (HM.out.below hbW); have HR1 := Lib.hid (HR.out.below hbW); have HL1 := Lib.hid (HL.out.trans (hbW.mono hszr))
          have hww : w.heap.size ≤ W0.heap.size := by omega
          have HLw := Lib.hid (HWw0.out.trans (hbW.mono (by omega : w.heap.size ≤ wr.heap.size)))
          have HWw := Lib.hid HW0.out.2
          have c3' := f00
          clear hbW d0 d1 d2 d3 d4 HM HR HL cc1 f00
          refine (within_any d 10 W1 (by omega) (by omega)).mono ?_
          rintro e W' ⟨rfl, rfl⟩
          have hwb := within_bd d 10 (by omega)
          obtain ⟨s, hs⟩ : ∃ s : Nat, within d 10 = s := Int.eq_ofNat_of_zero_le hwb.1
          rw [hs] at hwb ⊢
          have hsc : s = 0 ∨ s = 1 ∨ s = 2 ∨ s = 3 ∨ s = 4 ∨ s = 5 ∨ s = 6 ∨ s = 7 ∨ s = 8 ∨ s = 9 := by omega
          clear hwb hs
          rcases hsc with rfl | rfl | rfl | rfl | rfl | rfl | rfl | rfl | rfl | rfl
          · generalize hE0 : numE n a nn = E0
            generalize hG0 : getF l n a nn = G0
            have neq : (E0 != E0) = false := by simp
            have neq2 : (G0 != G0) = false := by simp
            have P1 := Lib.hid (getC_m W1 W0.heap.size g b n l HM1.out hn65 a nn)
            have P2 := Lib.hid (fun m => getC_r (W1.drewN m) W0.heap.size g2 b2 n l HR1.out hn65 a nn)
            rw [hE0, hG0] at P1
            simp only [hE0, hG0] at P2
            clear hE0 hG0 c3' c4' e3
            go_wp2_with fail
            go_at_call 28
            refine P1.out.mono ?_
            rintro e w5 ⟨rfl, m5, rfl⟩
            go_wp2_with fail
            go_at_call 29
            refine (P2.out m5).mono ?_
            rintro e w6 ⟨rfl, m6, rfl⟩
            go_wp2_with fail
            go_at_call 16
            refine (num1_any _ _).mono ?_
            rintro e W' ⟨rfl, rfl⟩
            have HM6 := Lib.hid (show MemAt (W1.drewN (m5 + m6)) W0.heap.size g b n l from HM1.out)
            have HR6 := Lib.hid (show MemAt (W1.drewN (m5 + m6)) W0.heap.size g2 b2 n l from HR1.out)
            have HL6 := Lib.hid (bdrew HL1.out (m5 + m6))
            clear P1 P2 e1 e2
            go_wp2
            go_roundw
            case rel => exact ⟨k + 1, l, by omega, by go_num, HL6.out, HM6.out, HR6.out⟩
            case measure => simp [intOf]; omega
          · generalize hE0 : numE n a nn = E0
            generalize hG0 : getF l n a nn = G0
            have neq : (E0 != E0) = false := by simp
            have neq2 : (G0 != G0) = false := by simp
            have P1 := Lib.hid (getC_m W1 W0.heap.size g b n l HM1.out hn65 a nn)
            have P2 := Lib.hid (fun m => getC_r (W1.drewN m) W0.heap.size g2 b2 n l HR1.out hn65 a nn)
            rw [hE0, hG0] at P1
            simp only [hE0, hG0] at P2
            clear hE0 hG0 c3' c4' e3
            go_wp2_with fail
            go_at_call 28
            refine P1.out.mono ?_
            rintro e w5 ⟨rfl, m5, rfl⟩
            go_wp2_with fail
            go_at_call 29
            refine (P2.out m5).mono ?_
            rintro e w6 ⟨rfl, m6, rfl⟩
            go_wp2_with fail
            go_at_call 16
            refine (num1_any _ _).mono ?_
            rintro e W' ⟨rfl, rfl⟩
            have HM6 := Lib.hid (show MemAt (W1.drewN (m5 + m6)) W0.heap.size g b n l from HM1.out)
            have HR6 := Lib.hid (show MemAt (W1.drewN (m5 + m6)) W0.heap.size g2 b2 n l from HR1.out)
            have HL6 := Lib.hid (bdrew HL1.out (m5 + m6))
            clear P1 P2 e1 e2
            go_wp2
            go_roundw
            case rel => exact ⟨k + 1, l, by omega, by go_num, HL6.out, HM6.out, HR6.out⟩
            case measure => simp [intOf]; omega
          · generalize hE0 : numE n a nn = E0
            generalize hG0 : getF l n a nn = G0
            have neq : (E0 != E0) = false := by simp
            have neq2 : (G0 != G0) = false := by simp
            have P1 := Lib.hid (getC_m W1 W0.heap.size g b n l HM1.out hn65 a nn)
            have P2 := Lib.hid (fun m => getC_r (W1.drewN m) W0.heap.size g2 b2 n l HR1.out hn65 a nn)
            rw [hE0, hG0] at P1
            simp only [hE0, hG0] at P2
            clear hE0 hG0 c3' c4' e3
            go_wp2_with fail
            go_at_call 28
            refine P1.out.mono ?_
            rintro e w5 ⟨rfl, m5, rfl⟩
            go_wp2_with fail
            go_at_call 29
            refine (P2.out m5).mono ?_
            rintro e w6 ⟨rfl, m6, rfl⟩
            go_wp2_with fail
            go_at_call 16
            refine (num1_any _ _).mono ?_
            rintro e W' ⟨rfl, rfl⟩
            have HM6 := Lib.hid (show MemAt (W1.drewN (m5 + m6)) W0.heap.size g b n l from HM1.out)
            have HR6 := Lib.hid (show MemAt (W1.drewN (m5 + m6)) W0.heap.size g2 b2 n l from HR1.out)
            have HL6 := Lib.hid (bdrew HL1.out (m5 + m6))
            clear P1 P2 e1 e2
            go_wp2
            go_roundw
            case rel => exact ⟨k + 1, l, by omega, by go_num, HL6.out, HM6.out, HR6.out⟩
            case measure => simp [intOf]; omega
          · have hne := Lib.hid (show ∀ E : Int, (E != E) = false from fun E => by simp)
            generalize hE0 : numE n a nn = E0
            have P1 := Lib.hid (putC_m W1.drew W0.heap.size g b n l HM1.out hn65 a nn V)
            rw [hE0] at P1
            have neq := hne.out E0
            have HE0 := Lib.hid hE0
            have HRd := Lib.hid (show MemAt W1.drew W0.heap.size g2 b2 n l from HR1.out)
            clear hE0 c3' c4'
            go_wp2_with fail
            go_region_held3 (fun W' => W'.cell? ⟨wr.heap.size, 1, none⟩ = some (.int .i64 a) ∧ W'.cell? ⟨wr.heap.size, 2, none⟩ = some (.int .i64 nn) ∧ W'.cell? ⟨wr.heap.size, 3, none⟩ = some (.int .u64 V)) (first | (exact ⟨by assumption, by assumption, by assumption⟩) | (simp [go_sem, *]; done)) (first | (go_at_call 19; (with_reducible refine P1.out.mono ?_); rintro e w5 ⟨rfl, hg5, hM5⟩; have y1 := (cell_grown (p := ⟨wr.heap.size, 1, none⟩) hg5 hsW hTb).trans e1; have y2 := (cell_grown (p := ⟨wr.heap.size, 2, none⟩) hg5 hsW hTb).trans e2; have y3 := (cell_grown (p := ⟨wr.heap.size, 3, none⟩) hg5 hsW hTb).trans e3; have hR5 := HRd.out.other hg5 hbb2.symm hgb2) | (go_at_call 16; refine (num1_any _ _).mono ?_; rintro e w' ⟨rfl, rfl⟩) | (go_at_call 20; refine (putC_r w5 W0.heap.size g2 b2 n l hR5 hn65 a nn V).mono ?_; rintro e w6 ⟨rfl, hg6, hR6⟩; rw [HE0.out]; have z1 := (cell_grown (p := ⟨wr.heap.size, 1, none⟩) hg6 (Nat.lt_of_lt_of_le hsW hg5.size) hTb2).trans y1; have z2 := (cell_grown (p := ⟨wr.heap.size, 2, none⟩) hg6 (Nat.lt_of_lt_of_le hsW hg5.size) hTb2).trans y2; have z3 := (cell_grown (p := ⟨wr.heap.size, 3, none⟩) hg6 (Nat.lt_of_lt_of_le hsW hg5.size) hTb2).trans y3))
            have HM6 := Lib.hid (hM5.other hg6 hbb2 hgb2')
            have HR6 := Lib.hid hR6
            have HL6 := Lib.hid (((bdrew HL1.out 1).trans (grown_below hg5 HM1.out.2.2.2.1 HL1.out.size)).trans (grown_below hg6 HR1.out.2.2.2.1 (Nat.le_trans HL1.out.size hg5.size)))
            clear hM5 hg5 hg6 hR6 hR5 e1 e2 e3 y1 y2 y3 z1 z2 z3 HM1 HR1 HL1
            go_wp2
            go_roundw
            case rel => exact ⟨k + 1, putF l n a nn V, by omega, by go_num, HL6.out, HM6.out, HR6.out⟩
            case measure => simp [intOf]; omega
          · have hne := Lib.hid (show ∀ E : Int, (E != E) = false from fun E => by simp)
            generalize hE0 : numE n a nn = E0
            have P1 := Lib.hid (putC_m W1.drew W0.heap.size g b n l HM1.out hn65 a nn V)
            rw [hE0] at P1
            have neq := hne.out E0
            have HE0 := Lib.hid hE0
            have HRd := Lib.hid (show MemAt W1.drew W0.heap.size g2 b2 n l from HR1.out)
            clear hE0 c3' c4'
            go_wp2_with fail
            go_region_held3 (fun W' => W'.cell? ⟨wr.heap.size, 1, none⟩ = some (.int .i64 a) ∧ W'.cell? ⟨wr.heap.size, 2, none⟩ = some (.int .i64 nn) ∧ W'.cell? ⟨wr.heap.size, 3, none⟩ = some (.int .u64 V)) (first | (exact ⟨by assumption, by assumption, by assumption⟩) | (simp [go_sem, *]; done)) (first | (go_at_call 19; (with_reducible refine P1.out.mono ?_); rintro e w5 ⟨rfl, hg5, hM5⟩; have y1 := (cell_grown (p := ⟨wr.heap.size, 1, none⟩) hg5 hsW hTb).trans e1; have y2 := (cell_grown (p := ⟨wr.heap.size, 2, none⟩) hg5 hsW hTb).trans e2; have y3 := (cell_grown (p := ⟨wr.heap.size, 3, none⟩) hg5 hsW hTb).trans e3; have hR5 := HRd.out.other hg5 hbb2.symm hgb2) | (go_at_call 16; refine (num1_any _ _).mono ?_; rintro e w' ⟨rfl, rfl⟩) | (go_at_call 20; refine (putC_r w5 W0.heap.size g2 b2 n l hR5 hn65 a nn V).mono ?_; rintro e w6 ⟨rfl, hg6, hR6⟩; rw [HE0.out]; have z1 := (cell_grown (p := ⟨wr.heap.size, 1, none⟩) hg6 (Nat.lt_of_lt_of_le hsW hg5.size) hTb2).trans y1; have z2 := (cell_grown (p := ⟨wr.heap.size, 2, none⟩) hg6 (Nat.lt_of_lt_of_le hsW hg5.size) hTb2).trans y2; have z3 := (cell_grown (p := ⟨wr.heap.size, 3, none⟩) hg6 (Nat.lt_of_lt_of_le hsW hg5.size) hTb2).trans y3))
            have HM6 := Lib.hid (hM5.other hg6 hbb2 hgb2')
            have HR6 := Lib.hid hR6
            have HL6 := Lib.hid (((bdrew HL1.out 1).trans (grown_below hg5 HM1.out.2.2.2.1 HL1.out.size)).trans (grown_below hg6 HR1.out.2.2.2.1 (Nat.le_trans HL1.out.size hg5.size)))
            clear hM5 hg5 hg6 hR6 hR5 e1 e2 e3 y1 y2 y3 z1 z2 z3 HM1 HR1 HL1
            go_wp2
            go_roundw
            case rel => exact ⟨k + 1, putF l n a nn V, by omega, by go_num, HL6.out, HM6.out, HR6.out⟩
            case measure => simp [intOf]; omega
          · have hne := Lib.hid (show ∀ E : Int, (E != E) = false from fun E => by simp)
            generalize hE0 : numE n a nn = E0
            have P1 := Lib.hid (putC_m W1.drew W0.heap.size g b n l HM1.out hn65 a nn V)
            rw [hE0] at P1
            have neq := hne.out E0
            have HE0 := Lib.hid hE0
            have HRd := Lib.hid (show MemAt W1.drew W0.heap.size g2 b2 n l from HR1.out)
            clear hE0 c3' c4'
            go_wp2_with fail
            go_region_held3 (fun W' => W'.cell? ⟨wr.heap.size, 1, none⟩ = some (.int .i64 a) ∧ W'.cell? ⟨wr.heap.size, 2, none⟩ = some (.int .i64 nn) ∧ W'.cell? ⟨wr.heap.size, 3, none⟩ = some (.int .u64 V)) (first | (exact ⟨by assumption, by assumption, by assumption⟩) | (simp [go_sem, *]; done)) (first | (go_at_call 19; (with_reducible refine P1.out.mono ?_); rintro e w5 ⟨rfl, hg5, hM5⟩; have y1 := (cell_grown (p := ⟨wr.heap.size, 1, none⟩) hg5 hsW hTb).trans e1; have y2 := (cell_grown (p := ⟨wr.heap.size, 2, none⟩) hg5 hsW hTb).trans e2; have y3 := (cell_grown (p := ⟨wr.heap.size, 3, none⟩) hg5 hsW hTb).trans e3; have hR5 := HRd.out.other hg5 hbb2.symm hgb2) | (go_at_call 16; refine (num1_any _ _).mono ?_; rintro e w' ⟨rfl, rfl⟩) | (go_at_call 20; refine (putC_r w5 W0.heap.size g2 b2 n l hR5 hn65 a nn V).mono ?_; rintro e w6 ⟨rfl, hg6, hR6⟩; rw [HE0.out]; have z1 := (cell_grown (p := ⟨wr.heap.size, 1, none⟩) hg6 (Nat.lt_of_lt_of_le hsW hg5.size) hTb2).trans y1; have z2 := (cell_grown (p := ⟨wr.heap.size, 2, none⟩) hg6 (Nat.lt_of_lt_of_le hsW hg5.size) hTb2).trans y2; have z3 := (cell_grown (p := ⟨wr.heap.size, 3, none⟩) hg6 (Nat.lt_of_lt_of_le hsW hg5.size) hTb2).trans y3))
            have HM6 := Lib.hid (hM5.other hg6 hbb2 hgb2')
            have HR6 := Lib.hid hR6
            have HL6 := Lib.hid (((bdrew HL1.out 1).trans (grown_below hg5 HM1.out.2.2.2.1 HL1.out.size)).trans (grown_below hg6 HR1.out.2.2.2.1 (Nat.le_trans HL1.out.size hg5.size)))
            clear hM5 hg5 hg6 hR6 hR5 e1 e2 e3 y1 y2 y3 z1 z2 z3 HM1 HR1 HL1
            go_wp2
            go_roundw
            case rel => exact ⟨k + 1, putF l n a nn V, by omega, by go_num, HL6.out, HM6.out, HR6.out⟩
            case measure => simp [intOf]; omega
          · have hrl := rdF_len l n a nn HM1.out.len
            generalize hE0 : rdE n a nn = E0
            generalize hG0 : rdF l n a nn = G0 at hrl
            have neq : (E0 != E0) = false := by simp
            have P1 := Lib.hid (readC_m W1 W0.heap.size g b n l HM1.out hn65 a nn hnnm)
            have P2 := Lib.hid (fun W (h : MemAt W W0.heap.size g2 b2 n l) => readC_r W W0.heap.size g2 b2 n l h hn65 a nn hnnm)
            rw [hE0, hG0] at P1
            simp only [hE0, hG0] at P2
            clear hE0 hG0 c3' c4' e3
            go_wp2_with fail
            go_at_call 21
            refine P1.out.mono ?_
            rintro e w5 ⟨v5, rfl, hb5, ho5⟩
            obtain ⟨ao5, cp5, rfl⟩ := own_slice ho5
            have y1 := (hb5.cell (p := ⟨wr.heap.size, 1, none⟩) hsW).trans e1
            have y2 := (hb5.cell (p := ⟨wr.heap.size, 2, none⟩) hsW).trans e2
            have HO5 := Lib.hid ho5; have HB5 := Lib.hid hb5
            clear ho5 hb5 e1 e2
            go_wp2_with fail
            go_at_call 22
            refine (P2.out w5 (HR1.out.below HB5.out)).mono ?_
            rintro e w6 ⟨v6, rfl, hb6, ho6⟩
            obtain ⟨ao6, cp6, rfl⟩ := own_slice ho6
            have HB6 := Lib.hid (HB5.out.trans (hb6.mono HB5.out.size))
            have HO56 := Lib.hid (below_own HO5.out hb6)
            have HO6 := Lib.hid ho6
            clear ho6 hb6 y1 y2 P1 P2 HO5
            go_wp2_with fail
            go_at_call 16
            refine (num1_any _ _).mono ?_
            rintro e W' ⟨rfl, rfl⟩
            go_wp2_with fail
            go_at_call 23
            refine (eqBytes_same _ _ G0 _ (by omega) (Sl.of_own HO56.out).1 (Sl.of_own HO6.out).1).mono ?_
            rintro e W' ⟨rfl, m7, rfl⟩
            go_wp2_with fail
            go_at_call 24
            refine calls_gen (fun W => Below W1.heap.size W1 W ∧ W.ownsRow W1.heap.size 5 1 (.slice ao5 G0.length cp5) G0.length (G0.map B8)) ⟨bdrew HB6.out m7, HO56.out⟩ ?_
            rintro W7 ⟨hb7, ho7⟩
            refine (scribble_any W1.heap.size _ _ G0 W7 ho7 (by omega) hb7.size).mono ?_
            rintro e w8 ⟨rfl, hb8⟩
            have HB8 := Lib.hid (hb7.trans hb8)
            have HM8 := Lib.hid (HM1.out.below HB8.out)
            have HR8 := Lib.hid (HR1.out.below HB8.out)
            have HL8 := Lib.hid (HL1.out.trans (HB8.out.mono HL1.out.size))
            clear hb7 hb8 ho7
            go_wp2
            go_roundw
            case rel => exact ⟨k + 1, l, by omega, by go_num, HL8.out, HM8.out, HR8.out⟩
            case measure => simp [intOf]; omega
          · have hrl := rdF_len l n a nn HM1.out.len
            generalize hE0 : rdE n a nn = E0
            generalize hG0 : rdF l n a nn = G0 at hrl
            have neq : (E0 != E0) = false := by simp
            have P1 := Lib.hid (readC_m W1 W0.heap.size g b n l HM1.out hn65 a nn hnnm)
            have P2 := Lib.hid (fun W (h : MemAt W W0.heap.size g2 b2 n l) => readC_r W W0.heap.size g2 b2 n l h hn65 a nn hnnm)
            rw [hE0, hG0] at P1
            simp only [hE0, hG0] at P2
            clear hE0 hG0 c3' c4' e3
            go_wp2_with fail
            go_at_call 21
            refine P1.out.mono ?_
            rintro e w5 ⟨v5, rfl, hb5, ho5⟩
            obtain ⟨ao5, cp5, rfl⟩ := own_slice ho5
            have y1 := (hb5.cell (p := ⟨wr.heap.size, 1, none⟩) hsW).trans e1
            have y2 := (hb5.cell (p := ⟨wr.heap.size, 2, none⟩) hsW).trans e2
            have HO5 := Lib.hid ho5; have HB5 := Lib.hid hb5
            clear ho5 hb5 e1 e2
            go_wp2_with fail
            go_at_call 22
            refine (P2.out w5 (HR1.out.below HB5.out)).mono ?_
            rintro e w6 ⟨v6, rfl, hb6, ho6⟩
            obtain ⟨ao6, cp6, rfl⟩ := own_slice ho6
            have HB6 := Lib.hid (HB5.out.trans (hb6.mono HB5.out.size))
            have HO56 := Lib.hid (below_own HO5.out hb6)
            have HO6 := Lib.hid ho6
            clear ho6 hb6 y1 y2 P1 P2 HO5
            go_wp2_with fail
            go_at_call 16
            refine (num1_any _ _).mono ?_
            rintro e W' ⟨rfl, rfl⟩
            go_wp2_with fail
            go_at_call 23
            refine (eqBytes_same _ _ G0 _ (by omega) (Sl.of_own HO56.out).1 (Sl.of_own HO6.out).1).mono ?_
            rintro e W' ⟨rfl, m7, rfl⟩
            go_wp2_with fail
            go_at_call 24
            refine calls_gen (fun W => Below W1.heap.size W1 W ∧ W.ownsRow W1.heap.size 5 1 (.slice ao5 G0.length cp5) G0.length (G0.map B8)) ⟨bdrew HB6.out m7, HO56.out⟩ ?_
            rintro W7 ⟨hb7, ho7⟩
            refine (scribble_any W1.heap.size _ _ G0 W7 ho7 (by omega) hb7.size).mono ?_
            rintro e w8 ⟨rfl, hb8⟩
            have HB8 := Lib.hid (hb7.trans hb8)
            have HM8 := Lib.hid (HM1.out.below HB8.out)
            have HR8 := Lib.hid (HR1.out.below HB8.out)
            have HL8 := Lib.hid (HL1.out.trans (HB8.out.mono HL1.out.size))
            clear hb7 hb8 ho7
            go_wp2
            go_roundw
            case rel => exact ⟨k + 1, l, by omega, by go_num, HL8.out, HM8.out, HR8.out⟩
            case measure => simp [intOf]; omega
          · generalize hE0 : inE n a x.length = E0
            have neq : (E0 != E0) = false := by simp
            have P1 := Lib.hid (fun W (h : MemAt W W0.heap.size g b n l) vx (hx : Sl W vx x) => writeC_m W W0.heap.size g b n l h hn65 a x vx hx (by omega))
            have P2 := Lib.hid (fun W (h : MemAt W W0.heap.size g2 b2 n l) vx (hx : Sl W vx x) => writeC_r W W0.heap.size g2 b2 n l h hn65 a x vx hx (by omega))
            simp only [hE0] at P1 P2
            clear hE0 c3' e2 e3
            go_wp2_with fail
            go_at_call 25
            refine (copyBytes_any _ x W1 (by omega) (HX.out.below HLw.out)).mono ?_
            rintro e w5 ⟨v5, rfl, hb5, ho5⟩
            obtain ⟨ao5, cp5, rfl⟩ := own_slice ho5
            have y1 := (hb5.cell (p := ⟨wr.heap.size, 1, none⟩) hsW).trans e1
            have y4 := (hb5.cell (p := ⟨wr.heap.size, 4, none⟩) hsW).trans c4'
            have HO5 := Lib.hid ho5; have HB5 := Lib.hid hb5
            have HM5 := Lib.hid (HM1.out.below hb5); have HR5 := Lib.hid (HR1.out.below hb5)
            have hs5 := hb5.size
            clear ho5 hb5 e1 c4'
            go_wp2_with fail
            go_at_call 26
            refine (P1.out w5 HM5.out _ (Sl.of_own HO5.out).1).mono ?_
            rintro e w6 ⟨rfl, hg6, hM6⟩
            have x1 := (cell_grown (p := ⟨wr.heap.size, 1, none⟩) hg6 (Nat.lt_of_lt_of_le hsW hs5) hTb).trans y1
            have x4 := (cell_grown (p := ⟨wr.heap.size, 4, none⟩) hg6 (Nat.lt_of_lt_of_le hsW hs5) hTb).trans y4
            have HO6 := Lib.hid (own_grown2 HO5.out hg6 HM1.out.2.2.2.2.2.2)
            have HM6 := Lib.hid hM6
            have HR6 := Lib.hid (HR5.out.other hg6 hbb2.symm hgb2)
            have HL6 := Lib.hid ((HL1.out.trans (HB5.out.mono HL1.out.size)).trans (grown_below hg6 HM1.out.2.2.2.1 (Nat.le_trans HL1.out.size hs5)))
            have hs6 := hg6.size
            clear hg6 hM6 y1 y4 HO5
            go_wp2_with fail
            go_at_call 24
            refine (scribble_any W1.heap.size _ _ x w6 HO6.out (by omega) (Nat.le_trans hs5 hs6)).mono ?_
            rintro e w7 ⟨rfl, hb7⟩
            have u1 := (hb7.cell (p := ⟨wr.heap.size, 1, none⟩) hsW).trans x1
            have u4 := (hb7.cell (p := ⟨wr.heap.size, 4, none⟩) hsW).trans x4
            have HM7 := Lib.hid (HM6.out.belowB hb7 HM1.out.2.2.2.2.2.1 HM1.out.2.2.2.2.2.2)
            have HR7 := Lib.hid (HR6.out.belowB hb7 HR1.out.2.2.2.2.2.1 HR1.out.2.2.2.2.2.2)
            have HL7 := Lib.hid (HL6.out.trans (hb7.mono HL1.out.size))
            have hs7 := hb7.size
            clear hb7 x1 x4
            have HX7 := Lib.hid (HX.out.below (HWw.out.trans (HL7.out.mono hww)))
            have HX7' := Lib.hid (HX7.out.drewN 1)
            have hs17 : W1.heap.size ≤ w7.heap.size := by omega
            have hsW7 : wr.heap.size < w7.heap.size := by omega
            go_wp2_with fail
            go_region_held3 (fun W' => W'.cell? ⟨wr.heap.size, 1, none⟩ = some (.int .i64 a) ∧ W'.cell? ⟨wr.heap.size, 4, none⟩ = some (.slice ax x.length cx)) (first | (exact ⟨by assumption, by assumption⟩) | (simp [go_sem, *]; done)) (first | (go_at_call 16; refine (num1_any _ _).mono ?_; rintro e w' ⟨rfl, rfl⟩) | (go_at_call 27; refine (P2.out w7.drew HR7.out _ HX7'.out).mono ?_; rintro e w8 ⟨rfl, hg8, hR8⟩; have z1 := (cell_grown (p := ⟨wr.heap.size, 1, none⟩) hg8 hsW7 hTb2).trans u1; have z4 := (cell_grown (p := ⟨wr.heap.size, 4, none⟩) hg8 hsW7 hTb2).trans u4))
            have HM8 := Lib.hid ((show MemAt w7.drew W0.heap.size g b n _ from HM7.out).other hg8 hbb2 hgb2')
            have HR8 := Lib.hid hR8
            have HL8 := Lib.hid ((bdrew HL7.out 1).trans (grown_below hg8 HR1.out.2.2.2.1 HL7.out.size))
            clear hg8 hR8 z1 z4 u1 u4
            go_wp2
            go_roundw
            case rel => exact ⟨k + 1, wrF l n a x, by omega, by go_num, HL8.out, HM8.out, HR8.out⟩
            case measure => simp [intOf]; omega
          · generalize hE0 : inE n a x.length = E0
            have neq : (E0 != E0) = false := by simp
            have P1 := Lib.hid (fun W (h : MemAt W W0.heap.size g b n l) vx (hx : Sl W vx x) => writeC_m W W0.heap.size g b n l h hn65 a x vx hx (by omega))
            have P2 := Lib.hid (fun W (h : MemAt W W0.heap.size g2 b2 n l) vx (hx : Sl W vx x) => writeC_r W W0.heap.size g2 b2 n l h hn65 a x vx hx (by omega))
            simp only [hE0] at P1 P2
            clear hE0 c3' e2 e3
            go_wp2_with fail
            go_at_call 25
            refine (copyBytes_any _ x W1 (by omega) (HX.out.below HLw.out)).mono ?_
            rintro e w5 ⟨v5, rfl, hb5, ho5⟩
            obtain ⟨ao5, cp5, rfl⟩ := own_slice ho5
            have y1 := (hb5.cell (p := ⟨wr.heap.size, 1, none⟩) hsW).trans e1
            have y4 := (hb5.cell (p := ⟨wr.heap.size, 4, none⟩) hsW).trans c4'
            have HO5 := Lib.hid ho5; have HB5 := Lib.hid hb5
            have HM5 := Lib.hid (HM1.out.below hb5); have HR5 := Lib.hid (HR1.out.below hb5)
            have hs5 := hb5.size
            clear ho5 hb5 e1 c4'
            go_wp2_with fail
            go_at_call 26
            refine (P1.out w5 HM5.out _ (Sl.of_own HO5.out).1).mono ?_
            rintro e w6 ⟨rfl, hg6, hM6⟩
            have x1 := (cell_grown (p := ⟨wr.heap.size, 1, none⟩) hg6 (Nat.lt_of_lt_of_le hsW hs5) hTb).trans y1
            have x4 := (cell_grown (p := ⟨wr.heap.size, 4, none⟩) hg6 (Nat.lt_of_lt_of_le hsW hs5) hTb).trans y4
            have HO6 := Lib.hid (own_grown2 HO5.out hg6 HM1.out.2.2.2.2.2.2)
            have HM6 := Lib.hid hM6
            have HR6 := Lib.hid (HR5.out.other hg6 hbb2.symm hgb2)
            have HL6 := Lib.hid ((HL1.out.trans (HB5.out.mono HL1.out.size)).trans (grown_below hg6 HM1.out.2.2.2.1 (Nat.le_trans HL1.out.size hs5)))
            have hs6 := hg6.size
            clear hg6 hM6 y1 y4 HO5
            go_wp2_with fail
            go_at_call 24
            refine (scribble_any W1.heap.size _ _ x w6 HO6.out (by omega) (Nat.le_trans hs5 hs6)).mono ?_
            rintro e w7 ⟨rfl, hb7⟩
            have u1 := (hb7.cell (p := ⟨wr.heap.size, 1, none⟩) hsW).trans x1
            have u4 := (hb7.cell (p := ⟨wr.heap.size, 4, none⟩) hsW).trans x4
            have HM7 := Lib.hid (HM6.out.belowB hb7 HM1.out.2.2.2.2.2.1 HM1.out.2.2.2.2.2.2)
            have HR7 := Lib.hid (HR6.out.belowB hb7 HR1.out.2.2.2.2.2.1 HR1.out.2.2.2.2.2.2)
            have HL7 := Lib.hid (HL6.out.trans (hb7.mono HL1.out.size))
            have hs7 := hb7.size
            clear hb7 x1 x4
            have HX7 := Lib.hid (HX.out.below (HWw.out.trans (HL7.out.mono hww)))
            have HX7' := Lib.hid (HX7.out.drewN 1)
            have hs17 : W1.heap.size ≤ w7.heap.size := by omega
            have hsW7 : wr.heap.size < w7.heap.size := by omega
            go_wp2_with fail
            go_region_held3 (fun W' => W'.cell? ⟨wr.heap.size, 1, none⟩ = some (.int .i64 a) ∧ W'.cell? ⟨wr.heap.size, 4, none⟩ = some (.slice ax x.length cx)) (first | (exact ⟨by assumption, by assumption⟩) | (simp [go_sem, *]; done)) (first | (go_at_call 16; refine (num1_any _ _).mono ?_; rintro e w' ⟨rfl, rfl⟩) | (go_at_call 27; refine (P2.out w7.drew HR7.out _ HX7'.out).mono ?_; rintro e w8 ⟨rfl, hg8, hR8⟩; have z1 := (cell_grown (p := ⟨wr.heap.size, 1, none⟩) hg8 hsW7 hTb2).trans u1; have z4 := (cell_grown (p := ⟨wr.heap.size, 4, none⟩) hg8 hsW7 hTb2).trans u4))
            have HM8 := Lib.hid ((show MemAt w7.drew W0.heap.size g b n _ from HM7.out).other hg8 hbb2 hgb2')
            have HR8 := Lib.hid hR8
            have HL8 := Lib.hid ((bdrew HL7.out 1).trans (grown_below hg8 HR1.out.2.2.2.1 HL7.out.size))
            clear hg8 hR8 z1 z4 u1 u4
            go_wp2
            go_roundw
            case rel => exact ⟨k + 1, wrF l n a x, by omega, by go_num, HL8.out, HM8.out, HR8.out⟩
            case measure => simp [intOf]; omega
        · have HM := Lib.hid hM; have HR := Lib.hid hR; have HL := Lib.hid hbl
          have hll := hM.len
          have R1 := readC_m wr W0.heap.size g b n l hM hn65 0 n (by omega)
          rw [show rdE n 0 (n : Int) = 0 by unfold rdE; rw [if_neg (by omega), if_pos (by omega)], show rdF l n 0 (n : Int) = l by unfold rdF rdE; rw [if_pos (by rw [if_neg (by omega), if_pos (by omega)])]; simp [← hll]] at R1
          have R1 := Lib.hid R1
          clear hM hR hbl
          by_cases h30 : k < L.length
          · have h30' : ¬ k < 30 := by omega
            clear hfin
            go_wp2_with fail
            go_at_call 21
            refine R1.out.mono ?_
            rintro e w5 ⟨v5, rfl, hb5, ho5⟩
            obtain ⟨ao5, cp5, rfl⟩ := own_slice ho5
            have HM5 := Lib.hid (HM.out.below hb5); have HR5 := Lib.hid (HR.out.below hb5); have HL5 := Lib.hid (HL.out.trans (hb5.mono hszr))
            have HO5 := Lib.hid ho5
            have g00 := (hb5.cell (p := ⟨w.heap.size, 0, none⟩) (by simp; omega)).trans f00
            have gr := HR5.out.1
            have hs5 := hb5.size
            have hl65 : l.length ≤ 1000000 := by omega
            have SO := Lib.hid ((Sl.of_own HO5.out).1.drewN 1)
            have SR := Lib.hid ((Sl.of_own HR5.out.2.1).1.drewN 1)
            have EQ := eqBytes_same _ _ l w5.drew hl65 SO.out (show Sl w5.drew (.slice (some ⟨b2, 0, none⟩) n n) l from SR.out)
            rw [hll] at EQ HO5
            have EQ := Lib.hid EQ
            have HLm := Lib.hid (HM5.out.1)
            clear hb5 ho5 cc1 f00
            go_wp2_with fail
            have hsw : w.heap.size < w5.heap.size := by omega
            have hsg : g2 < w5.heap.size := HR5.out.2.2.2.2.2.1
            go_region_held3 (fun W' => W'.cell? ⟨g2, 0, none⟩ = some (.slice (some ⟨b2, 0, none⟩) n n) ∧ W'.cell? ⟨w.heap.size, 0, none⟩ = some (.int .i64 (n : Int))) (first | (exact ⟨by assumption, by assumption⟩) | (simp [go_sem, *]; done)) (first | (go_at_call 16; refine (num1_any _ _).mono ?_; rintro e w' ⟨rfl, rfl⟩) | (go_at_call 23; (with_reducible refine EQ.out.mono ?_); rintro e w' ⟨rfl, m6, rfl⟩) | (go_at_call 30; refine (memLen_any g _ n n _ (by exact HLm.out)).mono ?_; rintro e w' ⟨rfl, rfl⟩) | (go_at_call 17; refine (wakes1_any _).mono ?_; rintro e w9 ⟨rfl, hb9⟩; have z1 := (hb9.cell (p := ⟨g2, 0, none⟩) hsg).trans gr; have z2 := (hb9.cell (p := ⟨w.heap.size, 0, none⟩) hsw).trans g00))
            go_wp2
            go_ret
            exact ⟨rfl, HW0.out.2.trans (((HL5.out.mono (by omega)).trans (bdrew (Below.refl _ w5) (1 + m6))).trans (hb9.mono (by show _ ≤ w5.heap.size; omega)))⟩
          · clear hfin
            go_wp2_with fail
            go_at_call 21
            refine R1.out.mono ?_
            rintro e w5 ⟨v5, rfl, hb5, ho5⟩
            obtain ⟨ao5, cp5, rfl⟩ := own_slice ho5
            have HM5 := Lib.hid (HM.out.below hb5); have HR5 := Lib.hid (HR.out.below hb5); have HL5 := Lib.hid (HL.out.trans (hb5.mono hszr))
            have HO5 := Lib.hid ho5
            have g00 := (hb5.cell (p := ⟨w.heap.size, 0, none⟩) (by simp; omega)).trans f00
            have gr := HR5.out.1
            have hs5 := hb5.size
            have hl65 : l.length ≤ 1000000 := by omega
            have SO := Lib.hid ((Sl.of_own HO5.out).1.drewN 1)
            have SR := Lib.hid ((Sl.of_own HR5.out.2.1).1.drewN 1)
            have EQ := eqBytes_same _ _ l w5.drew hl65 SO.out (show Sl w5.drew (.slice (some ⟨b2, 0, none⟩) n n) l from SR.out)
            rw [hll] at EQ HO5
            have EQ := Lib.hid EQ
            have HLm := Lib.hid (HM5.out.1)
            clear hb5 ho5 cc1 f00
            go_wp2_with fail
            have hsw : w.heap.size < w5.heap.size := by omega
            have hsg : g2 < w5.heap.size := HR5.out.2.2.2.2.2.1
            go_region_held3 (fun W' => W'.cell? ⟨g2, 0, none⟩ = some (.slice (some ⟨b2, 0, none⟩) n n) ∧ W'.cell? ⟨w.heap.size, 0, none⟩ = some (.int .i64 (n : Int))) (first | (exact ⟨by assumption, by assumption⟩) | (simp [go_sem, *]; done)) (first | (go_at_call 16; refine (num1_any _ _).mono ?_; rintro e w' ⟨rfl, rfl⟩) | (go_at_call 23; (with_reducible refine EQ.out.mono ?_); rintro e w' ⟨rfl, m6, rfl⟩) | (go_at_call 30; refine (memLen_any g _ n n _ (by exact HLm.out)).mono ?_; rintro e w' ⟨rfl, rfl⟩) | (go_at_call 17; refine (wakes1_any _).mono ?_; rintro e w9 ⟨rfl, hb9⟩; have z1 := (hb9.cell (p := ⟨g2, 0, none⟩) hsg).trans gr; have z2 := (hb9.cell (p := ⟨w.heap.size, 0, none⟩) hsw).trans g00))
            go_wp2
            go_ret
            exact ⟨rfl, HW0.out.2.trans (((HL5.out.mono (by omega)).trans (bdrew (Below.refl _ w5) (1 + m6))).trans (hb9.mono (by show _ ≤ w5.heap.size; omega)))⟩
    · have NB := Lib.hid (memNew_bad pn w1 (by omega))
      have NR := Lib.hid (numR_any pn 65536 w1 false (by simp; omega))
      clear hpn
      go_wp2_with fail
      go_at_call 14
      refine NB.out.mono ?_
      rintro e W' ⟨rfl, rfl⟩
      go_wp2_with fail
      go_at_call 15
      refine NR.out.mono ?_
      rintro e W' ⟨rfl, rfl⟩
      go_wp2_with (go_at_call 16; refine (num1_any _ _).mono ?_; rintro e w' ⟨rfl, rfl⟩)
      go_at_call 17
      refine (wakes1_any _).mono ?_
      rintro e w9 ⟨rfl, hb9⟩
      go_wp2
      go_ret
      exact ⟨rfl, HW0.out.2.trans ((HL1.out.mono (by omega)).trans (hb9.mono (by omega)))⟩
  · go_wp2
    go_ret
    exact ⟨rfl, HW0.out.2.trans (HL1.out.mono (by omega))⟩
theorem memExact_walk (W : World) (cs : List Value) (h : Rd Try.prog W 24 cs) :
    Calls Try.prog 3 #[.agg cs.toArray] W fun e W' => e = .returned (.bool true) ∧ Below W.heap.size W W' := by
  obtain ⟨n, v, L, rfl, hL, hI⟩ := script1_full W cs h
  exact memExact_any n v L W hL hI
namespace memExact
open Go.ChangeShapes Go.WideShapes Go.ChangeAt
theorem own : ownKnob Try.prog.godebug = none := by kernel_rfl
theorem laidOut : laidOutB Try.prog = true := by kernel_rfl
set_option maxRecDepth 100000 in
theorem lifted (os : Os) (started : os.Started) (H : Type) (enc : TypeId × Value → H) :
    ReturnsInHanded {} Try.checked os 3 .any (Rows.memExactSpec.pre6 enc Try.prog Try.f3 Rows.memExactRow.domain false) (Rows.memExactSpec.post enc Try.prog Try.f3 false true false false) := by
  refine returnsInHanded_of_change (C := Try.checked) own started (by kernel_rfl) Try.func3
    (ChangeSpec.witness6 (enc := enc) (C := Try.checked) false ⟨#[], #[.agg #[.int .i64 0, .slice none 0 0]], []⟩ 12 (by kernel_rfl) (by kernel_rfl) (by kernel_rfl) (by kernel_rfl)) ?_
  intro W base args ds gs before hval0 hW _ _
  have hval : ∀ (j : Nat) t v, Try.f3.params[j]? = some t → args[j]? = some v → Value.okWide Try.prog W .any base t v := hval0
  have hW' := hW
  obtain ⟨p, q, hA0, hV, rfl, hfz, hnd⟩ := hW
  have hA : DataW.TrodAll enc Try.prog W 0 (fun _ => true) true Try.f3.params.toList args.toList ds p := hA0
  rw [Try.params3] at hA hval
  obtain ⟨v0, vs0, d0, ds0, p0, q0, hargs, rfl, rfl, h0, r0⟩ := trodAll_cons hA
  obtain ⟨rfl, rfl, rfl⟩ := trodAll_nil r0
  obtain rfl : args = #[v0] := by cases args; simp_all
  obtain ⟨rfl, rfl⟩ := trodVars_none hV
  obtain ⟨cs0, rfl⟩ : ∃ cs0 : Array Value, v0 = .agg cs0 := by
    have h := hval 0 24 v0 rfl rfl
    unfold Value.okWide at h
    rw [Try.underlying24] at h
    exact ⟨h.choose, h.choose_spec.1⟩
  have k0 := h0
  have lt0 : ∀ x ∈ p0, x.block < W.heap.size := by obtain ⟨m, hm⟩ := k0; exact DataW.trod_lt m _ _ _ hm
  have hrd : Rd Try.prog W 24 cs0.toList := by obtain ⟨fuel, hf⟩ := h0; exact ⟨H, enc, 0, _, true, fuel, _, hf⟩
  clear hA0 hval0
  refine (show Calls Try.prog 3 _ W (fun e W' => e = .returned (.bool true) ∧ Below W.heap.size W W') from by have := memExact_walk W _ hrd; rwa [Array.toArray_toList] at this).mono fun e W' ⟨he, bel⟩ => ?_
  subst he
  exact ⟨_, rfl, _, _, _, [], _, [], hW', trodAll_mk1 (shut_bool Try.underlying4 _), (trodAll_cons_mk (Below.trod laidOut (by kernel_rfl) (of_decide_eq_true (by kernel_rfl)) k0 bel lt0) trodAll_mk0), rfl, bel.frame _, fun h => by cases h⟩
theorem over : Rows.memExactRow.holds Try.pinned (OpenSpec.ofChange Rows.memExactSpec) :=
  OpenClaim.holds_of_wide 3 Try.f3 rfl rfl rfl rfl rfl rfl rfl ⟨rfl, rfl, rfl, rfl, rfl⟩ rfl rfl rfl rfl rfl (by kernel_rfl) Try.func3 (by kernel_rfl)
    (of_decide_eq_true (by kernel_rfl)) (by unfold Func.isWrapper; first | (rw [if_pos (by decide +kernel)]; kernel_rfl) | (rw [if_neg (by decide +kernel)]; exact ⟨rfl, rfl⟩))
    (fun os started H enc _ => lifted os started H enc)
/-- THE STATEMENT. -/
theorem proved : Rows.MemExactSaid := over
end memExact
-- CLAIM: MemExact memExact.proved
end Go.Proofs.Ytibmjljofopldaa
