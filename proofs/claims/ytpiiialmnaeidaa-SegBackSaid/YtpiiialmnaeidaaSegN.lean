/-
  The walk of the law SegBack: a segment's bytes are read as it between the same addresses, in either order; with one bit turned, of them or of an address, they are none. No condition.
-/
import Derived.Test.YtpiiialmnaeidaaSegK
import Derived.Test.YtpiiialmnaeidaaSegM
import Derived.StillTailTactics
import Derived.RegionTactic
import Derived.Deep.RegionWith
import Derived.Deep.RegionHeld3
import Derived.Deep.DeepCutAuto
namespace Go.Proofs.Ytpiiialmnaeidaa
open Go.RowKit
theorem rowAt13 (W : World) (v0 v1 v2 v3 v4 v5 v6 v7 v8 v9 : Value) : RowAt (W.alloc (.cells #[v0, v1, v2, v3, v4, v5, v6, v7, v8, v9] 46)) W.heap.size [v0, v1, v2, v3, v4, v5, v6, v7, v8, v9] := by
  refine ⟨fun j v hj => ?_, fun j => by simp [go_sem], by simp⟩
  match j, hj with
  | 0, hj => simp at hj; subst hj; simp [go_sem]
  | 1, hj => simp at hj; subst hj; simp [go_sem]
  | 2, hj => simp at hj; subst hj; simp [go_sem]
  | 3, hj => simp at hj; subst hj; simp [go_sem]
  | 4, hj => simp at hj; subst hj; simp [go_sem]
  | 5, hj => simp at hj; subst hj; simp [go_sem]
  | 6, hj => simp at hj; subst hj; simp [go_sem]
  | 7, hj => simp at hj; subst hj; simp [go_sem]
  | 8, hj => simp at hj; subst hj; simp [go_sem]
  | 9, hj => simp at hj; subst hj; simp [go_sem]
  | j + 10, hj => simp at hj
theorem rowAt7 (W : World) (v0 v1 v2 v3 v4 v5 v6 : Value) : RowAt (W.alloc (.cells #[v0, v1, v2, v3, v4, v5, v6] 44)) W.heap.size [v0, v1, v2, v3, v4, v5, v6] := by
  refine ⟨fun j v hj => ?_, fun j => by simp [go_sem], by simp⟩
  match j, hj with
  | 0, hj => simp at hj; subst hj; simp [go_sem]
  | 1, hj => simp at hj; subst hj; simp [go_sem]
  | 2, hj => simp at hj; subst hj; simp [go_sem]
  | 3, hj => simp at hj; subst hj; simp [go_sem]
  | 4, hj => simp at hj; subst hj; simp [go_sem]
  | 5, hj => simp at hj; subst hj; simp [go_sem]
  | 6, hj => simp at hj; subst hj; simp [go_sem]
  | j + 7, hj => simp at hj
set_option maxRecDepth 100000 in
set_option maxHeartbeats 40000000 in
theorem segBackLaw_any (v : Value) (L : List Ask13) (w : World) (hv : Asks13 w v L) :
    Calls Try.prog 7 #[v] w fun e w' => e = .returned (.bool true) ∧ Below w.heap.size w w' := by
  obtain ⟨ao, cap, rfl, hlen, hB⟩ := hv
  have HB := Lib.hid hB; clear hB
  go_enter Try.func7, Try.ntmps7
  go_wp2
  go_loopw [3] (fun i wr => ∃ k : Nat, k ≤ L.length ∧ i = .int .i64 k ∧ Below w.heap.size w wr) (fun i _ => L.length - (intOf i).toNat)
  case atStart => exact ⟨0, by omega, rfl, Below.refl _ _⟩
  case round =>
    obtain ⟨k, hk, rfl, hbl⟩ := hrel
    by_cases hlt : k < L.length
    · by_cases h20 : k < 10
      · obtain ⟨b, off, rfl, hbw, hBB⟩ := HB.out (by intro h; simp [h] at hlt)
        obtain ⟨⟨⟨sp, dp, sq, ak, fl, wn, D⟩, src, dst, X⟩, hq⟩ : ∃ q, L[k]? = some q := ⟨_, List.getElem?_eq_getElem hlt⟩
        obtain ⟨hc0, hc1, hc2, hc3, hc4, hc5, ⟨vd, hc6, hS⟩, hc7, hc8, ⟨vx, hc9, hX⟩⟩ := hBB k _ hq
        clear hBB hq
        dsimp only at hc0 hc1 hc2 hc3 hc4 hc5 hc6 hc7 hc8 hc9 hS hX
        obtain ⟨ao2, cap2, rfl, -, hcm2, -⟩ := id hS
        obtain ⟨ao3, cap3, rfl, -⟩ := id hX
        have HS := Lib.hid hS; have HX := Lib.hid hX; clear hS hX
        have hd0 := (hbl.cell (p := ⟨b, off + k * 10, none⟩) hbw).trans hc0
        have hd1 := (hbl.cell (p := ⟨b, off + k * 10 + 1, none⟩) hbw).trans hc1
        have hd2 := (hbl.cell (p := ⟨b, off + k * 10 + 2, none⟩) hbw).trans hc2
        have hd3 := (hbl.cell (p := ⟨b, off + k * 10 + 3, none⟩) hbw).trans hc3
        have hd4 := (hbl.cell (p := ⟨b, off + k * 10 + 4, none⟩) hbw).trans hc4
        have hd5 := (hbl.cell (p := ⟨b, off + k * 10 + 5, none⟩) hbw).trans hc5
        have hd6 := (hbl.cell (p := ⟨b, off + k * 10 + 6, none⟩) hbw).trans hc6
        have hd7 := (hbl.cell (p := ⟨b, off + k * 10 + 7, none⟩) hbw).trans hc7
        have hd8 := (hbl.cell (p := ⟨b, off + k * 10 + 8, none⟩) hbw).trans hc8
        have hd9 := (hbl.cell (p := ⟨b, off + k * 10 + 9, none⟩) hbw).trans hc9
        clear hc0 hc1 hc2 hc3 hc4 hc5 hc6 hc7 hc8 hc9
        have hsz := hbl.size
        have HL0 := Lib.hid hbl; clear hbl
        go_wp2_with fail
        refine calls_gen (fun W => Below wr.heap.size wr W ∧ RowAt W wr.heap.size [.int .i64 sp, .int .i64 dp, .int .i64 sq, .int .i64 ak, .int .i64 fl, .int .i64 wn, .slice ao2 D.length cap2, .int .i64 src, .int .i64 dst, .slice ao3 X.length cap3]) ⟨(Below.refl _ _).alloc (Nat.le_refl _) _, rowAt13 wr _ _ _ _ _ _ _ _ _ _⟩ ?_
        rintro W ⟨hbW, hRP⟩
        have RP0 := Lib.hid hRP
        have HLW := Lib.hid (HL0.out.trans (hbW.mono hsz))
        clear hbW hRP hd0 hd1 hd2 hd3 hd4 hd5 hd6 hd7 hd8 hd9
        have hszW := HLW.out.size
        by_cases h4 : D.length ≤ 4000 ∧ X.length ≤ 4000
        · have hbf : false = (decide ((D.length : Int) > 4000) || decide ((X.length : Int) > 4000)) := by
            have q1 : decide ((D.length : Int) > 4000) = false := by simp; omega
            have q2 : decide ((X.length : Int) > 4000) = false := by simp; omega
            rw [q1, q2]; rfl
          refine (heavy13_any sp dp sq ak fl wn src dst ao2 ao3 D.length X.length cap2 cap3 _ false hbf).mono ?_
          rintro e w1 ⟨rfl, hb1⟩
          have RP1 := Lib.hid (RP0.out.below hb1)
          have HL1 := Lib.hid (HLW.out.trans (hb1.mono hszW))
          have hs1 := HL1.out.size
          clear hb1 hbf RP0 HLW
          have c0 := RP1.out.1 0 _ rfl
          have c1 := RP1.out.1 1 _ rfl
          have c2 := RP1.out.1 2 _ rfl
          have c3 := RP1.out.1 3 _ rfl
          have c4 := RP1.out.1 4 _ rfl
          have c5 := RP1.out.1 5 _ rfl
          have c6 := RP1.out.1 6 _ rfl
          have c7 := RP1.out.1 7 _ rfl
          have c8 := RP1.out.1 8 _ rfl
          by_cases hok : (0 ≤ src ∧ src < 4294967296) ∧ (0 ≤ dst ∧ dst < 4294967296) ∧ sgOk ⟨sp, dp, sq, ak, fl, wn, D⟩
          · obtain ⟨hw1, hw2, hsg⟩ := hok
            have A1 := Lib.hid (segBytes_ok src dst ⟨sp, dp, sq, ak, fl, wn, D⟩ ao2 cap2 w1 hsg hw1 hw2 (HS.out.below HL1.out))
            have hDl : D.length ≤ 1460 := hsg.2.2.2.2.2.2
            have hYl : (sgBytes src dst ⟨sp, dp, sq, ak, fl, wn, D⟩).length = 20 + D.length := sgBytes_len src dst ⟨sp, dp, sq, ak, fl, wn, D⟩
            have HE1 := Lib.hid (sg_E src dst ⟨sp, dp, sq, ak, fl, wn, D⟩ hsg hw1 hw2)
            have HP1 := Lib.hid (sg_P src dst ⟨sp, dp, sq, ak, fl, wn, D⟩ hsg hw1 hw2)
            have HE2 := Lib.hid (sg_E_swap src dst ⟨sp, dp, sq, ak, fl, wn, D⟩ hsg hw1 hw2)
            have HP2 := Lib.hid (sg_P_swap src dst ⟨sp, dp, sq, ak, fl, wn, D⟩ hsg hw1 hw2)
            have HE3 := Lib.hid (fun (y : Int) (q : Nat) hq hy hh => sg_E_src src dst y q ⟨sp, dp, sq, ak, fl, wn, D⟩ hsg hw1 hw2 hq hy hh)
            have HFL := Lib.hid (fun (n q : Nat) (x y : UInt8) hq hx hh => sg_flip src dst ⟨sp, dp, sq, ak, fl, wn, D⟩ n q x y hw1 hw2 hq hx hh)
            obtain ⟨bq, hbq⟩ : ∃ b, X.length % 32 = b := ⟨_, rfl⟩
            have hbq32 : bq < 32 := by omega
            have hr9 : (X.length : Int) % 32 = (bq : Int) := by omega
            have hr8 : (X.length : Int).tmod 32 = (bq : Int) := by rw [Int.tmod_eq_emod_of_nonneg (by omega)]; exact hr9
            have hwb : IntKind.i64.wrap (bq : Int) = (bq : Int) := (IntWalk.i64_left _).trans (IntWalk.wrap64_in _ (by omega))
            obtain ⟨yq, hyq1, hyq2, hyq3⟩ := flip32 src bq hw1.1 hw1.2 hbq32
            dsimp only at A1
            generalize sgBytes src dst ⟨sp, dp, sq, ak, fl, wn, D⟩ = Y at A1 hYl HE1 HP1 HE2 HP2 HE3 HFL
            have HE4 := Lib.hid (HE3.out yq bq hbq32 hyq2 hyq3)
            have HYQ := Lib.hid hyq1
            clear HE3 hyq1 hyq2 hyq3 hw1 hw2 hsg hbq
            go_wp2_with fail
            (with_reducible refine A1.out.mono ?_)
            rintro e w2 ⟨v2, rfl, hb2, ho2⟩
            have hYne : Y ≠ [] := by intro h; rw [h, List.length_nil] at hYl; omega
            obtain ⟨g, cap6, rfl, hg, hgc, hgm, hO⟩ := own_of ho2 hYne
            have HSY := Lib.hid (show Sl w2 (.slice (some ⟨g, 0, none⟩) Y.length cap6) Y from hO.sl cap6 (by omega) hgm)
            have hY20 : 20 ≤ Y.length := by omega
            have hY15 : Y.length ≤ 1500 := by omega
            have RP2 := Lib.hid (RP1.out.below hb2)
            have HL2 := Lib.hid (HL1.out.trans (hb2.mono hs1))
            have hs2 := HL2.out.size
            have M0 := Lib.hid (fun W => num13_any 0 W)
            have Q1 := Lib.hid (parse13_any src dst _ Y w2 (by omega) HSY.out)
            rw [HE1.out, HP1.out] at Q1
            dsimp only at Q1
            clear ho2 hO hb2 A1 hYl RP1 HL1 c0 c1 c2 c3 c4 c5 c6 c7 c8
            have c7 := RP2.out.1 7 _ rfl
            have c8 := RP2.out.1 8 _ rfl
            go_wp2_with (first | ((with_reducible refine (M0.out _).mono ?_); rintro e w3 ⟨rfl, rfl⟩) | ((with_reducible refine Q1.out.mono ?_); rintro e w3 ⟨v3, rfl, hb3, ho3⟩; obtain ⟨ao4, cap4, rfl⟩ := own_slice ho3; have RP3 := Lib.hid ((RP2.out.below hb3).below ((Below.refl _ _).alloc (Nat.le_refl _) (.cells #[.int .i64 sp, .int .i64 dp, .int .i64 sq, .int .i64 ak, .int .i64 fl, .int .i64 wn, .slice ao4 D.length cap4] 44))); clear c7 c8; have c7 := RP3.out.1 7 _ rfl; have c8 := RP3.out.1 8 _ rfl))
            refine calls_gen (fun W => Below w3.heap.size w3 W ∧ RowAt W w3.heap.size [.int .i64 sp, .int .i64 dp, .int .i64 sq, .int .i64 ak, .int .i64 fl, .int .i64 wn, .slice ao4 D.length cap4] ∧ RowAt W wr.heap.size [.int .i64 sp, .int .i64 dp, .int .i64 sq, .int .i64 ak, .int .i64 fl, .int .i64 wn, .slice ao2 D.length cap2, .int .i64 src, .int .i64 dst, .slice ao3 X.length cap3]) ⟨(Below.refl _ _).alloc (Nat.le_refl _) _, rowAt7 w3 _ _ _ _ _ _ _, RP3.out⟩ ?_
            rintro W4 ⟨hbW, hRS, hRP⟩
            have RS4 := Lib.hid hRS; have RP4 := Lib.hid hRP
            have HB4 := Lib.hid (hb3.trans (hbW.mono hb3.size))
            have HSs4 := Lib.hid ((Sl.of_own ho3).1.below hbW)
            have HSY4 := Lib.hid (HSY.out.below HB4.out)
            have Q2 := Lib.hid (parse13_any dst src _ Y W4 (by omega) HSY4.out)
            rw [HE2.out, HP2.out] at Q2
            dsimp only at Q2
            clear hbW hRS hRP hb3 ho3 c7 c8 RP3 RP2 Q1
            (with_reducible refine Q2.out.mono ?_)
            rintro e w5 ⟨v5, rfl, hb5, ho5⟩
            obtain ⟨ao5, cap5, rfl⟩ := own_slice ho5
            have RS5 := Lib.hid (RS4.out.below hb5); have RP5 := Lib.hid (RP4.out.below hb5)
            have HB5 := Lib.hid (HB4.out.trans (hb5.mono HB4.out.size))
            have HSs5 := Lib.hid (HSs4.out.below hb5)
            have HSt5 := Lib.hid (Sl.of_own ho5).1
            clear hb5 ho5 RS4 RP4 HB4 HSs4 Q2
            go_wp2_with fail
            refine wp_gen (fun W => Below w5.heap.size w5 W ∧ RowAt W w5.heap.size [.int .i64 sp, .int .i64 dp, .int .i64 sq, .int .i64 ak, .int .i64 fl, .int .i64 wn, .slice ao5 D.length cap5] ∧ RowAt W w3.heap.size [.int .i64 sp, .int .i64 dp, .int .i64 sq, .int .i64 ak, .int .i64 fl, .int .i64 wn, .slice ao4 D.length cap4] ∧ RowAt W wr.heap.size [.int .i64 sp, .int .i64 dp, .int .i64 sq, .int .i64 ak, .int .i64 fl, .int .i64 wn, .slice ao2 D.length cap2, .int .i64 src, .int .i64 dst, .slice ao3 X.length cap3]) ⟨(Below.refl _ _).alloc (Nat.le_refl _) _, rowAt7 w5 _ _ _ _ _ _ _, RS5.out.below ((Below.refl _ _).alloc (Nat.le_refl _) _), RP5.out.below ((Below.refl _ _).alloc (Nat.le_refl _) _)⟩ ?_
            rintro W6 ⟨hbW, hRT, hRS, hRP⟩
            have RT6 := Lib.hid hRT; have RS6 := Lib.hid hRS; have RP6 := Lib.hid hRP
            have HB6 := Lib.hid (HB5.out.trans (hbW.mono HB5.out.size))
            have HSs6 := Lib.hid (HSs5.out.below hbW)
            have HSt6 := Lib.hid (HSt5.out.below hbW)
            have HSY6 := Lib.hid (HSY.out.below HB6.out)
            have HL6 := Lib.hid (HL2.out.trans (HB6.out.mono hs2))
            clear hbW hRT hRS hRP RS5 RP5 HB5 HSs5 HSt5 HSY4
            have i0b : (0 : Int) ≤ (bq : Int) := by omega
            have i1b : (bq : Int) ≤ 64 := by omega
            have hp32 : (2 : Int) ^ bq < 4294967296 ∧ (0 : Int) < 2 ^ bq := by
              have h1 : 2 ^ bq < 2 ^ 32 := Nat.pow_lt_pow_right (by omega) hbq32
              have h2 : 0 < 2 ^ bq := Nat.two_pow_pos bq
              have e : (2 : Int) ^ bq = ((2 ^ bq : Nat) : Int) := by push_cast; rfl
              rw [e]; omega
            have hwp2 : wrap64 ((2 : Int) ^ bq) = 2 ^ bq := IntWalk.wrap64_in _ (by omega)
            have hwp : IntKind.i64.wrap ((2 : Int) ^ bq) = 2 ^ bq := (IntWalk.i64_left _).trans hwp2
            have hxy := HYQ.out.symm
            have HP32 := Lib.hid hp32; clear hp32
            have c7 := RP6.out.1 7 _ rfl
            have c8 := RP6.out.1 8 _ rfl
            have c9 := RP6.out.1 9 _ rfl
            have hqp := RP6.out.2.2
            have Q3 := Lib.hid (fun W (h : Below W6.heap.size W6 W) => parse13_any yq dst _ Y W (by omega) (HSY6.out.below h))
            rw [HE4.out] at Q3
            generalize sgP yq dst Y = F at Q3
            obtain ⟨f0, f1, f2, f3, f4, f5, fD⟩ := F
            dsimp only at Q3
            go_cut [12] (fun e12 wx => e12 = .int .i64 8 ∧ Below W6.heap.size W6 wx)
            case first =>
              as_aux_lemma =>
                have HK := Lib.hid (show ∀ W' W'' : World, (fun W : World => Below W6.heap.size W6 W ∧ W.cell? ⟨wr.heap.size, 7, none⟩ = some (.int .i64 src) ∧ W.cell? ⟨wr.heap.size, 8, none⟩ = some (.int .i64 dst) ∧ W.cell? ⟨wr.heap.size, 9, none⟩ = some (.slice ao3 X.length cap3)) W' → Below W'.heap.size W' W'' → (fun W : World => Below W6.heap.size W6 W ∧ W.cell? ⟨wr.heap.size, 7, none⟩ = some (.int .i64 src) ∧ W.cell? ⟨wr.heap.size, 8, none⟩ = some (.int .i64 dst) ∧ W.cell? ⟨wr.heap.size, 9, none⟩ = some (.slice ao3 X.length cap3)) W'' from fun W' W'' h hb => ⟨h.1.trans (hb.mono h.1.size), (hb.cell (p := ⟨wr.heap.size, 7, none⟩) (Nat.lt_of_lt_of_le hqp h.1.size)).trans h.2.1, (hb.cell (p := ⟨wr.heap.size, 8, none⟩) (Nat.lt_of_lt_of_le hqp h.1.size)).trans h.2.2.1, (hb.cell (p := ⟨wr.heap.size, 9, none⟩) (Nat.lt_of_lt_of_le hqp h.1.size)).trans h.2.2.2⟩)
                have s0 : (fun W : World => Below W6.heap.size W6 W ∧ W.cell? ⟨wr.heap.size, 7, none⟩ = some (.int .i64 src) ∧ W.cell? ⟨wr.heap.size, 8, none⟩ = some (.int .i64 dst) ∧ W.cell? ⟨wr.heap.size, 9, none⟩ = some (.slice ao3 X.length cap3)) W6 := ⟨Below.refl _ _, c7, c8, c9⟩
                have s2 := HK.out W6 W6.drew s0 ((Below.refl _ _).drew)
                have s2a := HK.out W6 (W6.alloc (.cells #[.int .i64 0, .int .i64 0, .int .i64 0, .int .i64 0, .int .i64 0, .int .i64 0, .slice none 0 0] 44)).drew s0 (((Below.refl _ _).alloc (Nat.le_refl _) _).drew)
                have HKS := Lib.hid (show ∀ (W' : World) (a : Addr) (u : Value), (fun W : World => Below W6.heap.size W6 W ∧ W.cell? ⟨wr.heap.size, 7, none⟩ = some (.int .i64 src) ∧ W.cell? ⟨wr.heap.size, 8, none⟩ = some (.int .i64 dst) ∧ W.cell? ⟨wr.heap.size, 9, none⟩ = some (.slice ao3 X.length cap3)) W' → W6.heap.size ≤ a.block → (fun W : World => Below W6.heap.size W6 W ∧ W.cell? ⟨wr.heap.size, 7, none⟩ = some (.int .i64 src) ∧ W.cell? ⟨wr.heap.size, 8, none⟩ = some (.int .i64 dst) ∧ W.cell? ⟨wr.heap.size, 9, none⟩ = some (.slice ao3 X.length cap3)) (W'.setCell a u) from fun W' a u h ha => by
                  have hb : Below W6.heap.size W' (W'.setCell a u) := (Below.refl _ _).setCell ha u
                  exact ⟨h.1.trans hb, (hb.cell (p := ⟨wr.heap.size, 7, none⟩) hqp).trans h.2.1, (hb.cell (p := ⟨wr.heap.size, 8, none⟩) hqp).trans h.2.2.1, (hb.cell (p := ⟨wr.heap.size, 9, none⟩) hqp).trans h.2.2.2⟩)
                dsimp only at s0 s2 s2a HK HKS
                have HKA := Lib.hid (show ∀ (W' : World) (o : Obj), (Below W6.heap.size W6 W' ∧ W'.cell? ⟨wr.heap.size, 7, none⟩ = some (.int .i64 src) ∧ W'.cell? ⟨wr.heap.size, 8, none⟩ = some (.int .i64 dst) ∧ W'.cell? ⟨wr.heap.size, 9, none⟩ = some (.slice ao3 X.length cap3)) → (Below W6.heap.size W6 (W'.alloc o) ∧ (W'.alloc o).cell? ⟨wr.heap.size, 7, none⟩ = some (.int .i64 src) ∧ (W'.alloc o).cell? ⟨wr.heap.size, 8, none⟩ = some (.int .i64 dst) ∧ (W'.alloc o).cell? ⟨wr.heap.size, 9, none⟩ = some (.slice ao3 X.length cap3)) from fun W' o h => HK.out _ _ h ((Below.refl _ _).alloc (Nat.le_refl _) _))
                have QH := Lib.hid (fun (W : World) (h : Below W6.heap.size W6 W ∧ W.cell? ⟨wr.heap.size, 7, none⟩ = some (.int .i64 src) ∧ W.cell? ⟨wr.heap.size, 8, none⟩ = some (.int .i64 dst) ∧ W.cell? ⟨wr.heap.size, 9, none⟩ = some (.slice ao3 X.length cap3)) => Q3.out W h.1)
                clear s0 RT6 RS6 RP6 HSs6 HSt6 HFL HE1 HE2 HE4 HP1 HP2 HS HX HSY HSY6 HL2 HL6 HB6 Q3 M0 HYQ HP32
                go_region_held3 (fun W => Below W6.heap.size W6 W ∧ W.cell? ⟨wr.heap.size, 7, none⟩ = some (.int .i64 src) ∧ W.cell? ⟨wr.heap.size, 8, none⟩ = some (.int .i64 dst) ∧ W.cell? ⟨wr.heap.size, 9, none⟩ = some (.slice ao3 X.length cap3)) (first | (with_reducible assumption) | (with_reducible exact HKA.out _ _ (by with_reducible assumption)) | ((with_reducible refine HKS.out _ _ _ ?_ ?_); (repeat' (with_reducible refine HKS.out _ _ _ ?_ ?_)); (all_goals first | (with_reducible assumption) | (with_reducible exact hs7) | (with_reducible exact Nat.le_refl _))) | (fail "KEEP")) (first | (((with_reducible refine (QH.out _ (by with_reducible assumption)).mono ?_); rintro e w7 ⟨v7, rfl, hb7, ho7⟩; obtain ⟨ao7, cap7, rfl⟩ := own_slice ho7; have s7 := HK.out _ _ (by with_reducible assumption) hb7; have hB7 := s7.1; have hs7 := hB7.size; (first | (have zr5 := ((rowAt_sg W6).below ((Below.refl _ _).drew)).below hb7; have zc0 := zr5.1 0 _ rfl; have zc1 := zr5.1 1 _ rfl; have zc2 := zr5.1 2 _ rfl; have zc3 := zr5.1 3 _ rfl; have zc4 := zr5.1 4 _ rfl; have zc5 := zr5.1 5 _ rfl; have zc6 := zr5.1 6 _ rfl; have zf := zr5.2.1; clear zr5) | skip))) | (fail "ARM"))
                all_goals (go_wp2_with fail; go_meet)
                all_goals exact ⟨rfl, (‹Below W6.heap.size W6 _ ∧ _›).1⟩
            case rest =>
              obtain ⟨rfl, hbc⟩ := hcut
              as_aux_lemma =>
                have RTc := Lib.hid (RT6.out.below hbc); have RSc := Lib.hid (RS6.out.below hbc); have RPc := Lib.hid (RP6.out.below hbc)
                have HSsc := Lib.hid (HSs6.out.below hbc); have HStc := Lib.hid (HSt6.out.below hbc); have HSYc := Lib.hid (HSY6.out.below hbc)
                have HLc := Lib.hid (HL6.out.trans (hbc.mono HL6.out.size))
                have HSDc := Lib.hid (HS.out.below HLc.out)
                clear hbc RT6 RS6 RP6 HSs6 HSt6 HSY6 HL6 HB6 HL2 HSY c7 c8 c9 Q3 hxy hwp hwp2 hr8 hr9 hwb HYQ HP32 HE1 HE2 HE4 HP1 HP2 hqp
                have M8 := Lib.hid (fun W => num13_any 8 W)
                have s0 := RSc.out.1 0 _ rfl
                have s1 := RSc.out.1 1 _ rfl
                have s2 := RSc.out.1 2 _ rfl
                have s3 := RSc.out.1 3 _ rfl
                have s4 := RSc.out.1 4 _ rfl
                have s5 := RSc.out.1 5 _ rfl
                have s6 := RSc.out.1 6 _ rfl
                have c0 := RPc.out.1 0 _ rfl
                have c1 := RPc.out.1 1 _ rfl
                have c2 := RPc.out.1 2 _ rfl
                have c3 := RPc.out.1 3 _ rfl
                have c4 := RPc.out.1 4 _ rfl
                have c5 := RPc.out.1 5 _ rfl
                have c6 := RPc.out.1 6 _ rfl
                go_wp2_with fail
                (with_reducible refine (M0.out _).mono ?_)
                rintro e w7 ⟨rfl, rfl⟩
                go_wp2_with fail
                refine (eqSeg_true sp dp sq ak fl wn _ _ D _ (by omega) HSsc.out HSDc.out).mono ?_
                rintro e w8 ⟨rfl, hb8⟩
                have RT8 := Lib.hid (RTc.out.below hb8); have RS8 := Lib.hid (RSc.out.below hb8); have RP8 := Lib.hid (RPc.out.below hb8)
                have HSs8 := Lib.hid (HSsc.out.below hb8); have HSt8 := Lib.hid (HStc.out.below hb8); have HSY8 := Lib.hid (HSYc.out.below hb8)
                have HL8 := Lib.hid (HLc.out.trans (hb8.mono HLc.out.size))
                clear hb8 RTc RSc RPc HSsc HStc HSYc HLc HSDc s0 s1 s2 s3 s4 s5 s6 c0 c1 c2 c3 c4 c5 c6
                have t0 := RT8.out.1 0 _ rfl
                have t1 := RT8.out.1 1 _ rfl
                have t2 := RT8.out.1 2 _ rfl
                have t3 := RT8.out.1 3 _ rfl
                have t4 := RT8.out.1 4 _ rfl
                have t5 := RT8.out.1 5 _ rfl
                have t6 := RT8.out.1 6 _ rfl
                have s0 := RS8.out.1 0 _ rfl
                have s1 := RS8.out.1 1 _ rfl
                have s2 := RS8.out.1 2 _ rfl
                have s3 := RS8.out.1 3 _ rfl
                have s4 := RS8.out.1 4 _ rfl
                have s5 := RS8.out.1 5 _ rfl
                have s6 := RS8.out.1 6 _ rfl
                go_wp2_with fail
                (with_reducible refine (M0.out _).mono ?_)
                rintro e w9 ⟨rfl, rfl⟩
                go_wp2_with fail
                refine (eqSeg_true sp dp sq ak fl wn _ _ D _ (by omega) HSt8.out HSs8.out).mono ?_
                rintro e w9 ⟨rfl, hb9⟩
                have RP9 := Lib.hid (RP8.out.below hb9)
                have HSY9 := Lib.hid (HSY8.out.below hb9)
                have HL9 := Lib.hid (HL8.out.trans (hb9.mono HL8.out.size))
                clear hb9 RT8 RS8 RP8 HSs8 HSt8 HSY8 HL8 t0 t1 t2 t3 t4 t5 t6 s0 s1 s2 s3 s4 s5 s6
                go_wp2_with fail
                (with_reducible refine (M8.out _).mono ?_)
                rintro e w10 ⟨rfl, rfl⟩
                clear M8 M0
                go_wp2_with fail
                go_loopw [13] (fun i wm => ∃ m : Nat, m ≤ 16000 ∧ i = .int .i64 m ∧ Below w9.heap.size w9 wm) (fun i _ => 8 * Y.length - (intOf i).toNat)
                case atStart => exact ⟨0, by omega, rfl, Below.refl _ _⟩
                case round =>
                  obtain ⟨m, hm2, rfl, hbm⟩ := hrel
                  by_cases hml : m < 8 * Y.length
                  · have hml2 : (m : Int) < 8 * (Y.length : Int) := by omega
                    have E1 := Lib.hid (copyBytes_any _ Y _ (by omega) (HSY9.out.below hbm))
                    have RPm := Lib.hid (RP9.out.below hbm)
                    go_wp2_with fail
                    (with_reducible refine E1.out.mono ?_)
                    rintro e w11 ⟨v11, rfl, hb11, ho11⟩
                    obtain ⟨g8, cap8, rfl, hg8, hgc8, hgm8, hO8⟩ := own_of ho11 hYne
                    obtain ⟨a8, ha8⟩ : ∃ a, m / 8 = a := ⟨_, rfl⟩
                    obtain ⟨b8, hb8x⟩ : ∃ a, m % 8 = a := ⟨_, rfl⟩
                    have ha82 : a8 < Y.length := by omega
                    have hb88 : b8 < 8 := by omega
                    have i0a : (0 : Int) ≤ (a8 : Int) := by omega
                    have i1a : (a8 : Int) < (Y.length : Int) := by omega
                    obtain ⟨x, hx, hcx, hx1⟩ := hO8.get a8 (by omega)
                    have f0 := hO8.free a8
                    obtain ⟨y, hy, hyx⟩ := flip_bit x b8 hb88
                    rw [show IntKind.wrap .u8 (2 ^ b8) = 2 ^ b8 % 256 from IntKind.wrap_u8 _] at hy
                    have HO8 := Lib.hid hO8; have HYX := Lib.hid hyx; have HX8 := Lib.hid hx; have HY8 := Lib.hid hy
                    have RP11 := Lib.hid (RPm.out.below hb11)
                    have HB11 := Lib.hid (hbm.trans (hb11.mono hbm.size))
                    have hbs := hb11.size
                    have hq8 : (m : Int).tdiv 8 = (a8 : Int) := by rw [Int.tdiv_eq_ediv_of_nonneg (by omega)]; omega
                    have hq9 : (m : Int) / 8 = (a8 : Int) := by omega
                    have hr8 : (m : Int).tmod 8 = (b8 : Int) := by rw [Int.tmod_eq_emod_of_nonneg (by omega)]; omega
                    have hr9 : (m : Int) % 8 = (b8 : Int) := by omega
                    have hwa : IntKind.i64.wrap (a8 : Int) = (a8 : Int) := (IntWalk.i64_left _).trans (IntWalk.wrap64_in _ (by omega))
                    have hwb : IntKind.i64.wrap (b8 : Int) = (b8 : Int) := (IntWalk.i64_left _).trans (IntWalk.wrap64_in _ (by omega))
                    have hgw : w9.heap.size ≤ g8 := Nat.le_trans hbm.size hg8
                    clear hO8 hyx hx hy ho11 hb11 E1 ha8 hb8x RPm
                    go_wp2_with fail
                    go_cut [] (fun wx => Own wx g8 (Y.set a8 y) ∧ Below w9.heap.size w9 wx)
                    case first =>
                      go_still_tail 13, (by kernel_rfl)
                      change wpList _ _ _ _ _ w11.drew
                      have hO9 : Own w11.drew g8 Y := HO8.out.drew
                      have f9 : w11.drew.frozen? ⟨g8, a8, none⟩ = false := hO9.free a8
                      have hc9 : w11.drew.cell? ⟨g8, a8, none⟩ = some (.int .u8 (x.toNat : Int)) := by
                        obtain ⟨x', hx', hcx', -⟩ := hO9.get a8 (by omega)
                        rw [HX8.out] at hx'
                        obtain rfl : x = x' := by simpa using hx'
                        exact hcx'
                      have hB9 : Below w9.heap.size w9 w11.drew := HB11.out.drew
                      clear f0 hcx
                      generalize w11.drew = w12 at hO9 f9 hc9 hB9 ⊢
                      have HO9 := Lib.hid hO9; clear hO9
                      go_wp2
                      all_goals (go_meet; rw [← HY8.out]; exact ⟨HO9.out.set a8 y, hB9.setCell (by exact hgw) _⟩)
                    case rest =>
                      obtain ⟨hOc, hBc⟩ := hcut
                      have hSc : Sl wc (.slice (some ⟨g8, 0, none⟩) Y.length cap8) (Y.set a8 y) := by
                        have hl : (Y.set a8 y).length = Y.length := by simp
                        rw [← hl]; exact hOc.sl cap8 (by omega) hgm8
                      have hEn := HFL.out a8 b8 x y hb88 HX8.out HYX.out
                      have F1 := Lib.hid (parse13_any src dst _ (Y.set a8 y) wc (by simp only [List.length_set]; omega) hSc)
                      generalize sgE src dst (Y.set a8 y) = E at F1 hEn
                      generalize sgP src dst (Y.set a8 y) = F at F1
                      obtain ⟨f0', f1', f2', f3', f4', f5', fD'⟩ := F
                      dsimp only at F1
                      have hE0 : (E == 0) = false := by simpa using hEn
                      have F2 := Lib.hid (fun W => num13_any E W)
                      have RPx := RP9.out.below hBc
                      have c7 := RPx.1 7 _ rfl; have c8 := RPx.1 8 _ rfl
                      clear hOc hSc hEn f0 hcx hwa hwb hq8 hq9 hr8 hr9 i0a i1a RPx
                      go_wp2_with (first | ((with_reducible refine F1.out.mono ?_); rintro e w13 ⟨v13, rfl, hb13, ho13⟩; obtain ⟨ao13, cap13, rfl⟩ := own_slice ho13) | ((with_reducible refine (F2.out _).mono ?_); rintro e w14 ⟨rfl, rfl⟩))
                      go_roundw
                      case rel => exact ⟨m + 1 + Y.length / 4, by omega, by rw [show ((m + 1 + Y.length / 4 : Nat) : Int) = (m : Int) + 1 + (Y.length : Int) / 4 by omega], (hBc.trans (hb13.mono hBc.size)).alloc (Nat.le_trans hBc.size hb13.size) _⟩
                      case measure => simp [intOf]; omega
                  · go_wp2
                    go_roundw
                    case rel => exact ⟨k + 1, by omega, by go_num, HL9.out.trans (hbm.mono HL9.out.size)⟩
                    case measure => simp [intOf]; omega
          · go_wp2_with fail
            refine (segBytes_bad src dst sp dp sq ak fl wn ao2 D.length cap2 w1 (by unfold maxLen at hcm2; omega) (by first | exact hok | (unfold sgOk at hok; exact hok) | (unfold sgOk at hok; simp only [] at hok; omega))).mono ?_
            rintro e w3 ⟨rfl, hb3⟩
            have HL3 := Lib.hid (HL1.out.trans (hb3.mono HL1.out.size))
            clear hb3
            go_wp2_with fail
            refine (num13_any 1 _).mono ?_
            rintro e w4 ⟨rfl, rfl⟩
            go_wp2
            go_roundw
            case rel => exact ⟨k + 1, by omega, by go_num, HL3.out⟩
            case measure => simp [intOf]; omega
        · refine (heavy13_any sp dp sq ak fl wn src dst ao2 ao3 D.length X.length cap2 cap3 _ true (by
            by_cases q : (D.length : Int) > 4000
            · simp [q]
            · have q2 : (X.length : Int) > 4000 := by omega
              simp [q2])).mono ?_
          rintro e w1 ⟨rfl, hb1⟩
          go_wp2
          go_ret
          exact ⟨rfl, HLW.out.trans (hb1.mono hszW)⟩
      · go_wp2_with fail
        refine (wakes13_any _).mono ?_
        rintro e w1 ⟨rfl, hb1⟩
        go_wp2
        go_ret
        exact ⟨rfl, hbl.trans (hb1.mono hbl.size)⟩
    · go_wp2_with fail
      refine (wakes13_any _).mono ?_
      rintro e w1 ⟨rfl, hb1⟩
      go_wp2
      go_ret
      exact ⟨rfl, hbl.trans (hb1.mono hbl.size)⟩
end Go.Proofs.Ytpiiialmnaeidaa
