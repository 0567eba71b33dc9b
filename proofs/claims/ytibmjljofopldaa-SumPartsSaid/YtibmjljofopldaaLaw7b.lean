/-
  The law SumParts: whatever is asked, sums of parts of even length go on, pairs may change places, and with the sum in its place all is 0. No condition.
-/
import Derived.Test.YtibmjljofopldaaLaw7a
import Derived.Test.YtibmjljofopldaaWithin
import Derived.StillTailTactics
import Derived.RegionTactic
namespace Go.Proofs.Ytibmjljofopldaa
open Go.RowKit
theorem pairs_split : ∀ (j : Nat) (l : List UInt8), 2 * j ≤ l.length → pairs l = pairs (l.take (2 * j)) + pairs (l.drop (2 * j))
  | 0, l, _ => by simp [pairs]
  | j + 1, a :: b :: l, h => by
    have := pairs_split j l (by simp at h; omega)
    have e : 2 * (j + 1) = 2 * j + 1 + 1 := by omega
    rw [e]; simp only [List.take_succ_cons, List.drop_succ_cons, pairs]; omega
  | j + 1, [a], h => by simp at h; omega
  | j + 1, [], h => by simp at h
theorem pairs_at (j : Nat) (l : List UInt8) (x y : UInt8) (hx : l[2 * j]? = some x) (hy : l[2 * j + 1]? = some y) :
    pairs l = pairs (l.take (2 * j)) + (x.toNat : Int) * 256 + y.toNat + pairs (l.drop (2 * j + 2)) := by
  have hl : 2 * j + 1 < l.length := by
    rcases Nat.lt_or_ge (2 * j + 1) l.length with h | h
    · exact h
    · rw [List.getElem?_eq_none h] at hy; simp at hy
  rw [pairs_split j l (by omega), pairs_two l (2 * j) x y hx hy]; omega
theorem pairs_set (j : Nat) (l : List UInt8) (x y : UInt8) (hl : 2 * j + 1 < l.length) :
    pairs ((l.set (2 * j) x).set (2 * j + 1) y) = pairs (l.take (2 * j)) + (x.toNat : Int) * 256 + y.toNat + pairs (l.drop (2 * j + 2)) := by
  rw [pairs_at j _ x y (by rw [List.getElem?_set_ne (by omega), List.getElem?_set_self (by omega)]) (by rw [List.getElem?_set_self (by simp; omega)])]
  rw [List.take_set_of_le (by omega), List.take_set_of_le (by omega), List.drop_set_of_lt (by omega), List.drop_set_of_lt (by omega)]
theorem pairs_swap (l : List UInt8) (b0 b1 b2 b3 : UInt8) (h0 : l[0]? = some b0) (h1 : l[1]? = some b1) (h2 : l[2]? = some b2) (h3 : l[3]? = some b3) :
    pairs ((((l.set 0 b2).set 1 b3).set 2 b0).set 3 b1) = pairs l := by
  match l, h0, h1, h2, h3 with
  | a :: b :: c :: d :: r, h0, h1, h2, h3 =>
    simp at h0 h1 h2 h3
    subst h0 h1 h2 h3
    simp [pairs]; omega
theorem fold_in (p n : Int) (hp : 0 ≤ p) (hn : n = 65535 - foldv p) : foldv (p + n) = 65535 := by
  unfold foldv at *; split at hn <;> split <;> omega
set_option maxRecDepth 100000 in
set_option maxHeartbeats 4000000 in
theorem sumParts_any (v : Value) (L : List Ask7) (w : World) (hv : Asks7 w v L) :
    Calls Try.prog 7 #[v] w fun e w' => e = .returned (.bool true) ∧ Below w.heap.size w w' := by
  obtain ⟨ao, cap, rfl, hlen, hB⟩ := hv
  have HB := Lib.hid hB; clear hB
  go_enter Try.func7, Try.ntmps7
  go_wp2
  go_loopw [3] (fun i wr => ∃ k : Nat, k ≤ L.length ∧ i = .int .i64 k ∧ Below w.heap.size w wr) (fun i _ => L.length - (intOf i).toNat)
  case atStart => exact ⟨0, by omega, rfl, Below.refl _ _⟩
  case round =>
    obtain ⟨k, hk, rfl, hbl⟩ := hrel
    by_cases hlt : k < L.length
    · by_cases h20 : k < 20
      · obtain ⟨b, off, rfl, hbw, hBB⟩ := HB.out (by intro h; simp [h] at hlt)
        obtain ⟨⟨S, B, N⟩, hq⟩ : ∃ q, L[k]? = some q := ⟨_, List.getElem?_eq_getElem hlt⟩
        obtain ⟨-, ⟨vb, hc1, hS⟩, hc2, -, -⟩ := hBB k _ hq
        clear hBB hq
        dsimp only at hc1 hS hc2
        have hd1 := (hbl.cell (p := ⟨b, off + k * 3 + 1, none⟩) hbw).trans hc1
        have hd2 := (hbl.cell (p := ⟨b, off + k * 3 + 2, none⟩) hbw).trans hc2
        have hsz := hbl.size
        have HS := Lib.hid (hS.below hbl)
        have HS0 := Lib.hid hS
        clear hc1 hc2
        obtain ⟨ao2, cap2, rfl, hcl2, hcm2, -, hne2⟩ := id hS
        clear hS
        by_cases hB4 : 4 ≤ B.length
        · by_cases h3 : B.length ≤ 3000
          · obtain ⟨b2, off2, rfl, -, -⟩ := hne2 (by intro h; simp [h] at hB4)
            clear hne2
            have hwb := within_bd N ((B.length : Int) / 2) (by omega)
            obtain ⟨j, hj⟩ : ∃ j : Nat, within N ((B.length : Int) / 2) = j := Int.eq_ofNat_of_zero_le hwb.1
            have hjl : j * 2 + 2 ≤ B.length := by omega
            have S1 := Lib.hid (HS.out.prefix (j * 2) (by omega))
            have S2 := Lib.hid (HS.out.suffix (j * 2) (by omega))
            have hf1 : sumv (sumv 0 (B.take (j * 2))) (B.drop (j * 2)) = sumv 0 B := by
              have e1 := foldv_add (0 + pairs (B.take (j * 2))) (pairs (B.drop (j * 2))) (by have := pairs_nonneg (B.take (j * 2)); omega) (pairs_nonneg _)
              unfold sumv
              rw [e1, pairs_split j B (by omega), Nat.mul_comm j 2]; congr 1; omega
            have hn1 : (sumv (sumv 0 (B.take (j * 2))) (B.drop (j * 2)) != sumv 0 B) = false := by rw [hf1]; simp
            have hbd := foldv_bd (0 + pairs (B.take (j * 2)))
            have hb1 : 0 ≤ sumv 0 (B.take (j * 2)) := hbd.1
            have hb2 : sumv 0 (B.take (j * 2)) ≤ 65535 := hbd.2
            clear hbd hf1
            have A1 := Lib.hid (fun n => add_any 0 _ (B.take (j * 2)) _ (by omega) (by omega) (by rw [List.length_take]; omega) (S1.out.drewN n))
            have A2 := Lib.hid (fun n => add_any (sumv 0 (B.take (j * 2))) _ (B.drop (j * 2)) _ hb1 hb2 (by rw [List.length_drop]; omega) (S2.out.drewN n))
            have A3 := Lib.hid (fun n => add_any 0 _ B _ (by omega) (by omega) (by omega) (HS.out.drewN n))
            go_wp2_with fail
            refine (within_any _ _ _ (by omega) (by omega)).mono ?_
            rintro e w' ⟨rfl, rfl⟩
            rw [hj]
            clear hj hwb
            go_wp2_with fail
            go_quiet (first
              | (with_reducible exact Calls.quiet_of (A1.out _))
              | (with_reducible exact Calls.quiet_of (A2.out _))
              | (with_reducible exact Calls.quiet_of (A3.out _)))
            clear A1 A2 A3 S1 S2 hb1 hb2
            go_wp2_with fail
            refine (copyBytes_any _ B _ (by omega) (HS.out.drewN _)).mono ?_
            rintro e w1 ⟨vc, rfl, hc1, hown⟩
            obtain ⟨g, cap3, rfl, hg, hgc, hgm, hO⟩ := own_of hown (by intro h; simp [h] at hB4)
            have hbl1 : Below w.heap.size w w1 := (bdrew hbl _).trans (hc1.mono (by simpa using hsz))
            have hgw : w.heap.size ≤ g := by simp at hg; omega
            clear hown hc1 HS hd1 hd2 hbl
            obtain ⟨x0, hx0, hc0, hl0⟩ := hO.get 0 (by omega)
            obtain ⟨x1, hx1, hc1, hl1⟩ := hO.get 1 (by omega)
            obtain ⟨x2, hx2, hc2, hl2⟩ := hO.get 2 (by omega)
            obtain ⟨x3, hx3, hc3, hl3⟩ := hO.get 3 (by omega)
            have hps := pairs_swap B x0 x1 x2 x3 hx0 hx1 hx2 hx3
            clear hx0 hx1 hx2 hx3
            have f0 := hO.free 0
            have f1 := hO.free 1
            have f2 := hO.free 2
            have f3 := hO.free 3
            have HO := Lib.hid hO; clear hO
            have HP := Lib.hid hps; clear hps
            go_wp2_with fail
            go_region
            go_wp2_with fail
            refine calls_gen (fun W => Own W g ((((B.set 0 x2).set 1 x3).set 2 x0).set 3 x1) ∧ Below w.heap.size w W) ⟨Own.drew ((((HO.out.set 0 x2).set 1 x3).set 2 x0).set 3 x1), Below.drew ((((hbl1.setCell (by exact hgw) _).setCell (by exact hgw) _).setCell (by exact hgw) _).setCell (by exact hgw) _)⟩ ?_
            rintro W3 ⟨hO3, hbl3⟩
            obtain ⟨X, hX⟩ : ∃ X, X = (((B.set 0 x2).set 1 x3).set 2 x0).set 3 x1 := ⟨_, rfl⟩
            rw [← hX] at hO3
            have hXl : X.length = B.length := by rw [hX]; simp
            have HP2 : Hid (pairs X = pairs B) := by rw [hX]; exact HP.out
            have HXL := Lib.hid hXl
            clear hX HP HO hbl1 hc0 hc1 hc2 hc3 hl0 hl1 hl2 hl3 f0 f1 f2 f3
            have hS3 : Sl W3 (.slice (some ⟨g, 0, none⟩) B.length cap3) X := by rw [← hXl]; exact hO3.sl cap3 (by omega) hgm
            refine (check_any _ X _ (by omega) hS3).mono ?_
            rintro e w4 ⟨rfl, m4, rfl⟩
            go_wp2_with fail
            refine (check_any _ B _ (by omega) (HS0.out.below (bdrew hbl3 _))).mono ?_
            rintro e w4 ⟨rfl, m5, rfl⟩
            have hn : (65535 - sumv 0 X != 65535 - sumv 0 B) = false := by unfold sumv; rw [HP2.out]; simp
            clear hS3
            obtain ⟨y0, hy0, hc0, hl0⟩ := hO3.get (j * 2) (by omega)
            obtain ⟨y1, hy1, hc1, hl1⟩ := hO3.get (j * 2 + 1) (by omega)
            have f0 := hO3.free (j * 2)
            have f1 := hO3.free (j * 2 + 1)
            have HO := Lib.hid hO3; clear hO3 hy0 hy1
            clear hXl
            go_wp2_with fail
            refine calls_gen (fun W => Own W g ((X.set (j * 2) 0).set (j * 2 + 1) 0) ∧ Below w.heap.size w W) ⟨((HO.out.drewN _).set (j * 2) 0).set (j * 2 + 1) 0, ((bdrew hbl3 _).setCell (by exact hgw) _).setCell (by exact hgw) _⟩ ?_
            rintro W5 ⟨hO5, hbl5⟩
            obtain ⟨Y, hY⟩ : ∃ Y, Y = (X.set (j * 2) 0).set (j * 2 + 1) 0 := ⟨_, rfl⟩
            rw [← hY] at hO5
            have hYl : Y.length = B.length := by rw [hY]; simp [HXL.out]
            have hS5 : Sl W5 (.slice (some ⟨g, 0, none⟩) B.length cap3) Y := by rw [← hYl]; exact hO5.sl cap3 (by omega) hgm
            have hpy : pairs Y = pairs (X.take (2 * j)) + pairs (X.drop (2 * j + 2)) := by
              rw [hY, Nat.mul_comm j 2, pairs_set j X 0 0 (by rw [HXL.out]; omega)]; simp
            have hpz : ∀ a b : UInt8, pairs ((Y.set (j * 2) a).set (j * 2 + 1) b) = pairs Y + (a.toNat : Int) * 256 + b.toNat := by
              intro a b
              rw [Nat.mul_comm j 2, pairs_set j Y a b (by rw [hYl]; omega), hpy]
              have e1 : Y.take (2 * j) = X.take (2 * j) := by rw [hY, List.take_set_of_le (by omega), List.take_set_of_le (by omega)]
              have e2 : Y.drop (2 * j + 2) = X.drop (2 * j + 2) := by rw [hY, List.drop_set_of_lt (by omega), List.drop_set_of_lt (by omega)]
              rw [e1, e2]; omega
            have HPZ := Lib.hid hpz
            have HYL := Lib.hid hYl
            clear hpz hpy hY hYl f0 f1 hc0 hc1 hl0 hl1 HO hbl3
            refine (check_any _ Y _ (by rw [HYL.out]; omega) hS5).mono ?_
            rintro e w6 ⟨rfl, m6, rfl⟩
            obtain ⟨n, hn⟩ : ∃ n, n = 65535 - sumv 0 Y := ⟨_, rfl⟩
            have hnb := foldv_bd (0 + pairs Y)
            have hn0 : 0 ≤ n := by rw [hn]; unfold sumv; omega
            have hn1 : n ≤ 65535 := by rw [hn]; unfold sumv; omega
            rw [← hn]
            have HN := Lib.hid hn
            clear hn hnb hS5
            obtain ⟨y0, hy0, hc0, hl0⟩ := hO5.get (j * 2) (by rw [HYL.out]; omega)
            obtain ⟨y1, hy1, hc1, hl1⟩ := hO5.get (j * 2 + 1) (by rw [HYL.out]; omega)
            have f0 := hO5.free (j * 2)
            have f1 := hO5.free (j * 2 + 1)
            have HO := Lib.hid hO5; clear hO5 hy0 hy1
            go_wp2_with fail
            obtain ⟨a, ha⟩ : ∃ a : UInt8, (a.toNat : Int) = n / 256 := ⟨UInt8.ofNat (n / 256).toNat, by simp only [UInt8.toNat_ofNat']; omega⟩
            obtain ⟨c, hc⟩ : ∃ c : UInt8, (c.toNat : Int) = n % 256 := ⟨UInt8.ofNat (n % 256).toNat, by simp only [UInt8.toNat_ofNat']; omega⟩
            rw [← ha, ← hc]
            refine calls_gen (fun W => Own W g ((Y.set (j * 2) a).set (j * 2 + 1) c) ∧ Below w.heap.size w W) ⟨((HO.out.drewN _).set (j * 2) a).set (j * 2 + 1) c, ((bdrew hbl5 _).setCell (by exact hgw) _).setCell (by exact hgw) _⟩ ?_
            rintro W7 ⟨hO7, hbl7⟩
            have hZ : sumv 0 ((Y.set (j * 2) a).set (j * 2 + 1) c) = 65535 := by
              unfold sumv
              rw [HPZ.out a c, show 0 + (pairs Y + (a.toNat : Int) * 256 + c.toNat) = (0 + pairs Y) + n from by omega]
              exact fold_in _ _ (by have := pairs_nonneg Y; omega) HN.out
            have hS7 : Sl W7 (.slice (some ⟨g, 0, none⟩) B.length cap3) ((Y.set (j * 2) a).set (j * 2 + 1) c) := by
              have hl : ((Y.set (j * 2) a).set (j * 2 + 1) c).length = B.length := by simp [HYL.out]
              rw [← hl]; exact hO7.sl cap3 (by omega) hgm
            clear ha hc hc0 hc1 hl0 hl1 f0 f1 HO hbl5
            refine (check_any _ _ _ (by simp only [List.length_set]; rw [HYL.out]; omega) hS7).mono ?_
            rintro e w8 ⟨rfl, m8, rfl⟩
            rw [hZ]
            clear hS7 hZ hO7
            go_wp2
            go_roundw
            case rel => exact ⟨k + 1, by omega, by go_num, bdrew hbl7 _⟩
            case measure => simp [intOf]; omega
          · go_wp2
            go_roundw
            case rel => exact ⟨k + 1, by omega, by go_num, hbl⟩
            case measure => simp [intOf]; omega
        · go_wp2
          go_roundw
          case rel => exact ⟨k + 1, by omega, by go_num, hbl⟩
          case measure => simp [intOf]; omega
      · go_wp2_with fail
        refine (wakes7_any _).mono ?_
        rintro e w1 ⟨rfl, hb1⟩
        go_wp2
        go_ret
        exact ⟨rfl, hbl.trans (hb1.mono hbl.size)⟩
    · go_wp2_with fail
      refine (wakes7_any _).mono ?_
      rintro e w1 ⟨rfl, hb1⟩
      go_wp2
      go_ret
      exact ⟨rfl, hbl.trans (hb1.mono hbl.size)⟩
theorem sumParts_walk (W : World) (v : Value) (h : Rd Try.prog W 59 [v]) :
    Calls Try.prog 7 #[v] W fun e W' => e = .returned (.bool true) ∧ Below W.heap.size W W' := by
  obtain ⟨L, hL⟩ := asks7_of W v h
  exact sumParts_any v L W hL
namespace sumParts
open Go.ChangeShapes Go.WideShapes Go.ChangeAt
theorem own : ownKnob Try.prog.godebug = none := by kernel_rfl
theorem laidOut : laidOutB Try.prog = true := by kernel_rfl
set_option maxRecDepth 100000 in
theorem lifted (os : Os) (started : os.Started) (H : Type) (enc : TypeId × Value → H) :
    ReturnsInHanded {} Try.checked os 7 .any (Rows.sumPartsSpec.pre6 enc Try.prog Try.f7 Rows.sumPartsRow.domain false) (Rows.sumPartsSpec.post enc Try.prog Try.f7 false true false false) := by
  refine returnsInHanded_of_change (C := Try.checked) own started (by kernel_rfl) Try.func7
    (ChangeSpec.witness6 (enc := enc) (C := Try.checked) false ⟨#[], #[.slice none 0 0], []⟩ 12 (by kernel_rfl) (by kernel_rfl) (by kernel_rfl) (by kernel_rfl)) ?_
  intro W base args ds gs before hval0 hW _ _
  have hval : ∀ (j : Nat) t v, Try.f7.params[j]? = some t → args[j]? = some v → Value.okWide Try.prog W .any base t v := hval0
  have hW' := hW
  obtain ⟨p, q, hA0, hV, rfl, hfz, hnd⟩ := hW
  have hA : DataW.TrodAll enc Try.prog W 0 (fun _ => true) true Try.f7.params.toList args.toList ds p := hA0
  rw [Try.params7] at hA hval
  obtain ⟨v0, vs0, d0, ds0, p0, q0, hargs, rfl, rfl, h0, r0⟩ := trodAll_cons hA
  obtain ⟨rfl, rfl, rfl⟩ := trodAll_nil r0
  obtain rfl : args = #[v0] := by cases args; simp_all
  obtain ⟨rfl, rfl⟩ := trodVars_none hV
  obtain ⟨a0, len0, cap0, rfl⟩ := okWide_slice Try.underlying59 (hval 0 59 v0 rfl rfl)
  have k0 := h0
  have lt0 : ∀ x ∈ p0, x.block < W.heap.size := by obtain ⟨m, hm⟩ := k0; exact DataW.trod_lt m _ _ _ hm
  have hrd : Rd Try.prog W 59 [.slice a0 len0 cap0] := by obtain ⟨fuel, hf⟩ := h0; exact ⟨H, enc, 0, _, true, fuel, _, hf⟩
  clear hA0 hval0
  refine (sumParts_walk W _ hrd : Calls Try.prog 7 _ W _).mono fun e W' ⟨he, bel⟩ => ?_
  subst he
  exact ⟨_, rfl, _, _, _, [], _, [], hW', trodAll_mk1 (shut_bool Try.underlying4 _), (trodAll_cons_mk (Below.trod laidOut (by kernel_rfl) (of_decide_eq_true (by kernel_rfl)) k0 bel lt0) trodAll_mk0), rfl, bel.frame _, fun h => by cases h⟩
theorem over : Rows.sumPartsRow.holds Try.pinned (OpenSpec.ofChange Rows.sumPartsSpec) :=
  OpenClaim.holds_of_wide 7 Try.f7 rfl rfl rfl rfl rfl rfl rfl ⟨rfl, rfl, rfl, rfl, rfl⟩ rfl rfl rfl rfl rfl (by kernel_rfl) Try.func7 (by kernel_rfl)
    (of_decide_eq_true (by kernel_rfl)) (by unfold Func.isWrapper; first | (rw [if_pos (by decide +kernel)]; kernel_rfl) | (rw [if_neg (by decide +kernel)]; exact ⟨rfl, rfl⟩))
    (fun os started H enc _ => lifted os started H enc)
/-- THE STATEMENT. -/
theorem proved : Rows.SumPartsSaid := over
end sumParts
-- CLAIM: SumParts sumParts.proved
end Go.Proofs.Ytibmjljofopldaa
