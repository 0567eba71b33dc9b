/-
  Pieces of a stream: the runs of a window.
-/
import Derived.Test.YtjgbiffgmafhmaaLtOReF
import Derived.Test.YtjgbiffgmafhmaaLtOClone
namespace Go.Proofs.Ytjgbiffgmafhmaa
open Go.RowKit
/-- Runs as parts. -/
def toP (next : Int) (q : Nat × List UInt8) : EP := ⟨addv next q.1, q.2⟩
/-- The run's slice of the window. -/
theorem win_slice {W : World} {q : Nat} {next : Int} {V : Win} (h : RowAt W q (winRow next V)) (hV : V.length = 2048) (f a : Nat) (hf : f ≤ a) (ha : a ≤ 2048) :
    Sl W (.slice (some ⟨q, 1 + f, none⟩) (a - f) (2048 - f)) (((V.drop f).take (a - f)).map byt) := by
  have hl : (((V.drop f).take (a - f)).map byt).length = a - f := by rw [List.length_map, List.length_take, List.length_drop, hV]; omega
  refine ⟨_, _, by rw [hl], by rw [hl]; omega, by unfold maxLen; omega, by simp, fun _ => ⟨q, 1 + f, rfl, h.2.2, fun i x hi => ?_⟩⟩
  rw [List.getElem?_map] at hi
  obtain ⟨y, hy, rfl⟩ := Option.map_eq_some_iff.1 hi
  rw [List.getElem?_take] at hy
  split at hy
  · rw [List.getElem?_drop] at hy
    have := h.cell (winRow_byte next hy)
    rw [show 1 + f + i = 1 + (f + i) by omega]
    exact this
  · cases hy
theorem sl_win (q f a : Nat) (hf : f ≤ a) (ha : a ≤ 2048) (h0 : f < 2048) (W : World) : (Instr.sliceAt 118 (.pointer (some ⟨q, 1, none⟩)) (some (.int .i64 (f : Int))) (some (.int .i64 (a : Int))) none).run Try.prog W = .ok (.slice (some ⟨q, 1 + f, none⟩) (a - f) (2048 - f)) W := by
  have hal : Try.prog.arrayLen 118 = 2048 := by kernel_rfl
  have hsz : (sizeOf (Try.prog.elem 118)).run Try.prog W = .ok 1 W := by kernel_rfl
  rw [run_sliceAt_array_lh (ht := by kernel_rfl) (h0 := by omega) (h1 := by omega) (h2 := by rw [hal]; omega), hsz, hal]
  unfold slicedAt
  simp only [Int.toNat_natCast, Result.andThen_ok]
  rw [if_neg (by omega), Nat.mul_one, show ((⟨q, 1, none⟩ : Addr).add f) = ⟨q, 1 + f, none⟩ by unfold Addr.add; split <;> simp_all]
/-- Memory of its own beside a list's. -/
def Apart (vt vp : Value) (PL : List (EP × Value)) : Prop := ∀ k, vt.ownBlock = some k → ¬ DBlk vp PL k
theorem Apart.nil (vt : Value) : Apart vt (.slice none 0 0) [] := fun k _ h => by
  rcases h with h | ⟨q, hq, -⟩
  · simp [Value.ownBlock] at h
  · simp at hq
theorem apart_snoc {w1 w2 w3 : World} {base n : Nat} {vt vp vp' d : Value} {xs : List Value} {e : TypeId} {sz : Nat} {PL : List (EP × Value)} {p : EP} (h : Apart vt vp PL) (ho : w1.ownsRow base e sz vt n xs) (hb : w1.heap.size ≤ w2.heap.size)
    (hd : ∀ k, d.ownBlock = some k → w1.heap.size ≤ k) (hg : Grew w2 w3 vp vp') : Apart vt vp' (PL ++ [(p, d)]) := by
  intro k hk hh
  have hlt := (blk_lt ho hk).2
  rcases hh with hh | ⟨q, hq, hh⟩
  · rcases hg.2 with h1 | ⟨k', h1, hle⟩
    · exact h k hk (.inl (h1.symm.trans hh))
    · rw [hh] at h1; injection h1 with h1; omega
  · rcases List.mem_append.1 hq with hq | hq
    · exact h k hk (.inr ⟨q, hq, hh⟩)
    · simp at hq; subst hq
      have := hd k hh; omega
set_option maxRecDepth 100000 in
set_option maxHeartbeats 8000000 in
theorem pieces_any (q : Nat) (next : Int) (W : Win) (w : World) (hW : W.length = 2048) (hq : RowAt w q (winRow next W)) :
    Calls Try.prog 52 #[.pointer (some ⟨q, 0, none⟩)] w fun e w' => ∃ vt vp PL, e = .returned (.tuple #[vt, vp]) ∧ PL.map Prod.fst = (partsL W 2048).map (toP next) ∧ DOwn KPart 58 w' w.heap.size vp PL ∧ w'.ownsRow w.heap.size 5 1 vt (toldN W) (((W.take (toldN W)).map byt).map B8) ∧ Apart vt vp PL ∧ Below w.heap.size w w' := by
  have HQ := Lib.hid hq
  obtain ⟨i0, hi, hz0, hz1, hz2⟩ := info_parts infoPart
  clear hq
  go_enter Try.func52, Try.ntmps52
  go_wp2
  go_loopw [2, 3, 4] (fun vt vp va wr => ∃ (at' : Nat) (t : List UInt8) (P : List (Nat × List UInt8)) (PL : List (EP × Value)), at' ≤ 2049 ∧ va = .int .i64 at' ∧ PcAt W at' t P ∧ PL.map Prod.fst = P.map (toP next) ∧ DOwn KPart 58 wr w.heap.size vp PL ∧ wr.ownsRow w.heap.size 5 1 vt t.length (t.map B8) ∧ Apart vt vp PL ∧ Below w.heap.size w wr) (fun _ _ i _ => 2049 - (intOf i).toNat)
  case atStart => exact ⟨0, [], [], [], by omega, rfl, .inl ⟨rfl, rfl, rfl⟩, rfl, DOwn.nil _ _ _ _, World.ownsRow_nil _ _ _ _, Apart.nil _, Below.refl _ _⟩
  case round =>
    obtain ⟨at', t, P, PL, hle, rfl, hpc, hPL, hown, hto, hap, hbl⟩ := hrel
    have HPC := Lib.hid hpc
    have HPL := Lib.hid hPL
    have HO := Lib.hid hown
    have HT := Lib.hid hto
    have HAP := Lib.hid hap
    have HW := Lib.hid hbl
    have HQR := Lib.hid (HQ.out.low hbl HQ.out.2.2)
    clear hpc hPL hown hto hap hbl
    by_cases hlt : at' < 2048
    · have hltz : (at' : Int) < 2048 := by omega
      go_wp2
      go_loopw [4] (fun va wx => ∃ a : Nat, at' ≤ a ∧ a ≤ 2048 ∧ va = .int .i64 a ∧ wx = wr ∧ ∀ j, at' ≤ j → j < a → ∃ x, W[j]? = some (some x)) (fun i _ => 2048 - (intOf i).toNat)
      case atStart => exact ⟨at', by omega, by omega, rfl, rfl, fun j h1 h2 => by omega⟩
      case round =>
        obtain ⟨a, ha1, ha2, rfl, rfl, hall⟩ := hrel
        have HALL := Lib.hid hall
        clear hall
        by_cases ha : a < 2048 ∧ W[a]? ≠ some none
        · obtain ⟨ha3, ha4⟩ := ha
          have haz : (a : Int) < 2048 := by omega
          obtain ⟨x, hx⟩ := some_of (by omega) ha4
          have tx := HQR.out.cell (winRow_there next hW hx)
          have HX := Lib.hid hx
          clear ha4 hx
          go_wp2
          go_roundw
          case rel => exact ⟨a + 1, by omega, by omega, by go_num, by first | rfl | trivial, fun j h1 h2 => by
            rcases Nat.lt_or_ge j a with h | h
            · exact HALL.out j h1 h
            · obtain rfl : j = a := by omega
              exact ⟨x, HX.out⟩⟩
          case measure => simp [intOf]; omega
        · have hend : a = 2048 ∨ W[a]? = some none := by
            by_cases h : a < 2048
            · exact .inr (Classical.byContradiction fun h2 => ha ⟨h, h2⟩)
            · exact .inl (by omega)
          have HPC2 := Lib.hid (pc_step hW HPC.out hlt ha1 ha2 HALL.out hend)
          have hsl := sl_win q at' a ha1 ha2 hlt
          obtain ⟨D, hD⟩ : ∃ D, ((W.drop at').take (a - at')).map byt = D := ⟨_, rfl⟩
          have hDl : D.length = a - at' := by rw [← hD, List.length_map, List.length_take, List.length_drop, hW]; omega
          have hsw := win_slice HQR.out hW at' a ha1 ha2
          rw [hD] at hsw HPC2
          have C1 := Lib.hid (clone_any _ D wr (by omega) hsw)
          obtain ⟨m, hm⟩ : ∃ m, a - at' = m := ⟨_, rfl⟩
          rw [hm] at hsl C1 hDl
          have HD := Lib.hid hDl
          have HM := Lib.hid hm
          clear ha hD hsw hDl hm HALL
          rcases hend with he | he
          · have tx : True := trivial
            have haz : ¬ (a : Int) < 2048 := by omega
            clear he
            clear tx
            go_wp2_with fail
            (with_reducible refine C1.out.mono ?_)
            rintro e w4 ⟨v4, rfl, hb4, ho4⟩
            rw [HD.out] at ho4
            obtain ⟨av4, cv4, rfl⟩ := own_slice ho4
            have HO4 := Lib.hid ho4
            have HB4 := Lib.hid hb4
            have HW4 := Lib.hid (HW.out.trans (hb4.mono HW.out.size))
            have HON := Lib.hid (HO.out.below hb4)
            have HTN := Lib.hid (below_own HT.out hb4)
            clear hb4 ho4 C1 hsl
            by_cases hm0 : m = 0
            · have hmz : ¬ (0 : Int) < (m : Int) := by omega
              have HFIN := Lib.hid (show PcAt W (a + 1) t P by
                have h := HPC2.out
                rw [if_neg (show ¬ (0 < at' ∧ at' < a) by have := HM.out; omega)] at h
                by_cases h0 : at' = 0
                · rw [if_pos h0] at h
                  have hD0 : D = [] := List.eq_nil_of_length_eq_zero (by rw [HD.out, hm0])
                  have ht0 : t = [] := by
                    rcases HPC.out with ⟨-, h1, -⟩ | ⟨h1, -⟩
                    · exact h1
                    · omega
                  rw [hD0, ← ht0] at h; exact h
                · rw [if_neg h0] at h; exact h)
              clear hm0
              go_wp2
              go_roundw
              case rel => exact ⟨a + 1, t, P, PL, by omega, by go_num, HFIN.out, HPL.out, HON.out, HTN.out, HAP.out, HW4.out⟩
              case measure => simp [intOf]; omega
            · have hmz : (0 : Int) < (m : Int) := by omega
              by_cases h0 : at' = 0
              · have h0b : ((at' : Int) == 0) = true := by simp; omega
                have HFIN := Lib.hid (show PcAt W (a + 1) D P by
                  have h := HPC2.out
                  rw [if_pos h0, if_neg (show ¬ (0 < at' ∧ at' < a) by omega)] at h
                  exact h)
                have HAN := Lib.hid (show Apart (.slice av4 m cv4) u3 PL from by
                  have hP : PL = [] := by
                    rcases HPC.out with ⟨-, -, h1⟩ | ⟨h1, -⟩
                    · have := HPL.out; rw [h1] at this; simpa using this
                    · omega
                  intro k hk hh
                  have h9 := (blk_lt HO4.out hk).1
                  rcases hh with hh | ⟨p, hp, -⟩
                  · have := (blk_lt HO.out.row hh).2; omega
                  · rw [hP] at hp; simp at hp)
                have HDO := Lib.hid (show w4.ownsRow w.heap.size 5 1 (.slice av4 m cv4) D.length (D.map B8) by rw [HD.out]; exact own_mono HO4.out HW.out.size)
                clear h0 hm0
                go_wp2
                go_roundw
                case rel => exact ⟨a + 1, D, P, PL, by omega, by go_num, HFIN.out, HPL.out, HON.out, HDO.out, HAN.out, HW4.out⟩
                case measure => simp [intOf]; omega
              · have h0b : ((at' : Int) == 0) = false := by simp; omega
                have HFIN := Lib.hid (show PcAt W (a + 1) t (P ++ [(at', D)]) by
                  have h := HPC2.out
                  rw [if_neg h0, if_pos (show 0 < at' ∧ at' < a by have := HM.out; omega)] at h
                  exact h)
                have hc0 : w4.cell? ⟨q, 0, none⟩ = some (.int .i64 next) := (HQ.out.low HW4.out HQ.out.2.2).cell rfl
                have A1 := Lib.hid (fun W => spanAdd_any next at' W)
                obtain ⟨am, cm, rfl⟩ := HO.out.slice
                obtain ⟨xs, hxs⟩ : ∃ xs, (PL.map (fun q => KPart.row q.1 q.2)).flatten = xs := ⟨_, rfl⟩
                have HXS := Lib.hid hxs
                obtain ⟨np, hnp⟩ : ∃ np, PL.length = np := ⟨_, rfl⟩
                have HNP := Lib.hid (show PL.length = np from hnp)
                have hnp9 : np ≤ 2048 := by
                  have h1 : PL.length = P.length := by have := congrArg List.length HPL.out; rwa [List.length_map, List.length_map] at this
                  have h2 : P.length ≤ 2048 := by
                    rcases HPC.out with ⟨-, -, h2⟩ | ⟨-, -, -, -, h2⟩
                    · rw [h2]; simp
                    · rw [h2]; have := parts_len W (min at' 2048); omega
                  omega
                have hoa := World.ownsRow.alloc HON.out.row (Obj.cells #[.int .i64 (addv next at'), .slice av4 m cv4] 58)
                rw [hxs, hnp] at hoa
                have HOA := Lib.hid hoa
                have HNA := Lib.hid (newsPart_alloc w4 ⟨addv next at', D⟩ (.slice av4 m cv4))
                have HBA := Lib.hid (HW4.out.alloc HW4.out.size (Obj.cells #[.int .i64 (addv next at'), .slice av4 m cv4] 58))
                have HBX := Lib.hid (HB4.out.alloc HB4.out.size (Obj.cells #[.int .i64 (addv next at'), .slice av4 m cv4] 58))
                have HDX := Lib.hid (show (w4.alloc (Obj.cells #[.int .i64 (addv next at'), .slice av4 m cv4] 58)).ownsRow wr.heap.size 5 1 (.slice av4 m cv4) (KPart.dat ⟨addv next at', D⟩).length ((KPart.dat ⟨addv next at', D⟩).map B8) by show World.ownsRow _ _ _ _ _ D.length _; rw [HD.out]; exact World.ownsRow.alloc HO4.out _)
                have HR1 := Lib.hid (KPart.one ⟨addv next at', D⟩ (.slice av4 m cv4) rfl)
                clear hxs hoa h0 hm0
                rw [hnp]
                clear hnp
                go_wp2_with (first | ((with_reducible refine (A1.out _).mono ?_); rintro e w' ⟨rfl, rfl⟩) | (at_builtin; refine wpList_append_at _ rfl _ _ 22 rfl w.heap.size 58 i0 (.agg #[.int .i64 0, .slice none 0 0]) 2 32 Try.underlying22 hi hz0 hz1 hz2 rfl (by decide) _ _ _ rfl HOA.out ⟨w4.heap.size, 0, none⟩ 1 1 (KPart.row ⟨addv next at', D⟩ (.slice av4 m cv4)) rfl rfl HNA.out HR1.out (by unfold maxLen; omega) (by omega) HBA.out.size ?_))
                intro v' w1 hown' hgrow hat
                have HGR := Lib.hid (show Grew (w4.alloc (Obj.cells #[.int .i64 (addv next at'), .slice av4 m cv4] 58)) w1 (.slice am PL.length cm) v' from (Grew.refl _ _).app0 (by rw [HNP.out]; exact hgrow) (by rw [HNP.out]; simpa using hat))
                have HN := Lib.hid (HO.out.snoc HW.out.size HBX.out HDX.out (show w1.ownsRow w.heap.size 58 KPart.n v' (PL.length + 1) ((PL.map (fun q => KPart.row q.1 q.2)).flatten ++ KPart.row ⟨addv next at', D⟩ (.slice av4 m cv4)) by rw [HXS.out, HNP.out]; exact hown') HGR.out)
                have HB11 := Lib.hid (HBA.out.grown hgrow HBA.out.size (by intro k hk; exact (HOA.out.lt k hk).1))
                have HTX := Lib.hid (own_stay (World.ownsRow.alloc HTN.out (Obj.cells #[.int .i64 (addv next at'), .slice av4 m cv4] 58)) HGR.out.1 (fun k hk e => HAP.out k hk (.inl e.symm)))
                have HAX := Lib.hid (apart_snoc (p := ⟨addv next at', D⟩) HAP.out HT.out HBX.out.size (fun k hk => (blk_lt HO4.out hk).1) HGR.out)
                clear hown' hgrow hat
                go_wp2
                go_roundw
                case rel => exact ⟨a + 1, t, P ++ [(at', D)], PL ++ [(⟨addv next at', D⟩, .slice av4 m cv4)], by omega, by go_num, HFIN.out, by rw [List.map_append, HPL.out, List.map_append]; rfl, HN.out, HTX.out, HAX.out, HB11.out⟩
                case measure => simp [intOf]; omega

          · have tx : wr.cell? ⟨q, 2049 + a, none⟩ = some (.bool false) := HQR.out.cell (winRow_there next hW he)
            have haz : (a : Int) < 2048 := by have := (List.getElem?_eq_some_iff.1 he).1; omega
            clear he
            go_wp2_with fail
            (with_reducible refine C1.out.mono ?_)
            rintro e w4 ⟨v4, rfl, hb4, ho4⟩
            rw [HD.out] at ho4
            obtain ⟨av4, cv4, rfl⟩ := own_slice ho4
            have HO4 := Lib.hid ho4
            have HB4 := Lib.hid hb4
            have HW4 := Lib.hid (HW.out.trans (hb4.mono HW.out.size))
            have HON := Lib.hid (HO.out.below hb4)
            have HTN := Lib.hid (below_own HT.out hb4)
            clear hb4 ho4 C1 hsl
            by_cases hm0 : m = 0
            · have hmz : ¬ (0 : Int) < (m : Int) := by omega
              have HFIN := Lib.hid (show PcAt W (a + 1) t P by
                have h := HPC2.out
                rw [if_neg (show ¬ (0 < at' ∧ at' < a) by have := HM.out; omega)] at h
                by_cases h0 : at' = 0
                · rw [if_pos h0] at h
                  have hD0 : D = [] := List.eq_nil_of_length_eq_zero (by rw [HD.out, hm0])
                  have ht0 : t = [] := by
                    rcases HPC.out with ⟨-, h1, -⟩ | ⟨h1, -⟩
                    · exact h1
                    · omega
                  rw [hD0, ← ht0] at h; exact h
                · rw [if_neg h0] at h; exact h)
              clear hm0
              go_wp2
              go_roundw
              case rel => exact ⟨a + 1, t, P, PL, by omega, by go_num, HFIN.out, HPL.out, HON.out, HTN.out, HAP.out, HW4.out⟩
              case measure => simp [intOf]; omega
            · have hmz : (0 : Int) < (m : Int) := by omega
              by_cases h0 : at' = 0
              · have h0b : ((at' : Int) == 0) = true := by simp; omega
                have HFIN := Lib.hid (show PcAt W (a + 1) D P by
                  have h := HPC2.out
                  rw [if_pos h0, if_neg (show ¬ (0 < at' ∧ at' < a) by omega)] at h
                  exact h)
                have HAN := Lib.hid (show Apart (.slice av4 m cv4) u3 PL from by
                  have hP : PL = [] := by
                    rcases HPC.out with ⟨-, -, h1⟩ | ⟨h1, -⟩
                    · have := HPL.out; rw [h1] at this; simpa using this
                    · omega
                  intro k hk hh
                  have h9 := (blk_lt HO4.out hk).1
                  rcases hh with hh | ⟨p, hp, -⟩
                  · have := (blk_lt HO.out.row hh).2; omega
                  · rw [hP] at hp; simp at hp)
                have HDO := Lib.hid (show w4.ownsRow w.heap.size 5 1 (.slice av4 m cv4) D.length (D.map B8) by rw [HD.out]; exact own_mono HO4.out HW.out.size)
                clear h0 hm0
                go_wp2
                go_roundw
                case rel => exact ⟨a + 1, D, P, PL, by omega, by go_num, HFIN.out, HPL.out, HON.out, HDO.out, HAN.out, HW4.out⟩
                case measure => simp [intOf]; omega
              · have h0b : ((at' : Int) == 0) = false := by simp; omega
                have HFIN := Lib.hid (show PcAt W (a + 1) t (P ++ [(at', D)]) by
                  have h := HPC2.out
                  rw [if_neg h0, if_pos (show 0 < at' ∧ at' < a by have := HM.out; omega)] at h
                  exact h)
                have hc0 : w4.cell? ⟨q, 0, none⟩ = some (.int .i64 next) := (HQ.out.low HW4.out HQ.out.2.2).cell rfl
                have A1 := Lib.hid (fun W => spanAdd_any next at' W)
                obtain ⟨am, cm, rfl⟩ := HO.out.slice
                obtain ⟨xs, hxs⟩ : ∃ xs, (PL.map (fun q => KPart.row q.1 q.2)).flatten = xs := ⟨_, rfl⟩
                have HXS := Lib.hid hxs
                obtain ⟨np, hnp⟩ : ∃ np, PL.length = np := ⟨_, rfl⟩
                have HNP := Lib.hid (show PL.length = np from hnp)
                have hnp9 : np ≤ 2048 := by
                  have h1 : PL.length = P.length := by have := congrArg List.length HPL.out; rwa [List.length_map, List.length_map] at this
                  have h2 : P.length ≤ 2048 := by
                    rcases HPC.out with ⟨-, -, h2⟩ | ⟨-, -, -, -, h2⟩
                    · rw [h2]; simp
                    · rw [h2]; have := parts_len W (min at' 2048); omega
                  omega
                have hoa := World.ownsRow.alloc HON.out.row (Obj.cells #[.int .i64 (addv next at'), .slice av4 m cv4] 58)
                rw [hxs, hnp] at hoa
                have HOA := Lib.hid hoa
                have HNA := Lib.hid (newsPart_alloc w4 ⟨addv next at', D⟩ (.slice av4 m cv4))
                have HBA := Lib.hid (HW4.out.alloc HW4.out.size (Obj.cells #[.int .i64 (addv next at'), .slice av4 m cv4] 58))
                have HBX := Lib.hid (HB4.out.alloc HB4.out.size (Obj.cells #[.int .i64 (addv next at'), .slice av4 m cv4] 58))
                have HDX := Lib.hid (show (w4.alloc (Obj.cells #[.int .i64 (addv next at'), .slice av4 m cv4] 58)).ownsRow wr.heap.size 5 1 (.slice av4 m cv4) (KPart.dat ⟨addv next at', D⟩).length ((KPart.dat ⟨addv next at', D⟩).map B8) by show World.ownsRow _ _ _ _ _ D.length _; rw [HD.out]; exact World.ownsRow.alloc HO4.out _)
                have HR1 := Lib.hid (KPart.one ⟨addv next at', D⟩ (.slice av4 m cv4) rfl)
                clear hxs hoa h0 hm0
                rw [hnp]
                clear hnp
                go_wp2_with (first | ((with_reducible refine (A1.out _).mono ?_); rintro e w' ⟨rfl, rfl⟩) | (at_builtin; refine wpList_append_at _ rfl _ _ 22 rfl w.heap.size 58 i0 (.agg #[.int .i64 0, .slice none 0 0]) 2 32 Try.underlying22 hi hz0 hz1 hz2 rfl (by decide) _ _ _ rfl HOA.out ⟨w4.heap.size, 0, none⟩ 1 1 (KPart.row ⟨addv next at', D⟩ (.slice av4 m cv4)) rfl rfl HNA.out HR1.out (by unfold maxLen; omega) (by omega) HBA.out.size ?_))
                intro v' w1 hown' hgrow hat
                have HGR := Lib.hid (show Grew (w4.alloc (Obj.cells #[.int .i64 (addv next at'), .slice av4 m cv4] 58)) w1 (.slice am PL.length cm) v' from (Grew.refl _ _).app0 (by rw [HNP.out]; exact hgrow) (by rw [HNP.out]; simpa using hat))
                have HN := Lib.hid (HO.out.snoc HW.out.size HBX.out HDX.out (show w1.ownsRow w.heap.size 58 KPart.n v' (PL.length + 1) ((PL.map (fun q => KPart.row q.1 q.2)).flatten ++ KPart.row ⟨addv next at', D⟩ (.slice av4 m cv4)) by rw [HXS.out, HNP.out]; exact hown') HGR.out)
                have HB11 := Lib.hid (HBA.out.grown hgrow HBA.out.size (by intro k hk; exact (HOA.out.lt k hk).1))
                have HTX := Lib.hid (own_stay (World.ownsRow.alloc HTN.out (Obj.cells #[.int .i64 (addv next at'), .slice av4 m cv4] 58)) HGR.out.1 (fun k hk e => HAP.out k hk (.inl e.symm)))
                have HAX := Lib.hid (apart_snoc (p := ⟨addv next at', D⟩) HAP.out HT.out HBX.out.size (fun k hk => (blk_lt HO4.out hk).1) HGR.out)
                clear hown' hgrow hat
                go_wp2
                go_roundw
                case rel => exact ⟨a + 1, t, P ++ [(at', D)], PL ++ [(⟨addv next at', D⟩, .slice av4 m cv4)], by omega, by go_num, HFIN.out, by rw [List.map_append, HPL.out, List.map_append]; rfl, HN.out, HTX.out, HAX.out, HB11.out⟩
                case measure => simp [intOf]; omega

    · have HE := Lib.hid (pc_end HPC.out (by omega))
      have hltz : ¬ (at' : Int) < 2048 := by omega
      have HT2 := Lib.hid (show wr.ownsRow w.heap.size 5 1 u2 (toldN W) (((W.take (toldN W)).map byt).map B8) by
        have h := HT.out
        have hl : ((W.take (toldN W)).map byt).length = toldN W := by rw [List.length_map, List.length_take]; have := toldN_le W; omega
        rw [HE.out.1, hl] at h; exact h)
      have HP2 := Lib.hid (show PL.map Prod.fst = (partsL W 2048).map (toP next) by rw [← HE.out.2]; exact HPL.out)
      go_wp2
      go_ret2
      exact ⟨u2, u3, rfl, PL, HP2.out, HO.out, by have h := HT2.out; simpa using h, HAP.out, HW.out⟩
end Go.Proofs.Ytjgbiffgmafhmaa
