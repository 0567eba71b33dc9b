/-
  Parts of a stream: a buffer's twin.
-/
import Derived.Test.YtjgbiffgmafhmaaLtOPaB
import Derived.Deep.RegionWith
import Derived.BigRegion
namespace Go.Proofs.Ytjgbiffgmafhmaa
open Go.RowKit
theorem sl_one {w : World} {v : Value} {l : List UInt8} (h : Sl w v l) : v.oneCell' = true := by obtain ⟨ao, cap, rfl, -⟩ := h; rfl
theorem set_same {α : Type} {L : List α} {k : Nat} {a : α} (h : L[k]? = some a) : L.set k a = L := by
  refine List.ext_getElem? fun i => ?_
  by_cases hi : k = i
  · subst hi; rw [List.getElem?_set_self (List.getElem?_eq_some_iff.1 h).1, h]
  · rw [List.getElem?_set_ne hi]
set_option maxRecDepth 100000 in
set_option maxHeartbeats 4000000 in
theorem twin_any (v : Value) (next : Int) (L : List EP) (w : World) (hl : L.length ≤ 1000000) (hd : ∀ x ∈ L, x.d.length ≤ 1000000) (hv : KPart.Sl w v L) :
    Calls Try.prog 53 #[.agg #[.int .i64 next, v]] w fun e w' => ∃ v' PL, e = .returned (.agg #[.int .i64 next, v']) ∧ PL.map Prod.fst = L ∧ DOwn KPart 58 w' w.heap.size v' PL ∧ Below w.heap.size w w' := by
  obtain ⟨P0, hP0, hS, hdat⟩ := sl_pairs hv
  have hlen : P0.length = L.length := by rw [← hP0, List.length_map]
  obtain ⟨ao, cap, rfl, -⟩ := id hv
  have C1 := Lib.hid (fun W (hb : Below w.heap.size w W) => paClone_any (.slice ao L.length cap) P0 W (by omega) (fun q hq => sl_one (hdat q hq)) (hS.below hb))
  have HDA := Lib.hid hdat
  have HP0 := Lib.hid hP0
  have HD := Lib.hid hd
  clear hv hS hdat hP0 hd
  go_enter Try.func53, Try.ntmps53
  go_wp2_with fail
  refine calls_gen (fun W => Below w.heap.size w W ∧ RowAt W w.heap.size [.int .i64 next, .slice ao L.length cap] ∧ RowAt W (w.heap.size + 1) [.int .i64 0, .slice none 0 0]) ⟨((Below.refl _ w).alloc (Nat.le_refl _) _).alloc (by simp) _, (rowAt_alloc w [.int .i64 next, .slice ao L.length cap] 24).below ((Below.refl _ _).alloc (Nat.le_refl _) _), by have := rowAt_alloc (w.alloc (.cells [.int .i64 next, .slice ao L.length cap].toArray 24)) [.int .i64 0, .slice none 0 0] 24; simpa using this⟩ ?_
  rintro W1 ⟨hb1, hr1, hs1⟩
  obtain ⟨bx, hbx⟩ : ∃ bx, bx = w.heap.size := ⟨_, rfl⟩
  have hbxl : w.heap.size ≤ bx := by omega
  rw [← hbx] at hr1 hs1 ⊢
  clear hbx
  (with_reducible refine (C1.out W1 hb1).mono ?_)
  rintro e W2 ⟨v2, rfl, hb2, ho2⟩
  have HB2 := Lib.hid (hb1.trans (hb2.mono hb1.size))
  have HR2 := Lib.hid (hr1.below hb2)
  have HS2 := Lib.hid (hs1.below hb2)
  have hne2 : ∀ j, v2.ownBlock = some j → j ≠ bx ∧ j ≠ bx + 1 := fun j hj => by have := (blk_lt ho2 hj).1; have := hr1.2.2; have := hs1.2.2; omega
  obtain ⟨g2, cap2, rfl⟩ := own_slice ho2
  rw [hlen] at ho2 hne2 ⊢
  obtain ⟨B, hB⟩ : ∃ B, B = W1.heap.size := ⟨_, rfl⟩
  have hBw : w.heap.size ≤ B := by rw [hB]; exact hb1.size
  have hBx : bx + 1 < B := by rw [hB]; exact hs1.2.2
  have hB2 : B ≤ W2.heap.size := by rw [hB]; exact hb2.size
  rw [← hB] at ho2
  have HO2 := Lib.hid ho2
  have HNE := Lib.hid hne2
  obtain ⟨r0, r1⟩ : W2.cell? ⟨bx, 0, none⟩ = some (.int .i64 next) ∧ W2.cell? ⟨bx, 1, none⟩ = some (.slice ao L.length cap) := ⟨HR2.out.cell rfl, HR2.out.cell rfl⟩
  have hfz := HR2.out.2.1
  clear hb1 hr1 hs1 hb2 ho2 hne2 C1 hB
  go_wp2
  have HR3 := Lib.hid (HR2.out.set1 1 (.slice g2 L.length cap2) (by simp))
  have HS3 := Lib.hid (HS2.out.other (q2 := bx) (j := 1) (v := .slice g2 L.length cap2) (by omega))
  have HB3 := Lib.hid (HB2.out.setCell (p := ⟨bx, 1, none⟩) hbxl (.slice g2 L.length cap2))
  have HO3 := Lib.hid (own_stay HO2.out (grown_set1 W2 bx 1 (.slice g2 L.length cap2)) (fun k hk e => (HNE.out k hk).1 (Option.some.inj e)))
  have hB3 : B ≤ (W2.setCell ⟨bx, 1, none⟩ (.slice g2 L.length cap2)).heap.size := by rw [World.size_setCell]; exact hB2
  generalize W2.setCell ⟨bx, 1, none⟩ (.slice g2 L.length cap2) = W3 at *
  clear HR2 HS2 HB2 HO2 r0 r1 hfz
  have HH0 := Lib.hid (show Half 58 w B W3 (.slice g2 L.length cap2) P0 0 from ⟨HB3.out, hBw, hB3, by rw [hlen]; exact HO3.out, fun q hq => by simp at hq, fun q hq => by simp at hq, .nil, fun q hq => HDA.out q (by simpa using hq)⟩)
  clear HO3
  go_loopw [11] (fun vi wr => ∃ (k : Nat) (PL : List (EP × Value)), k ≤ L.length ∧ vi = .int .i64 k ∧ PL.map Prod.fst = L ∧ Half 58 w B wr (.slice g2 L.length cap2) PL k ∧ RowAt wr bx [.int .i64 next, .slice g2 L.length cap2] ∧ RowAt wr (bx + 1) [.int .i64 0, .slice none 0 0]) (fun i _ => L.length - (intOf i).toNat)
  case atStart => exact ⟨0, P0, by omega, rfl, HP0.out, HH0.out, HR3.out, HS3.out⟩
  case round =>
    clear HH0 HR3 HS3 HB3
    obtain ⟨k, PL, hk, rfl, hPL, hH, hr, hs⟩ := hrel
    have hPl : PL.length = L.length := by rw [← hPL, List.length_map]
    have HPL := Lib.hid hPL
    have HH := Lib.hid hH
    have HR := Lib.hid hr
    have HS := Lib.hid hs
    clear hPL hH hr hs
    by_cases hlt : k < L.length
    · have hltz : (k : Int) < (L.length : Int) := by omega
      obtain ⟨⟨a, vd⟩, hq⟩ : ∃ q, PL[k]? = some q := ⟨_, List.getElem?_eq_getElem (by omega)⟩
      have haL : a ∈ L := by rw [← HPL.out]; exact List.mem_map.2 ⟨(a, vd), List.mem_of_getElem? hq, rfl⟩
      have hsd : Sl w vd a.d := HH.out.rest (a, vd) (List.mem_of_getElem? (i := 0) (by rw [List.getElem?_drop]; exact hq))
      obtain ⟨g, rfl⟩ : ∃ g, g2 = some ⟨g, 0, none⟩ := by
        rcases HH.out.row.2 with ⟨h1, h2⟩ | ⟨g, c, cur, h1, -⟩
        · omega
        · injection h1 with h1; exact ⟨g, h1⟩
      have hrow := HH.out.row
      rw [hPl] at hrow
      have hgb := blk_lt hrow (k := g) rfl
      have hfl : (PL.map (fun q => KPart.row q.1 q.2)).flatten[k * 2 + 1]? = some vd := by
        have := flatten_get (n := 2) (PL.map (fun q => KPart.row q.1 q.2)) (rows_len KPart PL) k (KPart.row a vd) (by rw [List.getElem?_map, hq]; rfl) 1 (by decide)
        exact this
      have f1 : wr.cell? ⟨g, k * 2 + 1, none⟩ = some vd := by rw [hrow.cellAt (k * 2 + 1) (by omega), hfl]
      have f2 : wr.frozen? ⟨g, k * 2 + 1, none⟩ = false := hrow.frozenAt _
      have f0 : wr.cell? ⟨bx, 1, none⟩ = some (.slice (some ⟨g, 0, none⟩) L.length cap2) := HR.out.cell rfl
      have hbx2 := HR.out.2.2
      have hg2 := hgb.2
      have C2 := Lib.hid (fun W (hb : Below wr.heap.size wr W) => clone_any vd a.d W (HD.out a haL) ((hsd.below HH.out.low).below hb))
      have HQ := Lib.hid hq
      obtain ⟨av, cv, rfl, -⟩ := id hsd
      have KP := Lib.hid (show ∀ W W', Below W.heap.size W W' → (W.cell? ⟨bx, 1, none⟩ = some (.slice (some ⟨g, 0, none⟩) L.length cap2) ∧ W.cell? ⟨g, k * 2 + 1, none⟩ = some (.slice av a.d.length cv) ∧ W.frozen? ⟨g, k * 2 + 1, none⟩ = false ∧ Below wr.heap.size wr W) → (W'.cell? ⟨bx, 1, none⟩ = some (.slice (some ⟨g, 0, none⟩) L.length cap2) ∧ W'.cell? ⟨g, k * 2 + 1, none⟩ = some (.slice av a.d.length cv) ∧ W'.frozen? ⟨g, k * 2 + 1, none⟩ = false ∧ Below wr.heap.size wr W') from fun W W' hb h => ⟨(hb.cell (p := ⟨bx, 1, none⟩) (Nat.lt_of_lt_of_le hbx2 h.2.2.2.size)).trans h.1, (hb.cell (p := ⟨g, k * 2 + 1, none⟩) (Nat.lt_of_lt_of_le hg2 h.2.2.2.size)).trans h.2.1, (hb.frozen (p := ⟨g, k * 2 + 1, none⟩) (Nat.lt_of_lt_of_le hg2 h.2.2.2.size)).trans h.2.2.1, h.2.2.2.trans (hb.mono h.2.2.2.size)⟩)
      clear hrow hfl hq haL hsd
      go_wp2_with fail
      go_region_with (first | ((with_reducible refine (C2.out _ (by first | exact Below.refl _ _ | exact (Below.refl _ _).drew)).mono ?_); rintro e1 W4 ⟨v4, rfl, hb4, ho4⟩; obtain ⟨av4, cv4, rfl⟩ := own_slice ho4; obtain ⟨k0, k1, k2, k3⟩ := KP.out _ W4 hb4 (by first | exact ⟨f0, f1, f2, Below.refl _ _⟩ | exact ⟨f0, f1, f2, (Below.refl _ _).drew⟩)))
      all_goals
        have HH4 := Lib.hid (Half.step hPl.symm HH.out HQ.out k3 (show W4.ownsRow wr.heap.size 5 1 _ a.d.length (a.d.map B8) from ho4))
        have HR4 := Lib.hid ((HR.out.below k3).other (q2 := g) (j := k * 2 + 1) (v := .slice av4 a.d.length cv4) (Ne.symm (HNE.out g rfl).1))
        have HS4 := Lib.hid ((HS.out.below k3).other (q2 := g) (j := k * 2 + 1) (v := .slice av4 a.d.length cv4) (Ne.symm (HNE.out g rfl).2))
        have HL4 := Lib.hid (show (PL.set k (a, .slice av4 a.d.length cv4)).map Prod.fst = L by
          rw [List.map_set, HPL.out]
          exact set_same (by rw [← HPL.out, List.getElem?_map, HQ.out]; rfl))
        clear k0 k1 k2 k3 hb4 ho4 f0 f1 f2
        go_wp2
        go_roundw
        (case rel => exact ⟨k + 1, PL.set k (a, .slice av4 a.d.length cv4), by omega, by go_num, HL4.out, HH4.out, HR4.out, HS4.out⟩)
        (case measure => simp [intOf]; omega)
    · have hltz : ¬ (k : Int) < (L.length : Int) := by omega
      have hkl : k = PL.length := by omega
      have HD2 := Lib.hid (show DOwn KPart 58 wr B (.slice g2 L.length cap2) PL from Half.done (by rw [← hkl]; exact HH.out))
      obtain ⟨r0, r1⟩ : wr.cell? ⟨bx, 0, none⟩ = some (.int .i64 next) ∧ wr.cell? ⟨bx, 1, none⟩ = some (.slice g2 L.length cap2) := ⟨HR.out.cell rfl, HR.out.cell rfl⟩
      obtain ⟨s0, s1⟩ : wr.cell? ⟨bx + 1, 0, none⟩ = some (.int .i64 0) ∧ wr.cell? ⟨bx + 1, 1, none⟩ = some (.slice none 0 0) := ⟨HS.out.cell rfl, HS.out.cell rfl⟩
      have sf := HS.out.2.1
      have hlow := HH.out.low
      clear hkl
      go_wp2
      refine bodyPost_ret (v := .agg #[.int .i64 next, .slice g2 L.length cap2]) (by simp [results, Try.results53, go_sem, s0, s1]) rfl ⟨_, rfl, PL, HPL.out, ?_, (hlow.setCell (p := ⟨bx + 1, 0, none⟩) (by show w.heap.size ≤ bx + 1; omega) _).setCell (p := ⟨bx + 1, 1, none⟩) (by show w.heap.size ≤ bx + 1; omega) _⟩
      have hx : ∀ (W : World) (j : Nat) (u : Value), DOwn KPart 58 W B (.slice g2 L.length cap2) PL → DOwn KPart 58 (W.setCell ⟨bx + 1, j, none⟩ u) B (.slice g2 L.length cap2) PL := fun W j u h => by
        have hg := grown_set1 W (bx + 1) j u
        exact ⟨own_stay h.row hg (fun k hk e => by have := (blk_lt h.row hk).1; injection e with e; omega), fun q hq => own_stay (h.dat q hq) hg (fun k hk e => by have := (blk_lt (h.dat q hq) hk).1; injection e with e; omega), h.ne, h.two⟩
      exact (hx _ _ _ (hx _ _ _ HD2.out)).mono hBw
end Go.Proofs.Ytjgbiffgmafhmaa
