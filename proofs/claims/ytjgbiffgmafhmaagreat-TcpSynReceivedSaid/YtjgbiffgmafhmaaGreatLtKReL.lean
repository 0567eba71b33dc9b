/-
  Pieces of a stream: buffers copied, compared, written over; the page's own asking.
-/
import Derived.Test.YtjgbiffgmafhmaaGreatLtKReI
import Derived.Laws.ResultCell
namespace Go.Proofs.YtjgbiffgmafhmaaGreat
open Go.RowKit
set_option maxRecDepth 100000 in
set_option maxHeartbeats 2000000 in
theorem eqBuffer_same (v1 v2 : Value) (next : Int) (L : List EP) (w : World) (hl : L.length ≤ 1000000) (hd : ∀ x ∈ L, x.d.length ≤ 1000000) (h1 : KPart.Sl w v1 L) (h2 : KPart.Sl w v2 L) :
    Calls Tryz.prog 95 #[.agg #[.int .i64 next, v1], .agg #[.int .i64 next, v2]] w fun e w' => e = .returned (.bool true) ∧ Below w.heap.size w w' := by
  obtain ⟨ao1, cap1, rfl, -⟩ := id h1
  obtain ⟨ao2, cap2, rfl, -⟩ := id h2
  have C1 := Lib.hid (fun W (hb : Below w.heap.size w W) => eqParts_same _ _ L W hl hd (h1.below hb) (h2.below hb))
  clear h1 h2
  go_enter Tryz.func95, Tryz.ntmps95
  go_wp2_with fail
  refine calls_gen (fun W => Below w.heap.size w W) (((Below.refl _ w).alloc (Nat.le_refl _) _).alloc (by simp) _) ?_
  intro W1 hb1
  (with_reducible refine (C1.out W1 hb1).mono ?_)
  rintro e W2 ⟨rfl, hb2⟩
  go_wp2
  go_ret
  exact ⟨rfl, hb1.trans (hb2.mono hb1.size)⟩
set_option maxRecDepth 100000 in
set_option maxHeartbeats 2000000 in
theorem copyBuffer_any (v : Value) (next : Int) (L : List EP) (w : World) (hl : L.length ≤ 1000000) (hd : ∀ x ∈ L, x.d.length ≤ 1000000) (h : KPart.Sl w v L) :
    Calls Tryz.prog 30 #[.agg #[.int .i64 next, v]] w fun e w' => ∃ v' PL, e = .returned (.agg #[.int .i64 next, v']) ∧ PL.map Prod.fst = L ∧ DOwn KPart 83 w' w.heap.size v' PL ∧ Below w.heap.size w w' := by
  obtain ⟨ao, cap, rfl, -⟩ := id h
  have C1 := Lib.hid (fun W (hb : Below w.heap.size w W) => copyParts_any (.slice ao L.length cap) L W hl hd (h.below hb))
  clear h
  go_enter Tryz.func30, Tryz.ntmps30
  go_wp2_with fail
  refine calls_gen (fun W => Below w.heap.size w W ∧ RowAt W (w.heap.size + 1) [.int .i64 0, .slice none 0 0] ∧ RowAt W (w.heap.size + 2) [.int .i64 next, .slice ao L.length cap]) ⟨(((Below.refl _ w).alloc (Nat.le_refl _) _).alloc (by simp) _).alloc (by simp; omega) _, ?_, ?_⟩ ?_
  · have h := (rowAt_alloc (w.alloc (.cells #[.int .i64 next, .slice ao L.length cap] 25)) [.int .i64 0, .slice none 0 0] 25).below ((Below.refl _ _).alloc (Nat.le_refl _) (.cells #[.int .i64 next, .slice ao L.length cap] 25))
    simpa using h
  · have h := rowAt_alloc ((w.alloc (.cells #[.int .i64 next, .slice ao L.length cap] 25)).alloc (.cells #[.int .i64 0, .slice none 0 0] 25)) [.int .i64 next, .slice ao L.length cap] 25
    simpa using h
  rintro W1 ⟨hb1, hs1, hr1⟩
  obtain ⟨bx, hbx⟩ : ∃ bx, bx = w.heap.size + 1 := ⟨_, rfl⟩
  have hbxl : w.heap.size ≤ bx := by omega
  obtain ⟨bz, hbz⟩ : ∃ bz, bz = bx + 1 := ⟨_, rfl⟩
  have hbzl : w.heap.size ≤ bz := by omega
  have hne : bx ≠ bz := by omega
  have hne2 : bz ≠ bx := by omega
  rw [← hbx] at hs1 ⊢
  rw [show w.heap.size + 2 = bz by omega] at hr1
  rw [← hbz]
  clear hbx hbz
  (with_reducible refine (C1.out W1 hb1).mono ?_)
  rintro e W2 ⟨v2, PL, rfl, hPL, hown, hb2⟩
  have HB2 := Lib.hid (hb1.trans (hb2.mono hb1.size))
  have HS2 := Lib.hid (hs1.below hb2)
  have HR2 := Lib.hid (hr1.below hb2)
  have HO2 := Lib.hid hown
  have HPL := Lib.hid hPL
  have hbs : bx < W1.heap.size ∧ bz < W1.heap.size := ⟨hs1.2.2, hr1.2.2⟩
  have hww := hb1.size
  obtain ⟨a2, c2, rfl⟩ := hown.slice
  obtain ⟨r0, r1⟩ : W2.cell? ⟨bz, 0, none⟩ = some (.int .i64 next) ∧ W2.cell? ⟨bz, 1, none⟩ = some (.slice ao L.length cap) := ⟨HR2.out.cell rfl, HR2.out.cell rfl⟩
  obtain ⟨s0, s1⟩ : W2.cell? ⟨bx, 0, none⟩ = some (.int .i64 0) ∧ W2.cell? ⟨bx, 1, none⟩ = some (.slice none 0 0) := ⟨HS2.out.cell rfl, HS2.out.cell rfl⟩
  have sf := HS2.out.2.1
  have rf' := HR2.out.2.1
  clear hb1 hs1 hr1 hown hb2 hPL C1
  go_wp2
  refine bodyPost_ret (v := .agg #[.int .i64 next, .slice a2 PL.length c2]) (by simp [results, Tryz.results30, go_sem, s0, s1]) rfl ⟨_, PL, rfl, HPL.out, (down_set hbs.1 (down_set hbs.1 (down_set hbs.2 HO2.out))).mono hww, ((HB2.out.setCell (p := ⟨bz, 1, none⟩) hbzl _).setCell (p := ⟨bx, 0, none⟩) hbxl _).setCell (p := ⟨bx, 1, none⟩) hbxl _⟩
/-- What is left to be written over. -/
structure Spn (t : TypeId) (base : Nat) (W : World) (v : Value) (PL : List (EP × Value)) (k : Nat) : Prop where
  row : ∃ xs, W.ownsRow base t 2 v PL.length xs ∧ ∀ i q, k ≤ i → PL[i]? = some q → xs[i * 2 + 1]? = some q.2
  dat : ∀ i q, k ≤ i → PL[i]? = some q → W.ownsRow base 5 1 q.2 q.1.d.length (q.1.d.map B8)
theorem two_ne {PL : List (EP × Value)} (h : PL.Pairwise fun p q => ∀ k, p.2.ownBlock = some k → q.2.ownBlock ≠ some k) {i j : Nat} {p q : EP × Value} (hi : PL[i]? = some p) (hj : PL[j]? = some q) (hij : i < j) : ∀ k, q.2.ownBlock = some k → p.2.ownBlock ≠ some k := by
  intro k hk e
  obtain ⟨hil, hie⟩ := List.getElem?_eq_some_iff.1 hi
  obtain ⟨hjl, hje⟩ := List.getElem?_eq_some_iff.1 hj
  have := List.pairwise_iff_getElem.1 h i j hil hjl hij k (by rw [hie]; exact e)
  rw [hje] at this
  exact this hk
theorem set_set_get {xs : List Value} {k i : Nat} {a b : Value} (h : k < i) : ((xs.set (k * 2) a).set (k * 2 + 1) b)[i * 2 + 1]? = xs[i * 2 + 1]? := by
  rw [List.getElem?_set_ne (by omega), List.getElem?_set_ne (by omega)]
set_option maxRecDepth 100000 in
set_option maxHeartbeats 2000000 in
theorem spoilBuffer_any (base : Nat) (v : Value) (next : Int) (PL : List (EP × Value)) (w : World) (hown : DOwn KPart 83 w base v PL) (hbase : base ≤ w.heap.size) (hl : PL.length ≤ 1000000) (hd : ∀ q ∈ PL, q.1.d.length ≤ 1000000) :
    Calls Tryz.prog 96 #[.agg #[.int .i64 next, v]] w fun e w' => e = .returned (.tuple #[]) ∧ Tch (DBlk v PL) w w' := by
  have hblk : ∀ k, DBlk v PL k → k < w.heap.size := fun k h => by
    rcases h with h | ⟨q, hq, h⟩
    · exact (blk_lt hown.row h).2
    · exact (blk_lt (hown.dat q hq) h).2
  obtain ⟨ao, cap, rfl⟩ := hown.slice
  have HO := Lib.hid hown
  have HD := Lib.hid hd
  have HK := Lib.hid hblk
  have HS0 := Lib.hid (show Spn 83 base w (.slice ao PL.length cap) PL 0 from ⟨⟨_, hown.row, fun i q _ hq => by
    have := flatten_get (n := 2) (PL.map (fun q => KPart.row q.1 q.2)) (rows_len KPart PL) i (KPart.row q.1 q.2) (by rw [List.getElem?_map, hq]; rfl) 1 (by decide)
    exact this⟩, fun i q _ hq => hown.dat q (List.mem_of_getElem? hq)⟩)
  clear hown hd hblk
  go_enter Tryz.func96, Tryz.ntmps96
  go_wp2
  go_loopw [2] (fun vi wr => ∃ k : Nat, k ≤ PL.length ∧ vi = .int .i64 k ∧ Tch (DBlk (.slice ao PL.length cap) PL) w wr ∧ RowAt wr w.heap.size [.int .i64 next, .slice ao PL.length cap] ∧ Spn 83 base wr (.slice ao PL.length cap) PL k) (fun i _ => PL.length - (intOf i).toNat)
  case atStart => exact ⟨0, by omega, rfl, Tch.of_below ((Below.refl _ w).alloc (Nat.le_refl _) _), rowAt_alloc w [.int .i64 next, .slice ao PL.length cap] 25, ⟨⟨_, HS0.out.row.choose_spec.1.alloc _, HS0.out.row.choose_spec.2⟩, fun i q h hq => (HS0.out.dat i q h hq).alloc _⟩⟩
  case round =>
    obtain ⟨k, hk, rfl, ht, hr, hs⟩ := hrel
    have HT := Lib.hid ht
    have HR := Lib.hid hr
    clear ht hr HS0
    obtain ⟨c0, c1⟩ : wr.cell? ⟨w.heap.size, 0, none⟩ = some (.int .i64 next) ∧ wr.cell? ⟨w.heap.size, 1, none⟩ = some (.slice ao PL.length cap) := ⟨HR.out.cell rfl, HR.out.cell rfl⟩
    by_cases hlt : k < PL.length
    · have hltz : (k : Int) < (PL.length : Int) := by omega
      obtain ⟨⟨xs, hxs, hx⟩, hdat⟩ := hs
      obtain ⟨q, hq⟩ : ∃ q, PL[k]? = some q := ⟨_, List.getElem?_eq_getElem hlt⟩
      obtain ⟨g, rfl⟩ : ∃ g, ao = some ⟨g, 0, none⟩ := by
        rcases hxs.2 with ⟨h1, h2⟩ | ⟨g, c, cur, h1, -⟩
        · omega
        · injection h1 with h1; exact ⟨g, h1⟩
      have hqm := List.mem_of_getElem? hq
      have hgk := HK.out g (.inl rfl)
      have d1 : wr.cell? ⟨g, k * 2 + 1, none⟩ = some q.2 := by rw [hxs.cellAt (k * 2 + 1) (by omega)]; exact hx k q (Nat.le_refl _) hq
      have hqd := hdat k q (Nat.le_refl _) hq
      have C1 := Lib.hid (scribble2_any base _ q.2 q.1.d wr hqd (HD.out q hqm) (Nat.le_trans hbase HT.out.size))
      have HQD := Lib.hid hqd
      have HXS := Lib.hid hxs
      have HX := Lib.hid hx
      have HDAT := Lib.hid hdat
      have HQ := Lib.hid hq
      have HNE := Lib.hid (fun j (hj : q.2.ownBlock = some j) => show j ≠ g from fun e => HO.out.ne q hqm j hj (by rw [e]; rfl))
      clear hxs hx hdat hqd hq
      go_wp2_with fail
      (with_reducible refine C1.out.mono ?_)
      rintro e W2 ⟨rfl, hg2⟩
      have hg2' : wr.grownBy W2 q.2.ownBlock := hg2
      have HR2 := Lib.hid (rowAt_keep HR.out hg2' (fun e => by have := HK.out w.heap.size (.inr ⟨q, hqm, e.symm⟩); omega))
      have HXS2 := Lib.hid (own_stay HXS.out hg2' (fun j hj e => HNE.out j e.symm (by have h : (Value.slice (some ⟨g, 0, none⟩) PL.length cap).ownBlock = some j := hj; simp [Value.ownBlock] at h; exact h.symm)))
      have HT2 := Lib.hid (HT.out.trans (Tch.of_grown hg2' (fun j hj => .inr ⟨q, hqm, hj⟩)))
      have HD2 := Lib.hid (fun i q' (h : k + 1 ≤ i) (hq' : PL[i]? = some q') => own_stay (HDAT.out i q' (by omega) hq') hg2' (fun j hj e => two_ne HO.out.two HQ.out hq' (by omega) j hj e.symm))
      have r0 : W2.cell? ⟨w.heap.size, 1, none⟩ = some (.slice (some ⟨g, 0, none⟩) PL.length cap) := HR2.out.cell rfl
      have hlx : xs.length = PL.length * 2 := HXS.out.1
      have e0 : W2.cell? ⟨g, k * 2, none⟩ = xs[k * 2]? := HXS2.out.cellAt (k * 2) (by omega)
      have e1 : W2.cell? ⟨g, k * 2 + 1, none⟩ = xs[k * 2 + 1]? := HXS2.out.cellAt (k * 2 + 1) (by omega)
      obtain ⟨y0, hy0⟩ : ∃ y, xs[k * 2]? = some y := ⟨_, List.getElem?_eq_getElem (by omega)⟩
      obtain ⟨y1, hy1⟩ : ∃ y, xs[k * 2 + 1]? = some y := ⟨_, List.getElem?_eq_getElem (by omega)⟩
      rw [hy0] at e0
      rw [hy1] at e1
      have hfz := HXS2.out.frozenAt
      have hgw : g ≠ w.heap.size := by omega
      clear hg2 hg2' c0 c1 d1 hy0 hy1 hlx C1
      go_wp2
      have H1 := HXS2.out.stored (k * 2) (.int .i64 (-9))
      have H2 := H1.1.stored (k * 2 + 1) (.slice none 0 0)
      go_roundw
      case rel => exact ⟨k + 1, by omega, by go_num, (HT2.out.set (.inl rfl)).set (.inl rfl), (HR2.out.other (Ne.symm hgw)).other (Ne.symm hgw), ⟨⟨_, H2.1, fun i q' h hq' => by rw [set_set_get (by omega)]; exact HX.out i q' (by omega) hq'⟩, fun i q' h hq' => own_stay (own_stay (HD2.out i q' h hq') (grown_set1 _ _ _ _) (fun j hj e => HO.out.ne q' (List.mem_of_getElem? hq') j hj (by injection e with e; rw [e]; rfl))) (grown_set1 _ _ _ _) (fun j hj e => HO.out.ne q' (List.mem_of_getElem? hq') j hj (by injection e with e; rw [e]; rfl))⟩⟩
      case measure => simp [intOf]; omega
    · have hltz : ¬ (k : Int) < (PL.length : Int) := by omega
      go_wp2
      refine bodyPost_end (v := .tuple #[]) (by simp [results, Tryz.results96]) rfl ⟨rfl, HT.out⟩
end Go.Proofs.YtjgbiffgmafhmaaGreat
