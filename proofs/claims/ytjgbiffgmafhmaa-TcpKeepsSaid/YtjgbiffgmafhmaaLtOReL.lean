/-
  Pieces of a stream: buffers copied, compared, written over; the page's own asking.
-/
import Derived.Test.YtjgbiffgmafhmaaLtOReI
import Derived.Laws.ResultCell
namespace Go.Proofs.Ytjgbiffgmafhmaa
open Go.RowKit
set_option maxRecDepth 100000 in
set_option maxHeartbeats 2000000 in
theorem copyBuffer_any (v : Value) (next : Int) (L : List EP) (w : World) (hl : L.length ≤ 1000000) (hd : ∀ x ∈ L, x.d.length ≤ 1000000) (h : KPart.Sl w v L) :
    Calls Try.prog 14 #[.agg #[.int .i64 next, v]] w fun e w' => ∃ v' PL, e = .returned (.agg #[.int .i64 next, v']) ∧ PL.map Prod.fst = L ∧ DOwn KPart 58 w' w.heap.size v' PL ∧ Below w.heap.size w w' := by
  obtain ⟨ao, cap, rfl, -⟩ := id h
  have C1 := Lib.hid (fun W (hb : Below w.heap.size w W) => copyParts_any (.slice ao L.length cap) L W hl hd (h.below hb))
  clear h
  go_enter Try.func14, Try.ntmps14
  go_wp2_with fail
  refine calls_gen (fun W => Below w.heap.size w W ∧ RowAt W (w.heap.size + 1) [.int .i64 0, .slice none 0 0] ∧ RowAt W (w.heap.size + 2) [.int .i64 next, .slice ao L.length cap]) ⟨(((Below.refl _ w).alloc (Nat.le_refl _) _).alloc (by simp) _).alloc (by simp; omega) _, ?_, ?_⟩ ?_
  · have h := (rowAt_alloc (w.alloc (.cells #[.int .i64 next, .slice ao L.length cap] 24)) [.int .i64 0, .slice none 0 0] 24).below ((Below.refl _ _).alloc (Nat.le_refl _) (.cells #[.int .i64 next, .slice ao L.length cap] 24))
    simpa using h
  · have h := rowAt_alloc ((w.alloc (.cells #[.int .i64 next, .slice ao L.length cap] 24)).alloc (.cells #[.int .i64 0, .slice none 0 0] 24)) [.int .i64 next, .slice ao L.length cap] 24
    simpa using h
  rintro W1 ⟨hb1, hs1, hr1⟩
  obtain ⟨bx, hbx⟩ : ∃ bx, bx = w.heap.size + 1 := ⟨_, rfl⟩
  have hbxl : w.heap.size ≤ bx := by omega
  obtain ⟨bz, hbz⟩ : ∃ bz, bz = bx + 1 := ⟨_, rfl⟩
  have hbzl : w.heap.size ≤ bz := by omega
  have hne : bx ≠ bz := by omega
  have hne2 : bz ≠ bx := by omega
  rw [← hbx] at hs1 ⊢
  rw [show w.heap.size + 2 = bz by omega] at hr1
  rw [← hbz]
  clear hbx hbz
  (with_reducible refine (C1.out W1 hb1).mono ?_)
  rintro e W2 ⟨v2, PL, rfl, hPL, hown, hb2⟩
  have HB2 := Lib.hid (hb1.trans (hb2.mono hb1.size))
  have HS2 := Lib.hid (hs1.below hb2)
  have HR2 := Lib.hid (hr1.below hb2)
  have HO2 := Lib.hid hown
  have HPL := Lib.hid hPL
  have hbs : bx < W1.heap.size ∧ bz < W1.heap.size := ⟨hs1.2.2, hr1.2.2⟩
  have hww := hb1.size
  obtain ⟨a2, c2, rfl⟩ := hown.slice
  obtain ⟨r0, r1⟩ : W2.cell? ⟨bz, 0, none⟩ = some (.int .i64 next) ∧ W2.cell? ⟨bz, 1, none⟩ = some (.slice ao L.length cap) := ⟨HR2.out.cell rfl, HR2.out.cell rfl⟩
  obtain ⟨s0, s1⟩ : W2.cell? ⟨bx, 0, none⟩ = some (.int .i64 0) ∧ W2.cell? ⟨bx, 1, none⟩ = some (.slice none 0 0) := ⟨HS2.out.cell rfl, HS2.out.cell rfl⟩
  have sf := HS2.out.2.1
  have rf' := HR2.out.2.1
  clear hb1 hs1 hr1 hown hb2 hPL C1
  go_wp2
  refine bodyPost_ret (v := .agg #[.int .i64 next, .slice a2 PL.length c2]) (by simp [results, Try.results14, go_sem, s0, s1]) rfl ⟨_, PL, rfl, HPL.out, (down_set hbs.1 (down_set hbs.1 (down_set hbs.2 HO2.out))).mono hww, ((HB2.out.setCell (p := ⟨bz, 1, none⟩) hbzl _).setCell (p := ⟨bx, 0, none⟩) hbxl _).setCell (p := ⟨bx, 1, none⟩) hbxl _⟩
end Go.Proofs.Ytjgbiffgmafhmaa
