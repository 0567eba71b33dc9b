/-
  Pieces of a stream: Add.
-/
import Derived.Test.YtjgbiffgmafhmaaLtOReG
import Derived.Test.YtjgbiffgmafhmaaLtOReH
import Derived.Test.YtjgbiffgmafhmaaLtOPaC
namespace Go.Proofs.Ytjgbiffgmafhmaa
open Go.RowKit
/-- What Add takes. -/
def addOk (next : Int) (L : List EP) (seq : Int) (D : List UInt8) : Bool := bufB next L && (decide (0 ≤ seq) && (decide (seq < 4294967296) && decide (D.length ≤ 65536)))
theorem rowAt_keep {w w' : World} {q : Nat} {vs : List Value} {r : Option Nat} (h : RowAt w q vs) (hg : w.grownBy w' r) (hn : some q ≠ r) : RowAt w' q vs := by
  have hb := hg.block q h.2.2 hn
  exact ⟨fun j v hj => (World.cell?_of_block (w := w) (w' := w') (a := ⟨q, j, none⟩) hb).trans (h.1 j v hj), fun j => (World.frozen?_of_block (w := w) (w' := w') (a := ⟨q, j, none⟩) hb).trans (h.2.1 j), Nat.lt_of_lt_of_le h.2.2 hg.size⟩
theorem down_set {W : World} {B x j : Nat} {v u : Value} {PL : List (EP × Value)} (hx : x < B) (h : DOwn KPart 58 W B v PL) : DOwn KPart 58 (W.setCell ⟨x, j, none⟩ u) B v PL := by
  have hg := grown_set1 W x j u
  exact ⟨own_stay h.row hg (fun k hk e => by have := (blk_lt h.row hk).1; injection e with e; omega), fun q hq => own_stay (h.dat q hq) hg (fun k hk e => by have := (blk_lt (h.dat q hq) hk).1; injection e with e; omega), h.ne, h.two⟩
theorem own_set2 {W : World} {B x j n e sz : Nat} {v u : Value} {xs : List Value} (hx : x < B) (h : W.ownsRow B e sz v n xs) : (W.setCell ⟨x, j, none⟩ u).ownsRow B e sz v n xs :=
  own_stay h (grown_set1 W x j u) (fun k hk e => by have := (blk_lt h hk).1; injection e with e; omega)
set_option maxRecDepth 100000 in
set_option maxHeartbeats 4000000 in
theorem radd_good (v vd : Value) (next seq : Int) (L : List EP) (D : List UInt8) (w : World) (hv : KPart.Sl w v L) (hD : Sl w vd D) (hb : addOk next L seq D = true) :
    Calls Try.prog 20 #[.agg #[.int .i64 next, v], .int .i64 seq, vd] w fun e w' => ∃ v' vt PL, e = .returned (.tuple #[.agg #[.int .i64 (addNext next L seq D), v'], vt, .int .i64 0]) ∧ PL.map Prod.fst = addParts next L seq D ∧ DOwn KPart 58 w' w.heap.size v' PL ∧ w'.ownsRow w.heap.size 5 1 vt (addTold next L seq D).length ((addTold next L seq D).map B8) ∧ Apart vt v' PL ∧ Below w.heap.size w w' := by
  unfold addOk at hb
  rw [Bool.and_eq_true, Bool.and_eq_true, Bool.and_eq_true, decide_eq_true_eq, decide_eq_true_eq, decide_eq_true_eq] at hb
  obtain ⟨hB, h0, h1, h2⟩ := hb
  obtain ⟨hn, hl8, hok⟩ := bufB_parts hB
  have hall := okP_all hok
  have hl : L.length ≤ 1000000 := by omega
  have hd : ∀ x ∈ L, x.d.length ≤ 1000000 := fun x hx => by have := (hall x hx).2.2; omega
  obtain ⟨ad, cd, rfl, -⟩ := id hD
  obtain ⟨ao, cap, rfl, -⟩ := id hv
  have K1 := Lib.hid (fun W (hb : Below w.heap.size w W) => by have := rcheck_any (.slice ao L.length cap) next L W hl hd (hv.below hb); rw [hB, if_pos rfl] at this; exact this)
  have K2 := Lib.hid (fun W (hb : Below w.heap.size w W) => fill_any (.slice ao L.length cap) next L W hB (hv.below hb))
  have K3 := Lib.hid (fun W q (hb : Below w.heap.size w W) (hq : w.heap.size ≤ q) (hr : RowAt W q (winRow next (fillW next win0 L))) => lay_any q next seq (fillW next win0 L) (.slice ad D.length cd) D W (by rw [fillW_len, win0_len]) hn ⟨h0, h1⟩ h2 hr (hD.below hb) (fun b off n c he hne => by
    obtain ⟨ao', c2, hv', -, -, -, h4⟩ := hD
    obtain ⟨b2, o2, rfl, hlt2, -⟩ := h4 hne
    rw [he] at hv'
    simp at hv'
    omega))
  have K4 := Lib.hid (fun W q (hr : RowAt W q (winRow next (addW next L seq D))) => pieces_any q next (addW next L seq D) W (addW_len next L seq D) hr)
  have K5 := Lib.hid (fun W (hb : Below w.heap.size w W) => twin_any (.slice ao L.length cap) next L W hl hd (hv.below hb))
  have h2z : (D.length : Int) ≤ 65536 := by omega
  clear hv hD hd hB hall hok hl8 hl hn h2
  go_enter Try.func20, Try.ntmps20
  go_wp2_with fail
  refine calls_gen (fun W => Below w.heap.size w W ∧ RowAt W w.heap.size [.int .i64 next, .slice ao L.length cap] ∧ RowAt W (w.heap.size + 1) [.int .i64 0, .slice none 0 0]) ⟨((Below.refl _ w).alloc (Nat.le_refl _) _).alloc (by simp) _, (rowAt_alloc w [.int .i64 next, .slice ao L.length cap] 24).below ((Below.refl _ _).alloc (Nat.le_refl _) _), by have := rowAt_alloc (w.alloc (.cells [.int .i64 next, .slice ao L.length cap].toArray 24)) [.int .i64 0, .slice none 0 0] 24; simpa using this⟩ ?_
  rintro W1 ⟨hb1, hr1, hs1⟩
  obtain ⟨bx, hbx⟩ : ∃ bx, bx = w.heap.size := ⟨_, rfl⟩
  have hbxl : w.heap.size ≤ bx := by omega
  rw [← hbx] at hr1 hs1 ⊢
  clear hbx
  (with_reducible refine (K1.out W1 hb1).mono ?_)
  rintro e W2 ⟨rfl, hb2⟩
  have HB2 := Lib.hid (hb1.trans (hb2.mono hb1.size))
  have HR2 := Lib.hid (hr1.below hb2)
  have HS2 := Lib.hid (hs1.below hb2)
  clear hb1 hr1 hs1 hb2 K1
  obtain ⟨r0, r1⟩ : W2.cell? ⟨bx, 0, none⟩ = some (.int .i64 next) ∧ W2.cell? ⟨bx, 1, none⟩ = some (.slice ao L.length cap) := ⟨HR2.out.cell rfl, HR2.out.cell rfl⟩
  go_wp2_with fail
  (with_reducible refine (K2.out W2 HB2.out).mono ?_)
  rintro e W3 ⟨q, rfl, hqle, hrq, hb3⟩
  have hqw : w.heap.size ≤ q := Nat.le_trans HB2.out.size hqle
  have HB3 := Lib.hid (HB2.out.trans (hb3.mono HB2.out.size))
  have HR3 := Lib.hid (HR2.out.below hb3)
  have HS3 := Lib.hid (HS2.out.below hb3)
  have hq3 : bx < q ∧ bx + 1 < q := by have := HR2.out.2.2; have := HS2.out.2.2; omega
  have HQ3 := Lib.hid hrq
  clear hb3 hrq r0 r1 K2 HR2 HS2 HB2 hqle
  go_wp2_with fail
  (with_reducible refine (K3.out W3 q HB3.out hqw HQ3.out).mono ?_)
  rintro e W4 ⟨rfl, hr4, hg4⟩
  have HB4 := Lib.hid (HB3.out.grown hg4 HB3.out.size (fun k hk => by injection hk with hk; omega))
  have HR4 := Lib.hid (rowAt_keep HR3.out hg4 (by simp; omega))
  have HS4 := Lib.hid (rowAt_keep HS3.out hg4 (by simp; omega))
  have HQ4 := Lib.hid (show RowAt W4 q (winRow next (addW next L seq D)) from hr4)
  clear hr4 hg4 K3 HB3 HR3 HS3 HQ3
  go_wp2_with fail
  (with_reducible refine (K4.out W4 q HQ4.out).mono ?_)
  rintro e W5 ⟨vt, vp, PL, rfl, hPL, hown, hto, hap, hb5⟩
  have HB5 := Lib.hid (HB4.out.trans (hb5.mono HB4.out.size))
  have HR5 := Lib.hid (HR4.out.below hb5)
  have HS5 := Lib.hid (HS4.out.below hb5)
  have HO5 := Lib.hid hown
  have HT5 := Lib.hid hto
  have HA5 := Lib.hid hap
  have hPl : PL.length = (partsL (addW next L seq D) 2048).length := by have := congrArg List.length hPL; rwa [List.length_map, List.length_map] at this
  have hbs : bx < W4.heap.size ∧ bx + 1 < W4.heap.size := ⟨HR4.out.2.2, HS4.out.2.2⟩
  have hww : w.heap.size ≤ W4.heap.size := HB4.out.size
  obtain ⟨ap, cp, rfl⟩ := hown.slice
  obtain ⟨at', ct, rfl⟩ := own_slice hto
  have HPL := Lib.hid hPL
  obtain ⟨r0, r1⟩ : W5.cell? ⟨bx, 0, none⟩ = some (.int .i64 next) ∧ W5.cell? ⟨bx, 1, none⟩ = some (.slice ao L.length cap) := ⟨HR5.out.cell rfl, HR5.out.cell rfl⟩
  clear hb5 hown hto hap hPL K4 HB4 HR4 HS4 HQ4
  by_cases hf : PL.length ≤ 8
  · have hfit : addFits next L seq D = true := by unfold addFits; rw [decide_eq_true_eq]; omega
    have HN := Lib.hid (show addNext next L seq D = addv next (toldN (addW next L seq D)) by unfold addNext; rw [if_pos hfit])
    have HP := Lib.hid (show PL.map Prod.fst = addParts next L seq D by unfold addParts addP; rw [if_pos hfit]; exact HPL.out)
    have HTT := Lib.hid (show addTold next L seq D = ((addW next L seq D).take (toldN (addW next L seq D))).map byt ∧ (addTold next L seq D).length = toldN (addW next L seq D) by
      have e : addTold next L seq D = ((addW next L seq D).take (toldN (addW next L seq D))).map byt := by unfold addTold; rw [if_pos hfit]
      refine ⟨e, ?_⟩
      rw [e, List.length_map, List.length_take]; have := toldN_le (addW next L seq D); omega)
    have A1 := Lib.hid (fun W => spanAdd_any next (toldN (addW next L seq D) : Int) W)
    have hfz : (PL.length : Int) ≤ 8 := by omega
    obtain ⟨s0, s1⟩ : W5.cell? ⟨bx + 1, 0, none⟩ = some (.int .i64 0) ∧ W5.cell? ⟨bx + 1, 1, none⟩ = some (.slice none 0 0) := ⟨HS5.out.cell rfl, HS5.out.cell rfl⟩
    have sf := HS5.out.2.1
    generalize addv next (toldN (addW next L seq D)) = N9 at *
    clear hfit hPl hf
    go_wp2_with (first | ((with_reducible refine (A1.out _).mono ?_); rintro e w' ⟨rfl, rfl⟩))
    refine bodyPost_ret (v := .tuple #[.agg #[.int .i64 N9, .slice ap PL.length cp], .slice at' (toldN (addW next L seq D)) ct, .int .i64 0]) (by simp [results, Try.results20, go_sem, s0, s1]) rfl ⟨_, _, PL, by rw [HN.out], HP.out, (down_set hbs.2 (down_set hbs.2 HO5.out)).mono hww, ?_, HA5.out, (HB5.out.setCell (p := ⟨bx + 1, 0, none⟩) (by show w.heap.size ≤ bx + 1; omega) _).setCell (p := ⟨bx + 1, 1, none⟩) (by show w.heap.size ≤ bx + 1; omega) _⟩
    rw [HTT.out.2, HTT.out.1]
    exact own_mono (own_set2 hbs.2 (own_set2 hbs.2 HT5.out)) hww
  · have hfit : addFits next L seq D = false := by unfold addFits; rw [decide_eq_false_iff_not]; omega
    have hN : addNext next L seq D = next := by unfold addNext; rw [hfit]; rfl
    have hP : addParts next L seq D = L := by unfold addParts; rw [hfit]; rfl
    have hT : addTold next L seq D = [] := by unfold addTold; rw [hfit]; rfl
    have HN := Lib.hid hN
    have HP := Lib.hid hP
    have HT := Lib.hid hT
    have hfz : ¬ (PL.length : Int) ≤ 8 := by omega
    have hfz2 : (8 : Int) < (PL.length : Int) := by omega
    clear hfit hPl hN hP hT hf HO5 HT5 HA5 HPL
    go_wp2_with fail
    (with_reducible refine (K5.out W5 HB5.out).mono ?_)
    rintro e W6 ⟨v6, P6, rfl, hP6, hown6, hb6⟩
    have HB6 := Lib.hid (HB5.out.trans (hb6.mono HB5.out.size))
    have HS6 := Lib.hid (HS5.out.below hb6)
    have HO6 := Lib.hid hown6
    have HP6 := Lib.hid hP6
    have hbs5 : bx + 1 < W5.heap.size := HS5.out.2.2
    have hww5 := HB5.out.size
    obtain ⟨a6, c6, rfl⟩ := hown6.slice
    obtain ⟨s0, s1⟩ : W6.cell? ⟨bx + 1, 0, none⟩ = some (.int .i64 0) ∧ W6.cell? ⟨bx + 1, 1, none⟩ = some (.slice none 0 0) := ⟨HS6.out.cell rfl, HS6.out.cell rfl⟩
    have sf := HS6.out.2.1
    clear hb6 hown6 hP6 K5
    go_wp2
    refine bodyPost_ret (v := .tuple #[.agg #[.int .i64 next, .slice a6 P6.length c6], .slice none 0 0, .int .i64 0]) (by simp [results, Try.results20, go_sem, s0, s1]) rfl ⟨_, _, P6, by rw [HN.out], by rw [HP.out]; exact HP6.out, (down_set hbs5 (down_set hbs5 HO6.out)).mono hww5, by rw [HT.out]; exact World.ownsRow_nil _ _ _ _, fun k hk => by simp [Value.ownBlock] at hk, (HB6.out.setCell (p := ⟨bx + 1, 0, none⟩) (by show w.heap.size ≤ bx + 1; omega) _).setCell (p := ⟨bx + 1, 1, none⟩) (by show w.heap.size ≤ bx + 1; omega) _⟩
end Go.Proofs.Ytjgbiffgmafhmaa
