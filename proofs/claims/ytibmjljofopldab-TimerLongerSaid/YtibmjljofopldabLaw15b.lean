/-
  The law TimerLonger: rung and set back, a timer waits twice as long each time, up to the longest, and tries so often. No condition.
-/
import Derived.Test.YtibmjljofopldabTimB
import Derived.Test.YtibmjljofopldabRead
namespace Go.Proofs.Ytibmjljofopldab
open Go.RowKit
/-- A timer lies in this block. -/
def TmAt (w : World) (b : Nat) (t : Tm) : Prop := w.heap[b]? = some (.cells #[.bool t.on, .int .i64 t.left, .int .i64 t.wait, .int .i64 t.tries] 50 (0, 0))
theorem TmAt.cells {w : World} {b : Nat} {t : Tm} (h : TmAt w b t) :
    (w.cell? ⟨b, 0, none⟩ = some (.bool t.on) ∧ w.cell? ⟨b, 1, none⟩ = some (.int .i64 t.left) ∧ w.cell? ⟨b, 2, none⟩ = some (.int .i64 t.wait) ∧ w.cell? ⟨b, 3, none⟩ = some (.int .i64 t.tries)) ∧
    (∀ k, w.frozen? ⟨b, k, none⟩ = false) ∧ b < w.heap.size := by
  unfold TmAt at h
  refine ⟨⟨?_, ?_, ?_, ?_⟩, fun k => ?_, ?_⟩
  · simp [World.cell?, h]
  · simp [World.cell?, h]
  · simp [World.cell?, h]
  · simp [World.cell?, h]
  · simp [World.frozen?, h]
  · rcases Nat.lt_or_ge b w.heap.size with h' | h'
    · exact h'
    · rw [Array.getElem?_eq_none h'] at h; simp at h
theorem TmAt.congr {w w' : World} {b : Nat} {t : Tm} (h : TmAt w b t) (he : w'.heap[b]? = w.heap[b]?) : TmAt w' b t := by unfold TmAt; rw [he]; exact h
theorem TmAt.new (w : World) (t : Tm) : TmAt (w.alloc (.cells #[.bool t.on, .int .i64 t.left, .int .i64 t.wait, .int .i64 t.tries] 50)) w.heap.size t := by
  show (w.heap.push _)[w.heap.size]? = _
  simp
theorem TmAt.put {w : World} {b : Nat} {t : Tm} (h : TmAt w b t) (o : Bool) (x y z : Int) :
    TmAt ((((w.setCell ⟨b, 0, none⟩ (.bool o)).setCell ⟨b, 1, none⟩ (.int .i64 x)).setCell ⟨b, 2, none⟩ (.int .i64 y)).setCell ⟨b, 3, none⟩ (.int .i64 z)) b ⟨o, x, y, z⟩ := by
  unfold TmAt at h ⊢
  simp [World.setCell, Array.getElem?_modify, h]
theorem num15_any (n : Int) (w : World) : Calls Try.prog 26 #[.int .i64 n] w fun e w' => e = .returned (.int .i64 n) ∧ w = w' := by
  go_enter Try.func26, Try.ntmps26
  go_wp2
  go_ret
  exact ⟨rfl, rfl⟩
theorem wakes15_any (w : World) : Calls Try.prog 34 #[] w fun e w' => e = .returned (.bool true) ∧ Below w.heap.size w w' := by
  have ck0 := fun W => start_any 2 W (by omega) (by omega)
  have ck1 := fun W => tick_any ⟨true, 2, 2, 0⟩ W (by decide)
  have ck2 := fun W => tick_any ⟨true, 1, 2, 0⟩ W (by decide)
  rw [show tickv ⟨true, 2, 2, 0⟩ = ⟨true, 1, 2, 0⟩ from rfl, show ringv ⟨true, 2, 2, 0⟩ = false from rfl] at ck1
  rw [show tickv ⟨true, 1, 2, 0⟩ = ⟨true, 0, 2, 0⟩ from rfl, show ringv ⟨true, 1, 2, 0⟩ = true from rfl] at ck2
  simp only [Tm.v] at ck0 ck1 ck2
  have CK0 := Lib.hid ck0; have CK1 := Lib.hid ck1; have CK2 := Lib.hid ck2; clear ck0 ck1 ck2
  go_enter Try.func34, Try.ntmps34
  go_wp2_with fail
  refine (CK0.out _).mono ?_
  rintro e w1 ⟨rfl, hb1⟩
  go_wp2_with fail
  refine (CK1.out _).mono ?_
  rintro e w2 ⟨rfl, hb2⟩
  have t1 : TmAt (w1.alloc (.cells #[.bool true, .int .i64 2, .int .i64 2, .int .i64 0] 50)) w1.heap.size ⟨true, 2, 2, 0⟩ := TmAt.new w1 ⟨true, 2, 2, 0⟩
  have t2 := t1.congr (hb2.block _ (by simp))
  obtain ⟨⟨c0, c1, c2, c3⟩, hfr, hlt⟩ := t2.cells
  dsimp only at c0 c1 c2 c3
  have f0 := hfr 0
  have f1 := hfr 1
  have f2 := hfr 2
  have f3 := hfr 3
  clear hfr t1
  have hP := t2.put true 1 2 0
  have hlt3 : w1.heap.size < ((((w2.setCell ⟨w1.heap.size, 0, none⟩ (.bool true)).setCell ⟨w1.heap.size, 1, none⟩ (.int .i64 1)).setCell ⟨w1.heap.size, 2, none⟩ (.int .i64 2)).setCell ⟨w1.heap.size, 3, none⟩ (.int .i64 0)).heap.size := hP.cells.2.2
  have HP := Lib.hid hP; clear hP t2
  go_wp2_with fail
  refine (CK2.out _).mono ?_
  rintro e w3 ⟨rfl, hb3⟩
  clear c0 c1 c2 c3 f0 f1 f2 f3
  go_wp2_with (go_at_call 26; refine (num15_any _ _).mono ?_; rintro e w' ⟨rfl, rfl⟩)
  go_ret
  have hs1 := hb1.size
  refine ⟨rfl, hb1.trans (Below.trans ((Below.refl _ w1).alloc hs1 _) ((hb2.mono (by simp; omega)).trans (Below.trans ?_ ((hb3.mono ?_).alloc ?_ _))))⟩
  · exact ((((Below.refl _ _).setCell (by exact hs1) _).setCell (by exact hs1) _).setCell (by exact hs1) _).setCell (by exact hs1) _
  · simp; have := hb2.size; simp at this; omega
  · have h2 := hb2.size; have h3 := hb3.size; simp at h2 h3; omega
set_option maxRecDepth 100000 in
set_option maxHeartbeats 4000000 in
theorem timerLonger_any (on : Bool) (a0 a1 a2 : Int) (ao : Option Addr) (len cap : Nat) (w : World) (hlen : len ≤ 9223372036854775807) :
    Calls Try.prog 9 #[.agg #[.bool on, .int .i64 a0, .int .i64 a1, .int .i64 a2, .slice ao len cap]] w fun e w' => e = .returned (.bool true) ∧ Below w.heap.size w w' := by
  go_enter Try.func9, Try.ntmps9
  go_wp2
  go_loopw [3] (fun i wr => ∃ n : Int, 1 ≤ n ∧ n ≤ 60 ∧ i = .int .i64 n ∧ Below w.heap.size w wr ∧ wr.cell? ⟨w.heap.size, 4, none⟩ = some (.slice ao len cap) ∧ w.heap.size < wr.heap.size) (fun i _ => 60 - (intOf i).toNat)
  case atStart => exact ⟨1, by omega, by omega, rfl, below_box _ _, by simp [go_sem], by simp⟩
  case round =>
    obtain ⟨n, hn1, hn60, rfl, hbl, hcell, hsz⟩ := hrel
    by_cases hn : n ≤ 48
    · go_wp2_with fail
      refine (start_any n _ hn1 hn).mono ?_
      rintro e w1 ⟨rfl, hb1⟩
      have hbl1 := hbl.trans (hb1.mono (Nat.le_of_lt hsz))
      have hcell1 := (hb1.cell (p := ⟨w.heap.size, 4, none⟩) hsz).trans hcell
      have hsz1 := Nat.lt_of_lt_of_le hsz hb1.size
      unfold Tm.v
      dsimp only
      clear hbl hcell hsz hb1
      go_wp2_with (go_at_call 26; refine (num15_any _ _).mono ?_; rintro e w' ⟨rfl, rfl⟩)
      go_loopw [6, 7] (fun a b wr => ∃ wt k : Int, a = .int .i64 wt ∧ b = .int .i64 k ∧ 1 ≤ wt ∧ wt ≤ 48 ∧ 0 ≤ k ∧ k ≤ 8 ∧ Below w.heap.size w wr ∧ wr.cell? ⟨w.heap.size, 4, none⟩ = some (.slice ao len cap) ∧ w.heap.size < w1.heap.size ∧ TmAt wr w1.heap.size ⟨true, wt, wt, k⟩) (fun _ b _ => 9 - (intOf b).toNat)
      case atStart => exact ⟨n, 0, rfl, rfl, hn1, hn, by omega, by omega, hbl1.alloc (Nat.le_of_lt hsz1) _, (World.cell?_alloc_past _ _ _ (by simpa using hsz1)).trans hcell1, hsz1, TmAt.new w1 ⟨true, n, n, 0⟩⟩
      case round =>
        obtain ⟨wm, rfl⟩ : ∃ wo : World, wo = wr := ⟨_, rfl⟩
        obtain ⟨wt, k, rfl, rfl, hw1, hw2, hk0, hk8, hblm, hcm, hsm, htm⟩ := hrel
        clear hbl1 hcell1
        go_wp2
        go_loopw [8] (fun i wr => ∃ j : Int, i = .int .i64 j ∧ 1 ≤ j ∧ j ≤ wt + 1 ∧ Below w.heap.size w wr ∧ wr.cell? ⟨w.heap.size, 4, none⟩ = some (.slice ao len cap) ∧ TmAt wr w1.heap.size ⟨true, wt + 1 - j, wt, k⟩) (fun i _ => 50 - (intOf i).toNat)
        case atStart => exact ⟨1, rfl, by omega, by omega, hblm, hcm, by rw [show wt + 1 - 1 = wt by omega]; exact htm⟩
        case round =>
          obtain ⟨wi, rfl⟩ : ∃ wo : World, wo = wr := ⟨_, rfl⟩
          obtain ⟨j, rfl, hj1, hj2, hbli, hci, hti⟩ := hrel
          clear hblm hcm htm
          obtain ⟨⟨c0, c1, c2, c3⟩, hfr, hlt⟩ := hti.cells
          dsimp only at c0 c1 c2 c3
          by_cases hj : j ≤ wt
          · have f0 := hfr 0
            have f1 := hfr 1
            have f2 := hfr 2
            have f3 := hfr 3
            have HT := Lib.hid hti; clear hti hfr
            have htv : tv ⟨true, wt + 1 - j, wt, k⟩ = true := by simp [tv]; omega
            have hfin : (Value.tuple #[(tickv ⟨true, wt + 1 - j, wt, k⟩).v, .bool (ringv ⟨true, wt + 1 - j, wt, k⟩), .int .i64 0]) = .tuple #[.agg #[.bool true, .int .i64 (wt + 1 - (j + 1)), .int .i64 wt, .int .i64 k], .bool (j == wt), .int .i64 0] := by
              have e1 : max (wt + 1 - j - 1) 0 = wt + 1 - (j + 1) := by omega
              have e2 : decide (wt + 1 - (j + 1) = 0) = (j == wt) := by rw [Bool.eq_iff_iff]; simp; omega
              simp only [tickv, ringv, Tm.v, if_true, e1, e2, Bool.true_and]
            have ck := fun W => tick_any ⟨true, wt + 1 - j, wt, k⟩ W htv
            rw [hfin] at ck
            simp only [Tm.v] at ck
            have CK := Lib.hid ck; clear ck hfin htv
            go_wp2_with fail
            clear c0 c1 c2 c3 f0 f1 f2 f3
            refine (CK.out _).mono ?_
            rintro e wb ⟨rfl, hb⟩
            have ht2 := HT.out.congr (hb.block _ hlt)
            have hlt2 := Nat.lt_of_lt_of_le hlt hb.size
            have hbl2 := hbli.trans (hb.mono hbli.size)
            have hc2 := (hb.cell (p := ⟨w.heap.size, 4, none⟩) (by simp; omega)).trans hci
            obtain ⟨⟨c0, c1, c2, c3⟩, hfr, -⟩ := ht2.cells
            dsimp only at c0 c1 c2 c3
            have f0 := hfr 0
            have f1 := hfr 1
            have f2 := hfr 2
            have f3 := hfr 3
            have HT2 := Lib.hid ht2; clear ht2 hfr hci hbli HT CK hb
            have hq : ((j == wt) != (j == wt)) = false := by simp
            go_wp2_with (go_at_call 26; refine (num15_any _ _).mono ?_; rintro e w' ⟨rfl, rfl⟩)
            have hX := ((((Below.refl (w.heap.size + 1) wb).setCell (p := ⟨w1.heap.size, 0, none⟩) hsm (.bool true)).setCell (p := ⟨w1.heap.size, 1, none⟩) hsm (.int .i64 (wt + 1 - (j + 1)))).setCell (p := ⟨w1.heap.size, 2, none⟩) hsm (.int .i64 wt)).setCell (p := ⟨w1.heap.size, 3, none⟩) hsm (.int .i64 k)
            have hP := HT2.out.put true (wt + 1 - (j + 1)) wt k
            have hsz3 : w1.heap.size < ((((wb.setCell ⟨w1.heap.size, 0, none⟩ (.bool true)).setCell ⟨w1.heap.size, 1, none⟩ (.int .i64 (wt + 1 - (j + 1)))).setCell ⟨w1.heap.size, 2, none⟩ (.int .i64 wt)).setCell ⟨w1.heap.size, 3, none⟩ (.int .i64 k)).heap.size := hP.cells.2.2
            have hY := hX.alloc (by omega) (.cells #[.bool true, .int .i64 (wt + 1 - (j + 1)), .int .i64 wt, .int .i64 k] 50)
            go_roundw
            case rel => exact ⟨j + 1, rfl, by omega, by omega, hbl2.trans (hY.mono (Nat.le_succ _)), (hY.cell (p := ⟨w.heap.size, 4, none⟩) (by simp)).trans hc2, hP.congr (Below.heap_alloc _ _ _ hsz3)⟩
            case measure => simp [intOf]; omega
          · have hj' : j = wt + 1 := by omega
            subst hj'
            rw [show wt + 1 - (wt + 1) = 0 by omega] at c1 hti
            have f0 := hfr 0
            have f1 := hfr 1
            have f2 := hfr 2
            have f3 := hfr 3
            have HT := Lib.hid hti; clear hti hfr
            have htv : tv ⟨true, 0, wt, k⟩ = true := by simp [tv]; omega
            by_cases hk : k = 8
            · subst hk
              have ck := fun W => back_any ⟨true, 0, wt, 8⟩ W htv rfl
              simp only [Tm.v, if_true] at ck
              have CK := Lib.hid ck; clear ck htv
              go_wp2_with fail
              clear c0 c1 c2 c3 f0 f1 f2 f3
              refine (CK.out _).mono ?_
              rintro e wb ⟨rfl, hb⟩
              have hbl2 := hbli.trans (hb.mono hbli.size)
              have hc2 := (hb.cell (p := ⟨w.heap.size, 4, none⟩) (by simp; omega)).trans hci
              have hsz2 : w.heap.size < wb.heap.size := by have := hb.size; omega
              clear CK HT hb hbli hci
              go_wp2_with (go_at_call 26; refine (num15_any _ _).mono ?_; rintro e w' ⟨rfl, rfl⟩)
              go_roundw
              case rel => exact ⟨n + 1 + (len : Int) % 4, by omega, by omega, rfl, hbl2.alloc (by omega) _, (World.cell?_alloc_past _ _ _ hsz2).trans hc2, by simp; omega⟩
              case measure => simp [intOf]; omega
            · have hk' : (k == 8) = false := by simpa using hk
              have h3 : (k + 1 != k + 1) = false := by simp
              obtain ⟨bw, hbw⟩ : ∃ bw, bw = backw wt := ⟨_, rfl⟩
              have ck := fun W => back_any ⟨true, 0, wt, k⟩ W htv rfl
              simp only [Tm.v, backv, hk, if_false, ← hbw] at ck
              have CK := Lib.hid ck; clear ck htv
              have hcs := backw_cases wt (by omega) hw2
              rw [← hbw] at hcs
              clear hbw
              have hbw0 : 1 ≤ bw ∧ bw ≤ 48 := by omega
              have h4 : (bw != bw) = false := by simp
              have hk2 : k + 1 ≤ 8 := by omega
              go_wp2_with fail
              clear c0 c1 c2 c3 f0 f1 f2 f3
              refine (CK.out _).mono ?_
              rintro e wb ⟨rfl, hb⟩
              have ht2 := HT.out.congr (hb.block _ hlt)
              have hbl2 := hbli.trans (hb.mono hbli.size)
              have hc2 := (hb.cell (p := ⟨w.heap.size, 4, none⟩) (by simp; omega)).trans hci
              obtain ⟨⟨c0, c1, c2, c3⟩, hfr, hlt2⟩ := ht2.cells
              dsimp only at c0 c1 c2 c3
              have f0 := hfr 0
              have f1 := hfr 1
              have f2 := hfr 2
              have f3 := hfr 3
              have hsz2 : w.heap.size < wb.heap.size := by have := hb.size; omega
              have HT2 := Lib.hid ht2; clear ht2 hfr CK HT hb hbli hci hk
              have hX := ((((Below.refl (w.heap.size + 1) wb).setCell (p := ⟨w1.heap.size, 0, none⟩) hsm (.bool true)).setCell (p := ⟨w1.heap.size, 1, none⟩) hsm (.int .i64 bw)).setCell (p := ⟨w1.heap.size, 2, none⟩) hsm (.int .i64 bw)).setCell (p := ⟨w1.heap.size, 3, none⟩) hsm (.int .i64 (k + 1))
              have hP := HT2.out.put true bw bw (k + 1)
              have hsz3 : w1.heap.size < ((((wb.setCell ⟨w1.heap.size, 0, none⟩ (.bool true)).setCell ⟨w1.heap.size, 1, none⟩ (.int .i64 bw)).setCell ⟨w1.heap.size, 2, none⟩ (.int .i64 bw)).setCell ⟨w1.heap.size, 3, none⟩ (.int .i64 (k + 1))).heap.size := hP.cells.2.2
              have hY := hX.alloc (by omega) (.cells #[.bool true, .int .i64 bw, .int .i64 bw, .int .i64 (k + 1)] 50)
              have HX := Lib.hid hX; have HP := Lib.hid hP; have HS3 := Lib.hid hsz3; have HY := Lib.hid hY
              clear hX hP hsz3 hY
              rcases hcs with ⟨rfl, hb'⟩ | ⟨g1, g2, rfl⟩ | ⟨rfl, rfl⟩ | ⟨g1, rfl⟩
              · omega
              all_goals
                go_wp2_with (go_at_call 26; refine (num15_any _ _).mono ?_; rintro e w' ⟨rfl, rfl⟩)
                go_roundw
                case rel => exact ⟨_, k + 1, rfl, rfl, by omega, by omega, by omega, by omega, hbl2.trans (HY.out.mono (Nat.le_succ _)), (HY.out.cell (p := ⟨w.heap.size, 4, none⟩) (by simp)).trans hc2, by omega, HP.out.congr (Below.heap_alloc _ _ _ HS3.out)⟩
                case measure => simp [intOf]; omega
    · go_wp2_with fail
      refine (wakes15_any _).mono ?_
      rintro e w1 ⟨rfl, hb1⟩
      go_wp2
      go_ret
      exact ⟨rfl, hbl.trans (hb1.mono (Nat.le_of_lt hsz))⟩
theorem cI : Try.prog.cellsOf 3 = 1 := by kernel_rfl
theorem cBo : Try.prog.cellsOf 4 = 1 := by kernel_rfl
theorem cTm : Try.prog.cellsOf 50 = 4 := by kernel_rfl
theorem cSl : Try.prog.cellsOf 51 = 1 := by kernel_rfl
theorem tm_of (W : World) (cs : List Value) (h : Rd Try.prog W 50 cs) : ∃ t : Tm, cs = [.bool t.on, .int .i64 t.left, .int .i64 t.wait, .int .i64 t.tries] := by
  obtain ⟨hlen, hf⟩ := h.struct Try.underlying50
  rw [cTm] at hlen
  match cs, hlen with
  | [c0, c1, c2, c3], _ =>
    obtain ⟨b, h0⟩ := (hf 0 _ rfl).bool Try.underlying4
    obtain ⟨l, h1, -⟩ := (hf 1 _ rfl).i64 Try.underlying3
    obtain ⟨w, h2, -⟩ := (hf 2 _ rfl).i64 Try.underlying3
    obtain ⟨k, h3, -⟩ := (hf 3 _ rfl).i64 Try.underlying3
    have e0 : c0 = .bool b := by simpa [cBo] using h0
    have e1 : c1 = .int .i64 l := by simpa [cI] using h1
    have e2 : c2 = .int .i64 w := by simpa [cI] using h2
    have e3 : c3 = .int .i64 k := by simpa [cI] using h3
    subst e0 e1 e2 e3
    exact ⟨⟨b, l, w, k⟩, rfl⟩
/-- The script of layer 15, read: a timer's four cells, and a slice's one. -/
theorem script15 (W : World) (cs : List Value) (h : Rd Try.prog W 53 cs) :
    ∃ (t : Tm) (v : Value), cs = [.bool t.on, .int .i64 t.left, .int .i64 t.wait, .int .i64 t.tries, v] ∧ Rd Try.prog W 51 [v] := by
  obtain ⟨hlen, hf⟩ := h.struct Try.underlying53
  have hc5 : Try.prog.cellsOf 53 = 5 := by kernel_rfl
  rw [hc5] at hlen
  match cs, hlen with
  | [c0, c1, c2, c3, c4], _ =>
    obtain ⟨t, ht⟩ := tm_of W _ (hf 0 _ rfl)
    have h4 := hf 1 _ rfl
    have e0 : [c0, c1, c2, c3] = [.bool t.on, .int .i64 t.left, .int .i64 t.wait, .int .i64 t.tries] := by simpa [cTm] using ht
    simp only [List.cons.injEq, and_true] at e0
    obtain ⟨rfl, rfl, rfl, rfl⟩ := e0
    exact ⟨t, c4, rfl, by simpa [cSl] using h4⟩
theorem timerLonger_walk (W : World) (cs : List Value) (h : Rd Try.prog W 53 cs) :
    Calls Try.prog 9 #[.agg cs.toArray] W fun e W' => e = .returned (.bool true) ∧ Below W.heap.size W W' := by
  obtain ⟨t, v, rfl, hr⟩ := script15 W cs h
  obtain ⟨ao, len, cap, hv, h1, h2, -⟩ := hr.slice Try.underlying51 (by decide +kernel)
  obtain rfl : v = .slice ao len cap := by simpa using hv
  exact timerLonger_any t.on t.left t.wait t.tries ao len cap W (by unfold maxLen at h2; omega)
namespace timerLonger
open Go.ChangeShapes Go.WideShapes Go.ChangeAt
theorem own : ownKnob Try.prog.godebug = none := by kernel_rfl
theorem laidOut : laidOutB Try.prog = true := by kernel_rfl
set_option maxRecDepth 100000 in
theorem lifted (os : Os) (started : os.Started) (H : Type) (enc : TypeId × Value → H) :
    ReturnsInHanded {} Try.checked os 9 .any (Rows.timerLongerSpec.pre6 enc Try.prog Try.f9 Rows.timerLongerRow.domain false) (Rows.timerLongerSpec.post enc Try.prog Try.f9 false true false false) := by
  refine returnsInHanded_of_change (C := Try.checked) own started (by kernel_rfl) Try.func9
    (ChangeSpec.witness6 (enc := enc) (C := Try.checked) false ⟨#[], #[.agg #[.bool false, .int .i64 0, .int .i64 0, .int .i64 0, .slice none 0 0]], []⟩ 12 (by kernel_rfl) (by kernel_rfl) (by kernel_rfl) (by kernel_rfl)) ?_
  intro W base args ds gs before hval0 hW _ _
  have hval : ∀ (j : Nat) t v, Try.f9.params[j]? = some t → args[j]? = some v → Value.okWide Try.prog W .any base t v := hval0
  have hW' := hW
  obtain ⟨p, q, hA0, hV, rfl, hfz, hnd⟩ := hW
  have hA : DataW.TrodAll enc Try.prog W 0 (fun _ => true) true Try.f9.params.toList args.toList ds p := hA0
  rw [Try.params9] at hA hval
  obtain ⟨v0, vs0, d0, ds0, p0, q0, hargs, rfl, rfl, h0, r0⟩ := trodAll_cons hA
  obtain ⟨rfl, rfl, rfl⟩ := trodAll_nil r0
  obtain rfl : args = #[v0] := by cases args; simp_all
  obtain ⟨rfl, rfl⟩ := trodVars_none hV
  obtain ⟨cs0, rfl⟩ : ∃ cs0 : Array Value, v0 = .agg cs0 := by
    have h := hval 0 53 v0 rfl rfl
    unfold Value.okWide at h
    rw [Try.underlying53] at h
    exact ⟨h.choose, h.choose_spec.1⟩
  have k0 := h0
  have lt0 : ∀ x ∈ p0, x.block < W.heap.size := by obtain ⟨m, hm⟩ := k0; exact DataW.trod_lt m _ _ _ hm
  have hrd : Rd Try.prog W 53 cs0.toList := by obtain ⟨fuel, hf⟩ := h0; exact ⟨H, enc, 0, _, true, fuel, _, hf⟩
  clear hA0 hval0
  refine (show Calls Try.prog 9 _ W (fun e W' => e = .returned (.bool true) ∧ Below W.heap.size W W') from by have := timerLonger_walk W _ hrd; rwa [Array.toArray_toList] at this).mono fun e W' ⟨he, bel⟩ => ?_
  subst he
  exact ⟨_, rfl, _, _, _, [], _, [], hW', trodAll_mk1 (shut_bool Try.underlying4 _), (trodAll_cons_mk (Below.trod laidOut (by kernel_rfl) (of_decide_eq_true (by kernel_rfl)) k0 bel lt0) trodAll_mk0), rfl, bel.frame _, fun h => by cases h⟩
theorem over : Rows.timerLongerRow.holds Try.pinned (OpenSpec.ofChange Rows.timerLongerSpec) :=
  OpenClaim.holds_of_wide 9 Try.f9 rfl rfl rfl rfl rfl rfl rfl ⟨rfl, rfl, rfl, rfl, rfl⟩ rfl rfl rfl rfl rfl (by kernel_rfl) Try.func9 (by kernel_rfl)
    (of_decide_eq_true (by kernel_rfl)) (by unfold Func.isWrapper; first | (rw [if_pos (by decide +kernel)]; kernel_rfl) | (rw [if_neg (by decide +kernel)]; exact ⟨rfl, rfl⟩))
    (fun os started H enc _ => lifted os started H enc)
/-- THE STATEMENT. -/
theorem proved : Rows.TimerLongerSaid := over
end timerLonger
-- CLAIM: TimerLonger timerLonger.proved
end Go.Proofs.Ytibmjljofopldab
