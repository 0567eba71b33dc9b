/-
  Pieces of a stream: the window in memory; bytes laid into it.
-/
import Derived.Test.YtjgbiffgmafhmaaLtOReC
import Derived.Test.YtjgbiffgmafhmaaLtOPaA
import Derived.Test.YtjgbiffgmafhmaaLtOSpanG
import Derived.BigRegion
namespace Go.Proofs.Ytjgbiffgmafhmaa
open Go.RowKit
/-- A window's cells. -/
def winRow (next : Int) (W : Win) : List Value := .int .i64 next :: (W.map (fun x => B8 (byt x)) ++ W.map (fun x => .bool (isS x)))
theorem winRow_len (next : Int) {W : Win} (h : W.length = 2048) : (winRow next W).length = 4097 := by unfold winRow; rw [List.length_cons, List.length_append, List.length_map, List.length_map, h]
theorem winRow_byte (next : Int) {W : Win} {p : Nat} {x : Option UInt8} (hx : W[p]? = some x) : (winRow next W)[1 + p]? = some (B8 (byt x)) := by
  unfold winRow
  rw [Nat.add_comm, List.getElem?_cons_succ, List.getElem?_append_left (by rw [List.length_map]; exact (List.getElem?_eq_some_iff.1 hx).1), List.getElem?_map, hx]; rfl
theorem winRow_there (next : Int) {W : Win} (h : W.length = 2048) {p : Nat} {x : Option UInt8} (hx : W[p]? = some x) : (winRow next W)[2049 + p]? = some (.bool (isS x)) := by
  unfold winRow
  rw [show 2049 + p = (2048 + p) + 1 by omega, List.getElem?_cons_succ, List.getElem?_append_right (by rw [List.length_map]; omega), List.length_map, h, show 2048 + p - 2048 = p by omega, List.getElem?_map, hx]; rfl
theorem winRow_set (next : Int) {W : Win} (h : W.length = 2048) {p : Nat} (hp : p < 2048) (x : UInt8) : ((winRow next W).set (2049 + p) (.bool true)).set (1 + p) (B8 x) = winRow next (W.set p (some x)) := by
  unfold winRow
  rw [show 2049 + p = (2048 + p) + 1 by omega, show 1 + p = p + 1 by omega, List.set_cons_succ, List.set_cons_succ]
  congr 1
  rw [List.set_append, if_neg (by rw [List.length_map]; omega), List.length_map, h, show 2048 + p - 2048 = p by omega, List.set_append, if_pos (by rw [List.length_map]; omega), List.map_set, List.map_set]
  rfl
set_option maxRecDepth 100000 in
set_option maxHeartbeats 4000000 in
theorem lay_any (q : Nat) (next seq : Int) (W : Win) (v : Value) (D : List UInt8) (w : World) (hW : W.length = 2048) (hn : 0 ≤ next ∧ next < 4294967296) (hs : 0 ≤ seq ∧ seq < 4294967296) (hD : D.length ≤ 65536)
    (hq : RowAt w q (winRow next W)) (hv : Sl w v D) (hvq : ∀ b off n c, v = .slice (some ⟨b, off, none⟩) n c → D ≠ [] → b ≠ q) :
    Calls Try.prog 51 #[.pointer (some ⟨q, 0, none⟩), .int .i64 seq, v] w fun e w' => e = .returned (.tuple #[]) ∧ RowAt w' q (winRow next (layW W (diffv seq next) D)) ∧ w.grownBy w' (some q) := by
  obtain ⟨ao, cap, rfl, hlc, hlm, -, hB⟩ := id hv
  have hc0 : w.cell? ⟨q, 0, none⟩ = some (.int .i64 next) := hq.cell rfl
  obtain ⟨hc1, hc2⟩ := lay_code next seq D W hW hn hs hD
  have O1 := Lib.hid (ofI next 2048 hn ⟨by omega, by omega⟩ w)
  have O2 := Lib.hid (ofI seq (D.length : Int) hs ⟨by omega, by omega⟩ w)
  have M1 := meetI next 2048 seq (D.length : Int) hn hs ⟨by omega, by omega⟩ ⟨by omega, by omega⟩ w
  have hb := meet_bd next 2048 seq (D.length : Int) hn hs ⟨by omega, by omega⟩ ⟨by omega, by omega⟩
  have P1 := parts_any (floatOfInt .f64 (meetS next 2048 seq D.length)) (floatOfInt .f64 (meetN next 2048 seq D.length)) w
  have e1 := spB_fz _ _ ⟨hb.1, hb.2.1⟩ ⟨hb.2.2.1, hb.2.2.2⟩
  unfold ptS ptN ptE at P1
  rw [if_pos e1, if_pos e1, if_pos e1, cut_fz _ ⟨hb.1, hb.2.1⟩, cut_fz _ ⟨hb.2.2.1, by omega⟩] at P1
  have M1 := Lib.hid M1
  have P1 := Lib.hid P1
  generalize hS : meetS next 2048 seq D.length = S at *
  generalize hN : meetN next 2048 seq D.length = N at *
  clear e1 hS hN hb
  by_cases h0 : N = 0
  · subst h0
    have HR := Lib.hid (hc1 rfl)
    have HQ := Lib.hid hq
    clear hc1 hc2 hq hB hv
    go_enter Try.func51, Try.ntmps51
    go_wp2_with (first | (go_at_call 47; (with_reducible refine O1.out.mono ?_); rintro e w' ⟨rfl, rfl⟩) | (go_at_call 47; (with_reducible refine O2.out.mono ?_); rintro e w' ⟨rfl, rfl⟩) | (go_at_call 74; (with_reducible refine M1.out.mono ?_); rintro e w' ⟨rfl, rfl⟩) | (go_at_call 75; (with_reducible refine P1.out.mono ?_); rintro e w' ⟨rfl, rfl⟩))
    refine bodyPost_ret (v := .tuple #[]) (by simp [results, Try.results51]) rfl ⟨rfl, ?_, grown_refl _ _⟩
    rw [HR.out]; exact HQ.out
  · obtain ⟨a, f, n, ha, hf, rfl, han, hfn, hnp, hlay⟩ := hc2 h0
    have D1 := Lib.hid (spanDiff_any S next w)
    have D2 := Lib.hid (spanDiff_any S seq w)
    rw [ha] at D1
    rw [hf] at D2
    have HLAY := Lib.hid hlay
    have HQ := Lib.hid hq
    have hn0 : ((n : Int) == 0) = false := by simp; omega
    clear hc1 hc2 hq hlay h0 ha hf
    go_enter Try.func51, Try.ntmps51
    go_wp2_with (first | (go_at_call 47; (with_reducible refine O1.out.mono ?_); rintro e w' ⟨rfl, rfl⟩) | (go_at_call 47; (with_reducible refine O2.out.mono ?_); rintro e w' ⟨rfl, rfl⟩) | (go_at_call 74; (with_reducible refine M1.out.mono ?_); rintro e w' ⟨rfl, rfl⟩) | (go_at_call 75; (with_reducible refine P1.out.mono ?_); rintro e w' ⟨rfl, rfl⟩) | (go_at_call 49; (with_reducible refine D1.out.mono ?_); rintro e w' ⟨rfl, rfl⟩) | (go_at_call 49; (with_reducible refine D2.out.mono ?_); rintro e w' ⟨rfl, rfl⟩))
    clear hc0 O1 O2 M1 P1 D1 D2 hn0
    go_loopw [57] (fun i wr => ∃ k : Nat, k ≤ n ∧ i = .int .i64 k ∧ RowAt wr q (winRow next (layW W a (((D.drop f).take n).take k))) ∧ w.grownBy wr (some q)) (fun i _ => n - (intOf i).toNat)
    case atStart => exact ⟨0, by omega, rfl, HQ.out, grown_refl _ _⟩
    case round =>
      obtain ⟨k, hk, rfl, hr, hg⟩ := hrel
      have HR := Lib.hid hr
      have HG := Lib.hid hg
      clear hr hg
      obtain ⟨V, hV⟩ : ∃ V, layW W a (((D.drop f).take n).take k) = V := ⟨_, rfl⟩
      have hVl : V.length = 2048 := by rw [← hV, layW_len, hW]
      rw [hV] at HR
      have HV := Lib.hid hV
      clear hV
      by_cases hlt : k < n
      · have hltz : (k : Int) < (n : Int) := by omega
        obtain ⟨b, off, rfl, hbk, hBB⟩ := hB (by intro h; simp [h] at hfn; omega)
        have hbq := hvq b off D.length cap rfl (by intro h; simp [h] at hfn; omega)
        obtain ⟨x, hx⟩ : ∃ x, D[f + k]? = some x := ⟨_, List.getElem?_eq_getElem (by omega)⟩
        have hdx : w.cell? ⟨b, off + (f + k), none⟩ = some (B8 x) := hBB _ _ hx
        have hx2 : ((D.drop f).take n)[k]? = some x := by rw [List.getElem?_take, if_pos hlt, List.getElem?_drop, hx]
        have dx : wr.cell? ⟨b, off + (f + k), none⟩ = some (B8 x) := (World.cell?_of_block (w := w) (w' := wr) (a := ⟨b, off + (f + k), none⟩) (HG.out.block b hbk (fun e => hbq (Option.some.inj e)))).trans hdx
        obtain ⟨y, hy⟩ : ∃ y, V[a + k]? = some y := ⟨_, List.getElem?_eq_getElem (by omega)⟩
        have ty : wr.cell? ⟨q, 2049 + (a + k), none⟩ = some (.bool (isS y)) := HR.out.cell (winRow_there next hVl hy)
        have by' : wr.cell? ⟨q, 1 + (a + k), none⟩ = some (B8 (byt y)) := HR.out.cell (winRow_byte next hy)
        have hstep := layW_take hx2 W a
        rw [HV.out, show ((a : Int) + (k : Int)) = ((a + k : Nat) : Int) by omega, lay1_at (by omega)] at hstep
        have hy2 : V[a + k] = y := by
          have := hy
          rw [List.getElem?_eq_getElem (by omega)] at this
          exact Option.some.inj this
        rw [hy2] at hstep
        have hfz := HR.out.2.1
        have hak : (a : Int) + (k : Int) < 2048 := by omega
        have hfk : (f : Int) + (k : Int) < (D.length : Int) := by omega
        cases hs' : isS y with
        | true =>
          rw [hs', if_pos rfl] at hstep
          rw [hs'] at ty
          have HST := Lib.hid hstep
          clear hstep hs' hx hx2 hy hy2 hdx hBB
          go_wp2
          go_roundw
          case rel => exact ⟨k + 1, by omega, by go_num, by rw [HST.out]; exact HR.out, HG.out⟩
          case measure => simp [intOf]; omega
        | false =>
          rw [hs', if_neg Bool.false_ne_true] at hstep
          rw [hs'] at ty
          have HST := Lib.hid hstep
          clear hstep hs' hx hx2 hy hy2 hdx hBB
          go_wp2
          go_region
          go_wp2
          go_roundw
          case rel =>
            have h := (HR.out.set1 (2049 + (a + k)) (.bool true) (by rw [winRow_len next hVl]; omega)).set1 (1 + (a + k)) (B8 x) (by rw [List.length_set, winRow_len next hVl]; omega)
            rw [winRow_set next hVl (by omega)] at h
            have hg2 := grown_set (j := 1 + (a + k)) (u := B8 x) (grown_set (j := 2049 + (a + k)) (u := .bool true) HG.out)
            exact ⟨k + 1, by omega, by go_num, by rw [HST.out]; exact h, ⟨hg2.os, hg2.tape, hg2.output, hg2.size, hg2.block⟩⟩
          case measure => simp [intOf]; omega
      · have HKE := Lib.hid (show ((D.drop f).take n).take k = (D.drop f).take n by rw [List.take_of_length_le]; rw [List.length_take]; omega)
        have hltz : ¬ (k : Int) < (n : Int) := by omega
        have HF := Lib.hid (show RowAt wr q (winRow next (layW W (diffv seq next) D)) by rw [HLAY.out, ← HKE.out, HV.out]; exact HR.out)
        go_wp2
        refine bodyPost_end (v := .tuple #[]) (by simp [results, Try.results51]) rfl ⟨rfl, HF.out, HG.out⟩
end Go.Proofs.Ytjgbiffgmafhmaa
