/-
  The law TopicSelf: A name, as a filter, matches itself, and no other name; the sign for all matches each one that does not begin with the dollar; with a level put behind it a name is matched by itself with the sign for all, and by the sign for one behind it.
-/
import Derived.Test.YtpbpbjnkdgdnpaaDoorTie
import Derived.Test.YtpbpbjnkdgdnpaaDoorCards
import Derived.SevenTiedAt
import Derived.ProofKit
import Derived.LaidMore
import Derived.OpenShut
import Derived.Stop.Joined
import Derived.Lay
import Derived.MakeChecks
import Derived.LaidOnce
/-
  The law TopicSelf: the walk.
-/
import Derived.Test.YtpbpbjnkdgdnpaaDoorTopJ
import Derived.Test.YtpbpbjnkdgdnpaaDoorTopN
namespace Go.Proofs.YtpbpbjnkdgdnpaaDoor
open Go.RowKit Go.Shelf Go.Lib
theorem cat2 (T : ByteArray) (a b : UInt8) : T ++ ⟨#[a, b]⟩ = ⟨(T.data.toList ++ [a, b]).toArray⟩ := by
  apply ByteArray.ext
  apply Array.ext'
  rw [ByteArray.data_append, Array.toList_append]
theorem backT (T : ByteArray) : (⟨T.data.toList.toArray⟩ : ByteArray) = T := by cases T; simp
section
variable (T : ByteArray) (W : World) (hT : T.size ≤ 62) (hN : nameB T.data.toList = true) (hE : Env W)
include hT hN hE
theorem self1 : Calls Tryd.prog 15 #[.string T, .string T] W fun e w' => e = .returned (.tuple #[.bool true, .int .i64 0]) ∧ Below W.heap.size W w' := by
  have hl : T.data.toList.length ≤ 62 := by rw [← Lib.size_eq]; exact hT
  have := match_any T.data.toList T.data.toList W (by omega) (by omega) hE.1 hE.2
  rw [self_match hN _ hN, self_filt hN, hN, backT, decide_eq_true rfl] at this
  exact this
theorem self2 : Calls Tryd.prog 15 #[.string ⟨#[35]⟩, .string T] W fun e w' => e = .returned (.tuple #[.bool (!(T.data.toList.head? == some 36)), .int .i64 0]) ∧ Below W.heap.size W w' := by
  have hl : T.data.toList.length ≤ 62 := by rw [← Lib.size_eq]; exact hT
  have := match_any [35] T.data.toList W (by decide) (by omega) hE.1 hE.2
  rw [(self_hash hN).1, (self_hash hN).2, hN, backT] at this
  exact this
theorem self3 : Calls Tryd.prog 15 #[.string (T ++ ⟨#[47, 35]⟩), .string T] W fun e w' => e = .returned (.tuple #[.bool true, .int .i64 0]) ∧ Below W.heap.size W w' := by
  have hl : T.data.toList.length ≤ 62 := by rw [← Lib.size_eq]; exact hT
  have := match_any (T.data.toList ++ [47, 35]) T.data.toList W (by simp; omega) (by omega) hE.1 hE.2
  rw [self_c hN hl, self_filt_hash hN hl, hN, backT, ← cat2] at this
  exact this
theorem self4 : Calls Tryd.prog 15 #[.string (T ++ ⟨#[47, 43]⟩), .string (T ++ ⟨#[47, 120]⟩)] W fun e w' => e = .returned (.tuple #[.bool true, .int .i64 0]) ∧ Below W.heap.size W w' := by
  have hl : T.data.toList.length ≤ 62 := by rw [← Lib.size_eq]; exact hT
  have := match_any (T.data.toList ++ [47, 43]) (T.data.toList ++ [47, 120]) W (by simp; omega) (by simp; omega) hE.1 hE.2
  rw [self_d hN hl, self_filt_plus hN hl, self_name_x hN hl, ← cat2, ← cat2] at this
  exact this
theorem self5 : Calls Tryd.prog 15 #[.string (T ++ ⟨#[47, 43]⟩), .string T] W fun e w' => e = .returned (.tuple #[.bool false, .int .i64 0]) ∧ Below W.heap.size W w' := by
  have hl : T.data.toList.length ≤ 62 := by rw [← Lib.size_eq]; exact hT
  have := match_any (T.data.toList ++ [47, 43]) T.data.toList W (by simp; omega) (by omega) hE.1 hE.2
  rw [self_x hN hl, self_filt_plus hN hl, hN, backT, ← cat2] at this
  exact this
theorem self6 : Calls Tryd.prog 15 #[.string (T ++ ⟨#[47, 35]⟩), .string (T ++ ⟨#[47, 120]⟩)] W fun e w' => e = .returned (.tuple #[.bool true, .int .i64 0]) ∧ Below W.heap.size W w' := by
  have hl : T.data.toList.length ≤ 62 := by rw [← Lib.size_eq]; exact hT
  have := match_any (T.data.toList ++ [47, 35]) (T.data.toList ++ [47, 120]) W (by simp; omega) (by simp; omega) hE.1 hE.2
  rw [self_y hN hl, self_filt_hash hN hl, self_name_x hN hl, ← cat2, ← cat2] at this
  exact this
end
set_option maxHeartbeats 8000000 in
set_option maxRecDepth 100000 in
theorem topicSelf_any (v : Value) (L : List (ByteArray × ByteArray)) (w : World) (hE : Env w) (hv : SlOf w 2 Ask20.At v L) :
    Calls Tryd.prog 5 #[v] w fun e w' => e = .returned (.bool true) ∧ Below w.heap.size w w' := by
  obtain ⟨ao, cap, rfl, hlc, hlm, -, hB⟩ := hv
  have HB := Lib.hid hB
  have hlen : L.length ≤ maxLen := by omega
  have HE := Lib.hid hE
  clear hB hE hlm hlc
  go_enter Tryd.func5, Tryd.ntmps5
  go_wp2
  go_loopw [3] (fun i wr => ∃ k : Nat, k ≤ L.length ∧ i = .int .i64 k ∧ Below w.heap.size w wr) (fun i _ => L.length - (RowKit.intOf i).toNat)
  case atStart => exact ⟨0, by omega, rfl, Below.refl _ _⟩
  case round =>
    obtain ⟨k, hk, rfl, hbl⟩ := hrel
    have HW := Lib.hid hbl
    clear hbl
    by_cases hlt : k < L.length
    · have hltz : (k : Int) < (L.length : Int) := by omega
      by_cases h20 : k < 20
      · have h20z : (k : Int) < 20 := by omega
        obtain ⟨b, off, rfl, hbw, hBB⟩ := HB.out (by intro h; simp [h] at hlt)
        obtain ⟨⟨F, T⟩, hq⟩ : ∃ q, L[k]? = some q := ⟨_, List.getElem?_eq_getElem hlt⟩
        obtain ⟨-, hc1, -⟩ := hBB k _ hq
        clear hq
        have HBB := Lib.hid hBB
        clear hBB
        dsimp only at hc1
        have hd1 := (HW.out.cell (p := ⟨b, off + k * 2 + 1, none⟩) hbw).trans hc1
        clear hc1
        by_cases h62 : T.size ≤ 62
        · have h62z : ¬ (62 : Int) < (T.size : Int) := by omega
          have hTs : T.size ≤ 62 := h62
          have CN := Lib.hid (fun W (hb : Below w.heap.size w W) => name_any T W (by omega) (HE.out.below hb).1)
          cases hN : nameB T.data.toList with
          | false =>
            have N1 := Lib.hid (show ∀ W (hb : Below w.heap.size w W), Calls Tryd.prog 9 #[.string T] W fun e w' => e = .returned (.int .i64 1) ∧ Below W.heap.size W w' from fun W hb => by have := CN.out W hb; rw [hN] at this; exact this)
            clear CN hN
            go_wp2_with fail
            (with_reducible refine (N1.out _ HW.out).mono ?_)
            rintro e1 w1 ⟨rfl, hb1⟩
            have HB1 := Lib.hid (HW.out.trans (hb1.mono HW.out.size))
            clear hb1
            go_wp2_with (first | ((with_reducible refine (num20_any 1 _ (by omega) (by omega)).mono ?_); rintro e' w' ⟨rfl, rfl⟩))
            go_roundw
            case rel => exact ⟨k + 1, by omega, by go_num, HB1.out⟩
            case measure => simp [RowKit.intOf]; omega
          | true =>
            have N1 := Lib.hid (show ∀ W (hb : Below w.heap.size w W), Calls Tryd.prog 9 #[.string T] W fun e w' => e = .returned (.int .i64 0) ∧ Below W.heap.size W w' from fun W hb => by have := CN.out W hb; rw [hN] at this; exact this)
            clear CN
            have HN := Lib.hid hN
            have hT0 : 0 < T.size := by
              have := (textB_parts.1 (self_parts hN).1).1
              rw [← Lib.size_eq] at this
              omega
            have hT0z : (0 : Int) < (T.size : Int) := by omega
            have HTL := Lib.hid (show T.data.toList.length < 1000000 by rw [← Lib.size_eq]; omega)
            obtain ⟨c, hT0b⟩ : ∃ c, T[0]'hT0 = c := ⟨_, rfl⟩
            have hhead : T.data.toList.head? = some c := by
              have := Lib.data_getElem? T 0 hT0
              rw [hT0b] at this
              rw [List.head?_eq_getElem?]
              exact this
            have hlim : ¬ (9223372036854775807 < T.size + 2) := by omega
            clear hN
            go_wp2_with fail
            (with_reducible refine (N1.out _ HW.out).mono ?_)
            rintro e1 w1 ⟨rfl, hb1⟩
            have HB1 := Lib.hid (HW.out.trans (hb1.mono HW.out.size))
            clear hb1
            go_wp2_with (first | ((with_reducible refine (num20_any 0 _ (by omega) (by omega)).mono ?_); rintro e' w' ⟨rfl, rfl⟩))
            by_cases hb36 : ((c.toNat : Nat) : Int) = 36
            · have hmb : (!(T.data.toList.head? == some 36)) = false := by
                rw [hhead, show c = 36 from UInt8.toNat_inj.1 (by show c.toNat = 36; omega)]; rfl
              clear hhead
              have M1 := Lib.hid (show ∀ W (hb : Below w.heap.size w W), Calls Tryd.prog 15 #[.string T, .string T] W fun e w' => e = .returned (.tuple #[.bool true, .int .i64 0]) ∧ Below W.heap.size W w' from fun W hb => self1 T W hTs HN.out (HE.out.below hb))
              have M2 := Lib.hid (show ∀ W (hb : Below w.heap.size w W), Calls Tryd.prog 15 #[.string ⟨#[35]⟩, .string T] W fun e w' => e = .returned (.tuple #[.bool false, .int .i64 0]) ∧ Below W.heap.size W w' from fun W hb => by have := self2 T W hTs HN.out (HE.out.below hb); rw [hmb] at this; exact this)
              have M3 := Lib.hid (show ∀ W (hb : Below w.heap.size w W), Calls Tryd.prog 15 #[.string (T ++ ⟨#[47, 35]⟩), .string T] W fun e w' => e = .returned (.tuple #[.bool true, .int .i64 0]) ∧ Below W.heap.size W w' from fun W hb => self3 T W hTs HN.out (HE.out.below hb))
              have M4 := Lib.hid (show ∀ W (hb : Below w.heap.size w W), Calls Tryd.prog 15 #[.string (T ++ ⟨#[47, 43]⟩), .string (T ++ ⟨#[47, 120]⟩)] W fun e w' => e = .returned (.tuple #[.bool true, .int .i64 0]) ∧ Below W.heap.size W w' from fun W hb => self4 T W hTs HN.out (HE.out.below hb))
              have M5 := Lib.hid (show ∀ W (hb : Below w.heap.size w W), Calls Tryd.prog 15 #[.string (T ++ ⟨#[47, 43]⟩), .string T] W fun e w' => e = .returned (.tuple #[.bool false, .int .i64 0]) ∧ Below W.heap.size W w' from fun W hb => self5 T W hTs HN.out (HE.out.below hb))
              have M6 := Lib.hid (show ∀ W (hb : Below w.heap.size w W), Calls Tryd.prog 15 #[.string (T ++ ⟨#[47, 35]⟩), .string (T ++ ⟨#[47, 120]⟩)] W fun e w' => e = .returned (.tuple #[.bool true, .int .i64 0]) ∧ Below W.heap.size W w' from fun W hb => self6 T W hTs HN.out (HE.out.below hb))
              have hx36 : (((T[0]'hT0).toNat : Int) != 36) = false := by rw [hT0b]; rw [hb36]; rfl
              clear hb36 hT0b hmb
              go_wp2_with fail
              (with_reducible refine (M1.out _ HB1.out).mono ?_)
              rintro e1 w2 ⟨rfl, hb2⟩
              have HB2 := Lib.hid (HB1.out.trans (hb2.mono HB1.out.size))
              clear hb2
              go_wp2_with fail
              (with_reducible refine (M2.out _ HB2.out).mono ?_)
              rintro e1 w3 ⟨rfl, hb3⟩
              have HB3 := Lib.hid (HB2.out.trans (hb3.mono HB2.out.size))
              clear hb3
              go_wp2_with fail
              (with_reducible refine (M3.out _ HB3.out).mono ?_)
              rintro e1 w4 ⟨rfl, hb4⟩
              have HB4 := Lib.hid (HB3.out.trans (hb4.mono HB3.out.size))
              clear hb4
              go_wp2_with fail
              (with_reducible refine (M4.out _ HB4.out).mono ?_)
              rintro e1 w5 ⟨rfl, hb5⟩
              have HB5 := Lib.hid (HB4.out.trans (hb5.mono HB4.out.size))
              clear hb5
              go_wp2_with fail
              (with_reducible refine (M5.out _ HB5.out).mono ?_)
              rintro e1 w6 ⟨rfl, hb6⟩
              have HB6 := Lib.hid (HB5.out.trans (hb6.mono HB5.out.size))
              clear hb6
              go_wp2_with fail
              (with_reducible refine (M6.out _ HB6.out).mono ?_)
              rintro e1 w7 ⟨rfl, hb7⟩
              have HB7 := Lib.hid (HB6.out.trans (hb7.mono HB6.out.size))
              clear hb7
              go_wp2_with (first | ((with_reducible refine (num20_any 0 _ (by omega) (by omega)).mono ?_); rintro e' w' ⟨rfl, rfl⟩))
              have HBX := Lib.hid HB7.out
              go_loopw [17] (fun i wr => ∃ j : Nat, j ≤ L.length ∧ i = .int .i64 j ∧ Below w.heap.size w wr) (fun i _ => L.length - (RowKit.intOf i).toNat)
              case atStart => exact ⟨0, by omega, rfl, HBX.out⟩
              case round =>
                obtain ⟨j, hj, rfl, hbl⟩ := hrel
                have HW2 := Lib.hid hbl
                clear hbl
                by_cases hjt : j < L.length
                · have hjtz : (j : Int) < (L.length : Int) := by omega
                  by_cases hj20 : j < 20
                  · have hj20z : (j : Int) < 20 := by omega
                    obtain ⟨⟨F2, U⟩, hq⟩ : ∃ q, L[j]? = some q := ⟨_, List.getElem?_eq_getElem hjt⟩
                    obtain ⟨-, hc2, -⟩ := HBB.out j _ hq
                    clear hq
                    dsimp only at hc2
                    have hd2 := (HW2.out.cell (p := ⟨b, off + j * 2 + 1, none⟩) hbw).trans hc2
                    clear hc2
                    by_cases hU : 1000 < U.size
                    · have hUz : (1000 : Int) < (U.size : Int) := by omega
                      go_wp2
                      go_roundw
                      case rel => exact ⟨j + 1, by omega, by go_num, HW2.out⟩
                      case measure => simp [RowKit.intOf]; omega
                    · have hUz : ¬ (1000 : Int) < (U.size : Int) := by omega
                      have DN := Lib.hid (fun W (hb : Below w.heap.size w W) => name_any U W (by omega) (HE.out.below hb).1)
                      cases hY : nameB U.data.toList with
                      | false =>
                        have N2 := Lib.hid (show ∀ W (hb : Below w.heap.size w W), Calls Tryd.prog 9 #[.string U] W fun e w' => e = .returned (.int .i64 1) ∧ Below W.heap.size W w' from fun W hb => by have := DN.out W hb; rw [hY] at this; exact this)
                        clear DN hY
                        go_wp2_with fail
                        (with_reducible refine (N2.out _ HW2.out).mono ?_)
                        rintro e1 w1 ⟨rfl, hb1⟩
                        have HB1 := Lib.hid (HW2.out.trans (hb1.mono HW2.out.size))
                        clear hb1
                        go_wp2_with (first | ((with_reducible refine (num20_any 1 _ (by omega) (by omega)).mono ?_); rintro e' w' ⟨rfl, rfl⟩))
                        go_roundw
                        case rel => exact ⟨j + 1, by omega, by go_num, HB1.out⟩
                        case measure => simp [RowKit.intOf]; omega
                      | true =>
                        have N2 := Lib.hid (show ∀ W (hb : Below w.heap.size w W), Calls Tryd.prog 9 #[.string U] W fun e w' => e = .returned (.int .i64 0) ∧ Below W.heap.size W w' from fun W hb => by have := DN.out W hb; rw [hY] at this; exact this)
                        have hm := self_match HN.out U.data.toList hY
                        have hUl : U.data.toList.length < 1000000 := by rw [← Lib.size_eq]; omega
                        have CM := Lib.hid (fun W (hb : Below w.heap.size w W) => (show Calls Tryd.prog 15 #[.string T, .string U] W fun e w' => e = .returned (.tuple #[.bool (matchB T.data.toList U.data.toList), errN (filtB T.data.toList && nameB U.data.toList)]) ∧ Below W.heap.size W w' from match_any T.data.toList U.data.toList W HTL.out hUl (HE.out.below hb).1 (HE.out.below hb).2))
                        by_cases heq : T.data.toList = U.data.toList
                        · rw [decide_eq_true heq] at hm
                          have M7 := Lib.hid (show ∀ W (hb : Below w.heap.size w W), Calls Tryd.prog 15 #[.string T, .string U] W fun e w' => e = .returned (.tuple #[.bool true, .int .i64 0]) ∧ Below W.heap.size W w' from fun W hb => by have := CM.out W hb; rw [hm, self_filt HN.out, hY] at this; exact this)
                          have hTU : (T.toList == U.toList) = true := by rw [Lib.toList_data, Lib.toList_data, heq]; simp
                          clear DN hY CM hm heq hUl
                          go_wp2_with fail
                          (with_reducible refine (N2.out _ HW2.out).mono ?_)
                          rintro e1 w1 ⟨rfl, hb1⟩
                          have HB1 := Lib.hid (HW2.out.trans (hb1.mono HW2.out.size))
                          clear hb1
                          go_wp2_with (first | ((with_reducible refine (num20_any 0 _ (by omega) (by omega)).mono ?_); rintro e' w' ⟨rfl, rfl⟩))
                          (with_reducible refine (M7.out _ HB1.out).mono ?_)
                          rintro e1 w2 ⟨rfl, hb2⟩
                          have HB2 := Lib.hid (HB1.out.trans (hb2.mono HB1.out.size))
                          clear hb2
                          go_wp2_with (first | ((with_reducible refine (num20_any 0 _ (by omega) (by omega)).mono ?_); rintro e' w' ⟨rfl, rfl⟩))
                          go_roundw
                          case rel => exact ⟨j + 1, by omega, by go_num, HB2.out⟩
                          case measure => simp [RowKit.intOf]; omega
                        · rw [decide_eq_false heq] at hm
                          have M7 := Lib.hid (show ∀ W (hb : Below w.heap.size w W), Calls Tryd.prog 15 #[.string T, .string U] W fun e w' => e = .returned (.tuple #[.bool false, .int .i64 0]) ∧ Below W.heap.size W w' from fun W hb => by have := CM.out W hb; rw [hm, self_filt HN.out, hY] at this; exact this)
                          have hTU : (T.toList == U.toList) = false := by rw [Lib.toList_data, Lib.toList_data]; simp only [beq_eq_false_iff_ne, ne_eq]; exact heq
                          clear DN hY CM hm heq hUl
                          go_wp2_with fail
                          (with_reducible refine (N2.out _ HW2.out).mono ?_)
                          rintro e1 w1 ⟨rfl, hb1⟩
                          have HB1 := Lib.hid (HW2.out.trans (hb1.mono HW2.out.size))
                          clear hb1
                          go_wp2_with (first | ((with_reducible refine (num20_any 0 _ (by omega) (by omega)).mono ?_); rintro e' w' ⟨rfl, rfl⟩))
                          (with_reducible refine (M7.out _ HB1.out).mono ?_)
                          rintro e1 w2 ⟨rfl, hb2⟩
                          have HB2 := Lib.hid (HB1.out.trans (hb2.mono HB1.out.size))
                          clear hb2
                          go_wp2_with (first | ((with_reducible refine (num20_any 0 _ (by omega) (by omega)).mono ?_); rintro e' w' ⟨rfl, rfl⟩))
                          go_roundw
                          case rel => exact ⟨j + 1, by omega, by go_num, HB2.out⟩
                          case measure => simp [RowKit.intOf]; omega
                  · have hj20z : ¬ (j : Int) < 20 := by omega
                    go_wp2
                    go_roundw
                    case rel => exact ⟨k + 1, by omega, by go_num, HW2.out⟩
                    case measure => simp [RowKit.intOf]; omega
                · have hjtz : ¬ (j : Int) < (L.length : Int) := by omega
                  go_wp2
                  go_roundw
                  case rel => exact ⟨k + 1, by omega, by go_num, HW2.out⟩
                  case measure => simp [RowKit.intOf]; omega
            · have hmb : (!(T.data.toList.head? == some 36)) = true := by
                rw [hhead]
                have : (c == 36) = false := beq_eq_false_iff_ne.2 (fun e => hb36 (by rw [e]; rfl))
                show (!(c == 36)) = true
                rw [this]; rfl
              clear hhead
              have M1 := Lib.hid (show ∀ W (hb : Below w.heap.size w W), Calls Tryd.prog 15 #[.string T, .string T] W fun e w' => e = .returned (.tuple #[.bool true, .int .i64 0]) ∧ Below W.heap.size W w' from fun W hb => self1 T W hTs HN.out (HE.out.below hb))
              have M2 := Lib.hid (show ∀ W (hb : Below w.heap.size w W), Calls Tryd.prog 15 #[.string ⟨#[35]⟩, .string T] W fun e w' => e = .returned (.tuple #[.bool true, .int .i64 0]) ∧ Below W.heap.size W w' from fun W hb => by have := self2 T W hTs HN.out (HE.out.below hb); rw [hmb] at this; exact this)
              have M3 := Lib.hid (show ∀ W (hb : Below w.heap.size w W), Calls Tryd.prog 15 #[.string (T ++ ⟨#[47, 35]⟩), .string T] W fun e w' => e = .returned (.tuple #[.bool true, .int .i64 0]) ∧ Below W.heap.size W w' from fun W hb => self3 T W hTs HN.out (HE.out.below hb))
              have M4 := Lib.hid (show ∀ W (hb : Below w.heap.size w W), Calls Tryd.prog 15 #[.string (T ++ ⟨#[47, 43]⟩), .string (T ++ ⟨#[47, 120]⟩)] W fun e w' => e = .returned (.tuple #[.bool true, .int .i64 0]) ∧ Below W.heap.size W w' from fun W hb => self4 T W hTs HN.out (HE.out.below hb))
              have M5 := Lib.hid (show ∀ W (hb : Below w.heap.size w W), Calls Tryd.prog 15 #[.string (T ++ ⟨#[47, 43]⟩), .string T] W fun e w' => e = .returned (.tuple #[.bool false, .int .i64 0]) ∧ Below W.heap.size W w' from fun W hb => self5 T W hTs HN.out (HE.out.below hb))
              have M6 := Lib.hid (show ∀ W (hb : Below w.heap.size w W), Calls Tryd.prog 15 #[.string (T ++ ⟨#[47, 35]⟩), .string (T ++ ⟨#[47, 120]⟩)] W fun e w' => e = .returned (.tuple #[.bool true, .int .i64 0]) ∧ Below W.heap.size W w' from fun W hb => self6 T W hTs HN.out (HE.out.below hb))
              have hx36 : (((T[0]'hT0).toNat : Int) != 36) = true := by rw [hT0b]; exact bne_iff_ne.2 hb36
              clear hb36 hT0b hmb
              go_wp2_with fail
              (with_reducible refine (M1.out _ HB1.out).mono ?_)
              rintro e1 w2 ⟨rfl, hb2⟩
              have HB2 := Lib.hid (HB1.out.trans (hb2.mono HB1.out.size))
              clear hb2
              go_wp2_with fail
              (with_reducible refine (M2.out _ HB2.out).mono ?_)
              rintro e1 w3 ⟨rfl, hb3⟩
              have HB3 := Lib.hid (HB2.out.trans (hb3.mono HB2.out.size))
              clear hb3
              go_wp2_with fail
              (with_reducible refine (M3.out _ HB3.out).mono ?_)
              rintro e1 w4 ⟨rfl, hb4⟩
              have HB4 := Lib.hid (HB3.out.trans (hb4.mono HB3.out.size))
              clear hb4
              go_wp2_with fail
              (with_reducible refine (M4.out _ HB4.out).mono ?_)
              rintro e1 w5 ⟨rfl, hb5⟩
              have HB5 := Lib.hid (HB4.out.trans (hb5.mono HB4.out.size))
              clear hb5
              go_wp2_with fail
              (with_reducible refine (M5.out _ HB5.out).mono ?_)
              rintro e1 w6 ⟨rfl, hb6⟩
              have HB6 := Lib.hid (HB5.out.trans (hb6.mono HB5.out.size))
              clear hb6
              go_wp2_with fail
              (with_reducible refine (M6.out _ HB6.out).mono ?_)
              rintro e1 w7 ⟨rfl, hb7⟩
              have HB7 := Lib.hid (HB6.out.trans (hb7.mono HB6.out.size))
              clear hb7
              go_wp2_with (first | ((with_reducible refine (num20_any 0 _ (by omega) (by omega)).mono ?_); rintro e' w' ⟨rfl, rfl⟩))
              have HBX := Lib.hid HB7.out
              go_loopw [17] (fun i wr => ∃ j : Nat, j ≤ L.length ∧ i = .int .i64 j ∧ Below w.heap.size w wr) (fun i _ => L.length - (RowKit.intOf i).toNat)
              case atStart => exact ⟨0, by omega, rfl, HBX.out⟩
              case round =>
                obtain ⟨j, hj, rfl, hbl⟩ := hrel
                have HW2 := Lib.hid hbl
                clear hbl
                by_cases hjt : j < L.length
                · have hjtz : (j : Int) < (L.length : Int) := by omega
                  by_cases hj20 : j < 20
                  · have hj20z : (j : Int) < 20 := by omega
                    obtain ⟨⟨F2, U⟩, hq⟩ : ∃ q, L[j]? = some q := ⟨_, List.getElem?_eq_getElem hjt⟩
                    obtain ⟨-, hc2, -⟩ := HBB.out j _ hq
                    clear hq
                    dsimp only at hc2
                    have hd2 := (HW2.out.cell (p := ⟨b, off + j * 2 + 1, none⟩) hbw).trans hc2
                    clear hc2
                    by_cases hU : 1000 < U.size
                    · have hUz : (1000 : Int) < (U.size : Int) := by omega
                      go_wp2
                      go_roundw
                      case rel => exact ⟨j + 1, by omega, by go_num, HW2.out⟩
                      case measure => simp [RowKit.intOf]; omega
                    · have hUz : ¬ (1000 : Int) < (U.size : Int) := by omega
                      have DN := Lib.hid (fun W (hb : Below w.heap.size w W) => name_any U W (by omega) (HE.out.below hb).1)
                      cases hY : nameB U.data.toList with
                      | false =>
                        have N2 := Lib.hid (show ∀ W (hb : Below w.heap.size w W), Calls Tryd.prog 9 #[.string U] W fun e w' => e = .returned (.int .i64 1) ∧ Below W.heap.size W w' from fun W hb => by have := DN.out W hb; rw [hY] at this; exact this)
                        clear DN hY
                        go_wp2_with fail
                        (with_reducible refine (N2.out _ HW2.out).mono ?_)
                        rintro e1 w1 ⟨rfl, hb1⟩
                        have HB1 := Lib.hid (HW2.out.trans (hb1.mono HW2.out.size))
                        clear hb1
                        go_wp2_with (first | ((with_reducible refine (num20_any 1 _ (by omega) (by omega)).mono ?_); rintro e' w' ⟨rfl, rfl⟩))
                        go_roundw
                        case rel => exact ⟨j + 1, by omega, by go_num, HB1.out⟩
                        case measure => simp [RowKit.intOf]; omega
                      | true =>
                        have N2 := Lib.hid (show ∀ W (hb : Below w.heap.size w W), Calls Tryd.prog 9 #[.string U] W fun e w' => e = .returned (.int .i64 0) ∧ Below W.heap.size W w' from fun W hb => by have := DN.out W hb; rw [hY] at this; exact this)
                        have hm := self_match HN.out U.data.toList hY
                        have hUl : U.data.toList.length < 1000000 := by rw [← Lib.size_eq]; omega
                        have CM := Lib.hid (fun W (hb : Below w.heap.size w W) => (show Calls Tryd.prog 15 #[.string T, .string U] W fun e w' => e = .returned (.tuple #[.bool (matchB T.data.toList U.data.toList), errN (filtB T.data.toList && nameB U.data.toList)]) ∧ Below W.heap.size W w' from match_any T.data.toList U.data.toList W HTL.out hUl (HE.out.below hb).1 (HE.out.below hb).2))
                        by_cases heq : T.data.toList = U.data.toList
                        · rw [decide_eq_true heq] at hm
                          have M7 := Lib.hid (show ∀ W (hb : Below w.heap.size w W), Calls Tryd.prog 15 #[.string T, .string U] W fun e w' => e = .returned (.tuple #[.bool true, .int .i64 0]) ∧ Below W.heap.size W w' from fun W hb => by have := CM.out W hb; rw [hm, self_filt HN.out, hY] at this; exact this)
                          have hTU : (T.toList == U.toList) = true := by rw [Lib.toList_data, Lib.toList_data, heq]; simp
                          clear DN hY CM hm heq hUl
                          go_wp2_with fail
                          (with_reducible refine (N2.out _ HW2.out).mono ?_)
                          rintro e1 w1 ⟨rfl, hb1⟩
                          have HB1 := Lib.hid (HW2.out.trans (hb1.mono HW2.out.size))
                          clear hb1
                          go_wp2_with (first | ((with_reducible refine (num20_any 0 _ (by omega) (by omega)).mono ?_); rintro e' w' ⟨rfl, rfl⟩))
                          (with_reducible refine (M7.out _ HB1.out).mono ?_)
                          rintro e1 w2 ⟨rfl, hb2⟩
                          have HB2 := Lib.hid (HB1.out.trans (hb2.mono HB1.out.size))
                          clear hb2
                          go_wp2_with (first | ((with_reducible refine (num20_any 0 _ (by omega) (by omega)).mono ?_); rintro e' w' ⟨rfl, rfl⟩))
                          go_roundw
                          case rel => exact ⟨j + 1, by omega, by go_num, HB2.out⟩
                          case measure => simp [RowKit.intOf]; omega
                        · rw [decide_eq_false heq] at hm
                          have M7 := Lib.hid (show ∀ W (hb : Below w.heap.size w W), Calls Tryd.prog 15 #[.string T, .string U] W fun e w' => e = .returned (.tuple #[.bool false, .int .i64 0]) ∧ Below W.heap.size W w' from fun W hb => by have := CM.out W hb; rw [hm, self_filt HN.out, hY] at this; exact this)
                          have hTU : (T.toList == U.toList) = false := by rw [Lib.toList_data, Lib.toList_data]; simp only [beq_eq_false_iff_ne, ne_eq]; exact heq
                          clear DN hY CM hm heq hUl
                          go_wp2_with fail
                          (with_reducible refine (N2.out _ HW2.out).mono ?_)
                          rintro e1 w1 ⟨rfl, hb1⟩
                          have HB1 := Lib.hid (HW2.out.trans (hb1.mono HW2.out.size))
                          clear hb1
                          go_wp2_with (first | ((with_reducible refine (num20_any 0 _ (by omega) (by omega)).mono ?_); rintro e' w' ⟨rfl, rfl⟩))
                          (with_reducible refine (M7.out _ HB1.out).mono ?_)
                          rintro e1 w2 ⟨rfl, hb2⟩
                          have HB2 := Lib.hid (HB1.out.trans (hb2.mono HB1.out.size))
                          clear hb2
                          go_wp2_with (first | ((with_reducible refine (num20_any 0 _ (by omega) (by omega)).mono ?_); rintro e' w' ⟨rfl, rfl⟩))
                          go_roundw
                          case rel => exact ⟨j + 1, by omega, by go_num, HB2.out⟩
                          case measure => simp [RowKit.intOf]; omega
                  · have hj20z : ¬ (j : Int) < 20 := by omega
                    go_wp2
                    go_roundw
                    case rel => exact ⟨k + 1, by omega, by go_num, HW2.out⟩
                    case measure => simp [RowKit.intOf]; omega
                · have hjtz : ¬ (j : Int) < (L.length : Int) := by omega
                  go_wp2
                  go_roundw
                  case rel => exact ⟨k + 1, by omega, by go_num, HW2.out⟩
                  case measure => simp [RowKit.intOf]; omega
        · have h62z : (62 : Int) < (T.size : Int) := by omega
          go_wp2
          go_roundw
          case rel => exact ⟨k + 1, by omega, by go_num, HW.out⟩
          case measure => simp [RowKit.intOf]; omega
      · have h20z : ¬ (k : Int) < 20 := by omega
        go_wp2_with fail
        (with_reducible refine (wakes20_any _ (HE.out.below HW.out)).mono ?_)
        rintro e w1 ⟨rfl, hb1⟩
        go_wp2
        go_ret
        exact ⟨rfl, HW.out.trans (hb1.mono HW.out.size)⟩
    · have hltz : ¬ (k : Int) < (L.length : Int) := by omega
      go_wp2_with fail
      (with_reducible refine (wakes20_any _ (HE.out.below HW.out)).mono ?_)
      rintro e w1 ⟨rfl, hb1⟩
      go_wp2
      go_ret
      exact ⟨rfl, HW.out.trans (hb1.mono HW.out.size)⟩
theorem topicSelf_walk (W : World) (hL : laidMetH Tryd.prog laid1 W) (hsh : W.ShapedOpen Tryd.prog) (v : Value) (h : Rd Tryd.prog W 22 [v]) :
    Calls Tryd.prog 5 #[v] W fun e W' => e = .returned (.bool true) ∧ Below W.heap.size W W' := by
  obtain ⟨L, hV⟩ := asks20_of W v h
  exact topicSelf_any v L W ⟨tabs_of_laid hL, mx_of_shape hsh⟩ hV
namespace topicSelf
open Go.ChangeShapes Go.WideShapes Go.ChangeAt
theorem own : ownKnob Tryd.prog.godebug = none := by kernel_rfl
theorem laidOut : laidOutB Tryd.prog = true := by kernel_rfl
set_option maxRecDepth 100000 in
theorem lifted (os : Os) (started : os.Started) (H : Type) (enc : TypeId × Value → H) :
    ReturnsInHanded {} Tryd.checked os 5 .any (fun w args => (Rows.topicSelfSpec.pre enc Tryd.prog Tryd.f5 [] false w args ∧ laidMetH Tryd.prog laid1 w) ∧ sizedMet enc Tryd.prog Tryd.f5 (OpenSpec.ofChange Rows.topicSelfSpec) false w args)
      (Rows.topicSelfSpec.post enc Tryd.prog Tryd.f5 false true false false) := by
  refine handed_and_shaped (C := Tryd.checked) (X := fun w _ => laidMetH Tryd.prog laid1 w) (fun _ _ _ hh h => h.of_heap hh) own started (by kernel_rfl) Tryd.func5
    (ChangeSpec.witness_shaped (enc := enc) (C := Tryd.checked) (os := os) (X := fun w _ => laidMetH Tryd.prog laid1 w) false (World.laidAll Tryd.prog os laid1) #[.slice none 0 0] 12 (World.laidAll_os _ _ _) (World.shaped_of_ZipB (by kernel_rfl) (by kernel_rfl)) (by kernel_rfl) (by kernel_rfl) (by kernel_rfl) (by rw [MakeChecks.laidMetH_plain _ _ _ (by kernel_rfl)]; exact laidMet_laidAll _ (by kernel_rfl) (by kernel_rfl))) ?_
  intro W base args ds gs before hval0 hW hL hsh
  have hval : ∀ (j : Nat) t v, Tryd.f5.params[j]? = some t → args[j]? = some v → Value.okWide Tryd.prog W .any base t v := hval0
  have hW' := hW
  obtain ⟨p, q, hA0, hV, rfl, hfz, hnd⟩ := hW
  have hA : DataW.TrodAll enc Tryd.prog W 0 (fun _ => true) true Tryd.f5.params.toList args.toList ds p := hA0
  rw [Tryd.params5] at hA hval
  obtain ⟨v0, vs0, d0, ds0, p0, q0, hargs, rfl, rfl, h0, r0⟩ := trodAll_cons hA
  obtain ⟨rfl, rfl, rfl⟩ := trodAll_nil r0
  obtain rfl : args = #[v0] := by cases args; simp_all
  obtain ⟨rfl, rfl⟩ := trodVars_none hV
  obtain ⟨a0, len0, cap0, rfl⟩ := okWide_slice Tryd.underlying22 (hval 0 22 v0 rfl rfl)
  have k0 := h0
  have lt0 : ∀ x ∈ p0, x.block < W.heap.size := by obtain ⟨m, hm⟩ := k0; exact DataW.trod_lt m _ _ _ hm
  have hrd : Rd Tryd.prog W 22 [.slice a0 len0 cap0] := by obtain ⟨fuel, hf⟩ := h0; exact ⟨H, enc, 0, _, true, fuel, _, hf⟩
  clear hA0 hval0
  refine (show Calls Tryd.prog 5 _ W (fun e W' => e = .returned (.bool true) ∧ Below W.heap.size W W') from topicSelf_walk W hL hsh _ hrd).mono fun e W' ⟨he, bel⟩ => ?_
  subst he
  exact ⟨_, rfl, _, _, _, [], _, [], hW', trodAll_mk1 (shut_bool Tryd.underlying4 _), (trodAll_cons_mk (Below.trod laidOut (by kernel_rfl) (of_decide_eq_true (by kernel_rfl)) k0 bel lt0) trodAll_mk0), rfl, bel.frame _, fun h => by cases h⟩
theorem over : Rows.topicSelfRow.holds Tryd.pinned (OpenSpec.ofChange Rows.topicSelfSpec) :=
  OpenClaim.holds_of_wide 5 Tryd.f5 rfl rfl rfl rfl rfl rfl rfl ⟨rfl, rfl, rfl, rfl, rfl⟩ rfl rfl rfl rfl rfl (by kernel_rfl) Tryd.func5 (by kernel_rfl)
    (of_decide_eq_true (by kernel_rfl)) (by unfold Func.isWrapper; first | (rw [if_pos (by decide +kernel)]; kernel_rfl) | (rw [if_neg (by decide +kernel)]; exact ⟨rfl, rfl⟩))
    (fun os started H enc _ => lifted os started H enc)
/-- THE STATEMENT: the card, its listed variables tied to the program's text. -/
theorem proved : Rows.TopicSelfCardSaid :=
  Claim7.holds_tied_plain_at .later [] [.data, .pinned] true _ false
    over (fun _ h => by cases h) (by kernel_rfl) (fun _ h => by cases h) topicSelf_row_tie rfl ⟨rfl, rfl⟩ (by kernel_rfl) rfl
    (fun f fn hf hfn => by
      obtain rfl : f = 5 := Option.some.inj ((show Tryd.prog.funcNamed "kiosk/kiosklaw20.TopicSelf" = some 5 by kernel_rfl).symm.trans hf) |>.symm
      obtain rfl : fn = Tryd.f5 := (Option.some.inj (Tryd.func5.symm.trans hfn)).symm
      exact ⟨by kernel_rfl, fun j t ht => by
        rw [Tryd.params5] at ht
        have hm : t ∈ [22] := by simpa using Array.mem_of_getElem? ht
        have hall : ([22].all fun u => !Tryd.prog.wantsStandIn u) = true := by kernel_rfl
        exact (show Tryd.prog.wantsStandIn t = false by simpa using List.all_eq_true.1 hall t hm)⟩)
    (by kernel_rfl)
end topicSelf
-- CLAIM: TopicSelfCardSaid topicSelf.proved
end Go.Proofs.YtpbpbjnkdgdnpaaDoor
