/-
  Topics: strings.IndexAny, strings.ContainsAny of any text and "+#".
-/
import Derived.Test.YtpgnlhfokffioaaDoorTopB
namespace Go.Proofs.YtpgnlhfokffioaaDoor
open Go.RowKit Go.Shelf Go.Lib
/-- An iterator over a text, further on. -/
def putIter (w : World) (k : Nat) (s : ByteArray) (p : Nat) : World := { w with heap := w.heap.setIfInBounds k (.stringIter s p) }
theorem putIter_heap {w : World} {k : Nat} {s0 : ByteArray} {p0 : Nat} (h : w.heap[k]? = some (.stringIter s0 p0)) (s : ByteArray) (p : Nat) : (putIter w k s p).heap[k]? = some (.stringIter s p) := by
  have hk : k < w.heap.size := by
    rcases Nat.lt_or_ge k w.heap.size with h1 | h1
    · exact h1
    · rw [Array.getElem?_eq_none h1] at h; exact absurd h (by simp)
  show (w.heap.setIfInBounds k _)[k]? = _
  rw [Array.getElem?_setIfInBounds_self_of_lt hk]
theorem putIter_below {B : Nat} {a w : World} (h : Below B a w) {k : Nat} (hk : B ≤ k) (s : ByteArray) (p : Nat) : Below B a (putIter w k s p) := by
  refine h.trans ⟨rfl, rfl, rfl, ?_, ?_⟩
  · show w.heap.size ≤ (w.heap.setIfInBounds k _).size
    rw [Array.size_setIfInBounds]; exact Nat.le_refl _
  · intro i hi
    show (w.heap.setIfInBounds k _)[i]? = _
    rw [Array.getElem?_setIfInBounds_ne (by omega)]
theorem run_next_at {P : Program} {w : World} {k : Nat} {s : ByteArray} {pos : Nat} (hk : w.heap[k]? = some (.stringIter s pos)) (ty : TypeId) (h : pos < s.size) :
    (Instr.next (.pointer (some ⟨k, 0, none⟩)) true ty).run P w = .ok (.tuple #[.bool true, .int .i64 pos, .int .i32 (Utf8.decode s pos).1]) (putIter w k s (pos + (Utf8.decode s pos).2)) := by
  simp only [Instr.next, getObj, setObj, Sem.run_bind, Sem.run, hk, Result.andThen, h, if_true]
  simp [goInt, putIter]
theorem run_next_stop {P : Program} {w : World} {k : Nat} {s : ByteArray} {pos : Nat} (hk : w.heap[k]? = some (.stringIter s pos)) (ty : TypeId) (h : ¬ pos < s.size) :
    (Instr.next (.pointer (some ⟨k, 0, none⟩)) true ty).run P w = .ok (.tuple #[.bool false]) w := by
  simp [Instr.next, getObj, Sem.run, hk, h]
theorem cont_high (s : ByteArray) (p : Nat) (h : p < s.size) (hc : (s.get! p).toNat / 64 = 2) : 128 ≤ (s[p]'h).toNat := by
  have e : s.get! p = s[p]'h := by
    simp [ByteArray.get!, getElem!_pos, h]
    rfl
  rw [e] at hc
  omega
/-- Each byte that a rune which is not ASCII takes is 128 or more. -/
theorem decode_bytes (s : ByteArray) (pos : Nat) (h : pos < s.size) (ha : 128 ≤ (s[pos]'h).toNat) :
    1 ≤ (Utf8.decode s pos).2 ∧ pos + (Utf8.decode s pos).2 ≤ s.size ∧ ∀ k (_ : k < (Utf8.decode s pos).2) (hk : pos + k < s.size), 128 ≤ (s[pos + k]'hk).toNat := by
  have hn : ¬ (s[pos]'h).toNat < 128 := by omega
  have key : ∀ n : Nat, (n = 1 ∨ (n = 2 ∧ pos + 1 < s.size ∧ (s.get! (pos + 1)).toNat / 64 = 2) ∨ (n = 3 ∧ (pos + 1 < s.size ∧ (s.get! (pos + 1)).toNat / 64 = 2) ∧ (pos + 2 < s.size ∧ (s.get! (pos + 2)).toNat / 64 = 2)) ∨ (n = 4 ∧ (pos + 1 < s.size ∧ (s.get! (pos + 1)).toNat / 64 = 2) ∧ (pos + 2 < s.size ∧ (s.get! (pos + 2)).toNat / 64 = 2) ∧ (pos + 3 < s.size ∧ (s.get! (pos + 3)).toNat / 64 = 2))) →
      1 ≤ n ∧ pos + n ≤ s.size ∧ ∀ k (_ : k < n) (hk : pos + k < s.size), 128 ≤ (s[pos + k]'hk).toNat := by
    rintro n (rfl | ⟨rfl, h1, c1⟩ | ⟨rfl, ⟨h1, c1⟩, ⟨h2, c2⟩⟩ | ⟨rfl, ⟨h1, c1⟩, ⟨h2, c2⟩, ⟨h3, c3⟩⟩)
    · refine ⟨by omega, by omega, fun k hk hk2 => ?_⟩
      obtain rfl : k = 0 := by omega
      exact ha
    · refine ⟨by omega, by omega, fun k hk hk2 => ?_⟩
      obtain rfl | rfl : k = 0 ∨ k = 1 := by omega
      · exact ha
      · exact cont_high _ _ _ c1
    · refine ⟨by omega, by omega, fun k hk hk2 => ?_⟩
      obtain rfl | rfl | rfl : k = 0 ∨ k = 1 ∨ k = 2 := by omega
      · exact ha
      · exact cont_high _ _ _ c1
      · exact cont_high _ _ _ c2
    · refine ⟨by omega, by omega, fun k hk hk2 => ?_⟩
      obtain rfl | rfl | rfl | rfl : k = 0 ∨ k = 1 ∨ k = 2 ∨ k = 3 := by omega
      · exact ha
      · exact cont_high _ _ _ c1
      · exact cont_high _ _ _ c2
      · exact cont_high _ _ _ c3
  apply key
  simp only [Utf8.decode, get_at s pos h, hn, if_false]
  repeat' split
  all_goals simp_all
theorem indexRune_any (r : Int) (w : World) (h0 : 128 ≤ r) (h1 : r ≤ 2147483647) :
    Calls Tryd.prog 105 #[.string ⟨#[43, 35]⟩, .int .i32 r] w fun e w' => e = .returned (.int .i64 (-1)) ∧ Below w.heap.size w w' := by
  by_cases he : r = 65533
  · subst he; exact ir_err w
  · by_cases h5 : r < 55296
    · have hval : Utf8.valid r = true := by simp only [Utf8.valid, Bool.or_eq_true, Bool.and_eq_true, decide_eq_true_eq]; omega
      obtain ⟨hs2, hs4, hlast⟩ := encode_facts r hval h0
      by_cases hz : (Utf8.encode r).size = 2
      · exact ir_two_lo r w h0 he h5 hval hz
      · exact ir_long_lo r w h0 he h5 hval (by omega)
    · by_cases h6 : 57343 < r
      · by_cases h7 : r ≤ 1114111
        · have hval : Utf8.valid r = true := by simp only [Utf8.valid, Bool.or_eq_true, Bool.and_eq_true, decide_eq_true_eq]; omega
          obtain ⟨hs2, hs4, hlast⟩ := encode_facts r hval h0
          by_cases hz : (Utf8.encode r).size = 2
          · exact ir_two_hi r w h0 he h6 h7 hval hz
          · exact ir_long_hi r w h0 he h6 h7 hval (by omega)
        · exact ir_big r w h5 h6 h7
      · exact ir_bad r w he h5 h6
set_option maxHeartbeats 8000000 in
set_option maxRecDepth 1000000 in
/-- s of at most 8 bytes, whatever they are. -/
theorem indexAny_short (s : ByteArray) (w : World) (h8 : s.size ≤ 8) :
    Calls Tryd.prog 103 #[.string s, .string ⟨#[43, 35]⟩] w fun e w' => e = .returned (.int .i64 (Lib.indexAny s.data.toList [43, 35])) ∧ Below w.heap.size w w' := by
  have hlo := Lib.hid (fun (r : Int) (w : World) (h0 : 0 ≤ r) (h1 : r < 128) => (show Calls Tryd.prog 105 #[.string ⟨#[43, 35]⟩, .int .i32 r] w _ from Any.strings_IndexRune_ascii { Tryd.laysIndexAny with } ⟨#[43, 35]⟩ r w h0 h1))
  have hhi := Lib.hid indexRune_any
  have h8z : ¬ ((8 : Int) < (s.size : Int)) := by omega
  have e8 : ∀ w, Calls Tryd.prog 106 #[.int .i64 s.size] w fun e w' => e = .returned (.bool false) ∧ w = w' := by
    intro w
    have := (show Calls Tryd.prog 106 #[.int .i64 s.size] w _ from Any.strings_shouldUseASCIISet { Tryd.laysIndexAny with } s.size w)
    rw [decide_eq_false h8z] at this
    exact this.mono fun _ _ h => ⟨h.1, h.2.symm⟩
  have E8 := Lib.hid e8
  clear e8
  go_enter Tryd.func103, Tryd.ntmps103
  go_wp2_with (first | (go_at_call 106; with_reducible refine (E8.out _).mono ?_; rintro e' w' ⟨rfl, rfl⟩))
  go_loopg [9, 10] s.size (fun g _ _ wx => ∃ i : Nat, i + g = s.size ∧ wx.heap[w.heap.size]? = some (.stringIter s i) ∧ Below w.heap.size w wx ∧ Lib.NoAny s.data.toList [43, 35] i)
  case atStart => exact ⟨0, by omega, World.iter_heap w s 0, Below.iter w s 0, Lib.NoAny.zero _ _⟩
  case round =>
    obtain ⟨i, hig, hit, hbw, hno⟩ := hrel
    have HN := Lib.hid hno
    have HB := Lib.hid hbw
    clear hno hbw
    cases gk with
    | zero =>
      obtain rfl : i = s.size := by omega
      have hnx := fun ty => run_next_stop (P := Tryd.prog) hit ty (Nat.lt_irrefl _)
      clear hit
      go_wp2
      go_ret
      exact ⟨by rw [Lib.indexAny_none (by rw [← Lib.size_eq]; exact HN.out)]; rfl, HB.out⟩
    | succ g =>
      have hi : i < s.size := by omega
      have hnx := fun ty => run_next_at (P := Tryd.prog) hit ty hi
      have HIT := Lib.hid hit
      clear hit
      obtain ⟨x, hx⟩ : ∃ x : UInt8, s[i]'hi = x := ⟨_, rfl⟩
      have hxl : s.data.toList[i]? = some x := by rw [← hx]; exact Lib.data_getElem? s i hi
      by_cases hx128 : x.toNat < 128
      · have hdec : Utf8.decode s i = (x.toNat, 1) := by
          have := decode_ascii s i hi (by rw [hx]; exact hx128)
          rw [hx] at this
          exact this
        rw [hdec] at hnx
        have hnx' : ∀ ty, (Instr.next (.pointer (some ⟨w.heap.size, 0, none⟩)) true ty).run Tryd.prog wr = .ok (.tuple #[.bool true, .int .i64 i, .int .i32 x.toNat]) (putIter wr w.heap.size s (i + 1)) := hnx
        have HB1 := Lib.hid (putIter_below HB.out (Nat.le_refl _) s (i + 1))
        have HI1 := Lib.hid (putIter_heap HIT.out s (i + 1))
        clear hnx hdec hx
        have Hx := Lib.hid hxl
        clear hxl
        generalize putIter wr w.heap.size s (i + 1) = W1 at hnx' HB1 HI1
        have hcon := Lib.contains_iff_indexByte [43, 35] x
        have hback : ((x.toNat : Int)).toNat.toUInt8 = x := by simp
        have CL := Lib.hid (show Calls Tryd.prog 105 #[.string ⟨#[43, 35]⟩, .int .i32 x.toNat] W1 fun e w' => e = .returned (.int .i64 (Lib.indexByte [43, 35] x)) ∧ W1 = w' from (hlo.out (x.toNat : Int) W1 (by omega) (by omega)).mono fun _ _ h => ⟨by rw [h.1, hback], h.2.symm⟩)
        cases hin : ([43, 35] : List UInt8).contains x
        · rw [hin] at hcon
          have hlt : ¬ ((0 : Int) ≤ Lib.indexByte [43, 35] x) := of_decide_eq_false hcon.symm
          have hlt' : ¬ ((0 : Int) ≤ Lib.indexByte (⟨#[43, 35]⟩ : ByteArray).data.toList x) := hlt
          clear hcon
          go_wp2_with (go_at_call 105; (with_reducible refine CL.out.mono ?_); rintro e' w' ⟨rfl, rfl⟩)
          go_roundg g
          case measure => omega
          case rel => exact ⟨i + 1, by omega, HI1.out, HB1.out, HN.out.succ Hx.out hin⟩
        · rw [hin] at hcon
          have hge : (0 : Int) ≤ Lib.indexByte [43, 35] x := of_decide_eq_true hcon.symm
          have hge' : (0 : Int) ≤ Lib.indexByte (⟨#[43, 35]⟩ : ByteArray).data.toList x := hge
          clear hcon
          go_wp2_with (go_at_call 105; (with_reducible refine CL.out.mono ?_); rintro e' w' ⟨rfl, rfl⟩)
          go_ret
          exact ⟨by rw [Lib.indexAny_hit HN.out Hx.out hin]; rfl, HB1.out⟩
      · obtain ⟨hr0, hw1⟩ := decode_high s i hi (by rw [hx]; omega)
        obtain ⟨_, hw2, hwb⟩ := decode_bytes s i hi (by rw [hx]; omega)
        have hr1 := decode_le s i
        generalize (Utf8.decode s i).1 = r at hnx hr0 hr1
        generalize (Utf8.decode s i).2 = wd at hnx hw1 hw2 hwb
        have HB1 := Lib.hid (putIter_below HB.out (Nat.le_refl _) s (i + wd))
        have HI1 := Lib.hid (putIter_heap HIT.out s (i + wd))
        have HS : w.heap.size < (putIter wr w.heap.size s (i + wd)).heap.size := by
          rcases Nat.lt_or_ge w.heap.size (putIter wr w.heap.size s (i + wd)).heap.size with h1 | h1
          · exact h1
          · have := HI1.out; rw [Array.getElem?_eq_none h1] at this; exact absurd this (by simp)
        have HNN := Lib.hid (show Lib.NoAny s.data.toList [43, 35] (i + wd) from by
          intro j b hj hb
          rcases Nat.lt_or_ge j i with h1 | h1
          · exact HN.out j b h1 hb
          · have hjs : j < s.size := by omega
            have hb2 : s.data.toList[j]? = some (s[j]'hjs) := Lib.data_getElem? s j hjs
            have hbe : b = s[j]'hjs := by rw [hb2] at hb; exact (Option.some.inj hb).symm
            have h128 : 128 ≤ b.toNat := by
              have := hwb (j - i) (by omega) (by omega)
              have e : i + (j - i) = j := by omega
              rw [hbe]
              simp only [e] at this
              exact this
            rcases Bool.eq_false_or_eq_true (([43, 35] : List UInt8).contains b) with h | h
            · rw [List.contains_iff_mem] at h
              rcases List.mem_cons.1 h with rfl | h
              · exact absurd h128 (by decide)
              · rcases List.mem_cons.1 h with rfl | h
                · exact absurd h128 (by decide)
                · exact absurd h (by simp)
            · exact h)
        clear hwb hx hxl
        have HSH := Lib.hid HS
        clear HS
        generalize putIter wr w.heap.size s (i + wd) = W1 at hnx HB1 HI1 HSH
        have CH := Lib.hid (hhi.out (r : Int) W1 (by omega) (by omega))
        go_wp2_with (go_at_call 105; (with_reducible refine CH.out.mono ?_); rintro e' w' ⟨rfl, hbb⟩)
        go_roundg (g + 1 - wd)
        case measure => omega
        case rel => exact ⟨i + wd, by omega, (hbb.block _ HSH.out).trans HI1.out, HB1.out.trans (hbb.mono (Nat.le_of_lt HSH.out)), HNN.out⟩
/-- strings.IndexAny(s, "+#"). -/
theorem indexAny_any (s : ByteArray) (w : World) (hs : s.size < 4294967281) :
    Calls Tryd.prog 103 #[.string s, .string ⟨#[43, 35]⟩] w fun e w' => e = .returned (.int .i64 (Lib.indexAny s.data.toList [43, 35])) ∧ Below w.heap.size w w' := by
  by_cases h8 : s.size ≤ 8
  · exact indexAny_short s w h8
  · have h116 : (Tryd.prog.info? (Tryd.laysContainsAny_ren.t 116)).map (fun i => (i.zero, i.size)) = some (some (.agg (Array.replicate 256 (.bool false))), 256) := by kernel_rfl
    have := (show Calls Tryd.prog 103 #[.string s, .string ⟨#[43, 35]⟩] w _ from Any.strings_IndexAny_long Tryd.laysIndexAny (zero_of_info h116).1 (zero_of_info h116).2 s ⟨#[43, 35]⟩ w (by decide) (by omega) hs (by decide) (by
      intro j b hb
      have hm : b ∈ ([43, 35] : List UInt8) := List.mem_of_getElem? hb
      rcases List.mem_cons.1 hm with rfl | h
      · decide
      · rcases List.mem_cons.1 h with rfl | h
        · decide
        · exact absurd h (by simp)))
    refine this.mono fun e w' ⟨h1, h2⟩ => ⟨h1, ?_⟩
    rw [h2]
    exact ((Below.refl _ _).alloc (Nat.le_refl _) _).alloc (by simp) _
set_option maxHeartbeats 1000000 in
/-- strings.ContainsAny(s, "+#"). -/
theorem containsAny_any (s : ByteArray) (w : World) (hs : s.size < 4294967281) :
    Calls Tryd.prog 101 #[.string s, .string ⟨#[43, 35]⟩] w fun e w' => e = .returned (.bool (Lib.containsAny s.data.toList [43, 35])) ∧ Below w.heap.size w w' := by
  have C := Lib.hid (indexAny_any s w hs)
  go_enter Tryd.func101, Tryd.ntmps101
  go_wp2_with (go_at_call 103; (with_reducible refine C.out.mono ?_); rintro e' w' ⟨rfl, hbb⟩)
  go_ret
  exact ⟨rfl, hbb⟩
end Go.Proofs.YtpgnlhfokffioaaDoor
