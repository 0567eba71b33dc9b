/-
  Sums of records: crc.Sum by its table, and the reference's bit by bit: contracts.
-/
import Derived.Test.YtkljlgmidmlmlaaDoorCrcF
import Derived.Test.YtkljlgmidmlmlaaDoorBytes
namespace Go.Proofs.YtkljlgmidmlmlaaDoor
open Go.RowKit
abbrev U (x : W32) : Value := .int .u32 (x.toNat : Int)
/-- The table lies where the program laid it. -/
def Tab (w : World) : Prop := 0 < w.heap.size ∧ ∀ k, k < 16 → w.cell? ⟨0, k, none⟩ = some (U (crcT.getD k 0))
theorem Tab.below {w w' : World} (h : Tab w) (hb : Below w.heap.size w w') : Tab w' :=
  ⟨Nat.lt_of_lt_of_le h.1 hb.size, fun k hk => (hb.cell (p := ⟨0, k, none⟩) h.1).trans (h.2 k hk)⟩
theorem ofInt_nat (n : Nat) : (BitVec.ofInt 32 (n : Int)) = BitVec.ofNat 32 n := by simp
theorem wrap_u32 (x : W32) : IntKind.wrap .u32 (x.toNat : Int) = (x.toNat : Int) := by
  have := x.isLt
  simp [IntKind.wrap, IntKind.bits, IntKind.signed]; omega
theorem xor_u (a b : W32) : bits .xor .u32 (a.toNat : Int) (b.toNat : Int) = ((a ^^^ b).toNat : Int) := by
  show IntKind.wrap .u32 (((BitVec.ofInt 32 (a.toNat : Int) ^^^ BitVec.ofInt 32 (b.toNat : Int)).toNat : Nat) : Int) = _
  rw [ofInt_nat, ofInt_nat, BitVec.ofNat_toNat, BitVec.ofNat_toNat, BitVec.setWidth_eq, BitVec.setWidth_eq, wrap_u32]
theorem xor_ub (a : W32) (x : UInt8) : bits .xor .u32 (a.toNat : Int) (x.toNat : Int) = ((a ^^^ BitVec.ofNat 32 x.toNat).toNat : Int) := by
  have h := xor_u a (BitVec.ofNat 32 x.toNat)
  have hx := x.toNat_lt
  rw [BitVec.toNat_ofNat, Nat.mod_eq_of_lt (by omega)] at h; exact h
theorem not_u (a : W32) : bits .xor .u32 IntKind.u32.max (a.toNat : Int) = ((~~~ a).toNat : Int) := by
  have h := xor_u (BitVec.allOnes 32) a
  rw [BitVec.allOnes_xor] at h; exact h
theorem and_15 (a : W32) : bits .and .u32 (a.toNat : Int) 15 = (((a &&& 15#32).toNat : Nat) : Int) := by
  show IntKind.wrap .u32 (((BitVec.ofInt 32 (a.toNat : Int) &&& BitVec.ofInt 32 15).toNat : Nat) : Int) = _
  rw [ofInt_nat, BitVec.ofNat_toNat, BitVec.setWidth_eq, show BitVec.ofInt 32 15 = 15#32 from rfl, wrap_u32]
theorem xor_sh (a t : W32) : bits .xor .u32 ((a.toNat : Int) / 16) (t.toNat : Int) = ((a >>> 4 ^^^ t).toNat : Int) := by
  have h := xor_u (a >>> 4) t
  rw [BitVec.toNat_ushiftRight, Nat.shiftRight_eq_div_pow] at h
  rw [← h]; congr 1
theorem nib_step (a : W32) : bits .xor .u32 ((a.toNat : Int) / 16) ((crcT.getD (a &&& 15#32).toNat 0).toNat : Int) = ((crcBit4 a).toNat : Int) := by rw [xor_sh, nibble]
theorem U_eq {n : Int} {x : W32} (h : n = (x.toNat : Int)) : Value.int .u32 n = U x := by rw [h]
set_option maxRecDepth 100000 in
set_option maxHeartbeats 1000000 in
theorem crcSum_any (s : W32) (v : Value) (l : List UInt8) (w : World) (hl : l.length ≤ 1000000) (hv : Sl w v l) (ht : Tab w) :
    Calls Tryd.prog 6 #[U s, v] w fun e w' => e = .returned (U (crcS s l)) ∧ w = w' := by
  obtain ⟨ao, cap, rfl, hcl, hcm, -, hB⟩ := hv
  have HB := Lib.hid hB; clear hB
  have HT := Lib.hid ht; clear ht
  have hs := s.isLt
  by_cases h0 : 0 < l.length
  · go_enter Tryd.func6, Tryd.ntmps6
    go_wp2
    refine wp_scope_end rfl rfl fun J' HJ => ?_
    refine wpSpine_seq rfl fun K hK => ?_
    go_wp2
    refine wpSpine_seq rfl fun K hK => ?_
    go_wp2
    refine wpSpine_seq rfl fun K hK => ?_
    go_wp2
    refine wpSpine_seq rfl fun K hK => ?_
    go_wp2
    go_loop [5, 6] (fun r i => ∃ k : Nat, k ≤ l.length ∧ i = .int .i64 k ∧ r = U (crcV (~~~ s) (l.take k))) (fun _ i => l.length - (intOf i).toNat)
    case atStart => 
      exact ⟨0, by omega, rfl, U_eq (not_u s)⟩
    case round =>
      obtain ⟨k, hk, rfl, rfl⟩ := hrel
      by_cases hlt : k < l.length
      · obtain ⟨b, off, rfl, hbw, hBB⟩ := HB.out (by intro h; simp [h] at hlt)
        obtain ⟨x, hx, hcx, hx1⟩ := hBB.get k hlt
        clear hBB
        have HX := Lib.hid hx; clear hx
        generalize hg : crcV (~~~ s) (l.take k) = r at *
        have HG := Lib.hid hg; clear hg
        have e1 := xor_ub r x
        generalize hr1 : r ^^^ BitVec.ofNat 32 x.toNat = r1 at e1
        have e2 := and_15 r1
        have c1 := HT.out.2 _ (nib_lt r1)
        have l1 := nib_lt r1
        have e3 := nib_step r1
        generalize (r1 &&& 15#32).toNat = i1 at e2 c1 l1 e3
        generalize crcT.getD i1 0 = t1 at c1 e3
        generalize hr2 : crcBit4 r1 = r2 at e3
        have e4 := and_15 r2
        have c2 := HT.out.2 _ (nib_lt r2)
        have l2 := nib_lt r2
        have e5 := nib_step r2
        generalize (r2 &&& 15#32).toNat = i2 at e4 c2 l2 e5
        generalize crcT.getD i2 0 = t2 at c2 e5
        generalize hr3 : crcBit4 r2 = r3 at e5
        have hr : r3 = crcByte r x := by unfold crcByte; rw [hr1, hr2, hr3]
        have HR := Lib.hid hr
        clear hr1 hr2 hr3 hr
        go_wp2
        go_round
        case rel => exact ⟨k + 1, by omega, by go_num, by rw [HR.out, ← HG.out, List.take_add_one, HX.out]; exact U_eq (by rw [Option.toList_some, crcV_snoc])⟩
        case measure => simp [intOf]; omega
      · obtain rfl : k = l.length := by omega
        rw [List.take_length]
        have e0 := not_u (crcV (~~~ s) l)
        generalize hg : crcV (~~~ s) l = r at *
        have HG := Lib.hid hg; clear hg
        generalize hq : ~~~ r = nr at e0
        have HQ := Lib.hid hq; clear hq
        go_wp2
        refine wpSpine_label (HJ _ _ ?_)
        go_wp2
        rw [Exit.noGoto_ret]
        go_ret
        exact ⟨by unfold crcS; rw [HG.out, HQ.out]; rfl, rfl⟩
  · have hn : l.length = 0 := by omega
    obtain rfl : l = [] := List.eq_nil_of_length_eq_zero hn
    rw [crcS_nil]
    have e0 := not_u s
    have e1 := not_u (~~~ s)
    rw [BitVec.not_not] at e1
    generalize ~~~ s = q at e0 e1
    clear hn h0 hl
    go_enter Tryd.func6, Tryd.ntmps6
    go_wp2
    refine wp_scope_end rfl rfl fun J' HJ => ?_
    repeat' (first | (refine wpSpine_label (HJ _ _ ?_)) | (refine wpSpine_seq rfl fun K hK => ?_; go_wp2) | (refine wp_goto (HJ _ _ ?_)))
    go_wp2
    rw [Exit.noGoto_ret]
    go_ret
    exact ⟨rfl, rfl⟩
def crcBitN (r : W32) : Nat → W32
  | 0 => r
  | n + 1 => crcBit (crcBitN r n)
theorem notr_u (a : W32) : bits .xor .u32 (a.toNat : Int) 4294967295 = ((~~~ a).toNat : Int) := by
  have h := xor_u a (BitVec.allOnes 32)
  rw [BitVec.xor_allOnes] at h; exact h
theorem and_1 (a : W32) : bits .and .u32 (a.toNat : Int) 1 = if a.getLsbD 0 then 1 else 0 := by
  show IntKind.wrap .u32 (((BitVec.ofInt 32 (a.toNat : Int) &&& BitVec.ofInt 32 1).toNat : Nat) : Int) = _
  rw [ofInt_nat, BitVec.ofNat_toNat, BitVec.setWidth_eq, show BitVec.ofInt 32 1 = 1#32 from rfl, wrap_u32, BitVec.toNat_and, show (1#32).toNat = 1 from rfl, Nat.and_one_is_mod]
  have : a.getLsbD 0 = decide (a.toNat % 2 = 1) := by simp [BitVec.getLsbD, Nat.testBit_zero]
  rw [this]
  by_cases h : a.toNat % 2 = 1
  · rw [h]; simp
  · have h0 : a.toNat % 2 = 0 := by omega
    rw [h0]; simp
theorem bit_one (a : W32) (h : a.getLsbD 0 = true) : bits .xor .u32 ((a.toNat : Int) / 2) 3988292384 = ((crcBit a).toNat : Int) := by
  unfold crcBit; rw [h, if_pos rfl]
  have h := xor_u (a >>> 1) 0xedb88320#32
  rw [BitVec.toNat_ushiftRight, Nat.shiftRight_eq_div_pow] at h
  rw [← h]; congr 1
theorem bit_zero (a : W32) (h : a.getLsbD 0 = false) : (a.toNat : Int) / 2 = ((crcBit a).toNat : Int) := by
  unfold crcBit; rw [h]
  simp only [Bool.false_eq_true, if_false, BitVec.xor_zero]
  rw [BitVec.toNat_ushiftRight, Nat.shiftRight_eq_div_pow]; rfl
set_option maxRecDepth 100000 in
set_option maxHeartbeats 1000000 in
theorem rcrcSum_any (s : W32) (v : Value) (l : List UInt8) (w : World) (hl : l.length ≤ 1000000) (hv : Sl w v l) :
    Calls Tryd.prog 7 #[U s, v] w fun e w' => e = .returned (U (crcS s l)) ∧ w = w' := by
  obtain ⟨ao, cap, rfl, hcl, hcm, -, hB⟩ := hv
  have HB := Lib.hid hB; clear hB
  have hs := s.isLt
  have e0 := notr_u s
  obtain ⟨ns, hns⟩ : ∃ ns, ns = ~~~ s := ⟨_, rfl⟩
  rw [← hns] at e0
  have HN := Lib.hid hns; clear hns
  go_enter Tryd.func7, Tryd.ntmps7
  go_wp2
  clear e0
  go_loop [0, 5] (fun r i => ∃ k : Nat, k ≤ l.length ∧ i = .int .i64 k ∧ r = U (crcV ns (l.take k))) (fun _ i => l.length - (intOf i).toNat)
  case atStart => exact ⟨0, by omega, rfl, rfl⟩
  case round =>
    obtain ⟨k, hk, rfl, rfl⟩ := hrel
    by_cases hlt : k < l.length
    · obtain ⟨b, off, rfl, hbw, hBB⟩ := HB.out (by intro h; simp [h] at hlt)
      obtain ⟨x, hx, hcx, hx1⟩ := hBB.get k hlt
      clear hBB
      have HX := Lib.hid hx; clear hx
      generalize hg : crcV ns (l.take k) = r at *
      have HG := Lib.hid hg; clear hg
      have e1 := xor_ub r x
      generalize hr1 : r ^^^ BitVec.ofNat 32 x.toNat = r1 at e1
      have HR1 := Lib.hid hr1; clear hr1
      go_wp2
      clear e1 hcx hx1
      go_loop [0, 6] (fun q i => ∃ j : Nat, j ≤ 8 ∧ i = .int .i64 j ∧ q = U (crcBitN r1 j)) (fun _ i => 8 - (intOf i).toNat)
      case atStart => exact ⟨0, by omega, rfl, rfl⟩
      case round =>
        obtain ⟨j, hj, rfl, rfl⟩ := hrel
        by_cases h8 : j < 8
        · have hq : crcBitN r1 (j + 1) = crcBit (crcBitN r1 j) := rfl
          have fin2 : ∀ z : Int, z = ((crcBitN r1 (j + 1)).toNat : Int) → ∃ j' : Nat, j' ≤ 8 ∧ (Value.int .i64 ((j : Int) + 1)) = .int .i64 j' ∧ Value.int .u32 z = U (crcBitN r1 j') := fun z h => ⟨j + 1, by omega, by go_num, U_eq h⟩
          have FIN2 := Lib.hid fin2; clear fin2
          rw [hq] at FIN2
          clear hq
          generalize crcBitN r1 j = q at *
          have a1 := and_1 q
          have q1 := q.isLt
          cases hb : q.getLsbD 0
          · rw [hb] at a1
            simp only [Bool.false_eq_true, if_false] at a1
            have e1 := bit_zero q hb
            clear hb
            generalize crcBit q = q2 at *
            go_wp2
            go_round
            case rel => exact FIN2.out _ rfl
            case measure => simp [intOf]; omega
          · rw [hb] at a1
            simp only [if_true] at a1
            have e1 := bit_one q hb
            clear hb
            generalize crcBit q = q2 at *
            go_wp2
            go_round
            case rel => exact FIN2.out _ rfl
            case measure => simp [intOf]; omega
        · obtain rfl : j = 8 := by omega
          have hr : crcBitN r1 8 = crcByte r x := by unfold crcByte; rw [HR1.out]; rfl
          have HR := Lib.hid hr; clear hr
          generalize crcBitN r1 8 = r2 at *
          go_wp2
          go_round
          case rel => exact ⟨k + 1, by omega, by go_num, by rw [HR.out, ← HG.out, List.take_add_one, HX.out]; exact U_eq (by rw [Option.toList_some, crcV_snoc])⟩
          case measure => simp [intOf]; omega
    · obtain rfl : k = l.length := by omega
      rw [List.take_length]
      have e0 := notr_u (crcV ns l)
      generalize hg : crcV ns l = r at *
      have HG := Lib.hid hg; clear hg
      generalize hq : ~~~ r = nr at e0
      have HQ := Lib.hid hq; clear hq
      go_wp2
      go_ret
      exact ⟨by unfold crcS; rw [← HN.out, HG.out, HQ.out]; rfl, rfl⟩
end Go.Proofs.YtkljlgmidmlmlaaDoor
