/-
  Packets: what the laws lean on.
-/
import Derived.Test.YtpgnlhfokffioaaDoorKeB
namespace Go.Proofs.YtpgnlhfokffioaaDoor
section
open Go.RowKit Go.Lib
set_option maxRecDepth 100000 in
set_option maxHeartbeats 2000000 in
theorem rdBytes_some (g b off cap : Nat) (l : List UInt8) (n k : Nat) (hk : k = min n l.length) (w : World) (hn : n ≤ 70000) (hg : w.cell? ⟨g, 0, none⟩ = some (.slice (some ⟨b, off, none⟩) l.length cap)) (hf : w.frozen? ⟨g, 0, none⟩ = false) (h1 : l.length ≤ cap) (_h2 : cap ≤ 9223372036854775807) :
    Calls Tryd.prog 92 #[.pointer (some ⟨g, 0, none⟩), .int .i64 n] w fun e w' => e = .returned (.slice (some ⟨b, off, none⟩) k cap) ∧ w' = w.setCell ⟨g, 0, none⟩ (.slice (if cap - k = 0 then some ⟨b, off, none⟩ else some ⟨b, off + k, none⟩) (l.length - k) (cap - k)) := by
  by_cases hc : n ≤ l.length
  · obtain rfl : k = n := by omega
    have hd : (k : Int) ≤ (l.length : Int) := by omega
    have hm : (min (k : Int) (l.length : Int)).toNat = k := by omega
    clear hk
    go_enter Tryd.func92, Tryd.ntmps92
    go_wp2
    all_goals go_ret
    all_goals exact ⟨by simp, by simp [*]⟩
  · obtain rfl : k = l.length := by omega
    have hd : (l.length : Int) < (n : Int) := by omega
    have hm : (min (n : Int) (l.length : Int)).toNat = l.length := by omega
    clear hk
    go_enter Tryd.func92, Tryd.ntmps92
    go_wp2
    all_goals go_ret
    all_goals exact ⟨by simp, by simp [*]⟩
theorem Sl.split {w : World} {b off cap : Nat} {l : List UInt8} (h : Sl w (.slice (some ⟨b, off, none⟩) l.length cap) l) (k : Nat) (hk : k ≤ l.length) :
    Sl w (.slice (some ⟨b, off, none⟩) k cap) (l.take k) ∧ Sl w (.slice (if cap - k = 0 then some ⟨b, off, none⟩ else some ⟨b, off + k, none⟩) (l.length - k) (cap - k)) (l.drop k) := by
  refine ⟨h.prefix k hk, ?_⟩
  obtain ⟨ao, c, hv, h1, h2, -⟩ := id h
  simp only [Value.slice.injEq] at hv
  obtain ⟨-, -, rfl⟩ := hv
  split
  · rename_i h0
    have hl : l.length - k = 0 := by omega
    have hd : l.drop k = [] := List.drop_eq_nil_of_le (by omega)
    rw [hl, h0, hd]
    exact Sl.none_left w _
  · exact h.suffix k hk
theorem rdBytes_none (g n : Nat) (w : World) (hn : n ≤ 70000) (hg : w.cell? ⟨g, 0, none⟩ = some (.slice none 0 0)) (hf : w.frozen? ⟨g, 0, none⟩ = false) :
    Calls Tryd.prog 92 #[.pointer (some ⟨g, 0, none⟩), .int .i64 n] w fun e w' => e = .returned (.slice none 0 0) ∧ w' = w.setCell ⟨g, 0, none⟩ (.slice none 0 0) := by
  by_cases h0 : n = 0
  · subst h0
    go_enter Tryd.func92, Tryd.ntmps92
    go_wp2
    all_goals go_ret
    all_goals exact ⟨by simp <;> omega, by simp <;> omega⟩
  · have hp : (0 : Int) < (n : Int) := by omega
    have hd : decide ((0 : Int) < (n : Int)) = true := by simpa using hp
    clear h0
    go_enter Tryd.func92, Tryd.ntmps92
    go_wp2
    all_goals go_ret
    all_goals exact ⟨by simp <;> omega, by simp <;> omega⟩
def SlN (w : World) (v : Value) (l : List UInt8) : Prop := Sl w v l ∧ (v = .slice none 0 0 ∨ ∃ b off n c, v = .slice (some ⟨b, off, none⟩) n c)
theorem rdBytes_any (w0 : World) (g n : Nat) (v : Value) (l : List UInt8) (w : World) (hn : n ≤ 70000) (hg : w.cell? ⟨g, 0, none⟩ = some v) (hf : w.frozen? ⟨g, 0, none⟩ = false) (hv : SlN w0 v l) :
    Calls Tryd.prog 92 #[.pointer (some ⟨g, 0, none⟩), .int .i64 n] w fun e w' => ∃ v1 v2, e = .returned v1 ∧ w' = w.setCell ⟨g, 0, none⟩ v2 ∧ Sl w0 v1 (l.take n) ∧ SlN w0 v2 (l.drop n) := by
  obtain ⟨hs, rfl | ⟨b, off, n1, cap, rfl⟩⟩ := hv
  · obtain ⟨ao, cap, he, h1, h2, h3, h4⟩ := id hs
    simp only [Value.slice.injEq] at he
    obtain rfl : l = [] := List.eq_nil_of_length_eq_zero he.2.1.symm
    exact (rdBytes_none g n w hn hg hf).mono fun e w' ⟨he, hw⟩ => ⟨_, _, he, hw, by simpa using Sl.none_left w0 _, by simpa using Sl.none_left w0 _, .inl rfl⟩
  · obtain ⟨ao, c, he, h1, h2, h3, h4⟩ := id hs
    simp only [Value.slice.injEq] at he
    obtain ⟨-, rfl, rfl⟩ := he
    have h2' : cap ≤ 9223372036854775807 := by simpa [maxLen] using h2
    have ht : l.take (min n l.length) = l.take n := by rw [List.take_eq_take_iff]; omega
    have hdr : l.drop (min n l.length) = l.drop n := by
      by_cases h : n ≤ l.length
      · rw [Nat.min_eq_left h]
      · rw [Nat.min_eq_right (by omega), List.drop_eq_nil_of_le (Nat.le_refl _), List.drop_eq_nil_of_le (by omega)]
    have hs2 := hs.split (min n l.length) (by omega)
    rw [ht, hdr] at hs2
    refine (rdBytes_some g b off cap l n _ rfl w hn hg hf h1 h2').mono fun e w' ⟨he, hw⟩ => ⟨_, _, he, hw, hs2.1, hs2.2, .inr ?_⟩
    split
    · exact ⟨_, _, _, _, rfl⟩
    · exact ⟨_, _, _, _, rfl⟩
theorem add_off0 (b o j : Nat) : (⟨b, o, none⟩ : Addr).add j = ⟨b, o + j, none⟩ := by unfold Addr.add; split <;> simp_all
theorem sl_str {w : World} {v : Value} {l : List UInt8} (h : Sl w v l) : (convert 31 9 v).run Tryd.prog w = .ok (.string ⟨l.toArray⟩) w := by
  obtain ⟨ao, cap, rfl, -, -, -, h4⟩ := h
  cases ao with
  | none =>
    have : l = [] := by
      by_cases hl : l = []
      · exact hl
      · obtain ⟨b, off, hb, -⟩ := h4 hl; cases hb
    subst this
    exact run_convert_bytes_nil w _ _ Tryd.underlying31 Tryd.underlying5 _ _ _ Tryd.underlying9
  | some ad =>
    refine run_convert_bytes_back w _ _ _ ad cap l Tryd.underlying31 Tryd.underlying5 Tryd.underlying9 (fun j hj => ?_)
    have hl : l ≠ [] := by rintro rfl; simp at hj
    obtain ⟨b, off, hb, -, hB⟩ := h4 hl
    injection hb with hb
    subst hb
    rw [add_off0]
    exact hB j _ (List.getElem?_eq_getElem hj)
section
variable {W0 w : World} {g c : Nat} {a : Option Addr} {l : List UInt8}
abbrev RR (W : World) (g : Nat) (a : Option Addr) (n c : Nat) : Prop := RowAt W g [.slice a n c]
theorem sln_open {v : Value} (h : SlN W0 v l) : ∃ a c, v = .slice a l.length c := by obtain ⟨ao, c, he, -⟩ := h.1; exact ⟨ao, c, he⟩
theorem rdByt (N : Int) (hN : 0 ≤ N ∧ N ≤ 70000) (hr : RR w g a l.length c) (hs : SlN W0 (.slice a l.length c) l) :
    Calls Tryd.prog 92 #[.pointer (some ⟨g, 0, none⟩), .int .i64 N] w fun e w' => ∃ v l' a' c', e = .returned v ∧ l' = l.drop N.toNat ∧ w.grownBy w' (some g) ∧ RR w' g a' l'.length c' ∧ SlN W0 (.slice a' l'.length c') l' ∧ Sl W0 v (l.take N.toNat) := by
  have hc : w.cell? ⟨g, 0, none⟩ = some (.slice a l.length c) := hr.cell (j := 0) rfl
  have h := rdBytes_any W0 g N.toNat _ l w (by omega) hc (hr.2.1 0) hs
  rw [Int.toNat_of_nonneg hN.1] at h
  refine h.mono ?_
  rintro e w' ⟨v1, v2, rfl, rfl, h1, h2⟩
  obtain ⟨a', c', rfl⟩ := sln_open h2
  exact ⟨v1, _, a', c', rfl, rfl, grown_set1 w g 0 _, by have := hr.set1 0 (.slice a' (l.drop N.toNat).length c') (by simp); simpa using this, h2, h1⟩
theorem ofv1_bd (l : List UInt8) : 0 ≤ ofv (l.take 1) ∧ ofv (l.take 1) ≤ 255 := by
  obtain ⟨h1, h2⟩ := ofv_bd (l.take 1)
  have h4 : (l.take 1).length ≤ 1 := by rw [List.length_take]; omega
  have h3 : (256 : Int) ^ (l.take 1).length ≤ 256 := by
    generalize (l.take 1).length = n at h4 ⊢
    match n, h4 with
    | 0, _ => decide
    | 1, _ => decide
  omega
theorem ofv2_bd (l : List UInt8) : 0 ≤ ofv (l.take 2) ∧ ofv (l.take 2) ≤ 65535 := by
  obtain ⟨h1, h2⟩ := ofv_bd (l.take 2)
  have h4 : (l.take 2).length ≤ 2 := by rw [List.length_take]; omega
  have h3 : (256 : Int) ^ (l.take 2).length ≤ 65536 := by
    generalize (l.take 2).length = n at h4 ⊢
    match n, h4 with
    | 0, _ => decide
    | 1, _ => decide
    | 2, _ => decide
  omega
abbrev Rd1 (W0 : World) (g : Nat) (w : World) (v : Value) (k : List UInt8) (e : Ending) (w' : World) : Prop := ∃ l' a' c', e = .returned v ∧ l' = k ∧ w.grownBy w' (some g) ∧ RR w' g a' l'.length c' ∧ SlN W0 (.slice a' l'.length c') l'
theorem sl_cur {v : Value} {k : List UInt8} (h0 : Below W0.heap.size W0 w) (h : Sl W0 v k) : Sl w v k := h.below h0
theorem shrF (x : Int) (n : Nat) (_h : 0 ≤ x ∧ x ≤ 255) (w : World) (hn : n = 1 ∨ n = 3 ∨ n = 4) : (binOp .shr 3 (.int .i64 x) (.int .u64 n)).run Tryd.prog w = .ok (.int .i64 (x / 2 ^ n)) w := by
  rcases hn with rfl | rfl | rfl <;> simp [go_sem]
theorem and3F (x : Int) (h : 0 ≤ x ∧ x ≤ 255) : bits .and .i64 x 3 = x % 4 := by
  have h0 : ((List.range 256).all fun n => bits .and .i64 ((n : Nat) : Int) 3 == ((n : Nat) : Int) % 4) = true := by decide +kernel
  have := beq_iff_eq.1 (List.all_eq_true.1 h0 x.toNat (List.mem_range.2 (by omega)))
  rwa [Int.toNat_of_nonneg h.1] at this
theorem andF (x y : Int) (w : World) : (binOp .and 3 (.int .i64 x) (.int .i64 y)).run Tryd.prog w = .ok (.int .i64 (bits .and .i64 x y)) w := by simp [go_sem]
theorem ow_nogoto_end {Q : Exit → Act → World → Prop} {b : Act} {w2 : World} (h : Q .normal b w2) : Exit.noGoto Q .normal b w2 := h
theorem strNeM (s : ByteArray) (w : World) : (binOp .neq 9 (.string s) (.string { data := #[77, 81, 84, 84] })).run Tryd.prog w = .ok (.bool (!(s.toList == mqS.toList))) w := by simp [go_sem, mqS]
end
set_option maxRecDepth 100000 in
set_option maxHeartbeats 4000000 in
theorem rdNum {W0 w : World} {g c : Nat} {a : Option Addr} {l : List UInt8} (h0 : Below W0.heap.size W0 w) (n : Nat) (hn : n ≤ 6) (hg : W0.heap.size ≤ g) (rr : RR w g a l.length c) (hs : SlN W0 (.slice a l.length c) l) :
    Calls Tryd.prog 68 #[.pointer (some ⟨g, 0, none⟩), .int .i64 ((n : Nat) : Int)] w fun e w' => Rd1 W0 g w (.int .i64 (ofv (l.take n))) (l.drop n) e w' := by
  have hb0 := Below.refl W0.heap.size w
  have hBw := h0.size
  refine fw_en 9 [(0, .pointer (some ⟨g, 0, none⟩)), (1, .int .i64 ((n : Nat) : Int))] Tryd.func68 rfl Tryd.ntmps68 rfl ⟨rfl, rfl, trivial⟩ ?_
  refine fw_sq (fw_rg rfl (fw_pu rfl (fw_dt (fw_sq (fw_rg rfl ?_)))))
  iterate 2 refine fw_pu rfl ?_
  refine fw_ca Tryd.func92 rfl rfl rfl ((rdByt ((n : Nat) : Int) (by omega) rr hs)) ?_
  rintro _ V1 ⟨v1, l1, a1, c1, rfl, hl1, sn1, rr1, hs1, hv1⟩
  refine ⟨_, rfl, ?_⟩
  have b1 := below_chg hb0 sn1 (by omega) (Nat.le_trans hBw hb0.size)
  refine fw_ca Tryd.func91 rfl rfl rfl ((numRead_any v1 (l.take n) V1 (by rw [List.length_take]; omega) (by simpa using sl_cur (h0.trans b1) hv1))) ?_
  rintro _ _ ⟨rfl, rfl⟩
  refine ⟨(.int .i64 (ofv (l.take n))), rfl, ?_⟩
  refine fw_pu rfl (fw_dt (fw_rt ?_))
  refine ⟨fun a h => ?_⟩
  exact ow_ret1 rfl h.df (h.g 4 rfl) ⟨l1, a1, c1, rfl, by simpa using hl1, sn1, rr1, hs1⟩
set_option maxRecDepth 100000 in
set_option maxHeartbeats 4000000 in
theorem rdTxt {W0 w : World} {g c : Nat} {a : Option Addr} {l : List UInt8} (h0 : Below W0.heap.size W0 w) (hg : W0.heap.size ≤ g) (rr : RR w g a l.length c) (hs : SlN W0 (.slice a l.length c) l) :
    Calls Tryd.prog 90 #[.pointer (some ⟨g, 0, none⟩)] w fun e w' => Rd1 W0 g w (.string (rdS l)) (rdR l) e w' := by
  have hb0 := Below.refl W0.heap.size w
  have hBw := h0.size
  refine fw_en 8 [(0, .pointer (some ⟨g, 0, none⟩))] Tryd.func90 rfl Tryd.ntmps90 rfl ⟨rfl, trivial⟩ ?_
  refine fw_sq (fw_rg rfl (fw_pu rfl (fw_dt (fw_sq (fw_rg rfl ?_)))))
  iterate 2 refine fw_pu rfl ?_
  refine fw_ca Tryd.func68 rfl rfl rfl ((rdNum (h0.trans hb0) 2 (by decide) hg rr hs)) ?_
  rintro _ V2 ⟨l1, a1, c1, rfl, hl1, sn1, rr1, hs1⟩
  refine ⟨(.int .i64 (ofv (l.take 2))), rfl, ?_⟩
  have b3 := below_chg hb0 sn1 (by omega) (Nat.le_trans hBw hb0.size)
  refine fw_ca Tryd.func92 rfl rfl rfl ((rdByt (ofv (l.take 2)) (by have := ofv2_bd l; omega) rr1 hs1)) ?_
  rintro _ V5 ⟨v4, l4, a4, c4, rfl, hl4, sn4, rr4, hs4, hv4⟩
  refine ⟨_, rfl, ?_⟩
  have b6 := below_chg b3 sn4 (by omega) (Nat.le_trans hBw b3.size)
  refine fw_ex 7 (.string (⟨((l.drop 2).take (ofv (l.take 2)).toNat).toArray⟩ : ByteArray)) rfl rfl rfl (fun a h => (run_convOp (h.ev rfl) (sl_str (sl_cur (h0.trans b6) (by rw [← hl1]; exact hv4))))) ?_
  refine fw_pu rfl (fw_dt (fw_rt ?_))
  refine ⟨fun a h => ?_⟩
  subst hl1
  exact ow_ret1 rfl h.df (h.g 2 rfl) ⟨_, _, _, rfl, hl4, gr_trans sn1 sn4, rr4, hs4⟩
set_option maxRecDepth 100000 in
set_option maxHeartbeats 4000000 in
theorem rdCon {W0 w : World} {g c : Nat} {a : Option Addr} {l : List UInt8} {q : Nat} (h0 : Below W0.heap.size W0 w) (hq : W0.heap.size ≤ q) (hg : W0.heap.size ≤ g) (hqg : q ≠ g) (rr : RR w g a l.length c) (hs : SlN W0 (.slice a l.length c) l) (rq : RowAt w q [.int .i64 1, .string { data := #[] }, .bool false, .int .i64 0, .bool false, .string { data := #[] }, .string { data := #[] }, .int .i64 0, .bool false, .string { data := #[] }, .bool false, .string { data := #[] }, .bool false, .bool false, .int .i64 0, .slice none 0 0, .bool false, .int .i64 0, .bool false, .string { data := #[] }, .int .i64 0, .string { data := #[] }, .slice none 0 0, .slice none 0 0]) :
    Calls Tryd.prog 67 #[.pointer (some ⟨g, 0, none⟩), .pointer (some ⟨q, 0, none⟩)] w fun e w' => e = .returned (.tuple #[]) ∧ RowAt w' q ((cnD l).row (.slice none 0 0) (.slice none 0 0) (.slice none 0 0)) ∧ Below W0.heap.size w w' := by
  have hb0 := Below.refl W0.heap.size w
  have hBw := h0.size
  refine fw_en 85 [(0, .pointer (some ⟨g, 0, none⟩)), (1, .pointer (some ⟨q, 0, none⟩))] Tryd.func67 rfl Tryd.ntmps67 rfl ⟨rfl, rfl, trivial⟩ ?_
  refine ⟨fun a h => ?_⟩
  refine wp_scope_end rfl rfl fun J' HJ => ?_
  refine wpSpine_seq rfl fun K hK1 => ?_
  refine fw_in h (fw_rg rfl (fw_pu rfl (fw_ca Tryd.func90 rfl rfl rfl ((rdTxt (h0.trans hb0) hg rr hs)) ?_)))
  rintro _ V3 ⟨l2, a2, c2, rfl, hl2, sn2, rr2, hs2⟩
  refine ⟨_, rfl, ?_⟩
  have b4 := below_chg hb0 sn2 (by omega) (Nat.le_trans hBw hb0.size)
  have r5 := rq.chg sn2 (by omega)
  refine fw_pu rfl (fw_dn ?_)
  refine ⟨fun a h => ?_⟩
  refine ow_then (hK1 _ _ ?_)
  refine wpSpine_seq rfl fun K hK6 => ?_
  refine fw_in h (fw_rg rfl (fw_pu rfl ?_))
  refine fw_ca Tryd.func68 rfl rfl rfl ((rdNum (h0.trans b4) 1 (by decide) hg rr2 hs2)) ?_
  rintro _ V8 ⟨l7, a7, c7, rfl, hl7, sn7, rr7, hs7⟩
  refine ⟨(.int .i64 (ofv (l2.take 1))), rfl, ?_⟩
  have b9 := below_chg b4 sn7 (by omega) (Nat.le_trans hBw b4.size)
  have r10 := r5.chg sn7 (by omega)
  refine fw_pu rfl (fw_dn ?_)
  refine ⟨fun a h => ?_⟩
  refine ow_then (hK6 _ _ ?_)
  refine wpSpine_seq rfl fun K hK11 => ?_
  refine fw_in h (fw_rg rfl (fw_pu rfl ?_))
  refine fw_ca Tryd.func68 rfl rfl rfl ((rdNum (h0.trans b9) 1 (by decide) hg rr7 hs7)) ?_
  rintro _ V13 ⟨l12, a12, c12, rfl, hl12, sn12, rr12, hs12⟩
  refine ⟨(.int .i64 (ofv (l7.take 1))), rfl, ?_⟩
  have b14 := below_chg b9 sn12 (by omega) (Nat.le_trans hBw b9.size)
  have r15 := r10.chg sn12 (by omega)
  have hflb := ofv1_bd l7
  generalize hfl : ofv (l7.take 1) = fl at hflb ⊢
  refine fw_pu rfl (fw_dn ?_)
  refine ⟨fun a h => ?_⟩
  refine ow_then (hK11 _ _ ?_)
  refine wpSpine_seq rfl fun K hK16 => ?_
  refine fw_in h (fw_sq (fw_rg rfl (fw_pu rfl (fw_ex 14 (.bool (!((rdS l).toList == mqS.toList))) rfl rfl rfl (fun a h => (run_binOp (h.ev rfl) (h.ev rfl) (eqStrG _ _ _ _ _ _) (strNeM _ _))) (fw_pu rfl ?_)))))
  rcases Bool.eq_false_or_eq_true (((rdS l).toList == mqS.toList)) with hb_17 | hb_17
  · skip
    refine fw_kn 15 rfl (not_of hb_17) ?_
    iterate 3 refine fw_pu rfl ?_
    refine fw_dt ?_
    rcases Bool.eq_false_or_eq_true (((ofv (l2.take 1)) == 4)) with hb_18 | hb_18
    · skip
      refine fw_cF rfl (not_of hb_18) (fw_sk ?_)
      refine ⟨fun a h => ?_⟩
      refine ow_then (hK16 _ _ ?_)
      refine wpSpine_seq rfl fun K hK19 => ?_
      refine fw_in h (fw_rg rfl ?_)
      iterate 2 refine fw_pu rfl ?_
      refine fw_ex 21 (.int .i64 (bits .and .i64 fl 2)) rfl rfl rfl (fun a h => (run_binOp (h.ev rfl) (h.ev rfl) (by simp [go_sem]) (andIw _ _ _))) ?_
      iterate 3 refine fw_pu rfl ?_
      refine fw_st r15 rfl rfl ?_
      intro W20 s21 r22
      have b23 := below_chg b14 s21 (by omega) (Nat.le_trans hBw b14.size)
      have r24 := rr12.chg s21 (by omega)
      refine fw_dn ?_
      refine ⟨fun a h => ?_⟩
      refine ow_then (hK19 _ _ ?_)
      refine wpSpine_seq rfl fun K hK25 => ?_
      refine fw_in h (fw_rg rfl ?_)
      iterate 2 refine fw_pu rfl ?_
      refine fw_ca Tryd.func68 rfl rfl rfl ((rdNum (h0.trans b23) 2 (by decide) hg r24 hs12)) ?_
      rintro _ V27 ⟨l26, a26, c26, rfl, hl26, sn26, rr26, hs26⟩
      refine ⟨(.int .i64 (ofv (l12.take 2))), rfl, ?_⟩
      have b28 := below_chg b23 sn26 (by omega) (Nat.le_trans hBw b23.size)
      have r29 := r22.chg sn26 (by omega)
      iterate 2 refine fw_pu rfl ?_
      refine fw_st r29 rfl rfl ?_
      intro W30 s31 r32
      have b33 := below_chg b28 s31 (by omega) (Nat.le_trans hBw b28.size)
      have r34 := rr26.chg s31 (by omega)
      refine fw_dn ?_
      refine ⟨fun a h => ?_⟩
      refine ow_then (hK25 _ _ ?_)
      refine wpSpine_seq rfl fun K hK35 => ?_
      refine fw_in h (fw_rg rfl ?_)
      iterate 2 refine fw_pu rfl ?_
      refine fw_ca Tryd.func90 rfl rfl rfl ((rdTxt (h0.trans b33) hg r34 hs26)) ?_
      rintro _ V37 ⟨l36, a36, c36, rfl, hl36, sn36, rr36, hs36⟩
      refine ⟨_, rfl, ?_⟩
      have b38 := below_chg b33 sn36 (by omega) (Nat.le_trans hBw b33.size)
      have r39 := r32.chg sn36 (by omega)
      iterate 2 refine fw_pu rfl ?_
      refine fw_st r39 rfl rfl ?_
      intro W40 s41 r42
      have b43 := below_chg b38 s41 (by omega) (Nat.le_trans hBw b38.size)
      have r44 := rr36.chg s41 (by omega)
      refine fw_dn ?_
      refine ⟨fun a h => ?_⟩
      refine ow_then (hK35 _ _ ?_)
      refine wpSpine_seq rfl fun K hK45 => ?_
      refine fw_in h (fw_sq (fw_rg rfl (fw_pu rfl ?_)))
      refine fw_ex 36 (.int .i64 (bits .and .i64 fl 4)) rfl rfl rfl (fun a h => (run_binOp (h.ev rfl) (h.ev rfl) (by simp [go_sem]) (andIw _ _ _))) ?_
      refine fw_pu rfl (fw_dt ?_)
      rcases Bool.eq_false_or_eq_true ((fG fl 4)) with hb_46 | hb_46
      · skip
        refine fw_cT rfl hb_46 (fw_rg rfl ?_)
        iterate 2 refine fw_pu rfl ?_
        refine fw_ca Tryd.func90 rfl rfl rfl ((rdTxt (h0.trans b43) hg r44 hs36)) ?_
        rintro _ V48 ⟨l47, a47, c47, rfl, hl47, sn47, rr47, hs47⟩
        refine ⟨_, rfl, ?_⟩
        have b49 := below_chg b43 sn47 (by omega) (Nat.le_trans hBw b43.size)
        have r50 := r42.chg sn47 (by omega)
        refine fw_pu rfl (fw_ca Tryd.func90 rfl rfl rfl ((rdTxt (h0.trans b49) hg rr47 hs47)) ?_)
        rintro _ V52 ⟨l51, a51, c51, rfl, hl51, sn51, rr51, hs51⟩
        refine ⟨_, rfl, ?_⟩
        have b53 := below_chg b49 sn51 (by omega) (Nat.le_trans hBw b49.size)
        have r54 := r50.chg sn51 (by omega)
        refine fw_pu rfl ?_
        refine fw_ex 44 (.int .i64 (fl / 8)) rfl rfl rfl (fun a h => (run_binOp (h.ev rfl) (h.ev rfl) (by simp [go_sem]) (shrF _ 3 (by omega) _ (by decide)))) ?_
        refine fw_ex 45 (.int .i64 ((fl / 8) % 4)) rfl rfl rfl (fun a h => (run_binOp (h.ev rfl) (h.ev rfl) (by simp [go_sem]) (by rw [andF, and3F _ (by omega)]))) ?_
        refine fw_pu rfl ?_
        refine fw_ex 47 (.int .i64 (bits .and .i64 fl 32)) rfl rfl rfl (fun a h => (run_binOp (h.ev rfl) (h.ev rfl) (by simp [go_sem]) (andIw _ _ _))) ?_
        refine fw_pu rfl ?_
        refine fw_ex 49 (.agg #[.bool true, .string (rdS l36), .string (rdS l47), .int .i64 ((fl / 8) % 4), .bool (fG fl 32)]) rfl rfl rfl (fun a h => (run_buildOp (bp5 (h.ev rfl) (h.ev rfl) (h.ev rfl) (h.ev rfl) (h.ev rfl)) (by first | kernel_rfl | rfl))) ?_
        iterate 2 refine fw_pu rfl ?_
        refine fw_st r54 rfl rfl ?_
        intro W55 s56 r57
        have b58 := below_chg b53 s56 (by omega) (Nat.le_trans hBw b53.size)
        have r59 := rr51.chg s56 (by omega)
        refine fw_dn ?_
        refine ⟨fun a h => ?_⟩
        refine ow_then (hK45 _ _ ?_)
        refine wpSpine_seq rfl fun K hK60 => ?_
        refine fw_in h (fw_sq (fw_rg rfl ?_))
        iterate 2 refine fw_pu rfl ?_
        refine fw_ex 54 (.int .i64 (bits .and .i64 fl 128)) rfl rfl rfl (fun a h => (run_binOp (h.ev rfl) (h.ev rfl) (by simp [go_sem]) (andIw _ _ _))) ?_
        iterate 3 refine fw_pu rfl ?_
        refine fw_st r57 rfl rfl ?_
        intro W61 s62 r63
        have b64 := below_chg b58 s62 (by omega) (Nat.le_trans hBw b58.size)
        have r65 := r59.chg s62 (by omega)
        refine fw_dt (fw_sq (fw_rg rfl ?_))
        iterate 3 refine fw_pu rfl ?_
        refine fw_ld r63 rfl rfl (fw_dt ?_)
        rcases Bool.eq_false_or_eq_true ((fG fl 128)) with hb_66 | hb_66
        · skip
          refine fw_cT rfl hb_66 (fw_rg rfl ?_)
          iterate 2 refine fw_pu rfl ?_
          refine fw_ca Tryd.func90 rfl rfl rfl ((rdTxt (h0.trans b64) hg r65 hs51)) ?_
          rintro _ V68 ⟨l67, a67, c67, rfl, hl67, sn67, rr67, hs67⟩
          refine ⟨_, rfl, ?_⟩
          have b69 := below_chg b64 sn67 (by omega) (Nat.le_trans hBw b64.size)
          have r70 := r63.chg sn67 (by omega)
          iterate 2 refine fw_pu rfl ?_
          refine fw_st r70 rfl rfl ?_
          intro W71 s72 r73
          have b74 := below_chg b69 s72 (by omega) (Nat.le_trans hBw b69.size)
          have r75 := rr67.chg s72 (by omega)
          refine fw_dn ?_
          refine ⟨fun a h => ?_⟩
          refine ow_then (hK60 _ _ ?_)
          refine wpSpine_seq rfl fun K hK76 => ?_
          refine fw_in h (fw_sq (fw_rg rfl ?_))
          iterate 2 refine fw_pu rfl ?_
          refine fw_ex 69 (.int .i64 (bits .and .i64 fl 64)) rfl rfl rfl (fun a h => (run_binOp (h.ev rfl) (h.ev rfl) (by simp [go_sem]) (andIw _ _ _))) ?_
          iterate 3 refine fw_pu rfl ?_
          refine fw_st r73 rfl rfl ?_
          intro W77 s78 r79
          have b80 := below_chg b74 s78 (by omega) (Nat.le_trans hBw b74.size)
          have r81 := r75.chg s78 (by omega)
          refine fw_dt (fw_sq (fw_rg rfl ?_))
          iterate 3 refine fw_pu rfl ?_
          refine fw_ld r79 rfl rfl (fw_dt ?_)
          rcases Bool.eq_false_or_eq_true ((fG fl 64)) with hb_82 | hb_82
          · skip
            refine fw_cT rfl hb_82 (fw_rg rfl ?_)
            iterate 2 refine fw_pu rfl ?_
            refine fw_ca Tryd.func90 rfl rfl rfl ((rdTxt (h0.trans b80) hg r81 hs67)) ?_
            rintro _ V84 ⟨l83, a83, c83, rfl, hl83, sn83, rr83, hs83⟩
            refine ⟨_, rfl, ?_⟩
            have b85 := below_chg b80 sn83 (by omega) (Nat.le_trans hBw b80.size)
            have r86 := r79.chg sn83 (by omega)
            iterate 2 refine fw_pu rfl ?_
            refine fw_st r86 rfl rfl ?_
            intro W87 s88 r89
            have b90 := below_chg b85 s88 (by omega) (Nat.le_trans hBw b85.size)
            have r91 := rr83.chg s88 (by omega)
            refine fw_dn ?_
            refine ⟨fun a h => ?_⟩
            refine ow_then (hK76 _ _ ?_)
            refine wpSpine_seq rfl fun K hK92 => ?_
            refine fw_in h (fw_rt ?_)
            refine ⟨fun a h => ?_⟩
            refine ow_then_ret (ow_jump_ret ?_)
            have e : cnD l = ({ k := 1, cl := (rdS l26), clean := (fG fl 2), keep := (ofv (l12.take 2)), wI := true, wT := (rdS l36), wP := (rdS l47), wQ := ((fl / 8) % 4), wR := (fG fl 32), us := (rdS l51), hu := (fG fl 128), pa := (rdS l67), hp := (fG fl 64), pres := false, code := 0, cs := [], dup := false, q := 0, re := false, top := { data := #[] }, id := 0, pay := { data := #[] }, ws := [], fs := [] } : Mq) := by simp only [cnD, cnD1, cnD2, cnD3, cnD4, ← hl2, ← hl7, ← hl12, ← hl26, ← hl36, ← hl47, ← hl51, ← hl67, hfl, hb_17, hb_18, hb_46, hb_66, hb_82, zM, if_true]; try rfl
            exact bodyPost_ret (v := .tuple #[]) (by simp [results, Tryd.results67]) h.df ⟨rfl, by rw [e]; exact r89, b90⟩
          refine fw_cF rfl hb_82 (fw_sk ?_)
          refine ⟨fun a h => ?_⟩
          refine ow_then (hK76 _ _ ?_)
          refine wpSpine_seq rfl fun K hK93 => ?_
          refine fw_in h (fw_rt ?_)
          refine ⟨fun a h => ?_⟩
          refine ow_then_ret (ow_jump_ret ?_)
          have e : cnD l = ({ k := 1, cl := (rdS l26), clean := (fG fl 2), keep := (ofv (l12.take 2)), wI := true, wT := (rdS l36), wP := (rdS l47), wQ := ((fl / 8) % 4), wR := (fG fl 32), us := (rdS l51), hu := (fG fl 128), pa := { data := #[] }, hp := (fG fl 64), pres := false, code := 0, cs := [], dup := false, q := 0, re := false, top := { data := #[] }, id := 0, pay := { data := #[] }, ws := [], fs := [] } : Mq) := by simp only [cnD, cnD1, cnD2, cnD3, cnD4, ← hl2, ← hl7, ← hl12, ← hl26, ← hl36, ← hl47, ← hl51, ← hl67, hfl, hb_17, hb_18, hb_46, hb_66, hb_82, zM, if_true, Bool.false_eq_true, if_false]; try rfl
          exact bodyPost_ret (v := .tuple #[]) (by simp [results, Tryd.results67]) h.df ⟨rfl, by rw [e]; exact r79, b80⟩
        refine fw_cF rfl hb_66 (fw_sk ?_)
        refine ⟨fun a h => ?_⟩
        refine ow_then (hK60 _ _ ?_)
        refine wpSpine_seq rfl fun K hK94 => ?_
        refine fw_in h (fw_sq (fw_rg rfl ?_))
        iterate 2 refine fw_pu rfl ?_
        refine fw_ex 69 (.int .i64 (bits .and .i64 fl 64)) rfl rfl rfl (fun a h => (run_binOp (h.ev rfl) (h.ev rfl) (by simp [go_sem]) (andIw _ _ _))) ?_
        iterate 3 refine fw_pu rfl ?_
        refine fw_st r63 rfl rfl ?_
        intro W95 s96 r97
        have b98 := below_chg b64 s96 (by omega) (Nat.le_trans hBw b64.size)
        have r99 := r65.chg s96 (by omega)
        refine fw_dt (fw_sq (fw_rg rfl ?_))
        iterate 3 refine fw_pu rfl ?_
        refine fw_ld r97 rfl rfl (fw_dt ?_)
        rcases Bool.eq_false_or_eq_true ((fG fl 64)) with hb_100 | hb_100
        · skip
          refine fw_cT rfl hb_100 (fw_rg rfl ?_)
          iterate 2 refine fw_pu rfl ?_
          refine fw_ca Tryd.func90 rfl rfl rfl ((rdTxt (h0.trans b98) hg r99 hs51)) ?_
          rintro _ V102 ⟨l101, a101, c101, rfl, hl101, sn101, rr101, hs101⟩
          refine ⟨_, rfl, ?_⟩
          have b103 := below_chg b98 sn101 (by omega) (Nat.le_trans hBw b98.size)
          have r104 := r97.chg sn101 (by omega)
          iterate 2 refine fw_pu rfl ?_
          refine fw_st r104 rfl rfl ?_
          intro W105 s106 r107
          have b108 := below_chg b103 s106 (by omega) (Nat.le_trans hBw b103.size)
          have r109 := rr101.chg s106 (by omega)
          refine fw_dn ?_
          refine ⟨fun a h => ?_⟩
          refine ow_then (hK94 _ _ ?_)
          refine wpSpine_seq rfl fun K hK110 => ?_
          refine fw_in h (fw_rt ?_)
          refine ⟨fun a h => ?_⟩
          refine ow_then_ret (ow_jump_ret ?_)
          have e : cnD l = ({ k := 1, cl := (rdS l26), clean := (fG fl 2), keep := (ofv (l12.take 2)), wI := true, wT := (rdS l36), wP := (rdS l47), wQ := ((fl / 8) % 4), wR := (fG fl 32), us := { data := #[] }, hu := (fG fl 128), pa := (rdS l51), hp := (fG fl 64), pres := false, code := 0, cs := [], dup := false, q := 0, re := false, top := { data := #[] }, id := 0, pay := { data := #[] }, ws := [], fs := [] } : Mq) := by simp only [cnD, cnD1, cnD2, cnD3, cnD4, ← hl2, ← hl7, ← hl12, ← hl26, ← hl36, ← hl47, ← hl51, ← hl101, hfl, hb_17, hb_18, hb_46, hb_66, hb_100, zM, if_true, Bool.false_eq_true, if_false]; try rfl
          exact bodyPost_ret (v := .tuple #[]) (by simp [results, Tryd.results67]) h.df ⟨rfl, by rw [e]; exact r107, b108⟩
        refine fw_cF rfl hb_100 (fw_sk ?_)
        refine ⟨fun a h => ?_⟩
        refine ow_then (hK94 _ _ ?_)
        refine wpSpine_seq rfl fun K hK111 => ?_
        refine fw_in h (fw_rt ?_)
        refine ⟨fun a h => ?_⟩
        refine ow_then_ret (ow_jump_ret ?_)
        have e : cnD l = ({ k := 1, cl := (rdS l26), clean := (fG fl 2), keep := (ofv (l12.take 2)), wI := true, wT := (rdS l36), wP := (rdS l47), wQ := ((fl / 8) % 4), wR := (fG fl 32), us := { data := #[] }, hu := (fG fl 128), pa := { data := #[] }, hp := (fG fl 64), pres := false, code := 0, cs := [], dup := false, q := 0, re := false, top := { data := #[] }, id := 0, pay := { data := #[] }, ws := [], fs := [] } : Mq) := by simp only [cnD, cnD1, cnD2, cnD3, cnD4, ← hl2, ← hl7, ← hl12, ← hl26, ← hl36, ← hl47, ← hl51, hfl, hb_17, hb_18, hb_46, hb_66, hb_100, zM, if_true, Bool.false_eq_true, if_false]; try rfl
        exact bodyPost_ret (v := .tuple #[]) (by simp [results, Tryd.results67]) h.df ⟨rfl, by rw [e]; exact r97, b98⟩
      refine fw_cF rfl hb_46 (fw_sk ?_)
      refine ⟨fun a h => ?_⟩
      refine ow_then (hK45 _ _ ?_)
      refine wpSpine_seq rfl fun K hK112 => ?_
      refine fw_in h (fw_sq (fw_rg rfl ?_))
      iterate 2 refine fw_pu rfl ?_
      refine fw_ex 54 (.int .i64 (bits .and .i64 fl 128)) rfl rfl rfl (fun a h => (run_binOp (h.ev rfl) (h.ev rfl) (by simp [go_sem]) (andIw _ _ _))) ?_
      iterate 3 refine fw_pu rfl ?_
      refine fw_st r42 rfl rfl ?_
      intro W113 s114 r115
      have b116 := below_chg b43 s114 (by omega) (Nat.le_trans hBw b43.size)
      have r117 := r44.chg s114 (by omega)
      refine fw_dt (fw_sq (fw_rg rfl ?_))
      iterate 3 refine fw_pu rfl ?_
      refine fw_ld r115 rfl rfl (fw_dt ?_)
      rcases Bool.eq_false_or_eq_true ((fG fl 128)) with hb_118 | hb_118
      · skip
        refine fw_cT rfl hb_118 (fw_rg rfl ?_)
        iterate 2 refine fw_pu rfl ?_
        refine fw_ca Tryd.func90 rfl rfl rfl ((rdTxt (h0.trans b116) hg r117 hs36)) ?_
        rintro _ V120 ⟨l119, a119, c119, rfl, hl119, sn119, rr119, hs119⟩
        refine ⟨_, rfl, ?_⟩
        have b121 := below_chg b116 sn119 (by omega) (Nat.le_trans hBw b116.size)
        have r122 := r115.chg sn119 (by omega)
        iterate 2 refine fw_pu rfl ?_
        refine fw_st r122 rfl rfl ?_
        intro W123 s124 r125
        have b126 := below_chg b121 s124 (by omega) (Nat.le_trans hBw b121.size)
        have r127 := rr119.chg s124 (by omega)
        refine fw_dn ?_
        refine ⟨fun a h => ?_⟩
        refine ow_then (hK112 _ _ ?_)
        refine wpSpine_seq rfl fun K hK128 => ?_
        refine fw_in h (fw_sq (fw_rg rfl ?_))
        iterate 2 refine fw_pu rfl ?_
        refine fw_ex 69 (.int .i64 (bits .and .i64 fl 64)) rfl rfl rfl (fun a h => (run_binOp (h.ev rfl) (h.ev rfl) (by simp [go_sem]) (andIw _ _ _))) ?_
        iterate 3 refine fw_pu rfl ?_
        refine fw_st r125 rfl rfl ?_
        intro W129 s130 r131
        have b132 := below_chg b126 s130 (by omega) (Nat.le_trans hBw b126.size)
        have r133 := r127.chg s130 (by omega)
        refine fw_dt (fw_sq (fw_rg rfl ?_))
        iterate 3 refine fw_pu rfl ?_
        refine fw_ld r131 rfl rfl (fw_dt ?_)
        rcases Bool.eq_false_or_eq_true ((fG fl 64)) with hb_134 | hb_134
        · skip
          refine fw_cT rfl hb_134 (fw_rg rfl ?_)
          iterate 2 refine fw_pu rfl ?_
          refine fw_ca Tryd.func90 rfl rfl rfl ((rdTxt (h0.trans b132) hg r133 hs119)) ?_
          rintro _ V136 ⟨l135, a135, c135, rfl, hl135, sn135, rr135, hs135⟩
          refine ⟨_, rfl, ?_⟩
          have b137 := below_chg b132 sn135 (by omega) (Nat.le_trans hBw b132.size)
          have r138 := r131.chg sn135 (by omega)
          iterate 2 refine fw_pu rfl ?_
          refine fw_st r138 rfl rfl ?_
          intro W139 s140 r141
          have b142 := below_chg b137 s140 (by omega) (Nat.le_trans hBw b137.size)
          have r143 := rr135.chg s140 (by omega)
          refine fw_dn ?_
          refine ⟨fun a h => ?_⟩
          refine ow_then (hK128 _ _ ?_)
          refine wpSpine_seq rfl fun K hK144 => ?_
          refine fw_in h (fw_rt ?_)
          refine ⟨fun a h => ?_⟩
          refine ow_then_ret (ow_jump_ret ?_)
          have e : cnD l = ({ k := 1, cl := (rdS l26), clean := (fG fl 2), keep := (ofv (l12.take 2)), wI := false, wT := { data := #[] }, wP := { data := #[] }, wQ := 0, wR := false, us := (rdS l36), hu := (fG fl 128), pa := (rdS l119), hp := (fG fl 64), pres := false, code := 0, cs := [], dup := false, q := 0, re := false, top := { data := #[] }, id := 0, pay := { data := #[] }, ws := [], fs := [] } : Mq) := by simp only [cnD, cnD1, cnD2, cnD3, cnD4, ← hl2, ← hl7, ← hl12, ← hl26, ← hl36, ← hl119, ← hl135, hfl, hb_17, hb_18, hb_46, hb_118, hb_134, zM, if_true, Bool.false_eq_true, if_false]; try rfl
          exact bodyPost_ret (v := .tuple #[]) (by simp [results, Tryd.results67]) h.df ⟨rfl, by rw [e]; exact r141, b142⟩
        refine fw_cF rfl hb_134 (fw_sk ?_)
        refine ⟨fun a h => ?_⟩
        refine ow_then (hK128 _ _ ?_)
        refine wpSpine_seq rfl fun K hK145 => ?_
        refine fw_in h (fw_rt ?_)
        refine ⟨fun a h => ?_⟩
        refine ow_then_ret (ow_jump_ret ?_)
        have e : cnD l = ({ k := 1, cl := (rdS l26), clean := (fG fl 2), keep := (ofv (l12.take 2)), wI := false, wT := { data := #[] }, wP := { data := #[] }, wQ := 0, wR := false, us := (rdS l36), hu := (fG fl 128), pa := { data := #[] }, hp := (fG fl 64), pres := false, code := 0, cs := [], dup := false, q := 0, re := false, top := { data := #[] }, id := 0, pay := { data := #[] }, ws := [], fs := [] } : Mq) := by simp only [cnD, cnD1, cnD2, cnD3, cnD4, ← hl2, ← hl7, ← hl12, ← hl26, ← hl36, ← hl119, hfl, hb_17, hb_18, hb_46, hb_118, hb_134, zM, if_true, Bool.false_eq_true, if_false]; try rfl
        exact bodyPost_ret (v := .tuple #[]) (by simp [results, Tryd.results67]) h.df ⟨rfl, by rw [e]; exact r131, b132⟩
      refine fw_cF rfl hb_118 (fw_sk ?_)
      refine ⟨fun a h => ?_⟩
      refine ow_then (hK112 _ _ ?_)
      refine wpSpine_seq rfl fun K hK146 => ?_
      refine fw_in h (fw_sq (fw_rg rfl ?_))
      iterate 2 refine fw_pu rfl ?_
      refine fw_ex 69 (.int .i64 (bits .and .i64 fl 64)) rfl rfl rfl (fun a h => (run_binOp (h.ev rfl) (h.ev rfl) (by simp [go_sem]) (andIw _ _ _))) ?_
      iterate 3 refine fw_pu rfl ?_
      refine fw_st r115 rfl rfl ?_
      intro W147 s148 r149
      have b150 := below_chg b116 s148 (by omega) (Nat.le_trans hBw b116.size)
      have r151 := r117.chg s148 (by omega)
      refine fw_dt (fw_sq (fw_rg rfl ?_))
      iterate 3 refine fw_pu rfl ?_
      refine fw_ld r149 rfl rfl (fw_dt ?_)
      rcases Bool.eq_false_or_eq_true ((fG fl 64)) with hb_152 | hb_152
      · skip
        refine fw_cT rfl hb_152 (fw_rg rfl ?_)
        iterate 2 refine fw_pu rfl ?_
        refine fw_ca Tryd.func90 rfl rfl rfl ((rdTxt (h0.trans b150) hg r151 hs36)) ?_
        rintro _ V154 ⟨l153, a153, c153, rfl, hl153, sn153, rr153, hs153⟩
        refine ⟨_, rfl, ?_⟩
        have b155 := below_chg b150 sn153 (by omega) (Nat.le_trans hBw b150.size)
        have r156 := r149.chg sn153 (by omega)
        iterate 2 refine fw_pu rfl ?_
        refine fw_st r156 rfl rfl ?_
        intro W157 s158 r159
        have b160 := below_chg b155 s158 (by omega) (Nat.le_trans hBw b155.size)
        have r161 := rr153.chg s158 (by omega)
        refine fw_dn ?_
        refine ⟨fun a h => ?_⟩
        refine ow_then (hK146 _ _ ?_)
        refine wpSpine_seq rfl fun K hK162 => ?_
        refine fw_in h (fw_rt ?_)
        refine ⟨fun a h => ?_⟩
        refine ow_then_ret (ow_jump_ret ?_)
        have e : cnD l = ({ k := 1, cl := (rdS l26), clean := (fG fl 2), keep := (ofv (l12.take 2)), wI := false, wT := { data := #[] }, wP := { data := #[] }, wQ := 0, wR := false, us := { data := #[] }, hu := (fG fl 128), pa := (rdS l36), hp := (fG fl 64), pres := false, code := 0, cs := [], dup := false, q := 0, re := false, top := { data := #[] }, id := 0, pay := { data := #[] }, ws := [], fs := [] } : Mq) := by simp only [cnD, cnD1, cnD2, cnD3, cnD4, ← hl2, ← hl7, ← hl12, ← hl26, ← hl36, ← hl153, hfl, hb_17, hb_18, hb_46, hb_118, hb_152, zM, if_true, Bool.false_eq_true, if_false]; try rfl
        exact bodyPost_ret (v := .tuple #[]) (by simp [results, Tryd.results67]) h.df ⟨rfl, by rw [e]; exact r159, b160⟩
      refine fw_cF rfl hb_152 (fw_sk ?_)
      refine ⟨fun a h => ?_⟩
      refine ow_then (hK146 _ _ ?_)
      refine wpSpine_seq rfl fun K hK163 => ?_
      refine fw_in h (fw_rt ?_)
      refine ⟨fun a h => ?_⟩
      refine ow_then_ret (ow_jump_ret ?_)
      have e : cnD l = ({ k := 1, cl := (rdS l26), clean := (fG fl 2), keep := (ofv (l12.take 2)), wI := false, wT := { data := #[] }, wP := { data := #[] }, wQ := 0, wR := false, us := { data := #[] }, hu := (fG fl 128), pa := { data := #[] }, hp := (fG fl 64), pres := false, code := 0, cs := [], dup := false, q := 0, re := false, top := { data := #[] }, id := 0, pay := { data := #[] }, ws := [], fs := [] } : Mq) := by simp only [cnD, cnD1, cnD2, cnD3, cnD4, ← hl2, ← hl7, ← hl12, ← hl26, ← hl36, hfl, hb_17, hb_18, hb_46, hb_118, hb_152, zM, if_true, Bool.false_eq_true, if_false]; try rfl
      exact bodyPost_ret (v := .tuple #[]) (by simp [results, Tryd.results67]) h.df ⟨rfl, by rw [e]; exact r149, b150⟩
    refine fw_cT rfl (not_of hb_18) (fw_go ?_)
    refine ⟨fun a h => ?_⟩
    refine ow_then_goto (ow_jump (HJ _ _ ?_))
    refine fw_in h (fw_rg rfl ?_)
    iterate 3 refine fw_pu rfl ?_
    refine fw_st r15 rfl rfl ?_
    intro W164 s165 r166
    have b167 := below_chg b14 s165 (by omega) (Nat.le_trans hBw b14.size)
    have r168 := rr12.chg s165 (by omega)
    refine fw_dn ?_
    refine ⟨fun a h => ?_⟩
    refine ow_nogoto_end ?_
    have e : cnD l = ({ k := 0, cl := { data := #[] }, clean := false, keep := 0, wI := false, wT := { data := #[] }, wP := { data := #[] }, wQ := 0, wR := false, us := { data := #[] }, hu := false, pa := { data := #[] }, hp := false, pres := false, code := 0, cs := [], dup := false, q := 0, re := false, top := { data := #[] }, id := 0, pay := { data := #[] }, ws := [], fs := [] } : Mq) := by simp only [cnD, cnD1, cnD2, cnD3, cnD4, ← hl2, ← hl7, ← hl12, hfl, hb_17, hb_18, zM, if_true, Bool.false_eq_true, if_false]; try rfl
    exact bodyPost_end (v := .tuple #[]) (by simp [results, Tryd.results67]) h.df ⟨rfl, by rw [e]; exact r166, b167⟩
  refine fw_kn 15 rfl (not_of hb_17) ?_
  iterate 3 refine fw_pu rfl ?_
  refine fw_dt (fw_cT rfl rfl (fw_go ?_))
  refine ⟨fun a h => ?_⟩
  refine ow_then_goto (ow_jump (HJ _ _ ?_))
  refine fw_in h (fw_rg rfl ?_)
  iterate 3 refine fw_pu rfl ?_
  refine fw_st r15 rfl rfl ?_
  intro W169 s170 r171
  have b172 := below_chg b14 s170 (by omega) (Nat.le_trans hBw b14.size)
  have r173 := rr12.chg s170 (by omega)
  refine fw_dn ?_
  refine ⟨fun a h => ?_⟩
  refine ow_nogoto_end ?_
  have e : cnD l = ({ k := 0, cl := { data := #[] }, clean := false, keep := 0, wI := false, wT := { data := #[] }, wP := { data := #[] }, wQ := 0, wR := false, us := { data := #[] }, hu := false, pa := { data := #[] }, hp := false, pres := false, code := 0, cs := [], dup := false, q := 0, re := false, top := { data := #[] }, id := 0, pay := { data := #[] }, ws := [], fs := [] } : Mq) := by simp only [cnD, cnD1, cnD2, cnD3, cnD4, ← hl2, ← hl7, ← hl12, hfl, hb_17, zM, Bool.false_eq_true, if_false]; try rfl
  exact bodyPost_end (v := .tuple #[]) (by simp [results, Tryd.results67]) h.df ⟨rfl, by rw [e]; exact r171, b172⟩
set_option maxRecDepth 100000 in
set_option maxHeartbeats 4000000 in
theorem rdPub {W0 w : World} {g c : Nat} {a : Option Addr} {l : List UInt8} {q : Nat} {f : Int} (h0 : Below W0.heap.size W0 w) (hf : 0 ≤ f ∧ f ≤ 255) (hq : W0.heap.size ≤ q) (hg : W0.heap.size ≤ g) (hqg : q ≠ g) (rr : RR w g a l.length c) (hs : SlN W0 (.slice a l.length c) l) (rq : RowAt w q [.int .i64 3, .string { data := #[] }, .bool false, .int .i64 0, .bool false, .string { data := #[] }, .string { data := #[] }, .int .i64 0, .bool false, .string { data := #[] }, .bool false, .string { data := #[] }, .bool false, .bool false, .int .i64 0, .slice none 0 0, .bool false, .int .i64 0, .bool false, .string { data := #[] }, .int .i64 0, .string { data := #[] }, .slice none 0 0, .slice none 0 0]) :
    Calls Tryd.prog 69 #[.pointer (some ⟨g, 0, none⟩), .pointer (some ⟨q, 0, none⟩), .int .i64 f] w fun e w' => e = .returned (.tuple #[]) ∧ RowAt w' q ((pbD f l).row (.slice none 0 0) (.slice none 0 0) (.slice none 0 0)) ∧ Below W0.heap.size w w' := by
  have hb0 := Below.refl W0.heap.size w
  have hBw := h0.size
  refine fw_en 47 [(0, .pointer (some ⟨g, 0, none⟩)), (1, .pointer (some ⟨q, 0, none⟩)), (2, .int .i64 f)] Tryd.func69 rfl Tryd.ntmps69 rfl ⟨rfl, rfl, rfl, trivial⟩ ?_
  refine fw_sq (fw_rg rfl ?_)
  iterate 2 refine fw_pu rfl ?_
  refine fw_ex 8 (.int .i64 (bits .and .i64 f 8)) rfl rfl rfl (fun a h => (run_binOp (h.ev rfl) (h.ev rfl) (by simp [go_sem]) (andIw _ _ _))) ?_
  iterate 3 refine fw_pu rfl ?_
  refine fw_st rq rfl rfl ?_
  intro W1 s2 r3
  have b4 := below_chg hb0 s2 (by omega) (Nat.le_trans hBw hb0.size)
  have r5 := rr.chg s2 (by omega)
  refine fw_dt (fw_sq (fw_rg rfl ?_))
  iterate 2 refine fw_pu rfl ?_
  refine fw_ex 14 (.int .i64 (f / 2)) rfl rfl rfl (fun a h => (run_binOp (h.ev rfl) (h.ev rfl) (by simp [go_sem]) (shrF _ 1 (by omega) _ (by decide)))) ?_
  refine fw_ex 15 (.int .i64 ((f / 2) % 4)) rfl rfl rfl (fun a h => (run_binOp (h.ev rfl) (h.ev rfl) (by simp [go_sem]) (by rw [andF, and3F _ (by omega)]))) ?_
  iterate 2 refine fw_pu rfl ?_
  refine fw_st r3 rfl rfl ?_
  intro W6 s7 r8
  have b9 := below_chg b4 s7 (by omega) (Nat.le_trans hBw b4.size)
  have r10 := r5.chg s7 (by omega)
  refine fw_dt (fw_sq (fw_rg rfl ?_))
  iterate 2 refine fw_pu rfl ?_
  refine fw_ex 20 (.int .i64 (bits .and .i64 f 1)) rfl rfl rfl (fun a h => (run_binOp (h.ev rfl) (h.ev rfl) (by simp [go_sem]) (andIw _ _ _))) ?_
  iterate 3 refine fw_pu rfl ?_
  refine fw_st r8 rfl rfl ?_
  intro W11 s12 r13
  have b14 := below_chg b9 s12 (by omega) (Nat.le_trans hBw b9.size)
  have r15 := r10.chg s12 (by omega)
  refine fw_dt (fw_sq (fw_rg rfl ?_))
  iterate 2 refine fw_pu rfl ?_
  refine fw_ca Tryd.func90 rfl rfl rfl ((rdTxt (h0.trans b14) hg r15 hs)) ?_
  rintro _ V17 ⟨l16, a16, c16, rfl, hl16, sn16, rr16, hs16⟩
  refine ⟨_, rfl, ?_⟩
  have b18 := below_chg b14 sn16 (by omega) (Nat.le_trans hBw b14.size)
  have r19 := r13.chg sn16 (by omega)
  iterate 2 refine fw_pu rfl ?_
  refine fw_st r19 rfl rfl ?_
  intro W20 s21 r22
  have b23 := below_chg b18 s21 (by omega) (Nat.le_trans hBw b18.size)
  have r24 := rr16.chg s21 (by omega)
  refine fw_dt (fw_sq (fw_sq (fw_rg rfl ?_)))
  iterate 3 refine fw_pu rfl ?_
  refine fw_ld r22 rfl rfl (fw_pu rfl (fw_dt ?_))
  rcases Bool.eq_false_or_eq_true ((decide (0 < ((f / 2) % 4)))) with hb_25 | hb_25
  · skip
    refine fw_cT rfl hb_25 (fw_rg rfl ?_)
    iterate 2 refine fw_pu rfl ?_
    refine fw_ca Tryd.func68 rfl rfl rfl ((rdNum (h0.trans b23) 2 (by decide) hg r24 hs16)) ?_
    rintro _ V27 ⟨l26, a26, c26, rfl, hl26, sn26, rr26, hs26⟩
    refine ⟨(.int .i64 (ofv (l16.take 2))), rfl, ?_⟩
    have b28 := below_chg b23 sn26 (by omega) (Nat.le_trans hBw b23.size)
    have r29 := r22.chg sn26 (by omega)
    iterate 2 refine fw_pu rfl ?_
    refine fw_st r29 rfl rfl ?_
    intro W30 s31 r32
    have b33 := below_chg b28 s31 (by omega) (Nat.le_trans hBw b28.size)
    have r34 := rr26.chg s31 (by omega)
    refine fw_dt (fw_rg rfl ?_)
    iterate 4 refine fw_pu rfl ?_
    refine fw_ld r34 rfl rfl ?_
    refine fw_ex 44 (.string (⟨l26.toArray⟩ : ByteArray)) rfl rfl rfl (fun a h => (run_convOp (h.ev rfl) (sl_str (sl_cur (h0.trans b33) hs26.1)))) ?_
    iterate 2 refine fw_pu rfl ?_
    refine fw_st r32 rfl rfl ?_
    intro W35 s36 r37
    have b38 := below_chg b33 s36 (by omega) (Nat.le_trans hBw b33.size)
    have r39 := r34.chg s36 (by omega)
    refine fw_dn ?_
    refine ⟨fun a h => ?_⟩
    have e : pbD f l = ({ k := 3, cl := { data := #[] }, clean := false, keep := 0, wI := false, wT := { data := #[] }, wP := { data := #[] }, wQ := 0, wR := false, us := { data := #[] }, hu := false, pa := { data := #[] }, hp := false, pres := false, code := 0, cs := [], dup := (fG f 8), q := ((f / 2) % 4), re := (fG f 1), top := (rdS l), id := (ofv (l16.take 2)), pay := (⟨l26.toArray⟩ : ByteArray), ws := [], fs := [] } : Mq) := by simp only [pbD, ← hl16, ← hl26, hb_25, zM, if_true]; try rfl
    exact bodyPost_end (v := .tuple #[]) (by simp [results, Tryd.results69]) h.df ⟨rfl, by rw [e]; exact r37, b38⟩
  refine fw_cF rfl hb_25 (fw_sk (fw_th (fw_rg rfl ?_)))
  iterate 4 refine fw_pu rfl ?_
  refine fw_ld r24 rfl rfl ?_
  refine fw_ex 44 (.string (⟨l16.toArray⟩ : ByteArray)) rfl rfl rfl (fun a h => (run_convOp (h.ev rfl) (sl_str (sl_cur (h0.trans b23) hs16.1)))) ?_
  iterate 2 refine fw_pu rfl ?_
  refine fw_st r22 rfl rfl ?_
  intro W40 s41 r42
  have b43 := below_chg b23 s41 (by omega) (Nat.le_trans hBw b23.size)
  have r44 := r24.chg s41 (by omega)
  refine fw_dn ?_
  refine ⟨fun a h => ?_⟩
  have e : pbD f l = ({ k := 3, cl := { data := #[] }, clean := false, keep := 0, wI := false, wT := { data := #[] }, wP := { data := #[] }, wQ := 0, wR := false, us := { data := #[] }, hu := false, pa := { data := #[] }, hp := false, pres := false, code := 0, cs := [], dup := (fG f 8), q := ((f / 2) % 4), re := (fG f 1), top := (rdS l), id := 0, pay := (⟨l16.toArray⟩ : ByteArray), ws := [], fs := [] } : Mq) := by simp only [pbD, ← hl16, hb_25, zM, Bool.false_eq_true, if_false]; try rfl
  exact bodyPost_end (v := .tuple #[]) (by simp [results, Tryd.results69]) h.df ⟨rfl, by rw [e]; exact r42, b43⟩
section
variable {ρ : Operand → Value} {d : Option Tmp} {ty : TypeId} {pos : String} {af : Array Edge} {g : Option (Nat × Bool)} {x : Operand} {w : World}
theorem run_buildInt1 {n : Int} (hx : ρ x = .int .i64 n) : (execOp ρ ⟨d, .buildSlice 26 1 #[(0, x)], ty, pos, af, g⟩).run Tryd.prog w = .ok (.value (.slice (some ⟨w.heap.size, 0, none⟩) 1 1)) (w.alloc (.cells #[.int .i64 n] 3)) := by simp [execOp, hx, go_sem, Instr.buildSlice]
theorem run_buildStr1 {n : ByteArray} (hx : ρ x = .string n) : (execOp ρ ⟨d, .buildSlice 28 1 #[(0, x)], ty, pos, af, g⟩).run Tryd.prog w = .ok (.value (.slice (some ⟨w.heap.size, 0, none⟩) 1 1)) (w.alloc (.cells #[.string n] 9)) := by simp [execOp, hx, go_sem, Instr.buildSlice]
theorem run_buildWish1 {n : ByteArray} {q : Int} (hx : ρ x = .agg #[.string n, .int .i64 q]) : (execOp ρ ⟨d, .buildSlice 27 1 #[(0, x)], ty, pos, af, g⟩).run Tryd.prog w = .ok (.value (.slice (some ⟨w.heap.size, 0, none⟩) 1 1)) (w.alloc (.cells #[.string n, .int .i64 q] 93)) := by simp [execOp, hx, go_sem, Instr.buildSlice]
end
theorem lsW_nil (n : Nat) : lsW n [] = [] := by cases n <;> rfl
theorem lsC_nil (n : Nat) : lsC n [] = [] := by cases n <;> rfl
theorem lsF_nil (n : Nat) : lsF n [] = [] := by cases n <;> rfl
abbrev OLW (W : World) (B : Nat) (a : Option Addr) (c : Nat) (L : List EWish) : Prop := W.ownsRow B 93 2 (.slice a L.length c) L.length ((L.map rowWish).flatten)
section
variable {B q c : Nat} {a : Option Addr} {L : List EWish} {W W' : World}
theorem olW_nil (W : World) (B : Nat) : OLW W B none 0 [] := World.ownsRow_nil _ _ _ _
theorem olW_one (L : List EWish) : ∀ u ∈ (L.map rowWish).flatten, u.oneCell' = true := by
  intro u hu
  obtain ⟨r, hr, hu⟩ := List.mem_flatten.1 hu
  obtain ⟨x, -, rfl⟩ := List.mem_map.1 hr
  simp at hu
  rcases hu with rfl | rfl <;> rfl
theorem olW_sl (h : OLW W B a c L) : SlR W 2 (.slice a L.length c) (L.map rowWish) := (SlR.of_own (by decide) (by intro r hr; obtain ⟨x, -, rfl⟩ := List.mem_map.1 hr; rfl) h).1
theorem olW_chg (h : OLW W B a c L) (s : W.grownBy W' (some q)) (hn : ∀ k, (Value.slice a L.length c).ownBlock = some k → k ≠ q) : OLW W' B a c L := own_stay h s (fun k hk e => hn k hk (Option.some.inj e))
theorem olW_row {v' : Value} {vs : List Value} (r : RowAt W q vs) (hg : Grew W W' (.slice a L.length c) v') (hn : ∀ k, (Value.slice a L.length c).ownBlock = some k → k ≠ q) : RowAt W' q vs := rowAt_keep r hg.1 (fun e => hn q e.symm rfl)
theorem olW_off (h : OLW W B a c L) (hq : q < B) : ∀ k, (Value.slice a L.length c).ownBlock = some k → k ≠ q := fun k hk e => by have := (blk_lt h hk).1; omega
theorem olW_low {b : Nat} {W0 : World} {v' : Value} (h : Below b W0 W) (ho : OLW W B a c L) (hg : Grew W W' (.slice a L.length c) v') (hb : b ≤ B) (hB : b ≤ W.heap.size) : Below b W0 W' := below_grown h hg.1 (fun _ hk => Nat.le_trans hb (blk_lt ho hk).1) hB
theorem olW_app {o : Oper} {x : Act} {e : EWish} (s t : Operand) (ho : o.op = .call { callee := .builtin .append, args := #[s, t], argTypes := #[27, 27] }) (hs : x.eval s = .slice a L.length c) (hown : OLW W B a c L) (hx : x.eval t = .slice (some ⟨q, 0, none⟩) 1 1) (hr : RowAt W q (rowWish e)) (hn : L.length ≤ 100000) (hB : B ≤ W.heap.size) :
    opTo Tryd.prog o x W fun v' w' => ∃ L' a' c', v' = .slice a' L'.length c' ∧ L' = L ++ [e] ∧ Grew W w' (.slice a L.length c) (.slice a' L'.length c') ∧ OLW w' B a' c' L' := by
  obtain ⟨i0, hi, hz0, hz1, hz2⟩ := info_parts infoWish
  refine opTo_up (opTo_app s t 27 93 ho B i0 _ 2 24 Tryd.underlying27 hi hz0 hz1 hz2 rfl (by decide) _ L.length _ hs hown ⟨q, 0, none⟩ 1 1 (rowWish e) hx rfl (fun j u' hj => by rw [add_off0, Nat.zero_add]; exact hr.1 j u' hj) (fun u' hu => olW_one [e] u' (by simpa using hu)) (by unfold maxLen; omega) (by omega) hB) ?_
  rintro v' w' ⟨h1, h2⟩
  obtain ⟨a', c', rfl⟩ := own_slice h2
  have hl : L.length + 1 = (L ++ [e]).length := by rw [List.length_append]; rfl
  rw [hl] at h1 h2
  refine ⟨L ++ [e], a', c', by rw [hl], rfl, h1, ?_⟩
  show w'.ownsRow B _ _ _ _ _
  rw [List.map_append, List.flatten_append, show ([e].map rowWish).flatten = rowWish e by simp]
  exact h2
end
abbrev OLC (W : World) (B : Nat) (a : Option Addr) (c : Nat) (L : List Int) : Prop := W.ownsRow B 3 1 (.slice a L.length c) L.length ((L.map cn).flatten)
section
variable {B q c : Nat} {a : Option Addr} {L : List Int} {W W' : World}
theorem olC_nil (W : World) (B : Nat) : OLC W B none 0 [] := World.ownsRow_nil _ _ _ _
theorem olC_one (L : List Int) : ∀ u ∈ (L.map cn).flatten, u.oneCell' = true := by
  intro u hu
  obtain ⟨r, hr, hu⟩ := List.mem_flatten.1 hu
  obtain ⟨x, -, rfl⟩ := List.mem_map.1 hr
  simp at hu
  rcases hu with rfl <;> rfl
theorem olC_sl (h : OLC W B a c L) : SlR W 1 (.slice a L.length c) (L.map cn) := (SlR.of_own (by decide) (by intro r hr; obtain ⟨x, -, rfl⟩ := List.mem_map.1 hr; rfl) h).1
theorem olC_chg (h : OLC W B a c L) (s : W.grownBy W' (some q)) (hn : ∀ k, (Value.slice a L.length c).ownBlock = some k → k ≠ q) : OLC W' B a c L := own_stay h s (fun k hk e => hn k hk (Option.some.inj e))
theorem olC_row {v' : Value} {vs : List Value} (r : RowAt W q vs) (hg : Grew W W' (.slice a L.length c) v') (hn : ∀ k, (Value.slice a L.length c).ownBlock = some k → k ≠ q) : RowAt W' q vs := rowAt_keep r hg.1 (fun e => hn q e.symm rfl)
theorem olC_off (h : OLC W B a c L) (hq : q < B) : ∀ k, (Value.slice a L.length c).ownBlock = some k → k ≠ q := fun k hk e => by have := (blk_lt h hk).1; omega
theorem olC_low {b : Nat} {W0 : World} {v' : Value} (h : Below b W0 W) (ho : OLC W B a c L) (hg : Grew W W' (.slice a L.length c) v') (hb : b ≤ B) (hB : b ≤ W.heap.size) : Below b W0 W' := below_grown h hg.1 (fun _ hk => Nat.le_trans hb (blk_lt ho hk).1) hB
theorem olC_app {o : Oper} {x : Act} {e : Int} (s t : Operand) (ho : o.op = .call { callee := .builtin .append, args := #[s, t], argTypes := #[26, 26] }) (hs : x.eval s = .slice a L.length c) (hown : OLC W B a c L) (hx : x.eval t = .slice (some ⟨q, 0, none⟩) 1 1) (hr : RowAt W q (cn e)) (hn : L.length ≤ 100000) (hB : B ≤ W.heap.size) :
    opTo Tryd.prog o x W fun v' w' => ∃ L' a' c', v' = .slice a' L'.length c' ∧ L' = L ++ [e] ∧ Grew W w' (.slice a L.length c) (.slice a' L'.length c') ∧ OLC w' B a' c' L' := by
  obtain ⟨i0, hi, hz0, hz1, hz2⟩ := info_parts infoI64
  refine opTo_up (opTo_app s t 26 3 ho B i0 _ 1 8 Tryd.underlying26 hi hz0 hz1 hz2 rfl (by decide) _ L.length _ hs hown ⟨q, 0, none⟩ 1 1 (cn e) hx rfl (fun j u' hj => by rw [add_off0, Nat.zero_add]; exact hr.1 j u' hj) (fun u' hu => olC_one [e] u' (by simpa using hu)) (by unfold maxLen; omega) (by omega) hB) ?_
  rintro v' w' ⟨h1, h2⟩
  obtain ⟨a', c', rfl⟩ := own_slice h2
  have hl : L.length + 1 = (L ++ [e]).length := by rw [List.length_append]; rfl
  rw [hl] at h1 h2
  refine ⟨L ++ [e], a', c', by rw [hl], rfl, h1, ?_⟩
  show w'.ownsRow B _ _ _ _ _
  rw [List.map_append, List.flatten_append, show ([e].map cn).flatten = cn e by simp]
  exact h2
end
abbrev OLF (W : World) (B : Nat) (a : Option Addr) (c : Nat) (L : List ByteArray) : Prop := W.ownsRow B 9 1 (.slice a L.length c) L.length ((L.map cs1).flatten)
section
variable {B q c : Nat} {a : Option Addr} {L : List ByteArray} {W W' : World}
theorem olF_nil (W : World) (B : Nat) : OLF W B none 0 [] := World.ownsRow_nil _ _ _ _
theorem olF_one (L : List ByteArray) : ∀ u ∈ (L.map cs1).flatten, u.oneCell' = true := by
  intro u hu
  obtain ⟨r, hr, hu⟩ := List.mem_flatten.1 hu
  obtain ⟨x, -, rfl⟩ := List.mem_map.1 hr
  simp at hu
  rcases hu with rfl <;> rfl
theorem olF_sl (h : OLF W B a c L) : SlR W 1 (.slice a L.length c) (L.map cs1) := (SlR.of_own (by decide) (by intro r hr; obtain ⟨x, -, rfl⟩ := List.mem_map.1 hr; rfl) h).1
theorem olF_chg (h : OLF W B a c L) (s : W.grownBy W' (some q)) (hn : ∀ k, (Value.slice a L.length c).ownBlock = some k → k ≠ q) : OLF W' B a c L := own_stay h s (fun k hk e => hn k hk (Option.some.inj e))
theorem olF_row {v' : Value} {vs : List Value} (r : RowAt W q vs) (hg : Grew W W' (.slice a L.length c) v') (hn : ∀ k, (Value.slice a L.length c).ownBlock = some k → k ≠ q) : RowAt W' q vs := rowAt_keep r hg.1 (fun e => hn q e.symm rfl)
theorem olF_off (h : OLF W B a c L) (hq : q < B) : ∀ k, (Value.slice a L.length c).ownBlock = some k → k ≠ q := fun k hk e => by have := (blk_lt h hk).1; omega
theorem olF_low {b : Nat} {W0 : World} {v' : Value} (h : Below b W0 W) (ho : OLF W B a c L) (hg : Grew W W' (.slice a L.length c) v') (hb : b ≤ B) (hB : b ≤ W.heap.size) : Below b W0 W' := below_grown h hg.1 (fun _ hk => Nat.le_trans hb (blk_lt ho hk).1) hB
theorem olF_app {o : Oper} {x : Act} {e : ByteArray} (s t : Operand) (ho : o.op = .call { callee := .builtin .append, args := #[s, t], argTypes := #[28, 28] }) (hs : x.eval s = .slice a L.length c) (hown : OLF W B a c L) (hx : x.eval t = .slice (some ⟨q, 0, none⟩) 1 1) (hr : RowAt W q (cs1 e)) (hn : L.length ≤ 100000) (hB : B ≤ W.heap.size) :
    opTo Tryd.prog o x W fun v' w' => ∃ L' a' c', v' = .slice a' L'.length c' ∧ L' = L ++ [e] ∧ Grew W w' (.slice a L.length c) (.slice a' L'.length c') ∧ OLF w' B a' c' L' := by
  obtain ⟨i0, hi, hz0, hz1, hz2⟩ := info_parts infoStr
  refine opTo_up (opTo_app s t 28 9 ho B i0 _ 1 16 Tryd.underlying28 hi hz0 hz1 hz2 rfl (by decide) _ L.length _ hs hown ⟨q, 0, none⟩ 1 1 (cs1 e) hx rfl (fun j u' hj => by rw [add_off0, Nat.zero_add]; exact hr.1 j u' hj) (fun u' hu => olF_one [e] u' (by simpa using hu)) (by unfold maxLen; omega) (by omega) hB) ?_
  rintro v' w' ⟨h1, h2⟩
  obtain ⟨a', c', rfl⟩ := own_slice h2
  have hl : L.length + 1 = (L ++ [e]).length := by rw [List.length_append]; rfl
  rw [hl] at h1 h2
  refine ⟨L ++ [e], a', c', by rw [hl], rfl, h1, ?_⟩
  show w'.ownsRow B _ _ _ _ _
  rw [List.map_append, List.flatten_append, show ([e].map cs1).flatten = cs1 e by simp]
  exact h2
end
theorem below_sz {b : Nat} {W W' : World} (h : Below b W W') : W.heap.size ≤ W'.heap.size := h.size
theorem dec_len {α : Type} {l : List α} (h : decide ((0 : Int) < ((l.length : Nat) : Int)) = true) : l ≠ [] := by rintro rfl; simp at h
theorem dec_len0 {α : Type} {l : List α} (h : decide ((0 : Int) < ((l.length : Nat) : Int)) = false) : l = [] := by
  have := of_decide_eq_false h; exact List.eq_nil_of_length_eq_zero (by omega)
set_option maxRecDepth 100000 in
set_option maxHeartbeats 4000000 in
theorem rdLstW {W0 w : World} {g c : Nat} {a : Option Addr} {l : List UInt8} {q : Nat} {id : Int} (h0 : Below W0.heap.size W0 w) (hq : W0.heap.size ≤ q) (hg : W0.heap.size ≤ g) (hqg : q ≠ g) (rr : RR w g a l.length c) (hs : SlN W0 (.slice a l.length c) l) (rq : RowAt w q [.int .i64 8, .string { data := #[] }, .bool false, .int .i64 0, .bool false, .string { data := #[] }, .string { data := #[] }, .int .i64 0, .bool false, .string { data := #[] }, .bool false, .string { data := #[] }, .bool false, .bool false, .int .i64 0, .slice none 0 0, .bool false, .int .i64 0, .bool false, .string { data := #[] }, .int .i64 id, .string { data := #[] }, .slice none 0 0, .slice none 0 0]) :
    Calls Tryd.prog 70 #[.pointer (some ⟨g, 0, none⟩), .pointer (some ⟨q, 0, none⟩)] w fun e w' => ∃ L aL cL, e = .returned (.tuple #[]) ∧ L = lsW 9 l ∧ OLW w' W0.heap.size aL cL L ∧ RowAt w' q [.int .i64 8, .string { data := #[] }, .bool false, .int .i64 0, .bool false, .string { data := #[] }, .string { data := #[] }, .int .i64 0, .bool false, .string { data := #[] }, .bool false, .string { data := #[] }, .bool false, .bool false, .int .i64 0, .slice none 0 0, .bool false, .int .i64 0, .bool false, .string { data := #[] }, .int .i64 id, .string { data := #[] }, .slice aL L.length cL, .slice none 0 0] ∧ Below W0.heap.size w w' := by
  have hb0 := Below.refl W0.heap.size w
  have hBw := h0.size
  obtain ⟨B, hB⟩ : ∃ x, x = w.heap.size := ⟨_, rfl⟩
  have hqB : q < B := by rw [hB]; exact rq.2.2
  have hgB : g < B := by rw [hB]; exact rr.2.2
  have hWB : W0.heap.size ≤ B := by rw [hB]; exact hBw
  have ho := olW_nil w B
  refine fw_en 63 [(0, .pointer (some ⟨g, 0, none⟩)), (1, .pointer (some ⟨q, 0, none⟩))] Tryd.func70 rfl Tryd.ntmps70 rfl ⟨rfl, rfl, trivial⟩ ?_
  refine fw_sq (fw_rg rfl (fw_pu rfl (fw_dt (fw_bk ?_))))
  refine fw_lp (fun N K W => ∃ (i : Nat) (li : List UInt8) (ai : Option Addr) (ci : Nat) (L : List EWish) (aL : Option Addr) (cL : Nat), N = 10 - i ∧ i ≤ 9 ∧ L.length ≤ i ∧ L ++ lsW (9 - i) li = lsW 9 l ∧ SlN W0 (.slice ai li.length ci) li ∧ K = [(0, .pointer (some ⟨g, 0, none⟩)), (1, .pointer (some ⟨q, 0, none⟩)), (4, .int .i64 ((i : Nat) : Int))] ∧ Below W0.heap.size w W ∧ RowAt W g [.slice ai li.length ci] ∧ RowAt W q [.int .i64 8, .string { data := #[] }, .bool false, .int .i64 0, .bool false, .string { data := #[] }, .string { data := #[] }, .int .i64 0, .bool false, .string { data := #[] }, .bool false, .string { data := #[] }, .bool false, .bool false, .int .i64 0, .slice none 0 0, .bool false, .int .i64 0, .bool false, .string { data := #[] }, .int .i64 id, .string { data := #[] }, .slice aL L.length cL, .slice none 0 0] ∧ OLW W B aL cL L) _ _ ⟨0, l, a, c, [], none, 0, rfl, (by omega), Nat.le_refl _, rfl, hs, rfl, hb0, rr, rq, ho⟩ ⟨rfl, rfl, (by first | rfl | (simp only [Look, cond, Nat.beq]; first | rfl | (congr 2; first | rfl | omega | (push_cast; omega)) | (simp; try omega))), trivial⟩ ?_
  rintro N _ W1 ⟨i, li, ai, ci, L, aL, cL, rfl, hi9, hLi, hinv, hsi, rfl, bW1, rW1_0, rW1_1, gW1_0⟩
  intro K3 hK3
  refine fw_sq (fw_sq (fw_rg rfl ?_))
  iterate 3 refine fw_pu rfl ?_
  refine fw_ld rW1_0 rfl rfl ?_
  iterate 3 refine fw_pu rfl ?_
  rcases Bool.eq_false_or_eq_true ((decide (0 < ((li.length : Nat) : Int)))) with hb_4 | hb_4
  · skip
    refine fw_kn 11 rfl hb_4 ?_
    iterate 3 refine fw_pu rfl ?_
    refine fw_dt ?_
    rcases Bool.eq_false_or_eq_true ((decide (((i : Nat) : Int) ≤ 8))) with hb_5 | hb_5
    · skip
      refine fw_cT rfl hb_5 (fw_sk (fw_th (fw_sq (fw_bk (fw_sq (fw_rg rfl ?_))))))
      iterate 3 refine fw_pu rfl ?_
      refine fw_ld rW1_1 rfl rfl (fw_dt (fw_bk (fw_sq (fw_rg rfl ?_))))
      iterate 2 refine fw_pu rfl ?_
      refine fw_dt (fw_cT rfl rfl ?_)
      refine fw_hr (fun X => Below W0.heap.size w X) (by kernel_rfl) 15 rfl ?_
      intro W6 s7
      have b8 := bW1.trans (s7.mono (Nat.le_trans hBw bW1.size))
      have r9 := rW1_0.below s7
      have r10 := rW1_1.below s7
      have f11 := (below_own gW1_0 s7)
      refine ⟨b8, ?_⟩
      refine fw_tk 0 rfl rfl (by kernel_rfl) (fun _ _ _ _ _ h => h) ?_
      refine fw_tk 1 rfl rfl (by kernel_rfl) (fun _ _ _ _ _ h => h) ?_
      refine fw_tk 2 rfl rfl (by kernel_rfl) (fun _ _ _ _ _ h => h) ?_
      refine fw_tk 3 rfl rfl (by kernel_rfl) (fun _ _ _ _ _ h => h) ?_
      refine fw_tk 5 rfl rfl (by kernel_rfl) (fun _ _ _ _ _ h => h) ?_
      refine fw_tk 7 rfl rfl (by kernel_rfl) (fun _ _ _ _ _ h => h) ?_
      refine fw_o2 4 6 (by kernel_rfl) ?_ ?_
      · skip
        refine fw_ol rfl r10 rfl rfl ?_
        refine fw_o1 6 (by kernel_rfl) ?_
        refine fw_oc rfl Tryd.func90 rfl rfl rfl ((rdTxt (h0.trans b8) hg r9 hsi)) ?_
        rintro _ V13 ⟨l12, a12, c12, rfl, hl12, sn12, rr12, hs12⟩
        refine ⟨_, rfl, ?_⟩
        have b14 := below_chg b8 sn12 (by omega) (Nat.le_trans hBw b8.size)
        have r15 := r10.chg sn12 (by omega)
        have f16 := (olW_chg f11 sn12 (olW_off f11 (by omega)))
        refine ⟨b14, ?_⟩
        refine fw_o1 8 (by kernel_rfl) ?_
        refine fw_oc rfl Tryd.func68 rfl rfl rfl ((rdNum (h0.trans b14) 1 (by decide) hg rr12 hs12)) ?_
        rintro _ V18 ⟨l17, a17, c17, rfl, hl17, sn17, rr17, hs17⟩
        refine ⟨(.int .i64 (ofv (l12.take 1))), rfl, ?_⟩
        have b19 := below_chg b14 sn17 (by omega) (Nat.le_trans hBw b14.size)
        have r20 := r15.chg sn17 (by omega)
        have f21 := (olW_chg f16 sn17 (olW_off f16 (by omega)))
        refine ⟨b19, ?_⟩
        refine fw_tx 9 32 (.agg #[.string (rdS li), .int .i64 (ofv (l12.take 1))]) rfl rfl rfl rfl (fun a h W hW => by have b19 := hW; exact (run_buildOp (bp2 (h.ev rfl) (h.ev rfl)) (by first | kernel_rfl | rfl))) (by kernel_rfl) (fun _ _ _ _ _ h => h) ?_
        refine fw_o1 10 (by kernel_rfl) ?_
        refine fw_oa rfl (t := 93) (u := fun q => .slice (some ⟨q, 0, none⟩) 1 1) 33 [.string (rdS li), .int .i64 (ofv (l12.take 1))] rfl rfl rfl (fun a h => (run_buildWish1 (h.ev rfl))) ?_
        intro q22 W23 g26 s24 r25
        have := Nat.le_trans (Nat.le_trans hBw b19.size) g26
        have := rr17.lt g26
        have := r20.lt g26
        have b27 := b19.trans (s24.mono (Nat.le_trans hBw b19.size))
        have r28 := rr17.below s24
        have r29 := r20.below s24
        have f30 := (below_own f21 s24)
        refine ⟨b27, ?_⟩
        refine fw_o1 11 (by kernel_rfl) ?_
        have hBz32 : B ≤ W23.heap.size := by rw [hB]; exact Nat.le_trans (Nat.le_refl _) (below_sz b27)
        refine fw_ot rfl 34 rfl rfl rfl (fun a h => olW_app (e := (⟨(rdS li), (ofv (l12.take 1))⟩ : EWish)) _ _ rfl (h.ev rfl) f30 (h.ev rfl) r25 (by omega) hBz32) ?_
        rintro _ V31 ⟨L32, a32, c32, rfl, hL32, hg32, ho32⟩
        have r33 := olW_row r28 hg32 (olW_off f30 (by omega))
        have r34 := olW_row r29 hg32 (olW_off f30 (by omega))
        have b35 := olW_low b27 f30 hg32 (by omega) (Nat.le_trans hBw b27.size)
        refine ⟨b35, ?_⟩
        refine fw_tk 12 rfl rfl (by kernel_rfl) (fun _ _ _ _ _ h => h) ?_
        refine fw_tk 13 rfl rfl (by kernel_rfl) (fun _ _ _ _ _ h => h) ?_
        refine fw_o1 14 (by kernel_rfl) ?_
        refine fw_os rfl r34 rfl rfl ?_
        intro W36 s37 r38
        have b39 := below_chg b35 s37 (by omega) (Nat.le_trans hBw b35.size)
        have r40 := r33.chg s37 (by omega)
        have f41 := (olW_chg ho32 s37 (olW_off ho32 (by omega)))
        refine ⟨b39, ?_⟩
        refine fw_hz (by kernel_rfl) ?_
        refine fw_bn (fw_bn (fw_th (fw_rg rfl (fw_pu rfl ?_))))
        refine fw_ex 16 (.int .i64 (((i + 1) : Nat) : Int)) rfl rfl rfl (fun a h => (run_binOp (h.ev rfl) (h.ev rfl) (by simp [go_sem]) (addIw _ _ _ _ (by omega) (by omega) (by omega)))) ?_
        refine fw_pu rfl (fw_dn ?_)
        have hne : li ≠ [] := dec_len hb_4
        have hi8 := of_decide_eq_true hb_5
        have hinv2 : L32 ++ lsW (9 - (i + 1)) l17 = lsW 9 l := by rw [hL32, ← hinv, show 9 - i = (9 - (i + 1)) + 1 by omega, lsW_ne _ hne, List.append_assoc, hl17, hl12]; rfl
        exact fw_th (fw_gf (hK3 _ _ _ (by omega) ⟨(i + 1), l17, a17, c17, L32, a32, c32, rfl, (by omega), (by rw [hL32, List.length_append]; exact Nat.add_le_add_right hLi 1), hinv2, hs17, rfl, b39, r40, r38, f41⟩) ⟨rfl, rfl, (by first | rfl | (simp only [Look, cond, Nat.beq]; first | rfl | (congr 2; first | rfl | omega | (push_cast; omega)) | (simp; try omega))), trivial⟩)
      refine fw_oc rfl Tryd.func90 rfl rfl rfl ((rdTxt (h0.trans b8) hg r9 hsi)) ?_
      rintro _ V43 ⟨l42, a42, c42, rfl, hl42, sn42, rr42, hs42⟩
      refine ⟨_, rfl, ?_⟩
      have b44 := below_chg b8 sn42 (by omega) (Nat.le_trans hBw b8.size)
      have r45 := r10.chg sn42 (by omega)
      have f46 := (olW_chg f11 sn42 (olW_off f11 (by omega)))
      refine ⟨b44, ?_⟩
      refine fw_o2 4 8 (by kernel_rfl) ?_ ?_
      · skip
        refine fw_ol rfl r45 rfl rfl ?_
        refine fw_o1 8 (by kernel_rfl) ?_
        refine fw_oc rfl Tryd.func68 rfl rfl rfl ((rdNum (h0.trans b44) 1 (by decide) hg rr42 hs42)) ?_
        rintro _ V48 ⟨l47, a47, c47, rfl, hl47, sn47, rr47, hs47⟩
        refine ⟨(.int .i64 (ofv (l42.take 1))), rfl, ?_⟩
        have b49 := below_chg b44 sn47 (by omega) (Nat.le_trans hBw b44.size)
        have r50 := r45.chg sn47 (by omega)
        have f51 := (olW_chg f46 sn47 (olW_off f46 (by omega)))
        refine ⟨b49, ?_⟩
        refine fw_tx 9 32 (.agg #[.string (rdS li), .int .i64 (ofv (l42.take 1))]) rfl rfl rfl rfl (fun a h W hW => by have b49 := hW; exact (run_buildOp (bp2 (h.ev rfl) (h.ev rfl)) (by first | kernel_rfl | rfl))) (by kernel_rfl) (fun _ _ _ _ _ h => h) ?_
        refine fw_o1 10 (by kernel_rfl) ?_
        refine fw_oa rfl (t := 93) (u := fun q => .slice (some ⟨q, 0, none⟩) 1 1) 33 [.string (rdS li), .int .i64 (ofv (l42.take 1))] rfl rfl rfl (fun a h => (run_buildWish1 (h.ev rfl))) ?_
        intro q52 W53 g56 s54 r55
        have := Nat.le_trans (Nat.le_trans hBw b49.size) g56
        have := rr47.lt g56
        have := r50.lt g56
        have b57 := b49.trans (s54.mono (Nat.le_trans hBw b49.size))
        have r58 := rr47.below s54
        have r59 := r50.below s54
        have f60 := (below_own f51 s54)
        refine ⟨b57, ?_⟩
        refine fw_o1 11 (by kernel_rfl) ?_
        have hBz62 : B ≤ W53.heap.size := by rw [hB]; exact Nat.le_trans (Nat.le_refl _) (below_sz b57)
        refine fw_ot rfl 34 rfl rfl rfl (fun a h => olW_app (e := (⟨(rdS li), (ofv (l42.take 1))⟩ : EWish)) _ _ rfl (h.ev rfl) f60 (h.ev rfl) r55 (by omega) hBz62) ?_
        rintro _ V61 ⟨L62, a62, c62, rfl, hL62, hg62, ho62⟩
        have r63 := olW_row r58 hg62 (olW_off f60 (by omega))
        have r64 := olW_row r59 hg62 (olW_off f60 (by omega))
        have b65 := olW_low b57 f60 hg62 (by omega) (Nat.le_trans hBw b57.size)
        refine ⟨b65, ?_⟩
        refine fw_tk 12 rfl rfl (by kernel_rfl) (fun _ _ _ _ _ h => h) ?_
        refine fw_tk 13 rfl rfl (by kernel_rfl) (fun _ _ _ _ _ h => h) ?_
        refine fw_o1 14 (by kernel_rfl) ?_
        refine fw_os rfl r64 rfl rfl ?_
        intro W66 s67 r68
        have b69 := below_chg b65 s67 (by omega) (Nat.le_trans hBw b65.size)
        have r70 := r63.chg s67 (by omega)
        have f71 := (olW_chg ho62 s67 (olW_off ho62 (by omega)))
        refine ⟨b69, ?_⟩
        refine fw_hz (by kernel_rfl) ?_
        refine fw_bn (fw_bn (fw_th (fw_rg rfl (fw_pu rfl ?_))))
        refine fw_ex 16 (.int .i64 (((i + 1) : Nat) : Int)) rfl rfl rfl (fun a h => (run_binOp (h.ev rfl) (h.ev rfl) (by simp [go_sem]) (addIw _ _ _ _ (by omega) (by omega) (by omega)))) ?_
        refine fw_pu rfl (fw_dn ?_)
        have hne : li ≠ [] := dec_len hb_4
        have hi8 := of_decide_eq_true hb_5
        have hinv2 : L62 ++ lsW (9 - (i + 1)) l47 = lsW 9 l := by rw [hL62, ← hinv, show 9 - i = (9 - (i + 1)) + 1 by omega, lsW_ne _ hne, List.append_assoc, hl47, hl42]; rfl
        exact fw_th (fw_gf (hK3 _ _ _ (by omega) ⟨(i + 1), l47, a47, c47, L62, a62, c62, rfl, (by omega), (by rw [hL62, List.length_append]; exact Nat.add_le_add_right hLi 1), hinv2, hs47, rfl, b69, r70, r68, f71⟩) ⟨rfl, rfl, (by first | rfl | (simp only [Look, cond, Nat.beq]; first | rfl | (congr 2; first | rfl | omega | (push_cast; omega)) | (simp; try omega))), trivial⟩)
      refine fw_oc rfl Tryd.func68 rfl rfl rfl ((rdNum (h0.trans b44) 1 (by decide) hg rr42 hs42)) ?_
      rintro _ V73 ⟨l72, a72, c72, rfl, hl72, sn72, rr72, hs72⟩
      refine ⟨(.int .i64 (ofv (l42.take 1))), rfl, ?_⟩
      have b74 := below_chg b44 sn72 (by omega) (Nat.le_trans hBw b44.size)
      have r75 := r45.chg sn72 (by omega)
      have f76 := (olW_chg f46 sn72 (olW_off f46 (by omega)))
      refine ⟨b74, ?_⟩
      refine fw_tx 9 32 (.agg #[.string (rdS li), .int .i64 (ofv (l42.take 1))]) rfl rfl rfl rfl (fun a h W hW => by have b74 := hW; exact (run_buildOp (bp2 (h.ev rfl) (h.ev rfl)) (by first | kernel_rfl | rfl))) (by kernel_rfl) (fun _ _ _ _ _ h => h) ?_
      refine fw_o2 4 10 (by kernel_rfl) ?_ ?_
      · skip
        refine fw_ol rfl r75 rfl rfl ?_
        refine fw_o1 10 (by kernel_rfl) ?_
        refine fw_oa rfl (t := 93) (u := fun q => .slice (some ⟨q, 0, none⟩) 1 1) 33 [.string (rdS li), .int .i64 (ofv (l42.take 1))] rfl rfl rfl (fun a h => (run_buildWish1 (h.ev rfl))) ?_
        intro q77 W78 g81 s79 r80
        have := Nat.le_trans (Nat.le_trans hBw b74.size) g81
        have := rr72.lt g81
        have := r75.lt g81
        have b82 := b74.trans (s79.mono (Nat.le_trans hBw b74.size))
        have r83 := rr72.below s79
        have r84 := r75.below s79
        have f85 := (below_own f76 s79)
        refine ⟨b82, ?_⟩
        refine fw_o1 11 (by kernel_rfl) ?_
        have hBz87 : B ≤ W78.heap.size := by rw [hB]; exact Nat.le_trans (Nat.le_refl _) (below_sz b82)
        refine fw_ot rfl 34 rfl rfl rfl (fun a h => olW_app (e := (⟨(rdS li), (ofv (l42.take 1))⟩ : EWish)) _ _ rfl (h.ev rfl) f85 (h.ev rfl) r80 (by omega) hBz87) ?_
        rintro _ V86 ⟨L87, a87, c87, rfl, hL87, hg87, ho87⟩
        have r88 := olW_row r83 hg87 (olW_off f85 (by omega))
        have r89 := olW_row r84 hg87 (olW_off f85 (by omega))
        have b90 := olW_low b82 f85 hg87 (by omega) (Nat.le_trans hBw b82.size)
        refine ⟨b90, ?_⟩
        refine fw_tk 12 rfl rfl (by kernel_rfl) (fun _ _ _ _ _ h => h) ?_
        refine fw_tk 13 rfl rfl (by kernel_rfl) (fun _ _ _ _ _ h => h) ?_
        refine fw_o1 14 (by kernel_rfl) ?_
        refine fw_os rfl r89 rfl rfl ?_
        intro W91 s92 r93
        have b94 := below_chg b90 s92 (by omega) (Nat.le_trans hBw b90.size)
        have r95 := r88.chg s92 (by omega)
        have f96 := (olW_chg ho87 s92 (olW_off ho87 (by omega)))
        refine ⟨b94, ?_⟩
        refine fw_hz (by kernel_rfl) ?_
        refine fw_bn (fw_bn (fw_th (fw_rg rfl (fw_pu rfl ?_))))
        refine fw_ex 16 (.int .i64 (((i + 1) : Nat) : Int)) rfl rfl rfl (fun a h => (run_binOp (h.ev rfl) (h.ev rfl) (by simp [go_sem]) (addIw _ _ _ _ (by omega) (by omega) (by omega)))) ?_
        refine fw_pu rfl (fw_dn ?_)
        have hne : li ≠ [] := dec_len hb_4
        have hi8 := of_decide_eq_true hb_5
        have hinv2 : L87 ++ lsW (9 - (i + 1)) l72 = lsW 9 l := by rw [hL87, ← hinv, show 9 - i = (9 - (i + 1)) + 1 by omega, lsW_ne _ hne, List.append_assoc, hl72, hl42]; rfl
        exact fw_th (fw_gf (hK3 _ _ _ (by omega) ⟨(i + 1), l72, a72, c72, L87, a87, c87, rfl, (by omega), (by rw [hL87, List.length_append]; exact Nat.add_le_add_right hLi 1), hinv2, hs72, rfl, b94, r95, r93, f96⟩) ⟨rfl, rfl, (by first | rfl | (simp only [Look, cond, Nat.beq]; first | rfl | (congr 2; first | rfl | omega | (push_cast; omega)) | (simp; try omega))), trivial⟩)
      refine fw_oa rfl (t := 93) (u := fun q => .slice (some ⟨q, 0, none⟩) 1 1) 33 [.string (rdS li), .int .i64 (ofv (l42.take 1))] rfl rfl rfl (fun a h => (run_buildWish1 (h.ev rfl))) ?_
      intro q97 W98 g101 s99 r100
      have := Nat.le_trans (Nat.le_trans hBw b74.size) g101
      have := rr72.lt g101
      have := r75.lt g101
      have b102 := b74.trans (s99.mono (Nat.le_trans hBw b74.size))
      have r103 := rr72.below s99
      have r104 := r75.below s99
      have f105 := (below_own f76 s99)
      refine ⟨b102, ?_⟩
      refine fw_o1 4 (by kernel_rfl) ?_
      refine fw_ol rfl r104 rfl rfl ?_
      refine fw_o1 11 (by kernel_rfl) ?_
      have hBz107 : B ≤ W98.heap.size := by rw [hB]; exact Nat.le_trans (Nat.le_refl _) (below_sz b102)
      refine fw_ot rfl 34 rfl rfl rfl (fun a h => olW_app (e := (⟨(rdS li), (ofv (l42.take 1))⟩ : EWish)) _ _ rfl (h.ev rfl) f105 (h.ev rfl) r100 (by omega) hBz107) ?_
      rintro _ V106 ⟨L107, a107, c107, rfl, hL107, hg107, ho107⟩
      have r108 := olW_row r103 hg107 (olW_off f105 (by omega))
      have r109 := olW_row r104 hg107 (olW_off f105 (by omega))
      have b110 := olW_low b102 f105 hg107 (by omega) (Nat.le_trans hBw b102.size)
      refine ⟨b110, ?_⟩
      refine fw_tk 12 rfl rfl (by kernel_rfl) (fun _ _ _ _ _ h => h) ?_
      refine fw_tk 13 rfl rfl (by kernel_rfl) (fun _ _ _ _ _ h => h) ?_
      refine fw_o1 14 (by kernel_rfl) ?_
      refine fw_os rfl r109 rfl rfl ?_
      intro W111 s112 r113
      have b114 := below_chg b110 s112 (by omega) (Nat.le_trans hBw b110.size)
      have r115 := r108.chg s112 (by omega)
      have f116 := (olW_chg ho107 s112 (olW_off ho107 (by omega)))
      refine ⟨b114, ?_⟩
      refine fw_hz (by kernel_rfl) ?_
      refine fw_bn (fw_bn (fw_th (fw_rg rfl (fw_pu rfl ?_))))
      refine fw_ex 16 (.int .i64 (((i + 1) : Nat) : Int)) rfl rfl rfl (fun a h => (run_binOp (h.ev rfl) (h.ev rfl) (by simp [go_sem]) (addIw _ _ _ _ (by omega) (by omega) (by omega)))) ?_
      refine fw_pu rfl (fw_dn ?_)
      have hne : li ≠ [] := dec_len hb_4
      have hi8 := of_decide_eq_true hb_5
      have hinv2 : L107 ++ lsW (9 - (i + 1)) l72 = lsW 9 l := by rw [hL107, ← hinv, show 9 - i = (9 - (i + 1)) + 1 by omega, lsW_ne _ hne, List.append_assoc, hl72, hl42]; rfl
      exact fw_th (fw_gf (hK3 _ _ _ (by omega) ⟨(i + 1), l72, a72, c72, L107, a107, c107, rfl, (by omega), (by rw [hL107, List.length_append]; exact Nat.add_le_add_right hLi 1), hinv2, hs72, rfl, b114, r115, r113, f116⟩) ⟨rfl, rfl, (by first | rfl | (simp only [Look, cond, Nat.beq]; first | rfl | (congr 2; first | rfl | omega | (push_cast; omega)) | (simp; try omega))), trivial⟩)
    refine fw_cF rfl hb_5 (fw_xt (fw_te (fw_te (fw_be ?_))))
    refine ⟨fun a h => ?_⟩
    obtain rfl : i = 9 := by have h9 := of_decide_eq_false hb_5; omega
    have hfin : L = lsW 9 l := by rw [← hinv]; exact (List.append_nil _).symm
    exact bodyPost_end (v := .tuple #[]) (by simp [results, Tryd.results70]) h.df ⟨L, aL, cL, rfl, hfin, own_mono gW1_0 hWB, rW1_1, bW1⟩
  refine fw_kn 11 rfl hb_4 ?_
  iterate 3 refine fw_pu rfl ?_
  refine fw_dt (fw_cF rfl rfl (fw_xt (fw_te (fw_te (fw_be ?_)))))
  refine ⟨fun a h => ?_⟩
  have hfin : L = lsW 9 l := by rw [← hinv, dec_len0 hb_4, lsW_nil, List.append_nil]
  exact bodyPost_end (v := .tuple #[]) (by simp [results, Tryd.results70]) h.df ⟨L, aL, cL, rfl, hfin, own_mono gW1_0 hWB, rW1_1, bW1⟩
set_option maxRecDepth 100000 in
set_option maxHeartbeats 4000000 in
theorem rdLstC {W0 w : World} {g c : Nat} {a : Option Addr} {l : List UInt8} {q : Nat} {id : Int} (h0 : Below W0.heap.size W0 w) (hq : W0.heap.size ≤ q) (hg : W0.heap.size ≤ g) (hqg : q ≠ g) (rr : RR w g a l.length c) (hs : SlN W0 (.slice a l.length c) l) (rq : RowAt w q [.int .i64 9, .string { data := #[] }, .bool false, .int .i64 0, .bool false, .string { data := #[] }, .string { data := #[] }, .int .i64 0, .bool false, .string { data := #[] }, .bool false, .string { data := #[] }, .bool false, .bool false, .int .i64 0, .slice none 0 0, .bool false, .int .i64 0, .bool false, .string { data := #[] }, .int .i64 id, .string { data := #[] }, .slice none 0 0, .slice none 0 0]) :
    Calls Tryd.prog 70 #[.pointer (some ⟨g, 0, none⟩), .pointer (some ⟨q, 0, none⟩)] w fun e w' => ∃ L aL cL, e = .returned (.tuple #[]) ∧ L = lsC 9 l ∧ OLC w' W0.heap.size aL cL L ∧ RowAt w' q [.int .i64 9, .string { data := #[] }, .bool false, .int .i64 0, .bool false, .string { data := #[] }, .string { data := #[] }, .int .i64 0, .bool false, .string { data := #[] }, .bool false, .string { data := #[] }, .bool false, .bool false, .int .i64 0, .slice aL L.length cL, .bool false, .int .i64 0, .bool false, .string { data := #[] }, .int .i64 id, .string { data := #[] }, .slice none 0 0, .slice none 0 0] ∧ Below W0.heap.size w w' := by
  have hb0 := Below.refl W0.heap.size w
  have hBw := h0.size
  obtain ⟨B, hB⟩ : ∃ x, x = w.heap.size := ⟨_, rfl⟩
  have hqB : q < B := by rw [hB]; exact rq.2.2
  have hgB : g < B := by rw [hB]; exact rr.2.2
  have hWB : W0.heap.size ≤ B := by rw [hB]; exact hBw
  have ho := olC_nil w B
  refine fw_en 63 [(0, .pointer (some ⟨g, 0, none⟩)), (1, .pointer (some ⟨q, 0, none⟩))] Tryd.func70 rfl Tryd.ntmps70 rfl ⟨rfl, rfl, trivial⟩ ?_
  refine fw_sq (fw_rg rfl (fw_pu rfl (fw_dt (fw_bk ?_))))
  refine fw_lp (fun N K W => ∃ (i : Nat) (li : List UInt8) (ai : Option Addr) (ci : Nat) (L : List Int) (aL : Option Addr) (cL : Nat), N = 10 - i ∧ i ≤ 9 ∧ L.length ≤ i ∧ L ++ lsC (9 - i) li = lsC 9 l ∧ SlN W0 (.slice ai li.length ci) li ∧ K = [(0, .pointer (some ⟨g, 0, none⟩)), (1, .pointer (some ⟨q, 0, none⟩)), (4, .int .i64 ((i : Nat) : Int))] ∧ Below W0.heap.size w W ∧ RowAt W g [.slice ai li.length ci] ∧ RowAt W q [.int .i64 9, .string { data := #[] }, .bool false, .int .i64 0, .bool false, .string { data := #[] }, .string { data := #[] }, .int .i64 0, .bool false, .string { data := #[] }, .bool false, .string { data := #[] }, .bool false, .bool false, .int .i64 0, .slice aL L.length cL, .bool false, .int .i64 0, .bool false, .string { data := #[] }, .int .i64 id, .string { data := #[] }, .slice none 0 0, .slice none 0 0] ∧ OLC W B aL cL L) _ _ ⟨0, l, a, c, [], none, 0, rfl, (by omega), Nat.le_refl _, rfl, hs, rfl, hb0, rr, rq, ho⟩ ⟨rfl, rfl, (by first | rfl | (simp only [Look, cond, Nat.beq]; first | rfl | (congr 2; first | rfl | omega | (push_cast; omega)) | (simp; try omega))), trivial⟩ ?_
  rintro N _ W1 ⟨i, li, ai, ci, L, aL, cL, rfl, hi9, hLi, hinv, hsi, rfl, bW1, rW1_0, rW1_1, gW1_0⟩
  intro K3 hK3
  refine fw_sq (fw_sq (fw_rg rfl ?_))
  iterate 3 refine fw_pu rfl ?_
  refine fw_ld rW1_0 rfl rfl ?_
  iterate 3 refine fw_pu rfl ?_
  rcases Bool.eq_false_or_eq_true ((decide (0 < ((li.length : Nat) : Int)))) with hb_4 | hb_4
  · skip
    refine fw_kn 11 rfl hb_4 ?_
    iterate 3 refine fw_pu rfl ?_
    refine fw_dt ?_
    rcases Bool.eq_false_or_eq_true ((decide (((i : Nat) : Int) ≤ 8))) with hb_5 | hb_5
    · skip
      refine fw_cT rfl hb_5 (fw_sk (fw_th (fw_sq (fw_bk (fw_sq (fw_rg rfl ?_))))))
      iterate 3 refine fw_pu rfl ?_
      refine fw_ld rW1_1 rfl rfl (fw_dt (fw_bk (fw_sq (fw_rg rfl ?_))))
      iterate 2 refine fw_pu rfl ?_
      refine fw_dt (fw_cF rfl rfl (fw_sq (fw_rg rfl ?_)))
      iterate 2 refine fw_pu rfl ?_
      refine fw_dt (fw_cT rfl rfl ?_)
      refine fw_hr (fun X => Below W0.heap.size w X) (by kernel_rfl) 12 rfl ?_
      intro W6 s7
      have b8 := bW1.trans (s7.mono (Nat.le_trans hBw bW1.size))
      have r9 := rW1_0.below s7
      have r10 := rW1_1.below s7
      have f11 := (below_own gW1_0 s7)
      refine ⟨b8, ?_⟩
      refine fw_tk 0 rfl rfl (by kernel_rfl) (fun _ _ _ _ _ h => h) ?_
      refine fw_tk 1 rfl rfl (by kernel_rfl) (fun _ _ _ _ _ h => h) ?_
      refine fw_tk 2 rfl rfl (by kernel_rfl) (fun _ _ _ _ _ h => h) ?_
      refine fw_tk 3 rfl rfl (by kernel_rfl) (fun _ _ _ _ _ h => h) ?_
      refine fw_tk 5 rfl rfl (by kernel_rfl) (fun _ _ _ _ _ h => h) ?_
      refine fw_o2 4 6 (by kernel_rfl) ?_ ?_
      · skip
        refine fw_ol rfl r10 rfl rfl ?_
        refine fw_o1 6 (by kernel_rfl) ?_
        refine fw_oc rfl Tryd.func68 rfl rfl rfl ((rdNum (h0.trans b8) 1 (by decide) hg r9 hsi)) ?_
        rintro _ V13 ⟨l12, a12, c12, rfl, hl12, sn12, rr12, hs12⟩
        refine ⟨(.int .i64 (ofv (li.take 1))), rfl, ?_⟩
        have b14 := below_chg b8 sn12 (by omega) (Nat.le_trans hBw b8.size)
        have r15 := r10.chg sn12 (by omega)
        have f16 := (olC_chg f11 sn12 (olC_off f11 (by omega)))
        refine ⟨b14, ?_⟩
        refine fw_o1 7 (by kernel_rfl) ?_
        refine fw_oa rfl (t := 3) (u := fun q => .slice (some ⟨q, 0, none⟩) 1 1) 46 [.int .i64 (ofv (li.take 1))] rfl rfl rfl (fun a h => (run_buildInt1 (h.ev rfl))) ?_
        intro q17 W18 g21 s19 r20
        have := Nat.le_trans (Nat.le_trans hBw b14.size) g21
        have := rr12.lt g21
        have := r15.lt g21
        have b22 := b14.trans (s19.mono (Nat.le_trans hBw b14.size))
        have r23 := rr12.below s19
        have r24 := r15.below s19
        have f25 := (below_own f16 s19)
        refine ⟨b22, ?_⟩
        refine fw_o1 8 (by kernel_rfl) ?_
        have hBz27 : B ≤ W18.heap.size := by rw [hB]; exact Nat.le_trans (Nat.le_refl _) (below_sz b22)
        refine fw_ot rfl 47 rfl rfl rfl (fun a h => olC_app (e := (ofv (li.take 1))) _ _ rfl (h.ev rfl) f25 (h.ev rfl) r20 (by omega) hBz27) ?_
        rintro _ V26 ⟨L27, a27, c27, rfl, hL27, hg27, ho27⟩
        have r28 := olC_row r23 hg27 (olC_off f25 (by omega))
        have r29 := olC_row r24 hg27 (olC_off f25 (by omega))
        have b30 := olC_low b22 f25 hg27 (by omega) (Nat.le_trans hBw b22.size)
        refine ⟨b30, ?_⟩
        refine fw_tk 9 rfl rfl (by kernel_rfl) (fun _ _ _ _ _ h => h) ?_
        refine fw_tk 10 rfl rfl (by kernel_rfl) (fun _ _ _ _ _ h => h) ?_
        refine fw_o1 11 (by kernel_rfl) ?_
        refine fw_os rfl r29 rfl rfl ?_
        intro W31 s32 r33
        have b34 := below_chg b30 s32 (by omega) (Nat.le_trans hBw b30.size)
        have r35 := r28.chg s32 (by omega)
        have f36 := (olC_chg ho27 s32 (olC_off ho27 (by omega)))
        refine ⟨b34, ?_⟩
        refine fw_hz (by kernel_rfl) ?_
        refine fw_bn (fw_bn (fw_th (fw_rg rfl (fw_pu rfl ?_))))
        refine fw_ex 16 (.int .i64 (((i + 1) : Nat) : Int)) rfl rfl rfl (fun a h => (run_binOp (h.ev rfl) (h.ev rfl) (by simp [go_sem]) (addIw _ _ _ _ (by omega) (by omega) (by omega)))) ?_
        refine fw_pu rfl (fw_dn ?_)
        have hne : li ≠ [] := dec_len hb_4
        have hi8 := of_decide_eq_true hb_5
        have hinv2 : L27 ++ lsC (9 - (i + 1)) l12 = lsC 9 l := by rw [hL27, ← hinv, show 9 - i = (9 - (i + 1)) + 1 by omega, lsC_ne _ hne, List.append_assoc, hl12]; rfl
        exact fw_th (fw_gf (hK3 _ _ _ (by omega) ⟨(i + 1), l12, a12, c12, L27, a27, c27, rfl, (by omega), (by rw [hL27, List.length_append]; exact Nat.add_le_add_right hLi 1), hinv2, hs12, rfl, b34, r35, r33, f36⟩) ⟨rfl, rfl, (by first | rfl | (simp only [Look, cond, Nat.beq]; first | rfl | (congr 2; first | rfl | omega | (push_cast; omega)) | (simp; try omega))), trivial⟩)
      refine fw_oc rfl Tryd.func68 rfl rfl rfl ((rdNum (h0.trans b8) 1 (by decide) hg r9 hsi)) ?_
      rintro _ V38 ⟨l37, a37, c37, rfl, hl37, sn37, rr37, hs37⟩
      refine ⟨(.int .i64 (ofv (li.take 1))), rfl, ?_⟩
      have b39 := below_chg b8 sn37 (by omega) (Nat.le_trans hBw b8.size)
      have r40 := r10.chg sn37 (by omega)
      have f41 := (olC_chg f11 sn37 (olC_off f11 (by omega)))
      refine ⟨b39, ?_⟩
      refine fw_o2 4 7 (by kernel_rfl) ?_ ?_
      · skip
        refine fw_ol rfl r40 rfl rfl ?_
        refine fw_o1 7 (by kernel_rfl) ?_
        refine fw_oa rfl (t := 3) (u := fun q => .slice (some ⟨q, 0, none⟩) 1 1) 46 [.int .i64 (ofv (li.take 1))] rfl rfl rfl (fun a h => (run_buildInt1 (h.ev rfl))) ?_
        intro q42 W43 g46 s44 r45
        have := Nat.le_trans (Nat.le_trans hBw b39.size) g46
        have := rr37.lt g46
        have := r40.lt g46
        have b47 := b39.trans (s44.mono (Nat.le_trans hBw b39.size))
        have r48 := rr37.below s44
        have r49 := r40.below s44
        have f50 := (below_own f41 s44)
        refine ⟨b47, ?_⟩
        refine fw_o1 8 (by kernel_rfl) ?_
        have hBz52 : B ≤ W43.heap.size := by rw [hB]; exact Nat.le_trans (Nat.le_refl _) (below_sz b47)
        refine fw_ot rfl 47 rfl rfl rfl (fun a h => olC_app (e := (ofv (li.take 1))) _ _ rfl (h.ev rfl) f50 (h.ev rfl) r45 (by omega) hBz52) ?_
        rintro _ V51 ⟨L52, a52, c52, rfl, hL52, hg52, ho52⟩
        have r53 := olC_row r48 hg52 (olC_off f50 (by omega))
        have r54 := olC_row r49 hg52 (olC_off f50 (by omega))
        have b55 := olC_low b47 f50 hg52 (by omega) (Nat.le_trans hBw b47.size)
        refine ⟨b55, ?_⟩
        refine fw_tk 9 rfl rfl (by kernel_rfl) (fun _ _ _ _ _ h => h) ?_
        refine fw_tk 10 rfl rfl (by kernel_rfl) (fun _ _ _ _ _ h => h) ?_
        refine fw_o1 11 (by kernel_rfl) ?_
        refine fw_os rfl r54 rfl rfl ?_
        intro W56 s57 r58
        have b59 := below_chg b55 s57 (by omega) (Nat.le_trans hBw b55.size)
        have r60 := r53.chg s57 (by omega)
        have f61 := (olC_chg ho52 s57 (olC_off ho52 (by omega)))
        refine ⟨b59, ?_⟩
        refine fw_hz (by kernel_rfl) ?_
        refine fw_bn (fw_bn (fw_th (fw_rg rfl (fw_pu rfl ?_))))
        refine fw_ex 16 (.int .i64 (((i + 1) : Nat) : Int)) rfl rfl rfl (fun a h => (run_binOp (h.ev rfl) (h.ev rfl) (by simp [go_sem]) (addIw _ _ _ _ (by omega) (by omega) (by omega)))) ?_
        refine fw_pu rfl (fw_dn ?_)
        have hne : li ≠ [] := dec_len hb_4
        have hi8 := of_decide_eq_true hb_5
        have hinv2 : L52 ++ lsC (9 - (i + 1)) l37 = lsC 9 l := by rw [hL52, ← hinv, show 9 - i = (9 - (i + 1)) + 1 by omega, lsC_ne _ hne, List.append_assoc, hl37]; rfl
        exact fw_th (fw_gf (hK3 _ _ _ (by omega) ⟨(i + 1), l37, a37, c37, L52, a52, c52, rfl, (by omega), (by rw [hL52, List.length_append]; exact Nat.add_le_add_right hLi 1), hinv2, hs37, rfl, b59, r60, r58, f61⟩) ⟨rfl, rfl, (by first | rfl | (simp only [Look, cond, Nat.beq]; first | rfl | (congr 2; first | rfl | omega | (push_cast; omega)) | (simp; try omega))), trivial⟩)
      refine fw_oa rfl (t := 3) (u := fun q => .slice (some ⟨q, 0, none⟩) 1 1) 46 [.int .i64 (ofv (li.take 1))] rfl rfl rfl (fun a h => (run_buildInt1 (h.ev rfl))) ?_
      intro q62 W63 g66 s64 r65
      have := Nat.le_trans (Nat.le_trans hBw b39.size) g66
      have := rr37.lt g66
      have := r40.lt g66
      have b67 := b39.trans (s64.mono (Nat.le_trans hBw b39.size))
      have r68 := rr37.below s64
      have r69 := r40.below s64
      have f70 := (below_own f41 s64)
      refine ⟨b67, ?_⟩
      refine fw_o1 4 (by kernel_rfl) ?_
      refine fw_ol rfl r69 rfl rfl ?_
      refine fw_o1 8 (by kernel_rfl) ?_
      have hBz72 : B ≤ W63.heap.size := by rw [hB]; exact Nat.le_trans (Nat.le_refl _) (below_sz b67)
      refine fw_ot rfl 47 rfl rfl rfl (fun a h => olC_app (e := (ofv (li.take 1))) _ _ rfl (h.ev rfl) f70 (h.ev rfl) r65 (by omega) hBz72) ?_
      rintro _ V71 ⟨L72, a72, c72, rfl, hL72, hg72, ho72⟩
      have r73 := olC_row r68 hg72 (olC_off f70 (by omega))
      have r74 := olC_row r69 hg72 (olC_off f70 (by omega))
      have b75 := olC_low b67 f70 hg72 (by omega) (Nat.le_trans hBw b67.size)
      refine ⟨b75, ?_⟩
      refine fw_tk 9 rfl rfl (by kernel_rfl) (fun _ _ _ _ _ h => h) ?_
      refine fw_tk 10 rfl rfl (by kernel_rfl) (fun _ _ _ _ _ h => h) ?_
      refine fw_o1 11 (by kernel_rfl) ?_
      refine fw_os rfl r74 rfl rfl ?_
      intro W76 s77 r78
      have b79 := below_chg b75 s77 (by omega) (Nat.le_trans hBw b75.size)
      have r80 := r73.chg s77 (by omega)
      have f81 := (olC_chg ho72 s77 (olC_off ho72 (by omega)))
      refine ⟨b79, ?_⟩
      refine fw_hz (by kernel_rfl) ?_
      refine fw_bn (fw_bn (fw_th (fw_rg rfl (fw_pu rfl ?_))))
      refine fw_ex 16 (.int .i64 (((i + 1) : Nat) : Int)) rfl rfl rfl (fun a h => (run_binOp (h.ev rfl) (h.ev rfl) (by simp [go_sem]) (addIw _ _ _ _ (by omega) (by omega) (by omega)))) ?_
      refine fw_pu rfl (fw_dn ?_)
      have hne : li ≠ [] := dec_len hb_4
      have hi8 := of_decide_eq_true hb_5
      have hinv2 : L72 ++ lsC (9 - (i + 1)) l37 = lsC 9 l := by rw [hL72, ← hinv, show 9 - i = (9 - (i + 1)) + 1 by omega, lsC_ne _ hne, List.append_assoc, hl37]; rfl
      exact fw_th (fw_gf (hK3 _ _ _ (by omega) ⟨(i + 1), l37, a37, c37, L72, a72, c72, rfl, (by omega), (by rw [hL72, List.length_append]; exact Nat.add_le_add_right hLi 1), hinv2, hs37, rfl, b79, r80, r78, f81⟩) ⟨rfl, rfl, (by first | rfl | (simp only [Look, cond, Nat.beq]; first | rfl | (congr 2; first | rfl | omega | (push_cast; omega)) | (simp; try omega))), trivial⟩)
    refine fw_cF rfl hb_5 (fw_xt (fw_te (fw_te (fw_be ?_))))
    refine ⟨fun a h => ?_⟩
    obtain rfl : i = 9 := by have h9 := of_decide_eq_false hb_5; omega
    have hfin : L = lsC 9 l := by rw [← hinv]; exact (List.append_nil _).symm
    exact bodyPost_end (v := .tuple #[]) (by simp [results, Tryd.results70]) h.df ⟨L, aL, cL, rfl, hfin, own_mono gW1_0 hWB, rW1_1, bW1⟩
  refine fw_kn 11 rfl hb_4 ?_
  iterate 3 refine fw_pu rfl ?_
  refine fw_dt (fw_cF rfl rfl (fw_xt (fw_te (fw_te (fw_be ?_)))))
  refine ⟨fun a h => ?_⟩
  have hfin : L = lsC 9 l := by rw [← hinv, dec_len0 hb_4, lsC_nil, List.append_nil]
  exact bodyPost_end (v := .tuple #[]) (by simp [results, Tryd.results70]) h.df ⟨L, aL, cL, rfl, hfin, own_mono gW1_0 hWB, rW1_1, bW1⟩
set_option maxRecDepth 100000 in
set_option maxHeartbeats 4000000 in
theorem rdLstF {W0 w : World} {g c : Nat} {a : Option Addr} {l : List UInt8} {q : Nat} {id : Int} (h0 : Below W0.heap.size W0 w) (hq : W0.heap.size ≤ q) (hg : W0.heap.size ≤ g) (hqg : q ≠ g) (rr : RR w g a l.length c) (hs : SlN W0 (.slice a l.length c) l) (rq : RowAt w q [.int .i64 10, .string { data := #[] }, .bool false, .int .i64 0, .bool false, .string { data := #[] }, .string { data := #[] }, .int .i64 0, .bool false, .string { data := #[] }, .bool false, .string { data := #[] }, .bool false, .bool false, .int .i64 0, .slice none 0 0, .bool false, .int .i64 0, .bool false, .string { data := #[] }, .int .i64 id, .string { data := #[] }, .slice none 0 0, .slice none 0 0]) :
    Calls Tryd.prog 70 #[.pointer (some ⟨g, 0, none⟩), .pointer (some ⟨q, 0, none⟩)] w fun e w' => ∃ L aL cL, e = .returned (.tuple #[]) ∧ L = lsF 9 l ∧ OLF w' W0.heap.size aL cL L ∧ RowAt w' q [.int .i64 10, .string { data := #[] }, .bool false, .int .i64 0, .bool false, .string { data := #[] }, .string { data := #[] }, .int .i64 0, .bool false, .string { data := #[] }, .bool false, .string { data := #[] }, .bool false, .bool false, .int .i64 0, .slice none 0 0, .bool false, .int .i64 0, .bool false, .string { data := #[] }, .int .i64 id, .string { data := #[] }, .slice none 0 0, .slice aL L.length cL] ∧ Below W0.heap.size w w' := by
  have hb0 := Below.refl W0.heap.size w
  have hBw := h0.size
  obtain ⟨B, hB⟩ : ∃ x, x = w.heap.size := ⟨_, rfl⟩
  have hqB : q < B := by rw [hB]; exact rq.2.2
  have hgB : g < B := by rw [hB]; exact rr.2.2
  have hWB : W0.heap.size ≤ B := by rw [hB]; exact hBw
  have ho := olF_nil w B
  refine fw_en 63 [(0, .pointer (some ⟨g, 0, none⟩)), (1, .pointer (some ⟨q, 0, none⟩))] Tryd.func70 rfl Tryd.ntmps70 rfl ⟨rfl, rfl, trivial⟩ ?_
  refine fw_sq (fw_rg rfl (fw_pu rfl (fw_dt (fw_bk ?_))))
  refine fw_lp (fun N K W => ∃ (i : Nat) (li : List UInt8) (ai : Option Addr) (ci : Nat) (L : List ByteArray) (aL : Option Addr) (cL : Nat), N = 10 - i ∧ i ≤ 9 ∧ L.length ≤ i ∧ L ++ lsF (9 - i) li = lsF 9 l ∧ SlN W0 (.slice ai li.length ci) li ∧ K = [(0, .pointer (some ⟨g, 0, none⟩)), (1, .pointer (some ⟨q, 0, none⟩)), (4, .int .i64 ((i : Nat) : Int))] ∧ Below W0.heap.size w W ∧ RowAt W g [.slice ai li.length ci] ∧ RowAt W q [.int .i64 10, .string { data := #[] }, .bool false, .int .i64 0, .bool false, .string { data := #[] }, .string { data := #[] }, .int .i64 0, .bool false, .string { data := #[] }, .bool false, .string { data := #[] }, .bool false, .bool false, .int .i64 0, .slice none 0 0, .bool false, .int .i64 0, .bool false, .string { data := #[] }, .int .i64 id, .string { data := #[] }, .slice none 0 0, .slice aL L.length cL] ∧ OLF W B aL cL L) _ _ ⟨0, l, a, c, [], none, 0, rfl, (by omega), Nat.le_refl _, rfl, hs, rfl, hb0, rr, rq, ho⟩ ⟨rfl, rfl, (by first | rfl | (simp only [Look, cond, Nat.beq]; first | rfl | (congr 2; first | rfl | omega | (push_cast; omega)) | (simp; try omega))), trivial⟩ ?_
  rintro N _ W1 ⟨i, li, ai, ci, L, aL, cL, rfl, hi9, hLi, hinv, hsi, rfl, bW1, rW1_0, rW1_1, gW1_0⟩
  intro K3 hK3
  refine fw_sq (fw_sq (fw_rg rfl ?_))
  iterate 3 refine fw_pu rfl ?_
  refine fw_ld rW1_0 rfl rfl ?_
  iterate 3 refine fw_pu rfl ?_
  rcases Bool.eq_false_or_eq_true ((decide (0 < ((li.length : Nat) : Int)))) with hb_4 | hb_4
  · skip
    refine fw_kn 11 rfl hb_4 ?_
    iterate 3 refine fw_pu rfl ?_
    refine fw_dt ?_
    rcases Bool.eq_false_or_eq_true ((decide (((i : Nat) : Int) ≤ 8))) with hb_5 | hb_5
    · skip
      refine fw_cT rfl hb_5 (fw_sk (fw_th (fw_sq (fw_bk (fw_sq (fw_rg rfl ?_))))))
      iterate 3 refine fw_pu rfl ?_
      refine fw_ld rW1_1 rfl rfl (fw_dt (fw_bk (fw_sq (fw_rg rfl ?_))))
      iterate 2 refine fw_pu rfl ?_
      refine fw_dt (fw_cF rfl rfl (fw_sq (fw_rg rfl ?_)))
      iterate 2 refine fw_pu rfl ?_
      refine fw_dt (fw_cF rfl rfl (fw_sq (fw_rg rfl ?_)))
      iterate 2 refine fw_pu rfl ?_
      refine fw_dt (fw_cT rfl rfl ?_)
      refine fw_hr (fun X => Below W0.heap.size w X) (by kernel_rfl) 12 rfl ?_
      intro W6 s7
      have b8 := bW1.trans (s7.mono (Nat.le_trans hBw bW1.size))
      have r9 := rW1_0.below s7
      have r10 := rW1_1.below s7
      have f11 := (below_own gW1_0 s7)
      refine ⟨b8, ?_⟩
      refine fw_tk 0 rfl rfl (by kernel_rfl) (fun _ _ _ _ _ h => h) ?_
      refine fw_tk 1 rfl rfl (by kernel_rfl) (fun _ _ _ _ _ h => h) ?_
      refine fw_tk 2 rfl rfl (by kernel_rfl) (fun _ _ _ _ _ h => h) ?_
      refine fw_tk 3 rfl rfl (by kernel_rfl) (fun _ _ _ _ _ h => h) ?_
      refine fw_tk 5 rfl rfl (by kernel_rfl) (fun _ _ _ _ _ h => h) ?_
      refine fw_o2 4 6 (by kernel_rfl) ?_ ?_
      · skip
        refine fw_ol rfl r10 rfl rfl ?_
        refine fw_o1 6 (by kernel_rfl) ?_
        refine fw_oc rfl Tryd.func90 rfl rfl rfl ((rdTxt (h0.trans b8) hg r9 hsi)) ?_
        rintro _ V13 ⟨l12, a12, c12, rfl, hl12, sn12, rr12, hs12⟩
        refine ⟨_, rfl, ?_⟩
        have b14 := below_chg b8 sn12 (by omega) (Nat.le_trans hBw b8.size)
        have r15 := r10.chg sn12 (by omega)
        have f16 := (olF_chg f11 sn12 (olF_off f11 (by omega)))
        refine ⟨b14, ?_⟩
        refine fw_o1 7 (by kernel_rfl) ?_
        refine fw_oa rfl (t := 9) (u := fun q => .slice (some ⟨q, 0, none⟩) 1 1) 59 [.string (rdS li)] rfl rfl rfl (fun a h => (run_buildStr1 (h.ev rfl))) ?_
        intro q17 W18 g21 s19 r20
        have := Nat.le_trans (Nat.le_trans hBw b14.size) g21
        have := rr12.lt g21
        have := r15.lt g21
        have b22 := b14.trans (s19.mono (Nat.le_trans hBw b14.size))
        have r23 := rr12.below s19
        have r24 := r15.below s19
        have f25 := (below_own f16 s19)
        refine ⟨b22, ?_⟩
        refine fw_o1 8 (by kernel_rfl) ?_
        have hBz27 : B ≤ W18.heap.size := by rw [hB]; exact Nat.le_trans (Nat.le_refl _) (below_sz b22)
        refine fw_ot rfl 60 rfl rfl rfl (fun a h => olF_app (e := (rdS li)) _ _ rfl (h.ev rfl) f25 (h.ev rfl) r20 (by omega) hBz27) ?_
        rintro _ V26 ⟨L27, a27, c27, rfl, hL27, hg27, ho27⟩
        have r28 := olF_row r23 hg27 (olF_off f25 (by omega))
        have r29 := olF_row r24 hg27 (olF_off f25 (by omega))
        have b30 := olF_low b22 f25 hg27 (by omega) (Nat.le_trans hBw b22.size)
        refine ⟨b30, ?_⟩
        refine fw_tk 9 rfl rfl (by kernel_rfl) (fun _ _ _ _ _ h => h) ?_
        refine fw_tk 10 rfl rfl (by kernel_rfl) (fun _ _ _ _ _ h => h) ?_
        refine fw_o1 11 (by kernel_rfl) ?_
        refine fw_os rfl r29 rfl rfl ?_
        intro W31 s32 r33
        have b34 := below_chg b30 s32 (by omega) (Nat.le_trans hBw b30.size)
        have r35 := r28.chg s32 (by omega)
        have f36 := (olF_chg ho27 s32 (olF_off ho27 (by omega)))
        refine ⟨b34, ?_⟩
        refine fw_hz (by kernel_rfl) ?_
        refine fw_bn (fw_bn (fw_th (fw_rg rfl (fw_pu rfl ?_))))
        refine fw_ex 16 (.int .i64 (((i + 1) : Nat) : Int)) rfl rfl rfl (fun a h => (run_binOp (h.ev rfl) (h.ev rfl) (by simp [go_sem]) (addIw _ _ _ _ (by omega) (by omega) (by omega)))) ?_
        refine fw_pu rfl (fw_dn ?_)
        have hne : li ≠ [] := dec_len hb_4
        have hi8 := of_decide_eq_true hb_5
        have hinv2 : L27 ++ lsF (9 - (i + 1)) l12 = lsF 9 l := by rw [hL27, ← hinv, show 9 - i = (9 - (i + 1)) + 1 by omega, lsF_ne _ hne, List.append_assoc, hl12]; rfl
        exact fw_th (fw_gf (hK3 _ _ _ (by omega) ⟨(i + 1), l12, a12, c12, L27, a27, c27, rfl, (by omega), (by rw [hL27, List.length_append]; exact Nat.add_le_add_right hLi 1), hinv2, hs12, rfl, b34, r35, r33, f36⟩) ⟨rfl, rfl, (by first | rfl | (simp only [Look, cond, Nat.beq]; first | rfl | (congr 2; first | rfl | omega | (push_cast; omega)) | (simp; try omega))), trivial⟩)
      refine fw_oc rfl Tryd.func90 rfl rfl rfl ((rdTxt (h0.trans b8) hg r9 hsi)) ?_
      rintro _ V38 ⟨l37, a37, c37, rfl, hl37, sn37, rr37, hs37⟩
      refine ⟨_, rfl, ?_⟩
      have b39 := below_chg b8 sn37 (by omega) (Nat.le_trans hBw b8.size)
      have r40 := r10.chg sn37 (by omega)
      have f41 := (olF_chg f11 sn37 (olF_off f11 (by omega)))
      refine ⟨b39, ?_⟩
      refine fw_o2 4 7 (by kernel_rfl) ?_ ?_
      · skip
        refine fw_ol rfl r40 rfl rfl ?_
        refine fw_o1 7 (by kernel_rfl) ?_
        refine fw_oa rfl (t := 9) (u := fun q => .slice (some ⟨q, 0, none⟩) 1 1) 59 [.string (rdS li)] rfl rfl rfl (fun a h => (run_buildStr1 (h.ev rfl))) ?_
        intro q42 W43 g46 s44 r45
        have := Nat.le_trans (Nat.le_trans hBw b39.size) g46
        have := rr37.lt g46
        have := r40.lt g46
        have b47 := b39.trans (s44.mono (Nat.le_trans hBw b39.size))
        have r48 := rr37.below s44
        have r49 := r40.below s44
        have f50 := (below_own f41 s44)
        refine ⟨b47, ?_⟩
        refine fw_o1 8 (by kernel_rfl) ?_
        have hBz52 : B ≤ W43.heap.size := by rw [hB]; exact Nat.le_trans (Nat.le_refl _) (below_sz b47)
        refine fw_ot rfl 60 rfl rfl rfl (fun a h => olF_app (e := (rdS li)) _ _ rfl (h.ev rfl) f50 (h.ev rfl) r45 (by omega) hBz52) ?_
        rintro _ V51 ⟨L52, a52, c52, rfl, hL52, hg52, ho52⟩
        have r53 := olF_row r48 hg52 (olF_off f50 (by omega))
        have r54 := olF_row r49 hg52 (olF_off f50 (by omega))
        have b55 := olF_low b47 f50 hg52 (by omega) (Nat.le_trans hBw b47.size)
        refine ⟨b55, ?_⟩
        refine fw_tk 9 rfl rfl (by kernel_rfl) (fun _ _ _ _ _ h => h) ?_
        refine fw_tk 10 rfl rfl (by kernel_rfl) (fun _ _ _ _ _ h => h) ?_
        refine fw_o1 11 (by kernel_rfl) ?_
        refine fw_os rfl r54 rfl rfl ?_
        intro W56 s57 r58
        have b59 := below_chg b55 s57 (by omega) (Nat.le_trans hBw b55.size)
        have r60 := r53.chg s57 (by omega)
        have f61 := (olF_chg ho52 s57 (olF_off ho52 (by omega)))
        refine ⟨b59, ?_⟩
        refine fw_hz (by kernel_rfl) ?_
        refine fw_bn (fw_bn (fw_th (fw_rg rfl (fw_pu rfl ?_))))
        refine fw_ex 16 (.int .i64 (((i + 1) : Nat) : Int)) rfl rfl rfl (fun a h => (run_binOp (h.ev rfl) (h.ev rfl) (by simp [go_sem]) (addIw _ _ _ _ (by omega) (by omega) (by omega)))) ?_
        refine fw_pu rfl (fw_dn ?_)
        have hne : li ≠ [] := dec_len hb_4
        have hi8 := of_decide_eq_true hb_5
        have hinv2 : L52 ++ lsF (9 - (i + 1)) l37 = lsF 9 l := by rw [hL52, ← hinv, show 9 - i = (9 - (i + 1)) + 1 by omega, lsF_ne _ hne, List.append_assoc, hl37]; rfl
        exact fw_th (fw_gf (hK3 _ _ _ (by omega) ⟨(i + 1), l37, a37, c37, L52, a52, c52, rfl, (by omega), (by rw [hL52, List.length_append]; exact Nat.add_le_add_right hLi 1), hinv2, hs37, rfl, b59, r60, r58, f61⟩) ⟨rfl, rfl, (by first | rfl | (simp only [Look, cond, Nat.beq]; first | rfl | (congr 2; first | rfl | omega | (push_cast; omega)) | (simp; try omega))), trivial⟩)
      refine fw_oa rfl (t := 9) (u := fun q => .slice (some ⟨q, 0, none⟩) 1 1) 59 [.string (rdS li)] rfl rfl rfl (fun a h => (run_buildStr1 (h.ev rfl))) ?_
      intro q62 W63 g66 s64 r65
      have := Nat.le_trans (Nat.le_trans hBw b39.size) g66
      have := rr37.lt g66
      have := r40.lt g66
      have b67 := b39.trans (s64.mono (Nat.le_trans hBw b39.size))
      have r68 := rr37.below s64
      have r69 := r40.below s64
      have f70 := (below_own f41 s64)
      refine ⟨b67, ?_⟩
      refine fw_o1 4 (by kernel_rfl) ?_
      refine fw_ol rfl r69 rfl rfl ?_
      refine fw_o1 8 (by kernel_rfl) ?_
      have hBz72 : B ≤ W63.heap.size := by rw [hB]; exact Nat.le_trans (Nat.le_refl _) (below_sz b67)
      refine fw_ot rfl 60 rfl rfl rfl (fun a h => olF_app (e := (rdS li)) _ _ rfl (h.ev rfl) f70 (h.ev rfl) r65 (by omega) hBz72) ?_
      rintro _ V71 ⟨L72, a72, c72, rfl, hL72, hg72, ho72⟩
      have r73 := olF_row r68 hg72 (olF_off f70 (by omega))
      have r74 := olF_row r69 hg72 (olF_off f70 (by omega))
      have b75 := olF_low b67 f70 hg72 (by omega) (Nat.le_trans hBw b67.size)
      refine ⟨b75, ?_⟩
      refine fw_tk 9 rfl rfl (by kernel_rfl) (fun _ _ _ _ _ h => h) ?_
      refine fw_tk 10 rfl rfl (by kernel_rfl) (fun _ _ _ _ _ h => h) ?_
      refine fw_o1 11 (by kernel_rfl) ?_
      refine fw_os rfl r74 rfl rfl ?_
      intro W76 s77 r78
      have b79 := below_chg b75 s77 (by omega) (Nat.le_trans hBw b75.size)
      have r80 := r73.chg s77 (by omega)
      have f81 := (olF_chg ho72 s77 (olF_off ho72 (by omega)))
      refine ⟨b79, ?_⟩
      refine fw_hz (by kernel_rfl) ?_
      refine fw_bn (fw_bn (fw_th (fw_rg rfl (fw_pu rfl ?_))))
      refine fw_ex 16 (.int .i64 (((i + 1) : Nat) : Int)) rfl rfl rfl (fun a h => (run_binOp (h.ev rfl) (h.ev rfl) (by simp [go_sem]) (addIw _ _ _ _ (by omega) (by omega) (by omega)))) ?_
      refine fw_pu rfl (fw_dn ?_)
      have hne : li ≠ [] := dec_len hb_4
      have hi8 := of_decide_eq_true hb_5
      have hinv2 : L72 ++ lsF (9 - (i + 1)) l37 = lsF 9 l := by rw [hL72, ← hinv, show 9 - i = (9 - (i + 1)) + 1 by omega, lsF_ne _ hne, List.append_assoc, hl37]; rfl
      exact fw_th (fw_gf (hK3 _ _ _ (by omega) ⟨(i + 1), l37, a37, c37, L72, a72, c72, rfl, (by omega), (by rw [hL72, List.length_append]; exact Nat.add_le_add_right hLi 1), hinv2, hs37, rfl, b79, r80, r78, f81⟩) ⟨rfl, rfl, (by first | rfl | (simp only [Look, cond, Nat.beq]; first | rfl | (congr 2; first | rfl | omega | (push_cast; omega)) | (simp; try omega))), trivial⟩)
    refine fw_cF rfl hb_5 (fw_xt (fw_te (fw_te (fw_be ?_))))
    refine ⟨fun a h => ?_⟩
    obtain rfl : i = 9 := by have h9 := of_decide_eq_false hb_5; omega
    have hfin : L = lsF 9 l := by rw [← hinv]; exact (List.append_nil _).symm
    exact bodyPost_end (v := .tuple #[]) (by simp [results, Tryd.results70]) h.df ⟨L, aL, cL, rfl, hfin, own_mono gW1_0 hWB, rW1_1, bW1⟩
  refine fw_kn 11 rfl hb_4 ?_
  iterate 3 refine fw_pu rfl ?_
  refine fw_dt (fw_cF rfl rfl (fw_xt (fw_te (fw_te (fw_be ?_)))))
  refine ⟨fun a h => ?_⟩
  have hfin : L = lsF 9 l := by rw [← hinv, dec_len0 hb_4, lsF_nil, List.append_nil]
  exact bodyPost_end (v := .tuple #[]) (by simp [results, Tryd.results70]) h.df ⟨L, aL, cL, rfl, hfin, own_mono gW1_0 hWB, rW1_1, bW1⟩
structure OL3 (W : World) (B : Nat) (ac : Option Addr) (cc : Nat) (aw : Option Addr) (cw : Nat) (af : Option Addr) (cf : Nat) (m : Mq) : Prop where
  c : OLC W B ac cc m.cs
  w : OLW W B aw cw m.ws
  f : OLF W B af cf m.fs
section
variable {W W' : World} {B : Nat} {ac aw af : Option Addr} {cc cw cf : Nat} {m : Mq}
theorem OL3.below (h : OL3 W B ac cc aw cw af cf m) (hb : Below W.heap.size W W') : OL3 W' B ac cc aw cw af cf m := ⟨below_own h.c hb, below_own h.w hb, below_own h.f hb⟩
theorem OL3.chg {q : Nat} (h : OL3 W B ac cc aw cw af cf m) (s : W.grownBy W' (some q)) (hq : q < B) : OL3 W' B ac cc aw cw af cf m := ⟨olC_chg h.c s (olC_off h.c hq), olW_chg h.w s (olW_off h.w hq), olF_chg h.f s (olF_off h.f hq)⟩
theorem OL3.mono {B' : Nat} (h : OL3 W B ac cc aw cw af cf m) (hb : B' ≤ B) : OL3 W B' ac cc aw cw af cf m := ⟨own_mono h.c hb, own_mono h.w hb, own_mono h.f hb⟩
theorem OL3.lists (h : OL3 W B ac cc aw cw af cf m) : m.Lists W (.slice ac m.cs.length cc) (.slice aw m.ws.length cw) (.slice af m.fs.length cf) := ⟨olC_sl h.c, olW_sl h.w, olF_sl h.f⟩
theorem OL3.nil (W : World) (B : Nat) (h : m.cs = [] ∧ m.ws = [] ∧ m.fs = []) : OL3 W B none 0 none 0 none 0 m := ⟨by rw [h.1]; exact olC_nil _ _, by rw [h.2.1]; exact olW_nil _ _, by rw [h.2.2]; exact olF_nil _ _⟩
end
theorem cn_nil (l : List UInt8) : (cnD l).cs = [] ∧ (cnD l).ws = [] ∧ (cnD l).fs = [] := by
  unfold cnD cnD1 cnD2 cnD3 cnD4
  repeat' split
  all_goals exact ⟨rfl, rfl, rfl⟩
theorem pb_nil (f : Int) (l : List UInt8) : (pbD f l).cs = [] ∧ (pbD f l).ws = [] ∧ (pbD f l).fs = [] := by
  unfold pbD
  split
  all_goals exact ⟨rfl, rfl, rfl⟩
set_option maxRecDepth 100000 in
set_option maxHeartbeats 4000000 in
theorem decG {w : World} {c : Nat} {a : Option Addr} {l : List UInt8} (f : Int) (hf : 0 ≤ f ∧ f ≤ 255) (hs : SlN w (.slice a l.length c) l) :
    Calls Tryd.prog 38 #[.int .i64 f, .slice a l.length c] w fun e w' => ∃ ac cc aw cw af cf, e = .returned ((dcG f l).val (.slice ac (dcG f l).cs.length cc) (.slice aw (dcG f l).ws.length cw) (.slice af (dcG f l).fs.length cf)) ∧ OL3 w' w.heap.size ac cc aw cw af cf (dcG f l) ∧ Below w.heap.size w w' := by
  have hb0 := Below.refl w.heap.size w
  refine fw_en 52 [(0, .int .i64 f), (1, .slice a l.length c)] Tryd.func38 rfl Tryd.ntmps38 rfl ⟨rfl, rfl, trivial⟩ ?_
  refine fw_sq (fw_rg rfl ?_)
  refine fw_al (t := 30) (u := fun q => .pointer (some ⟨q, 0, none⟩)) 4 [.int .i64 0, .string { data := #[] }, .bool false, .int .i64 0, .bool false, .string { data := #[] }, .string { data := #[] }, .int .i64 0, .bool false, .string { data := #[] }, .bool false, .string { data := #[] }, .bool false, .bool false, .int .i64 0, .slice none 0 0, .bool false, .int .i64 0, .bool false, .string { data := #[] }, .int .i64 0, .string { data := #[] }, .slice none 0 0, .slice none 0 0] rfl rfl rfl (fun a h => (run_allocOp (by simp [go_sem, Instr.alloc]))) ?_
  intro q1 W2 g5 s3 r4
  have := Nat.le_trans hb0.size g5
  have b6 := hb0.trans (s3.mono hb0.size)
  refine fw_dt (fw_sq ?_)
  obtain ⟨W0, hW0⟩ : ∃ X, X = W2 := ⟨_, rfl⟩
  have h0f : Below W0.heap.size W0 W2 := by rw [hW0]; exact Below.refl _ _
  have hs0 : SlN W0 (.slice a l.length c) l := by rw [hW0]; exact ⟨hs.1.below b6, hs.2⟩
  have hq4 : q1 < W0.heap.size := by rw [hW0]; exact r4.2.2
  have hw0 : w.heap.size ≤ W0.heap.size := by rw [hW0]; exact b6.size
  refine fw_rg rfl (fw_pu rfl ?_)
  refine fw_ex 8 (.int .i64 (f / 16)) rfl rfl rfl (fun a h => (run_binOp (h.ev rfl) (h.ev rfl) (by simp [go_sem]) (shrF _ 4 (by omega) _ (by decide)))) ?_
  refine fw_ex 9 (.agg #[.int .i64 (f / 16), .string { data := #[] }, .bool false, .int .i64 0, .bool false, .string { data := #[] }, .string { data := #[] }, .int .i64 0, .bool false, .string { data := #[] }, .bool false, .string { data := #[] }, .bool false, .bool false, .int .i64 0, .slice none 0 0, .bool false, .int .i64 0, .bool false, .string { data := #[] }, .int .i64 0, .string { data := #[] }, .slice none 0 0, .slice none 0 0]) rfl rfl rfl (fun a h => (run_buildOp (bp1 (h.ev rfl)) (by first | kernel_rfl | rfl))) ?_
  refine fw_al (t := 30) (u := fun q => .pointer (some ⟨q, 0, none⟩)) 5 [.int .i64 0, .string { data := #[] }, .bool false, .int .i64 0, .bool false, .string { data := #[] }, .string { data := #[] }, .int .i64 0, .bool false, .string { data := #[] }, .bool false, .string { data := #[] }, .bool false, .bool false, .int .i64 0, .slice none 0 0, .bool false, .int .i64 0, .bool false, .string { data := #[] }, .int .i64 0, .string { data := #[] }, .slice none 0 0, .slice none 0 0] rfl rfl rfl (fun a h => (run_allocOp (by simp [go_sem, Instr.alloc]))) ?_
  intro q7 W8 g11 s9 r10
  have := Nat.le_trans b6.size g11
  have := r4.lt g11
  have := Nat.le_trans h0f.size g11
  have b12 := b6.trans (s9.mono b6.size)
  have r13 := r4.below s9
  have f14 := (h0f.trans (s9.mono h0f.size))
  refine fw_st r10 rfl rfl ?_
  intro W15 s16 r17
  have b18 := below_chg b12 s16 (by omega) b12.size
  have r19 := r13.chg s16 (by omega)
  have f20 := (below_chg f14 s16 (by omega) f14.size)
  refine fw_dt (fw_sq (fw_rg rfl (fw_pu rfl ?_)))
  refine fw_ex 11 (.agg #[.slice a l.length c]) rfl rfl rfl (fun a h => (run_buildOp (bp1 (h.ev rfl)) (by first | kernel_rfl | rfl))) ?_
  refine fw_bx rfl (cs := [.slice a l.length c]) rfl ?_
  intro q21 W22 g25 s23 r24
  have := Nat.le_trans b18.size g25
  have := r19.lt g25
  have := r17.lt g25
  have := Nat.le_trans f20.size g25
  have b26 := b18.trans (s23.mono b18.size)
  have r27 := r19.below s23
  have r28 := r17.below s23
  have f29 := (f20.trans (s23.mono f20.size))
  refine fw_pu rfl (fw_dt (fw_sq (fw_sq (fw_rg rfl (fw_pu rfl (fw_ld r28 rfl rfl (fw_dt (fw_bk (fw_sq (fw_rg rfl ?_))))))))))
  iterate 2 refine fw_pu rfl ?_
  refine fw_dt ?_
  rcases Bool.eq_false_or_eq_true (((f / 16) == 1)) with hb_30 | hb_30
  · skip
    refine fw_cT rfl hb_30 (fw_rg rfl (fw_pu rfl ?_))
    refine fw_ca Tryd.func67 rfl rfl rfl ((rdCon f29 (by omega) (by omega) (by omega) r24 hs0 (by have h := r28; rw [beq_iff_eq.1 hb_30] at h; exact h))) ?_
    rintro _ V32 ⟨rfl, rq31, hb31⟩
    refine ⟨_, rfl, ?_⟩
    obtain ⟨d31, hd31⟩ : ∃ x, x = cnD l := ⟨_, rfl⟩
    rw [← hd31] at rq31
    have b33 := b26.trans (hb31.mono hw0)
    have f34 := f29.trans hb31
    have r35 := r27.low hb31 hq4
    refine fw_dn (fw_bn (fw_th (fw_sq (fw_rg rfl (fw_ld rq31 rfl rfl (fw_st r35 rfl rfl ?_))))))
    intro W36 s37 r38
    have b39 := below_chg b33 s37 (by omega) b33.size
    have r40 := rq31.chg s37 (by omega)
    refine fw_dt (fw_rt ?_)
    refine ⟨fun a h => ?_⟩
    have e : dcG f l = d31 := by rw [hd31]; simp only [dcG, hb_30, if_true]
    have hnl : d31.cs = [] ∧ d31.ws = [] ∧ d31.fs = [] := by rw [hd31]; exact cn_nil _
    exact ow_retCell rfl h.df (h.g 4 rfl) (run_loadVar_mid _ _ 0 _ (Mq.row d31 (.slice none 0 0) (.slice none 0 0) (.slice none 0 0)) _ (r38.range 0 _ (fun j v hj => by rw [Nat.zero_add j]; exact hj)) Tryd.underlying30 rfl (by kernel_rfl)) ⟨none, 0, none, 0, none, 0, by rw [e, hnl.1, hnl.2.1, hnl.2.2]; first | done | rfl, by rw [e]; exact OL3.nil _ _ hnl, b39⟩
  refine fw_cF rfl hb_30 (fw_sq (fw_rg rfl ?_))
  iterate 2 refine fw_pu rfl ?_
  refine fw_dt ?_
  rcases Bool.eq_false_or_eq_true (((f / 16) == 2)) with hb_41 | hb_41
  · skip
    refine fw_cT rfl hb_41 (fw_sq (fw_rg rfl (fw_pu rfl ?_)))
    refine fw_ca Tryd.func68 rfl rfl rfl ((rdNum f29 1 (by decide) (by omega) r24 hs0)) ?_
    rintro _ V43 ⟨l42, a42, c42, rfl, hl42, sn42, rr42, hs42⟩
    refine ⟨(.int .i64 (ofv (l.take 1))), rfl, ?_⟩
    have b44 := below_chg b26 sn42 (by omega) b26.size
    have r45 := r27.chg sn42 (by omega)
    have r46 := r28.chg sn42 (by omega)
    have f47 := (below_chg f29 sn42 (by omega) f29.size)
    iterate 2 refine fw_pu rfl ?_
    refine fw_st r46 rfl rfl ?_
    intro W48 s49 r50
    have b51 := below_chg b44 s49 (by omega) b44.size
    have r52 := r45.chg s49 (by omega)
    have r53 := rr42.chg s49 (by omega)
    have f54 := (below_chg f47 s49 (by omega) f47.size)
    refine fw_dt (fw_rg rfl (fw_pu rfl ?_))
    refine fw_ca Tryd.func68 rfl rfl rfl ((rdNum f54 1 (by decide) (by omega) r53 hs42)) ?_
    rintro _ V56 ⟨l55, a55, c55, rfl, hl55, sn55, rr55, hs55⟩
    refine ⟨(.int .i64 (ofv (l42.take 1))), rfl, ?_⟩
    have b57 := below_chg b51 sn55 (by omega) b51.size
    have r58 := r52.chg sn55 (by omega)
    have r59 := r50.chg sn55 (by omega)
    have f60 := (below_chg f54 sn55 (by omega) f54.size)
    refine fw_pu rfl (fw_st r59 rfl rfl ?_)
    intro W61 s62 r63
    have b64 := below_chg b57 s62 (by omega) b57.size
    have r65 := r58.chg s62 (by omega)
    have r66 := rr55.chg s62 (by omega)
    have f67 := (below_chg f60 s62 (by omega) f60.size)
    refine fw_dn (fw_bn (fw_th (fw_sq (fw_rg rfl (fw_ld r63 rfl rfl (fw_st r65 rfl rfl ?_))))))
    intro W68 s69 r70
    have b71 := below_chg b64 s69 (by omega) b64.size
    have r72 := r63.chg s69 (by omega)
    have r73 := r66.chg s69 (by omega)
    refine fw_dt (fw_rt ?_)
    refine ⟨fun a h => ?_⟩
    have e : dcG f l = ({ k := (f / 16), cl := { data := #[] }, clean := false, keep := 0, wI := false, wT := { data := #[] }, wP := { data := #[] }, wQ := 0, wR := false, us := { data := #[] }, hu := false, pa := { data := #[] }, hp := false, pres := ((ofv (l.take 1)) == 1), code := (ofv (l42.take 1)), cs := [], dup := false, q := 0, re := false, top := { data := #[] }, id := 0, pay := { data := #[] }, ws := [], fs := [] } : Mq) := by simp only [dcG, hb_30, hb_41, ← hl42, if_true, if_false, Bool.false_eq_true, zM]; rw [beq_iff_eq.1 hb_41]
    exact ow_retCell rfl h.df (h.g 4 rfl) (ldMq r70) ⟨none, 0, none, 0, none, 0, by rw [e]; first | done | rfl, by rw [e]; exact (⟨olC_nil _ _, olW_nil _ _, olF_nil _ _⟩ : OL3 W68 w.heap.size none 0 none 0 none 0 ({ k := (f / 16), cl := { data := #[] }, clean := false, keep := 0, wI := false, wT := { data := #[] }, wP := { data := #[] }, wQ := 0, wR := false, us := { data := #[] }, hu := false, pa := { data := #[] }, hp := false, pres := ((ofv (l.take 1)) == 1), code := (ofv (l42.take 1)), cs := [], dup := false, q := 0, re := false, top := { data := #[] }, id := 0, pay := { data := #[] }, ws := [], fs := [] } : Mq)), b71⟩
  refine fw_cF rfl hb_41 (fw_sq (fw_rg rfl ?_))
  iterate 2 refine fw_pu rfl ?_
  refine fw_dt ?_
  rcases Bool.eq_false_or_eq_true (((f / 16) == 3)) with hb_74 | hb_74
  · skip
    refine fw_cT rfl hb_74 (fw_rg rfl ?_)
    iterate 2 refine fw_pu rfl ?_
    refine fw_ca Tryd.func69 rfl rfl rfl ((rdPub f29 hf (by omega) (by omega) (by omega) r24 hs0 (by have h := r28; rw [beq_iff_eq.1 hb_74] at h; exact h))) ?_
    rintro _ V76 ⟨rfl, rq75, hb75⟩
    refine ⟨_, rfl, ?_⟩
    obtain ⟨d75, hd75⟩ : ∃ x, x = pbD f l := ⟨_, rfl⟩
    rw [← hd75] at rq75
    have b77 := b26.trans (hb75.mono hw0)
    have f78 := f29.trans hb75
    have r79 := r27.low hb75 hq4
    refine fw_dn (fw_bn (fw_th (fw_sq (fw_rg rfl (fw_ld rq75 rfl rfl (fw_st r79 rfl rfl ?_))))))
    intro W80 s81 r82
    have b83 := below_chg b77 s81 (by omega) b77.size
    have r84 := rq75.chg s81 (by omega)
    refine fw_dt (fw_rt ?_)
    refine ⟨fun a h => ?_⟩
    have e : dcG f l = d75 := by rw [hd75]; simp only [dcG, hb_30, hb_41, hb_74, if_true, if_false, Bool.false_eq_true]
    have hnl : d75.cs = [] ∧ d75.ws = [] ∧ d75.fs = [] := by rw [hd75]; exact pb_nil f _
    exact ow_retCell rfl h.df (h.g 4 rfl) (run_loadVar_mid _ _ 0 _ (Mq.row d75 (.slice none 0 0) (.slice none 0 0) (.slice none 0 0)) _ (r82.range 0 _ (fun j v hj => by rw [Nat.zero_add j]; exact hj)) Tryd.underlying30 rfl (by kernel_rfl)) ⟨none, 0, none, 0, none, 0, by rw [e, hnl.1, hnl.2.1, hnl.2.2]; first | done | rfl, by rw [e]; exact OL3.nil _ _ hnl, b83⟩
  refine fw_cF rfl hb_74 (fw_sq (fw_sq (fw_rg rfl ?_)))
  iterate 2 refine fw_pu rfl ?_
  refine fw_dt ?_
  rcases Bool.eq_false_or_eq_true (((f / 16) == 4)) with hb_85 | hb_85
  · skip
    refine fw_cT rfl hb_85 (fw_sk (fw_th (fw_cT rfl hb_85 (fw_rg rfl (fw_pu rfl ?_)))))
    refine fw_ca Tryd.func68 rfl rfl rfl ((rdNum f29 2 (by decide) (by omega) r24 hs0)) ?_
    rintro _ V87 ⟨l86, a86, c86, rfl, hl86, sn86, rr86, hs86⟩
    refine ⟨(.int .i64 (ofv (l.take 2))), rfl, ?_⟩
    have b88 := below_chg b26 sn86 (by omega) b26.size
    have r89 := r27.chg sn86 (by omega)
    have r90 := r28.chg sn86 (by omega)
    have f91 := (below_chg f29 sn86 (by omega) f29.size)
    refine fw_pu rfl (fw_st r90 rfl rfl ?_)
    intro W92 s93 r94
    have b95 := below_chg b88 s93 (by omega) b88.size
    have r96 := r89.chg s93 (by omega)
    have r97 := rr86.chg s93 (by omega)
    have f98 := (below_chg f91 s93 (by omega) f91.size)
    refine fw_dn (fw_bn (fw_th (fw_sq (fw_rg rfl (fw_ld r94 rfl rfl (fw_st r96 rfl rfl ?_))))))
    intro W99 s100 r101
    have b102 := below_chg b95 s100 (by omega) b95.size
    have r103 := r94.chg s100 (by omega)
    have r104 := r97.chg s100 (by omega)
    refine fw_dt (fw_rt ?_)
    refine ⟨fun a h => ?_⟩
    have e : dcG f l = ({ k := (f / 16), cl := { data := #[] }, clean := false, keep := 0, wI := false, wT := { data := #[] }, wP := { data := #[] }, wQ := 0, wR := false, us := { data := #[] }, hu := false, pa := { data := #[] }, hp := false, pres := false, code := 0, cs := [], dup := false, q := 0, re := false, top := { data := #[] }, id := (ofv (l.take 2)), pay := { data := #[] }, ws := [], fs := [] } : Mq) := by simp only [dcG, hb_30, hb_41, hb_74, hb_85, ← hl86, Bool.true_or, if_true, if_false, Bool.false_eq_true, zM]; try rfl
    exact ow_retCell rfl h.df (h.g 4 rfl) (ldMq r101) ⟨none, 0, none, 0, none, 0, by rw [e]; first | done | rfl, by rw [e]; exact (⟨olC_nil _ _, olW_nil _ _, olF_nil _ _⟩ : OL3 W99 w.heap.size none 0 none 0 none 0 ({ k := (f / 16), cl := { data := #[] }, clean := false, keep := 0, wI := false, wT := { data := #[] }, wP := { data := #[] }, wQ := 0, wR := false, us := { data := #[] }, hu := false, pa := { data := #[] }, hp := false, pres := false, code := 0, cs := [], dup := false, q := 0, re := false, top := { data := #[] }, id := (ofv (l.take 2)), pay := { data := #[] }, ws := [], fs := [] } : Mq)), b102⟩
  refine fw_cF rfl hb_85 (fw_sq (fw_rg rfl ?_))
  iterate 2 refine fw_pu rfl ?_
  refine fw_dt ?_
  rcases Bool.eq_false_or_eq_true (((f / 16) == 5)) with hb_105 | hb_105
  · skip
    refine fw_cT rfl hb_105 (fw_sk (fw_th (fw_cT rfl hb_105 (fw_rg rfl (fw_pu rfl ?_)))))
    refine fw_ca Tryd.func68 rfl rfl rfl ((rdNum f29 2 (by decide) (by omega) r24 hs0)) ?_
    rintro _ V107 ⟨l106, a106, c106, rfl, hl106, sn106, rr106, hs106⟩
    refine ⟨(.int .i64 (ofv (l.take 2))), rfl, ?_⟩
    have b108 := below_chg b26 sn106 (by omega) b26.size
    have r109 := r27.chg sn106 (by omega)
    have r110 := r28.chg sn106 (by omega)
    have f111 := (below_chg f29 sn106 (by omega) f29.size)
    refine fw_pu rfl (fw_st r110 rfl rfl ?_)
    intro W112 s113 r114
    have b115 := below_chg b108 s113 (by omega) b108.size
    have r116 := r109.chg s113 (by omega)
    have r117 := rr106.chg s113 (by omega)
    have f118 := (below_chg f111 s113 (by omega) f111.size)
    refine fw_dn (fw_bn (fw_th (fw_sq (fw_rg rfl (fw_ld r114 rfl rfl (fw_st r116 rfl rfl ?_))))))
    intro W119 s120 r121
    have b122 := below_chg b115 s120 (by omega) b115.size
    have r123 := r114.chg s120 (by omega)
    have r124 := r117.chg s120 (by omega)
    refine fw_dt (fw_rt ?_)
    refine ⟨fun a h => ?_⟩
    have e : dcG f l = ({ k := (f / 16), cl := { data := #[] }, clean := false, keep := 0, wI := false, wT := { data := #[] }, wP := { data := #[] }, wQ := 0, wR := false, us := { data := #[] }, hu := false, pa := { data := #[] }, hp := false, pres := false, code := 0, cs := [], dup := false, q := 0, re := false, top := { data := #[] }, id := (ofv (l.take 2)), pay := { data := #[] }, ws := [], fs := [] } : Mq) := by simp only [dcG, hb_30, hb_41, hb_74, hb_85, hb_105, ← hl106, Bool.true_or, Bool.or_true, if_true, if_false, Bool.false_eq_true, zM]; try rfl
    exact ow_retCell rfl h.df (h.g 4 rfl) (ldMq r121) ⟨none, 0, none, 0, none, 0, by rw [e]; first | done | rfl, by rw [e]; exact (⟨olC_nil _ _, olW_nil _ _, olF_nil _ _⟩ : OL3 W119 w.heap.size none 0 none 0 none 0 ({ k := (f / 16), cl := { data := #[] }, clean := false, keep := 0, wI := false, wT := { data := #[] }, wP := { data := #[] }, wQ := 0, wR := false, us := { data := #[] }, hu := false, pa := { data := #[] }, hp := false, pres := false, code := 0, cs := [], dup := false, q := 0, re := false, top := { data := #[] }, id := (ofv (l.take 2)), pay := { data := #[] }, ws := [], fs := [] } : Mq)), b122⟩
  refine fw_cF rfl hb_105 (fw_sq (fw_rg rfl ?_))
  iterate 2 refine fw_pu rfl ?_
  refine fw_dt ?_
  rcases Bool.eq_false_or_eq_true (((f / 16) == 6)) with hb_125 | hb_125
  · skip
    refine fw_cT rfl hb_125 (fw_sk (fw_th (fw_cT rfl hb_125 (fw_rg rfl (fw_pu rfl ?_)))))
    refine fw_ca Tryd.func68 rfl rfl rfl ((rdNum f29 2 (by decide) (by omega) r24 hs0)) ?_
    rintro _ V127 ⟨l126, a126, c126, rfl, hl126, sn126, rr126, hs126⟩
    refine ⟨(.int .i64 (ofv (l.take 2))), rfl, ?_⟩
    have b128 := below_chg b26 sn126 (by omega) b26.size
    have r129 := r27.chg sn126 (by omega)
    have r130 := r28.chg sn126 (by omega)
    have f131 := (below_chg f29 sn126 (by omega) f29.size)
    refine fw_pu rfl (fw_st r130 rfl rfl ?_)
    intro W132 s133 r134
    have b135 := below_chg b128 s133 (by omega) b128.size
    have r136 := r129.chg s133 (by omega)
    have r137 := rr126.chg s133 (by omega)
    have f138 := (below_chg f131 s133 (by omega) f131.size)
    refine fw_dn (fw_bn (fw_th (fw_sq (fw_rg rfl (fw_ld r134 rfl rfl (fw_st r136 rfl rfl ?_))))))
    intro W139 s140 r141
    have b142 := below_chg b135 s140 (by omega) b135.size
    have r143 := r134.chg s140 (by omega)
    have r144 := r137.chg s140 (by omega)
    refine fw_dt (fw_rt ?_)
    refine ⟨fun a h => ?_⟩
    have e : dcG f l = ({ k := (f / 16), cl := { data := #[] }, clean := false, keep := 0, wI := false, wT := { data := #[] }, wP := { data := #[] }, wQ := 0, wR := false, us := { data := #[] }, hu := false, pa := { data := #[] }, hp := false, pres := false, code := 0, cs := [], dup := false, q := 0, re := false, top := { data := #[] }, id := (ofv (l.take 2)), pay := { data := #[] }, ws := [], fs := [] } : Mq) := by simp only [dcG, hb_30, hb_41, hb_74, hb_85, hb_105, hb_125, ← hl126, Bool.true_or, Bool.or_true, Bool.or_self, if_true, if_false, Bool.false_eq_true, zM]; try rfl
    exact ow_retCell rfl h.df (h.g 4 rfl) (ldMq r141) ⟨none, 0, none, 0, none, 0, by rw [e]; first | done | rfl, by rw [e]; exact (⟨olC_nil _ _, olW_nil _ _, olF_nil _ _⟩ : OL3 W139 w.heap.size none 0 none 0 none 0 ({ k := (f / 16), cl := { data := #[] }, clean := false, keep := 0, wI := false, wT := { data := #[] }, wP := { data := #[] }, wQ := 0, wR := false, us := { data := #[] }, hu := false, pa := { data := #[] }, hp := false, pres := false, code := 0, cs := [], dup := false, q := 0, re := false, top := { data := #[] }, id := (ofv (l.take 2)), pay := { data := #[] }, ws := [], fs := [] } : Mq)), b142⟩
  refine fw_cF rfl hb_125 (fw_sq (fw_rg rfl ?_))
  iterate 2 refine fw_pu rfl ?_
  refine fw_dt ?_
  rcases Bool.eq_false_or_eq_true (((f / 16) == 7)) with hb_145 | hb_145
  · skip
    refine fw_cT rfl hb_145 (fw_sk (fw_th (fw_cT rfl hb_145 (fw_rg rfl (fw_pu rfl ?_)))))
    refine fw_ca Tryd.func68 rfl rfl rfl ((rdNum f29 2 (by decide) (by omega) r24 hs0)) ?_
    rintro _ V147 ⟨l146, a146, c146, rfl, hl146, sn146, rr146, hs146⟩
    refine ⟨(.int .i64 (ofv (l.take 2))), rfl, ?_⟩
    have b148 := below_chg b26 sn146 (by omega) b26.size
    have r149 := r27.chg sn146 (by omega)
    have r150 := r28.chg sn146 (by omega)
    have f151 := (below_chg f29 sn146 (by omega) f29.size)
    refine fw_pu rfl (fw_st r150 rfl rfl ?_)
    intro W152 s153 r154
    have b155 := below_chg b148 s153 (by omega) b148.size
    have r156 := r149.chg s153 (by omega)
    have r157 := rr146.chg s153 (by omega)
    have f158 := (below_chg f151 s153 (by omega) f151.size)
    refine fw_dn (fw_bn (fw_th (fw_sq (fw_rg rfl (fw_ld r154 rfl rfl (fw_st r156 rfl rfl ?_))))))
    intro W159 s160 r161
    have b162 := below_chg b155 s160 (by omega) b155.size
    have r163 := r154.chg s160 (by omega)
    have r164 := r157.chg s160 (by omega)
    refine fw_dt (fw_rt ?_)
    refine ⟨fun a h => ?_⟩
    have e : dcG f l = ({ k := (f / 16), cl := { data := #[] }, clean := false, keep := 0, wI := false, wT := { data := #[] }, wP := { data := #[] }, wQ := 0, wR := false, us := { data := #[] }, hu := false, pa := { data := #[] }, hp := false, pres := false, code := 0, cs := [], dup := false, q := 0, re := false, top := { data := #[] }, id := (ofv (l.take 2)), pay := { data := #[] }, ws := [], fs := [] } : Mq) := by simp only [dcG, hb_30, hb_41, hb_74, hb_85, hb_105, hb_125, hb_145, ← hl146, Bool.true_or, Bool.or_true, Bool.or_self, if_true, if_false, Bool.false_eq_true, zM]; try rfl
    exact ow_retCell rfl h.df (h.g 4 rfl) (ldMq r161) ⟨none, 0, none, 0, none, 0, by rw [e]; first | done | rfl, by rw [e]; exact (⟨olC_nil _ _, olW_nil _ _, olF_nil _ _⟩ : OL3 W159 w.heap.size none 0 none 0 none 0 ({ k := (f / 16), cl := { data := #[] }, clean := false, keep := 0, wI := false, wT := { data := #[] }, wP := { data := #[] }, wQ := 0, wR := false, us := { data := #[] }, hu := false, pa := { data := #[] }, hp := false, pres := false, code := 0, cs := [], dup := false, q := 0, re := false, top := { data := #[] }, id := (ofv (l.take 2)), pay := { data := #[] }, ws := [], fs := [] } : Mq)), b162⟩
  refine fw_cF rfl hb_145 (fw_rg rfl ?_)
  iterate 2 refine fw_pu rfl ?_
  refine fw_dt ?_
  rcases Bool.eq_false_or_eq_true (((f / 16) == 11)) with hb_165 | hb_165
  · skip
    refine fw_cT rfl hb_165 (fw_rg rfl (fw_pu rfl ?_))
    refine fw_ca Tryd.func68 rfl rfl rfl ((rdNum f29 2 (by decide) (by omega) r24 hs0)) ?_
    rintro _ V167 ⟨l166, a166, c166, rfl, hl166, sn166, rr166, hs166⟩
    refine ⟨(.int .i64 (ofv (l.take 2))), rfl, ?_⟩
    have b168 := below_chg b26 sn166 (by omega) b26.size
    have r169 := r27.chg sn166 (by omega)
    have r170 := r28.chg sn166 (by omega)
    have f171 := (below_chg f29 sn166 (by omega) f29.size)
    refine fw_pu rfl (fw_st r170 rfl rfl ?_)
    intro W172 s173 r174
    have b175 := below_chg b168 s173 (by omega) b168.size
    have r176 := r169.chg s173 (by omega)
    have r177 := rr166.chg s173 (by omega)
    have f178 := (below_chg f171 s173 (by omega) f171.size)
    refine fw_dn (fw_bn (fw_th (fw_sq (fw_rg rfl (fw_ld r174 rfl rfl (fw_st r176 rfl rfl ?_))))))
    intro W179 s180 r181
    have b182 := below_chg b175 s180 (by omega) b175.size
    have r183 := r174.chg s180 (by omega)
    have r184 := r177.chg s180 (by omega)
    refine fw_dt (fw_rt ?_)
    refine ⟨fun a h => ?_⟩
    have e : dcG f l = ({ k := (f / 16), cl := { data := #[] }, clean := false, keep := 0, wI := false, wT := { data := #[] }, wP := { data := #[] }, wQ := 0, wR := false, us := { data := #[] }, hu := false, pa := { data := #[] }, hp := false, pres := false, code := 0, cs := [], dup := false, q := 0, re := false, top := { data := #[] }, id := (ofv (l.take 2)), pay := { data := #[] }, ws := [], fs := [] } : Mq) := by simp only [dcG, hb_30, hb_41, hb_74, hb_85, hb_105, hb_125, hb_145, hb_165, ← hl166, Bool.or_true, Bool.or_self, if_true, if_false, Bool.false_eq_true, zM]; try rfl
    exact ow_retCell rfl h.df (h.g 4 rfl) (ldMq r181) ⟨none, 0, none, 0, none, 0, by rw [e]; first | done | rfl, by rw [e]; exact (⟨olC_nil _ _, olW_nil _ _, olF_nil _ _⟩ : OL3 W179 w.heap.size none 0 none 0 none 0 ({ k := (f / 16), cl := { data := #[] }, clean := false, keep := 0, wI := false, wT := { data := #[] }, wP := { data := #[] }, wQ := 0, wR := false, us := { data := #[] }, hu := false, pa := { data := #[] }, hp := false, pres := false, code := 0, cs := [], dup := false, q := 0, re := false, top := { data := #[] }, id := (ofv (l.take 2)), pay := { data := #[] }, ws := [], fs := [] } : Mq)), b182⟩
  refine fw_cF rfl hb_165 (fw_sq (fw_sq (fw_rg rfl ?_)))
  iterate 2 refine fw_pu rfl ?_
  refine fw_dt ?_
  rcases Bool.eq_false_or_eq_true (((f / 16) == 8)) with hb_185 | hb_185
  · skip
    refine fw_cT rfl hb_185 (fw_sk (fw_th (fw_cT rfl hb_185 (fw_sq (fw_rg rfl (fw_pu rfl ?_))))))
    refine fw_ca Tryd.func68 rfl rfl rfl ((rdNum f29 2 (by decide) (by omega) r24 hs0)) ?_
    rintro _ V187 ⟨l186, a186, c186, rfl, hl186, sn186, rr186, hs186⟩
    refine ⟨(.int .i64 (ofv (l.take 2))), rfl, ?_⟩
    have b188 := below_chg b26 sn186 (by omega) b26.size
    have r189 := r27.chg sn186 (by omega)
    have r190 := r28.chg sn186 (by omega)
    have f191 := (below_chg f29 sn186 (by omega) f29.size)
    refine fw_pu rfl (fw_st r190 rfl rfl ?_)
    intro W192 s193 r194
    have b195 := below_chg b188 s193 (by omega) b188.size
    have r196 := r189.chg s193 (by omega)
    have r197 := rr186.chg s193 (by omega)
    have f198 := (below_chg f191 s193 (by omega) f191.size)
    refine fw_dt (fw_rg rfl (fw_pu rfl ?_))
    refine fw_ca Tryd.func70 rfl rfl rfl ((rdLstW f198 (by omega) (by omega) (by omega) r197 hs186 (by have h := r194; rw [beq_iff_eq.1 hb_185] at h; exact h))) ?_
    rintro _ V200 ⟨L199, a199, c199, rfl, hL199, hS199, rq199, hb199⟩
    refine ⟨_, rfl, ?_⟩
    have b201 := b195.trans (hb199.mono hw0)
    have f202 := f198.trans hb199
    have r203 := r196.low hb199 hq4
    refine fw_dn (fw_bn (fw_th (fw_sq (fw_rg rfl (fw_ld rq199 rfl rfl (fw_st r203 rfl rfl ?_))))))
    intro W204 s205 r206
    have b207 := below_chg b201 s205 (by omega) b201.size
    have r208 := rq199.chg s205 (by omega)
    have f209 := (olW_chg hS199 s205 (olW_off hS199 hq4))
    refine fw_dt (fw_rt ?_)
    refine ⟨fun a h => ?_⟩
    have e : dcG f l = ({ k := 8, cl := { data := #[] }, clean := false, keep := 0, wI := false, wT := { data := #[] }, wP := { data := #[] }, wQ := 0, wR := false, us := { data := #[] }, hu := false, pa := { data := #[] }, hp := false, pres := false, code := 0, cs := [], dup := false, q := 0, re := false, top := { data := #[] }, id := (ofv (l.take 2)), pay := { data := #[] }, ws := L199, fs := [] } : Mq) := by simp only [dcG, hb_30, hb_41, hb_74, hb_85, hb_105, hb_125, hb_145, hb_165, hb_185, ← hl186, ← hL199, Bool.or_self, if_true, if_false, Bool.false_eq_true, zM]; try rfl
    exact ow_retCell rfl h.df (h.g 4 rfl) (ldMq r206) ⟨none, 0, a199, c199, none, 0, by rw [e]; first | done | rfl, by rw [e]; exact (⟨olC_nil _ _, own_mono f209 hw0, olF_nil _ _⟩ : OL3 W204 w.heap.size none 0 a199 c199 none 0 ({ k := 8, cl := { data := #[] }, clean := false, keep := 0, wI := false, wT := { data := #[] }, wP := { data := #[] }, wQ := 0, wR := false, us := { data := #[] }, hu := false, pa := { data := #[] }, hp := false, pres := false, code := 0, cs := [], dup := false, q := 0, re := false, top := { data := #[] }, id := (ofv (l.take 2)), pay := { data := #[] }, ws := L199, fs := [] } : Mq)), b207⟩
  refine fw_cF rfl hb_185 (fw_sq (fw_rg rfl ?_))
  iterate 2 refine fw_pu rfl ?_
  refine fw_dt ?_
  rcases Bool.eq_false_or_eq_true (((f / 16) == 9)) with hb_210 | hb_210
  · skip
    refine fw_cT rfl hb_210 (fw_sk (fw_th (fw_cT rfl hb_210 (fw_sq (fw_rg rfl (fw_pu rfl ?_))))))
    refine fw_ca Tryd.func68 rfl rfl rfl ((rdNum f29 2 (by decide) (by omega) r24 hs0)) ?_
    rintro _ V212 ⟨l211, a211, c211, rfl, hl211, sn211, rr211, hs211⟩
    refine ⟨(.int .i64 (ofv (l.take 2))), rfl, ?_⟩
    have b213 := below_chg b26 sn211 (by omega) b26.size
    have r214 := r27.chg sn211 (by omega)
    have r215 := r28.chg sn211 (by omega)
    have f216 := (below_chg f29 sn211 (by omega) f29.size)
    refine fw_pu rfl (fw_st r215 rfl rfl ?_)
    intro W217 s218 r219
    have b220 := below_chg b213 s218 (by omega) b213.size
    have r221 := r214.chg s218 (by omega)
    have r222 := rr211.chg s218 (by omega)
    have f223 := (below_chg f216 s218 (by omega) f216.size)
    refine fw_dt (fw_rg rfl (fw_pu rfl ?_))
    refine fw_ca Tryd.func70 rfl rfl rfl ((rdLstC f223 (by omega) (by omega) (by omega) r222 hs211 (by have h := r219; rw [beq_iff_eq.1 hb_210] at h; exact h))) ?_
    rintro _ V225 ⟨L224, a224, c224, rfl, hL224, hS224, rq224, hb224⟩
    refine ⟨_, rfl, ?_⟩
    have b226 := b220.trans (hb224.mono hw0)
    have f227 := f223.trans hb224
    have r228 := r221.low hb224 hq4
    refine fw_dn (fw_bn (fw_th (fw_sq (fw_rg rfl (fw_ld rq224 rfl rfl (fw_st r228 rfl rfl ?_))))))
    intro W229 s230 r231
    have b232 := below_chg b226 s230 (by omega) b226.size
    have r233 := rq224.chg s230 (by omega)
    have f234 := (olC_chg hS224 s230 (olC_off hS224 hq4))
    refine fw_dt (fw_rt ?_)
    refine ⟨fun a h => ?_⟩
    have e : dcG f l = ({ k := 9, cl := { data := #[] }, clean := false, keep := 0, wI := false, wT := { data := #[] }, wP := { data := #[] }, wQ := 0, wR := false, us := { data := #[] }, hu := false, pa := { data := #[] }, hp := false, pres := false, code := 0, cs := L224, dup := false, q := 0, re := false, top := { data := #[] }, id := (ofv (l.take 2)), pay := { data := #[] }, ws := [], fs := [] } : Mq) := by simp only [dcG, hb_30, hb_41, hb_74, hb_85, hb_105, hb_125, hb_145, hb_165, hb_185, hb_210, ← hl211, ← hL224, Bool.or_self, if_true, if_false, Bool.false_eq_true, zM]; try rfl
    exact ow_retCell rfl h.df (h.g 4 rfl) (ldMq r231) ⟨a224, c224, none, 0, none, 0, by rw [e]; first | done | rfl, by rw [e]; exact (⟨own_mono f234 hw0, olW_nil _ _, olF_nil _ _⟩ : OL3 W229 w.heap.size a224 c224 none 0 none 0 ({ k := 9, cl := { data := #[] }, clean := false, keep := 0, wI := false, wT := { data := #[] }, wP := { data := #[] }, wQ := 0, wR := false, us := { data := #[] }, hu := false, pa := { data := #[] }, hp := false, pres := false, code := 0, cs := L224, dup := false, q := 0, re := false, top := { data := #[] }, id := (ofv (l.take 2)), pay := { data := #[] }, ws := [], fs := [] } : Mq)), b232⟩
  refine fw_cF rfl hb_210 (fw_rg rfl ?_)
  iterate 2 refine fw_pu rfl ?_
  refine fw_dt ?_
  rcases Bool.eq_false_or_eq_true (((f / 16) == 10)) with hb_235 | hb_235
  · skip
    refine fw_cT rfl hb_235 (fw_sq (fw_rg rfl (fw_pu rfl ?_)))
    refine fw_ca Tryd.func68 rfl rfl rfl ((rdNum f29 2 (by decide) (by omega) r24 hs0)) ?_
    rintro _ V237 ⟨l236, a236, c236, rfl, hl236, sn236, rr236, hs236⟩
    refine ⟨(.int .i64 (ofv (l.take 2))), rfl, ?_⟩
    have b238 := below_chg b26 sn236 (by omega) b26.size
    have r239 := r27.chg sn236 (by omega)
    have r240 := r28.chg sn236 (by omega)
    have f241 := (below_chg f29 sn236 (by omega) f29.size)
    refine fw_pu rfl (fw_st r240 rfl rfl ?_)
    intro W242 s243 r244
    have b245 := below_chg b238 s243 (by omega) b238.size
    have r246 := r239.chg s243 (by omega)
    have r247 := rr236.chg s243 (by omega)
    have f248 := (below_chg f241 s243 (by omega) f241.size)
    refine fw_dt (fw_rg rfl (fw_pu rfl ?_))
    refine fw_ca Tryd.func70 rfl rfl rfl ((rdLstF f248 (by omega) (by omega) (by omega) r247 hs236 (by have h := r244; rw [beq_iff_eq.1 hb_235] at h; exact h))) ?_
    rintro _ V250 ⟨L249, a249, c249, rfl, hL249, hS249, rq249, hb249⟩
    refine ⟨_, rfl, ?_⟩
    have b251 := b245.trans (hb249.mono hw0)
    have f252 := f248.trans hb249
    have r253 := r246.low hb249 hq4
    refine fw_dn (fw_bn (fw_th (fw_sq (fw_rg rfl (fw_ld rq249 rfl rfl (fw_st r253 rfl rfl ?_))))))
    intro W254 s255 r256
    have b257 := below_chg b251 s255 (by omega) b251.size
    have r258 := rq249.chg s255 (by omega)
    have f259 := (olF_chg hS249 s255 (olF_off hS249 hq4))
    refine fw_dt (fw_rt ?_)
    refine ⟨fun a h => ?_⟩
    have e : dcG f l = ({ k := 10, cl := { data := #[] }, clean := false, keep := 0, wI := false, wT := { data := #[] }, wP := { data := #[] }, wQ := 0, wR := false, us := { data := #[] }, hu := false, pa := { data := #[] }, hp := false, pres := false, code := 0, cs := [], dup := false, q := 0, re := false, top := { data := #[] }, id := (ofv (l.take 2)), pay := { data := #[] }, ws := [], fs := L249 } : Mq) := by simp only [dcG, hb_30, hb_41, hb_74, hb_85, hb_105, hb_125, hb_145, hb_165, hb_185, hb_210, hb_235, ← hl236, ← hL249, Bool.or_self, if_true, if_false, Bool.false_eq_true, zM]; try rfl
    exact ow_retCell rfl h.df (h.g 4 rfl) (ldMq r256) ⟨none, 0, none, 0, a249, c249, by rw [e]; first | done | rfl, by rw [e]; exact (⟨olC_nil _ _, olW_nil _ _, own_mono f259 hw0⟩ : OL3 W254 w.heap.size none 0 none 0 a249 c249 ({ k := 10, cl := { data := #[] }, clean := false, keep := 0, wI := false, wT := { data := #[] }, wP := { data := #[] }, wQ := 0, wR := false, us := { data := #[] }, hu := false, pa := { data := #[] }, hp := false, pres := false, code := 0, cs := [], dup := false, q := 0, re := false, top := { data := #[] }, id := (ofv (l.take 2)), pay := { data := #[] }, ws := [], fs := L249 } : Mq)), b257⟩
  refine fw_cF rfl hb_235 (fw_sk (fw_bn (fw_th (fw_sq (fw_rg rfl (fw_ld r28 rfl rfl (fw_st r27 rfl rfl ?_)))))))
  intro W260 s261 r262
  have b263 := below_chg b26 s261 (by omega) b26.size
  have r264 := r28.chg s261 (by omega)
  have r265 := r24.chg s261 (by omega)
  refine fw_dt (fw_rt ?_)
  refine ⟨fun a h => ?_⟩
  have e : dcG f l = ({ k := (f / 16), cl := { data := #[] }, clean := false, keep := 0, wI := false, wT := { data := #[] }, wP := { data := #[] }, wQ := 0, wR := false, us := { data := #[] }, hu := false, pa := { data := #[] }, hp := false, pres := false, code := 0, cs := [], dup := false, q := 0, re := false, top := { data := #[] }, id := 0, pay := { data := #[] }, ws := [], fs := [] } : Mq) := by simp only [dcG, hb_30, hb_41, hb_74, hb_85, hb_105, hb_125, hb_145, hb_165, hb_185, hb_210, hb_235, Bool.or_self, if_false, Bool.false_eq_true, zM]; try rfl
  exact ow_retCell rfl h.df (h.g 4 rfl) (ldMq r262) ⟨none, 0, none, 0, none, 0, by rw [e]; first | done | rfl, by rw [e]; exact (⟨olC_nil _ _, olW_nil _ _, olF_nil _ _⟩ : OL3 W260 w.heap.size none 0 none 0 none 0 ({ k := (f / 16), cl := { data := #[] }, clean := false, keep := 0, wI := false, wT := { data := #[] }, wP := { data := #[] }, wQ := 0, wR := false, us := { data := #[] }, hu := false, pa := { data := #[] }, hp := false, pres := false, code := 0, cs := [], dup := false, q := 0, re := false, top := { data := #[] }, id := 0, pay := { data := #[] }, ws := [], fs := [] } : Mq)), b263⟩
set_option maxRecDepth 100000 in
set_option maxHeartbeats 1000000 in
theorem slEqual_any (v1 v2 : Value) (l1 l2 : List UInt8) (w : World) (hl : l1.length ≤ 1000000) (_hl2 : l2.length ≤ 1000000) (hv1 : Sl w v1 l1) (hv2 : Sl w v2 l2) :
    Calls Tryd.prog 39 #[v1, v2] w fun e w' => e = .returned (.bool (decide (l1 = l2))) ∧ ∃ m, w' = w.drewN m := by
  obtain ⟨ao1, cap1, rfl, -, -, -, hB1⟩ := hv1
  obtain ⟨ao2, cap2, rfl, -, -, -, hB2⟩ := hv2
  have HB1 := Lib.hid hB1; clear hB1
  have HB2 := Lib.hid hB2; clear hB2
  by_cases hlen : l1.length = l2.length
  · have hne : ((l1.length : Int) != (l2.length : Int)) = false := by simp [hlen]
    have HL := Lib.hid hlen
    go_enter Tryd.func39, Tryd.ntmps39
    have h1 : l1.length ≤ l2.length := by omega
    have h2 : l2.length ≤ l1.length := by omega
    clear hlen
    go_wp2
    go_loopw [13] (fun i wr => ∃ (k m : Nat), k ≤ l1.length ∧ i = .int .i64 k ∧ wr = w.drewN m ∧ l1.take k = l2.take k) (fun i _ => l1.length - (RowKit.intOf i).toNat)
    case atStart => exact ⟨0, 0, by omega, rfl, rfl, rfl⟩
    case round =>
      obtain ⟨k, m, hk, rfl, rfl, heq⟩ := hrel
      have HE := Lib.hid heq; clear heq
      by_cases hlt : k < l1.length
      · obtain ⟨b1, off1, rfl, hbw1, hBB1⟩ := HB1.out (by intro h; simp [h] at hlt)
        obtain ⟨x, hx, hcx, hx1⟩ := hBB1.get k hlt
        obtain ⟨b2, off2, rfl, hbw2, hBB2⟩ := HB2.out (by intro h; have h5 : l2.length = 0 := by rw [h]; rfl
                                                          omega)
        obtain ⟨y, hy, hcy, hy1⟩ := hBB2.get k (by omega)
        have HX := Lib.hid hx; clear hx hBB1
        have HY := Lib.hid hy; clear hy hBB2
        have ht1 : l1.take (k+1) = l1.take k ++ [x] := by rw [List.take_add_one, HX.out]; rfl
        have ht2 : l2.take (k+1) = l2.take k ++ [y] := by rw [List.take_add_one, HY.out]; rfl
        have HT1 := Lib.hid ht1; have HT2 := Lib.hid ht2; clear ht1 ht2
        by_cases hxy : x = y
        · subst hxy
          go_wp2
          go_quiet (fail)
          go_wp2
          go_roundw
          case rel => exact ⟨k + 1, m + nq, by omega, by go_num, rfl, by rw [HT1.out, HT2.out, HE.out]⟩
          case measure => simp [RowKit.intOf]; omega
        · have hne2 : ((x.toNat : Int) != (y.toNat : Int)) = true := by
            simp only [bne_iff_ne, ne_eq]; intro h; exact hxy (UInt8.toNat_inj.1 (by omega))
          have hfin : decide (l1 = l2) = false := by
            simp only [decide_eq_false_iff_not]; intro h
            have := HX.out; rw [h, HY.out] at this; exact hxy (by simpa using this.symm)
          have HF := Lib.hid hfin; clear hfin hxy
          go_wp2
          go_quiet (fail)
          go_wp2
          go_ret
          exact ⟨by rw [HF.out]; rfl, _, by first | rfl | exact World.drewN_drewN _ _ _⟩
      · have : k = l1.length := by omega
        have hfin : decide (l1 = l2) = true := by
          simp only [decide_eq_true_eq]
          have := HE.out; rw [List.take_of_length_le (by omega), List.take_of_length_le (by omega)] at this; exact this
        have HF := Lib.hid hfin; clear hfin this HB1 HB2
        go_wp2
        go_ret
        exact ⟨by rw [HF.out]; rfl, _, rfl⟩
  · have hne : ((l1.length : Int) != (l2.length : Int)) = true := by
      simp only [bne_iff_ne, ne_eq]; omega
    have hfin : decide (l1 = l2) = false := by simp only [decide_eq_false_iff_not]; intro h; exact hlen (by rw [h])
    have HF := Lib.hid hfin; clear hfin hlen HB1 HB2
    go_enter Tryd.func39, Tryd.ntmps39
    go_wp2
    go_ret
    exact ⟨by rw [HF.out]; rfl, 0, rfl⟩
def adrAt (b o cap i : Nat) : Option Addr := if cap - i = 0 then some ⟨b, o, none⟩ else some ⟨b, o + i, none⟩
theorem run_slice2 (b o L cap i j : Nat) (w : World) (h1 : i ≤ j) (h2 : j ≤ cap) (h3 : cap ≤ 9223372036854775807) : (Instr.sliceAt 31 (.slice (some ⟨b, o, none⟩) L cap) (some (.int .i64 i)) (some (.int .i64 j)) none).run Tryd.prog w = .ok (.slice (adrAt b o cap i) (j - i) (cap - i)) w := by
  have g1 : (i : Int) ≤ (j : Int) := by omega
  have g2 : (j : Int) ≤ (cap : Int) := by omega
  have g3 : (0 : Int) ≤ (i : Int) := by omega
  unfold adrAt
  by_cases g4 : cap - i = 0
  · have hi : i = cap := by omega
    subst hi
    simp [go_sem, Instr.sliceAt, *]
  · rw [if_neg g4]
    simp [go_sem, Instr.sliceAt, *]
    try omega
theorem run_slice1 (b o L cap j : Nat) (w : World) (h2 : j ≤ cap) (_h3 : cap ≤ 9223372036854775807) : (Instr.sliceAt 31 (.slice (some ⟨b, o, none⟩) L cap) none (some (.int .i64 j)) none).run Tryd.prog w = .ok (.slice (some ⟨b, o, none⟩) j cap) w := by
  have g2 : (j : Int) ≤ (cap : Int) := by omega
  simp [go_sem, Instr.sliceAt, *]
theorem SlN.at2 {w : World} {b o cap : Nat} {l : List UInt8} (h : Sl w (.slice (some ⟨b, o, none⟩) l.length cap) l) (i j : Nat) (h1 : i ≤ j) (h2 : j ≤ l.length) : SlN w (.slice (adrAt b o cap i) (j - i) (cap - i)) ((l.drop i).take (j - i)) := by
  have hc : l.length ≤ cap := by
    obtain ⟨ao, c, hv, h3, -⟩ := id h
    simp only [Value.slice.injEq] at hv
    omega
  unfold adrAt
  split
  · rename_i h0
    have hj : j - i = 0 := by omega
    rw [hj, h0, List.take_zero]
    exact ⟨Sl.none_left w _, .inr ⟨_, _, _, _, rfl⟩⟩
  · exact ⟨h.mid i (j - i) (by omega), .inr ⟨_, _, _, _, rfl⟩⟩
theorem lists_open {W : World} {m : Mq} {vc vw vf : Value} (h : m.Lists W vc vw vf) : ∃ ac nc cc aw nw cw af nf cf, vc = .slice ac nc cc ∧ vw = .slice aw nw cw ∧ vf = .slice af nf cf := by
  obtain ⟨a, b, h1, -⟩ := h.c
  obtain ⟨c, d, h2, -⟩ := h.w
  obtain ⟨e, f, h3, -⟩ := h.f
  exact ⟨a, _, b, c, _, d, e, _, f, h1, h2, h3⟩
theorem orS (a b k : Nat) (hk : k < 4) (ha : a < 128 ^ k) (hb : b < 128) : bits .or .i64 ((a : Nat) : Int) ((b * 128 ^ k : Nat) : Int) = ((a + b * 128 ^ k : Nat) : Int) := by
  have hp : (128 : Nat) ^ k = 2 ^ (7 * k) := by rw [Nat.pow_mul]
  have hk3 : (128 : Nat) ^ k ≤ 128 ^ 3 := Nat.pow_le_pow_right (by decide) (by omega)
  have hb2 : b * 128 ^ k ≤ 127 * 128 ^ 3 := Nat.mul_le_mul (by omega) hk3
  have h1 : (BitVec.ofInt 64 (a : Int)).toNat = a := by rw [ofInt_toNat]; omega
  have h2 : (BitVec.ofInt 64 ((b * 128 ^ k : Nat) : Int)).toNat = b * 128 ^ k := by rw [ofInt_toNat]; omega
  show IntKind.wrap .i64 (((BitVec.ofInt 64 (a : Int) ||| BitVec.ofInt 64 ((b * 128 ^ k : Nat) : Int)).toNat : Nat) : Int) = _
  have h3 : a ||| b * 128 ^ k = a + b * 128 ^ k := by
    have := Nat.two_pow_add_eq_or_of_lt (i := 7 * k) (b := a) (by rw [← hp]; exact ha) b
    rw [hp, Nat.or_comm, Nat.mul_comm b, ← this, Nat.add_comm]
  rw [BitVec.toNat_or, h1, h2, h3, wrap_i64 _ (by omega) (by omega)]
theorem shlK (b k : Nat) (hk : k < 4) (hb : b < 128) (w : World) : (binOp .shl 3 (.int .i64 (b : Int)) (.int .i64 ((7 * k : Nat) : Int))).run Tryd.prog w = .ok (.int .i64 ((b * 128 ^ k : Nat) : Int)) w := by
  have h0 : k = 0 ∨ k = 1 ∨ k = 2 ∨ k = 3 := by omega
  rcases h0 with rfl | rfl | rfl | rfl
  · have := wrap_i64 (b : Int) (by omega) (by omega); simp [go_sem, this]
  · have := wrap_i64 ((b : Int) * 128) (by omega) (by omega); simp [go_sem, this]
  · have := wrap_i64 ((b : Int) * 16384) (by omega) (by omega); simp [go_sem, this]
  · have := wrap_i64 ((b : Int) * 2097152) (by omega) (by omega); simp [go_sem, this]
theorem idxU8 (b off n cap i : Nat) (hi : i < n) (w : World) : (Instr.indexAt 31 (.slice (some ⟨b, off, none⟩) n cap) (.int .i64 (i : Int))).run Tryd.prog w = .ok (.pointer (some ⟨b, off + i, none⟩)) w := by
  have h2 : ¬ n ≤ i := by omega
  simp [go_sem, Instr.indexAt, h2]
theorem ldU8 {W : World} {b o : Nat} {x : UInt8} (h : W.cell? ⟨b, o, none⟩ = some (B8 x)) : (Instr.loadAt 5 (.pointer (some ⟨b, o, none⟩))).run Tryd.prog W = .ok (B8 x) W := by simp [go_sem, Instr.loadAt, h]
theorem sl_at {W : World} {a : Option Addr} {n c i : Nat} {l : List UInt8} {x : UInt8} (h : Sl W (.slice a n c) l) (hx : l[i]? = some x) : ∃ b off, a = some ⟨b, off, none⟩ ∧ b < W.heap.size ∧ W.cell? ⟨b, off + i, none⟩ = some (B8 x) := by
  obtain ⟨ao, cap, hv, -, -, -, h4⟩ := h
  injection hv with e1 e2 e3
  subst e1
  obtain ⟨b, off, hb, hlt, hB⟩ := h4 (by rintro rfl; simp at hx)
  exact ⟨b, off, hb, hlt, hB i x hx⟩
theorem cvU8i (x : UInt8) (w : World) : (convert 5 3 (B8 x)).run Tryd.prog w = .ok (.int .i64 ((x.toNat : Nat) : Int)) w := by
  have := wrap_i64 ((x.toNat : Nat) : Int) (by omega) (by have := x.toNat_lt; omega)
  simp [go_sem, convert, this]
def meG (l : List UInt8) : Nat × Nat × Int := match l with
  | [] => (0, 0, 7)
  | _ :: t => msG 0 0 t
theorem ms_at {l : List UInt8} {x : UInt8} {k acc : Nat} (hx : l[k + 1]? = some x) : msG k acc (l.drop (k + 1)) = if x.toNat < 128 then (if 0 < x.toNat ∨ k = 0 then (k + 2, acc + x.toNat * 128 ^ k, 0) else (0, 0, 1)) else if k = 3 then (0, 0, 1) else msG (k + 1) (acc + (x.toNat - 128) * 128 ^ k) (l.drop (k + 1 + 1)) := by
  have hl := (List.getElem?_eq_some_iff.1 hx).1
  rw [List.drop_eq_getElem_cons hl, (List.getElem?_eq_some_iff.1 hx).2]
  rfl
theorem me_start {l : List UInt8} (h : l ≠ []) : meG l = msG 0 0 (l.drop (0 + 1)) := by
  match l, h with
  | x :: t, _ => rfl
theorem pow_step {a b k : Nat} (ha : a < 128 ^ k) (hb : b < 128) : a + b * 128 ^ k < 128 ^ (k + 1) := by
  have h1 : b * 128 ^ k ≤ 127 * 128 ^ k := Nat.mul_le_mul_right _ (by omega)
  rw [Nat.pow_succ]; omega
set_option maxRecDepth 100000 in
set_option maxHeartbeats 4000000 in
theorem measureG {w : World} {cd : Nat} {ad : Option Addr} {l : List UInt8} (hs : Sl w (.slice ad l.length cd) l) (hl : l.length ≤ 100000) :
    Calls Tryd.prog 37 #[.slice ad l.length cd] w fun e w' => e = .returned (.tuple #[.int .i64 ((meG l).1 : Int), .int .i64 ((meG l).2.1 : Int), .int .i64 (meG l).2.2]) ∧ Below w.heap.size w w' := by
  have hb0 := Below.refl w.heap.size w
  refine fw_en 48 [(0, .slice ad l.length cd)] Tryd.func37 rfl Tryd.ntmps37 rfl ⟨rfl, trivial⟩ ?_
  refine fw_sq (fw_rg rfl ?_)
  iterate 3 refine fw_pu rfl ?_
  refine fw_dt ?_
  refine ⟨fun a h => ?_⟩
  refine wp_scope_end rfl rfl fun J' HJ => ?_
  refine wpSpine_seq rfl fun K hK1 => ?_
  refine fw_in h (fw_rg rfl (fw_pu rfl (fw_dn ?_)))
  refine ⟨fun a h => ?_⟩
  refine ow_then (hK1 _ _ ?_)
  refine wpSpine_seq rfl fun K hK2 => ?_
  refine fw_in h (fw_sq (fw_rg rfl ?_))
  iterate 3 refine fw_pu rfl ?_
  refine fw_dt ?_
  rcases Bool.eq_false_or_eq_true ((((l.length : Nat) : Int) == 0)) with hb_3 | hb_3
  · skip
    refine fw_cT rfl hb_3 (fw_go ?_)
    refine ⟨fun a h => ?_⟩
    refine ow_then_goto (ow_jump (HJ _ _ ?_))
    refine fw_in h (fw_sq (fw_rg rfl ?_))
    iterate 4 refine fw_pu rfl ?_
    refine fw_dt (fw_rt ?_)
    refine ⟨fun a h => ?_⟩
    refine ow_nogoto_ret ?_
    have e : meG l = (0, 0, 7) := by have h := beq_iff_eq.1 hb_3; rw [show l = [] from List.eq_nil_of_length_eq_zero (by omega)]; rfl
    exact ow_ret3 rfl h.df (h.g 2 rfl) (h.g 3 rfl) (h.g 4 rfl) ⟨by rw [e]; try (push_cast; rfl), hb0⟩
  refine fw_cF rfl hb_3 (fw_sk ?_)
  refine ⟨fun a h => ?_⟩
  refine ow_then (hK2 _ _ ?_)
  refine wpSpine_seq rfl fun K hK4 => ?_
  refine fw_in h (fw_sq ?_)
  have hne : l ≠ [] := by rintro rfl; exact absurd hb_3 (by decide)
  refine fw_rg rfl (fw_pu rfl (fw_dt (fw_bk ?_)))
  refine fw_lp (fun N K W => ∃ (k : Nat) (acc : Nat), N = 4 - k ∧ k ≤ 4 ∧ acc < 128 ^ k ∧ (k < 4 → meG l = msG k acc (l.drop (k + 1))) ∧ (k = 4 → meG l = (0, 0, 1)) ∧ K = [(0, .slice ad l.length cd), (3, .int .i64 ((acc : Nat) : Int)), (4, .int .i64 7), (10, .int .i64 ((k : Nat) : Int))] ∧ Below w.heap.size w W) _ _ ⟨0, 0, rfl, (by omega), (by decide), (fun _ => me_start hne), (fun h => absurd h (by decide)), rfl, hb0⟩ ⟨rfl, (by first | rfl | (simp only [Look, cond, Nat.beq]; first | rfl | (congr 2; first | rfl | omega | (push_cast; omega)) | (simp; try omega))), rfl, (by first | rfl | (simp only [Look, cond, Nat.beq]; first | rfl | (congr 2; first | rfl | omega | (push_cast; omega)) | (simp; try omega))), trivial⟩ ?_
  rintro N _ W5 ⟨k, acc, rfl, hk, hacc, hinv, hinv4, rfl, bW5⟩
  intro K7 hK7
  refine fw_sq (fw_rg rfl (fw_pu rfl (fw_dt (fw_sq ?_))))
  rcases Bool.eq_false_or_eq_true ((decide (((k : Nat) : Int) < 4))) with hb_8 | hb_8
  · skip
    refine fw_cT rfl hb_8 (fw_sk (fw_th (fw_sq (fw_bk (fw_sq (fw_rg rfl ?_))))))
    iterate 2 refine fw_pu rfl ?_
    refine fw_dt (fw_sq (fw_sq (fw_rg rfl ?_)))
    iterate 3 refine fw_pu rfl ?_
    refine fw_ex 16 (.int .i64 (((k + 2) : Nat) : Int)) rfl rfl rfl (fun a h => (run_binOp (h.ev rfl) (h.ev rfl) (by simp [go_sem]) (addIw _ _ _ _ (by omega) (by omega) (by omega)))) ?_
    refine fw_pu rfl (fw_dt ?_)
    rcases Bool.eq_false_or_eq_true ((decide (((l.length : Nat) : Int) < (((k + 2) : Nat) : Int)))) with hb_9 | hb_9
    · skip
      refine fw_cT rfl hb_9 (fw_go (fw_tg (fw_bg (fw_tg (fw_tg (fw_bg ?_))))))
      refine ⟨fun a h => ?_⟩
      refine ow_then_goto (ow_jump (HJ _ _ ?_))
      refine fw_in h (fw_sq (fw_rg rfl ?_))
      iterate 4 refine fw_pu rfl ?_
      refine fw_dt (fw_rt ?_)
      refine ⟨fun a h => ?_⟩
      refine ow_nogoto_ret ?_
      have e : meG l = (0, 0, 7) := by rw [hinv (by have h := of_decide_eq_true hb_8; omega), List.drop_eq_nil_of_le (by have h := of_decide_eq_true hb_9; omega)]; rfl
      exact ow_ret3 rfl h.df (h.g 2 rfl) (h.g 3 rfl) (h.g 4 rfl) ⟨by rw [e]; try (push_cast; rfl), bW5⟩
    refine fw_cF rfl hb_9 (fw_sk (fw_th (fw_sq ?_)))
    have hk4 : k < 4 := by have h := of_decide_eq_true hb_8; omega
    have hkL : k + 1 < l.length := by have h := of_decide_eq_false hb_9; omega
    obtain ⟨x, hx⟩ : ∃ x, l[k + 1]? = some x := ⟨_, List.getElem?_eq_getElem hkL⟩
    obtain ⟨bP, oP, haP, hbP, hcP⟩ := sl_at hs hx
    have hx128 : x.toNat % 128 < 128 := Nat.mod_lt _ (by decide)
    have hx256 := x.toNat_lt
    have hms := ms_at (acc := acc) hx
    have hin := hinv hk4
    refine fw_rg rfl ?_
    iterate 2 refine fw_pu rfl ?_
    refine fw_ex 20 (.int .i64 (((k + 1) : Nat) : Int)) rfl rfl rfl (fun a h => (run_binOp (h.ev rfl) (h.ev rfl) (by simp [go_sem]) (addIw _ _ _ _ (by omega) (by omega) (by omega)))) ?_
    refine fw_ex 21 (.pointer (some ⟨bP, (oP + (k + 1)), none⟩)) rfl rfl rfl (fun a h => (run_indexOp (h.ev rfl) (h.ev rfl) (by rw [haP]; exact idxU8 _ _ _ _ _ hkL _))) ?_
    refine fw_ex 22 ((B8 x)) rfl rfl rfl (fun a h => (run_loadOp (h.ev rfl) (ldU8 ((Below.cell bW5 (p := ⟨bP, oP + (k + 1), none⟩) hbP).trans hcP)))) ?_
    refine fw_ex 23 (.int .i64 ((x.toNat : Nat) : Int)) rfl rfl rfl (fun a h => (run_convOp (h.ev rfl) (cvU8i _ _))) (fw_pu rfl (fw_dt (fw_sq (fw_rg rfl ?_))))
    iterate 2 refine fw_pu rfl ?_
    refine fw_ex 26 (.int .i64 (((x.toNat % 128) : Nat) : Int)) rfl rfl rfl (fun a h => (run_binOp (h.ev rfl) (h.ev rfl) (by simp [go_sem]) (remN _ _ (by omega)))) ?_
    refine fw_pu rfl ?_
    refine fw_ex 28 (.int .i64 (((7 * k) : Nat) : Int)) rfl rfl rfl (fun a h => (run_binOp (h.ev rfl) (h.ev rfl) (by simp [go_sem]) (mulIw _ _ _ _ (by omega) (by omega) (by omega)))) ?_
    refine fw_ex 29 (.int .i64 (((x.toNat % 128 * 128 ^ k) : Nat) : Int)) rfl rfl rfl (fun a h => (run_binOp (h.ev rfl) (h.ev rfl) (by simp [go_sem]) (shlK _ _ hk4 hx128 _))) ?_
    refine fw_ex 30 (.int .i64 (((acc + x.toNat % 128 * 128 ^ k) : Nat) : Int)) rfl rfl rfl (fun a h => (run_binOp (h.ev rfl) (h.ev rfl) (by simp [go_sem]) (by rw [orI, orS _ _ _ hk4 hacc hx128]))) ?_
    refine fw_pu rfl (fw_dt (fw_sq (fw_sq (fw_rg rfl ?_))))
    iterate 3 refine fw_pu rfl ?_
    rcases Bool.eq_false_or_eq_true ((decide (((x.toNat : Nat) : Int) < 128))) with hb_10 | hb_10
    · skip
      refine fw_kn 33 rfl hb_10 ?_
      iterate 3 refine fw_pu rfl ?_
      rcases Bool.eq_false_or_eq_true ((decide (0 < ((x.toNat : Nat) : Int)))) with hb_11 | hb_11
      · skip
        refine fw_kn 36 rfl hb_11 ?_
        iterate 4 refine fw_pu rfl ?_
        refine fw_dt (fw_cT rfl rfl (fw_sq (fw_rg rfl (fw_pu rfl ?_))))
        refine fw_ex 42 (.int .i64 (((k + 2) : Nat) : Int)) rfl rfl rfl (fun a h => (run_binOp (h.ev rfl) (h.ev rfl) (by simp [go_sem]) (addIw _ _ _ _ (by omega) (by omega) (by omega)))) ?_
        iterate 4 refine fw_pu rfl ?_
        refine fw_dt (fw_rt (fw_tr (fw_br ?_)))
        iterate 2 refine fw_tr ?_
        refine fw_br ?_
        refine ⟨fun a h => ?_⟩
        refine ow_then_ret (ow_jump_ret ?_)
        have e : meG l = (k + 2, acc + x.toNat % 128 * 128 ^ k, 0) := by rw [hin, hms, if_pos (by have h := of_decide_eq_true hb_10; omega), if_pos (.inl (by have h := of_decide_eq_true hb_11; omega)), Nat.mod_eq_of_lt (by have h := of_decide_eq_true hb_10; omega)]
        exact ow_ret3 rfl h.df (h.g 2 rfl) (h.g 3 rfl) (h.g 4 rfl) ⟨by rw [e]; try (push_cast; rfl), bW5⟩
      refine fw_kn 36 rfl hb_11 ?_
      iterate 4 refine fw_pu rfl ?_
      refine fw_dt ?_
      rcases Bool.eq_false_or_eq_true ((((k : Nat) : Int) == 0)) with hb_12 | hb_12
      · skip
        refine fw_cT rfl hb_12 (fw_sq (fw_rg rfl (fw_pu rfl ?_)))
        refine fw_ex 42 (.int .i64 (((k + 2) : Nat) : Int)) rfl rfl rfl (fun a h => (run_binOp (h.ev rfl) (h.ev rfl) (by simp [go_sem]) (addIw _ _ _ _ (by omega) (by omega) (by omega)))) ?_
        iterate 4 refine fw_pu rfl ?_
        refine fw_dt (fw_rt (fw_tr (fw_br ?_)))
        iterate 2 refine fw_tr ?_
        refine fw_br ?_
        refine ⟨fun a h => ?_⟩
        refine ow_then_ret (ow_jump_ret ?_)
        have e : meG l = (k + 2, acc + x.toNat % 128 * 128 ^ k, 0) := by rw [hin, hms, if_pos (by have h := of_decide_eq_true hb_10; omega), if_pos (.inr (by have h := beq_iff_eq.1 hb_12; omega)), Nat.mod_eq_of_lt (by have h := of_decide_eq_true hb_10; omega)]
        exact ow_ret3 rfl h.df (h.g 2 rfl) (h.g 3 rfl) (h.g 4 rfl) ⟨by rw [e]; try (push_cast; rfl), bW5⟩
      refine fw_cF rfl hb_12 (fw_sk (fw_th (fw_sq (fw_rg rfl ?_))))
      iterate 2 refine fw_pu rfl ?_
      refine fw_dt (fw_cT rfl hb_10 (fw_xt ?_))
      refine fw_bf (by decide) ?_
      refine fw_te (fw_te (fw_be ?_))
      refine ⟨fun a h => ?_⟩
      refine ow_then (hK4 _ _ ?_)
      refine wpSpine_seq rfl fun K hK13 => ?_
      refine fw_in h (fw_rg rfl (fw_pu rfl (fw_dn ?_)))
      refine ⟨fun a h => ?_⟩
      refine ow_then (hK13 _ _ ?_)
      refine wpSpine_label (HJ _ _ ?_)
      refine fw_in h (fw_sq (fw_rg rfl ?_))
      iterate 4 refine fw_pu rfl ?_
      refine fw_dt (fw_rt ?_)
      refine ⟨fun a h => ?_⟩
      refine ow_nogoto_ret ?_
      have e : meG l = (0, 0, 1) := by rw [hin, hms, if_pos (by have h := of_decide_eq_true hb_10; omega), if_neg (by rintro (h1 | h1); have h := of_decide_eq_false hb_11; omega; exact absurd (beq_iff_eq.2 (show (((k : Nat) : Int) : Int) = 0 by omega)) (by rw [hb_12]; simp))]
      exact ow_ret3 rfl h.df (h.g 2 rfl) (h.g 3 rfl) (h.g 4 rfl) ⟨by rw [e]; try (push_cast; rfl), bW5⟩
    refine fw_kn 33 rfl hb_10 ?_
    iterate 7 refine fw_pu rfl ?_
    refine fw_dt (fw_cF rfl rfl (fw_sk (fw_th (fw_sq (fw_rg rfl ?_)))))
    iterate 2 refine fw_pu rfl ?_
    refine fw_dt (fw_cF rfl hb_10 (fw_sk (fw_bn (fw_th (fw_rg rfl ?_)))))
    refine fw_ex 46 (.int .i64 (((k + 1) : Nat) : Int)) rfl rfl rfl (fun a h => (run_binOp (h.ev rfl) (h.ev rfl) (by simp [go_sem]) (addIw _ _ _ _ (by omega) (by omega) (by omega)))) ?_
    refine fw_pu rfl (fw_dn ?_)
    exact fw_th (fw_gf (hK7 _ _ _ (by omega) ⟨(k + 1), (acc + x.toNat % 128 * 128 ^ k), rfl, (by omega), (pow_step hacc hx128), (fun h => by have h9 := of_decide_eq_false hb_10; rw [hin, hms, if_neg (by omega), if_neg (by omega), show x.toNat - 128 = x.toNat % 128 by omega]), (fun h => by rw [hin, hms, if_neg (by have h := of_decide_eq_false hb_10; omega), if_pos (by omega)]), rfl, bW5⟩) ⟨rfl, (by first | rfl | (simp only [Look, cond, Nat.beq]; first | rfl | (congr 2; first | rfl | omega | (push_cast; omega)) | (simp; try omega))), rfl, (by first | rfl | (simp only [Look, cond, Nat.beq]; first | rfl | (congr 2; first | rfl | omega | (push_cast; omega)) | (simp; try omega))), trivial⟩)
  refine fw_cF rfl hb_8 (fw_xt (fw_te (fw_te (fw_be ?_))))
  refine ⟨fun a h => ?_⟩
  refine ow_then (hK4 _ _ ?_)
  refine wpSpine_seq rfl fun K hK14 => ?_
  refine fw_in h (fw_rg rfl (fw_pu rfl (fw_dn ?_)))
  refine ⟨fun a h => ?_⟩
  refine ow_then (hK14 _ _ ?_)
  refine wpSpine_label (HJ _ _ ?_)
  refine fw_in h (fw_sq (fw_rg rfl ?_))
  iterate 4 refine fw_pu rfl ?_
  refine fw_dt (fw_rt ?_)
  refine ⟨fun a h => ?_⟩
  refine ow_nogoto_ret ?_
  have e : meG l = (0, 0, 1) := hinv4 (by have h := of_decide_eq_false hb_8; omega)
  exact ow_ret3 rfl h.df (h.g 2 rfl) (h.g 3 rfl) (h.g 4 rfl) ⟨by rw [e]; try (push_cast; rfl), bW5⟩
theorem rdS_le (l : List UInt8) : (rdS l).size ≤ l.length := by
  unfold rdS
  show ((l.drop 2).take (ofv (l.take 2)).toNat).toArray.size ≤ _
  simp; omega
theorem rdR_le (l : List UInt8) : (rdR l).length ≤ l.length := by unfold rdR; simp
section
variable {f : Int} {m : Mq} {l : List UInt8}
theorem zM_far (k : Int) : (zM k).Far := ⟨Nat.zero_le _, Nat.zero_le _, Nat.zero_le _, Nat.zero_le _, Nat.zero_le _, Nat.zero_le _, Nat.zero_le _, Nat.zero_le _, Nat.zero_le _, Nat.zero_le _, (fun _ h => nomatch h), (fun _ h => nomatch h)⟩
theorem far4 (h : m.Far) (hl : l.length ≤ far) : (cnD4 f m l).Far := by
  unfold cnD4; split
  · exact ⟨h.cl, h.wT, h.wP, h.us, Nat.le_trans (rdS_le l) hl, h.cs, h.top, h.pay, h.ws, h.fs, h.wsf, h.fsf⟩
  · exact h
theorem far3 (h : m.Far) (hl : l.length ≤ far) : (cnD3 f m l).Far := by
  unfold cnD3; split
  · exact far4 ⟨h.cl, h.wT, h.wP, Nat.le_trans (rdS_le l) hl, h.pa, h.cs, h.top, h.pay, h.ws, h.fs, h.wsf, h.fsf⟩ (Nat.le_trans (rdR_le l) hl)
  · exact far4 h hl
theorem far2 (h : m.Far) (hl : l.length ≤ far) : (cnD2 f m l).Far := by
  unfold cnD2; split
  · exact far3 ⟨h.cl, Nat.le_trans (rdS_le l) hl, Nat.le_trans (rdS_le _) (Nat.le_trans (rdR_le l) hl), h.us, h.pa, h.cs, h.top, h.pay, h.ws, h.fs, h.wsf, h.fsf⟩ (Nat.le_trans (rdR_le _) (Nat.le_trans (rdR_le l) hl))
  · exact far3 h hl
theorem dropf (n : Nat) (hl : l.length ≤ far) : (l.drop n).length ≤ far := by rw [List.length_drop]; exact Nat.le_trans (Nat.sub_le _ _) hl
theorem far_cn (hl : l.length ≤ far) : (cnD l).Far := by
  have hr := Nat.le_trans (rdR_le l) hl
  unfold cnD
  split
  · split
    · have z := zM_far 1
      have h2 := dropf 2 (dropf 1 (dropf 1 hr))
      exact far2 ⟨Nat.le_trans (rdS_le _) h2, z.wT, z.wP, z.us, z.pa, z.cs, z.top, z.pay, z.ws, z.fs, z.wsf, z.fsf⟩ (Nat.le_trans (rdR_le _) h2)
    · exact zM_far 0
  · exact zM_far 0
theorem far_pb (hl : l.length ≤ far) : (pbD f l).Far := by
  have z := zM_far 3
  have hr := Nat.le_trans (rdR_le l) hl
  unfold pbD
  split
  · exact ⟨z.cl, z.wT, z.wP, z.us, z.pa, z.cs, Nat.le_trans (rdS_le _) hl, by show (((rdR l).drop 2).toArray).size ≤ _; have := dropf 2 hr; simpa using this, z.ws, z.fs, z.wsf, z.fsf⟩
  · exact ⟨z.cl, z.wT, z.wP, z.us, z.pa, z.cs, Nat.le_trans (rdS_le _) hl, by show ((rdR l).toArray).size ≤ _; simpa using hr, z.ws, z.fs, z.wsf, z.fsf⟩
theorem lsW_far : ∀ (n : Nat) (l : List UInt8), l.length ≤ far → (lsW n l).length ≤ n ∧ ∀ s ∈ lsW n l, s.f.size ≤ far
  | 0, _, _ => ⟨Nat.le_refl _, fun _ h => nomatch h⟩
  | _ + 1, [], _ => ⟨Nat.zero_le _, fun _ h => nomatch h⟩
  | n + 1, x :: t, hl => by
    obtain ⟨h1, h2⟩ := lsW_far n ((rdR (x :: t)).drop 1) (dropf 1 (Nat.le_trans (rdR_le _) hl))
    refine ⟨by show (lsW n _).length + 1 ≤ _; omega, fun s hs => ?_⟩
    rcases List.mem_cons.1 hs with rfl | hs
    · exact Nat.le_trans (rdS_le _) hl
    · exact h2 s hs
theorem lsC_far : ∀ (n : Nat) (l : List UInt8), (lsC n l).length ≤ n
  | 0, _ => Nat.le_refl _
  | _ + 1, [] => Nat.zero_le _
  | n + 1, _ :: t => by have := lsC_far n t; show (lsC n t).length + 1 ≤ _; omega
theorem lsF_far : ∀ (n : Nat) (l : List UInt8), l.length ≤ far → (lsF n l).length ≤ n ∧ ∀ s ∈ lsF n l, s.size ≤ far
  | 0, _, _ => ⟨Nat.le_refl _, fun _ h => nomatch h⟩
  | _ + 1, [], _ => ⟨Nat.zero_le _, fun _ h => nomatch h⟩
  | n + 1, x :: t, hl => by
    obtain ⟨h1, h2⟩ := lsF_far n (rdR (x :: t)) (Nat.le_trans (rdR_le _) hl)
    refine ⟨by show (lsF n _).length + 1 ≤ _; omega, fun s hs => ?_⟩
    rcases List.mem_cons.1 hs with rfl | hs
    · exact Nat.le_trans (rdS_le _) hl
    · exact h2 s hs
theorem nine_far {n : Nat} (h : n ≤ 9) : n ≤ far := Nat.le_trans h (by decide)
theorem dc_far (hl : l.length ≤ far) : (dcG f l).Far := by
  have hd := dropf 2 hl
  unfold dcG
  split
  · exact far_cn hl
  split
  · have z := zM_far 2; exact ⟨z.cl, z.wT, z.wP, z.us, z.pa, z.cs, z.top, z.pay, z.ws, z.fs, z.wsf, z.fsf⟩
  split
  · exact far_pb hl
  split
  · have z := zM_far (f / 16); exact ⟨z.cl, z.wT, z.wP, z.us, z.pa, z.cs, z.top, z.pay, z.ws, z.fs, z.wsf, z.fsf⟩
  split
  · have z := zM_far 8; have g := lsW_far 9 _ hd; exact ⟨z.cl, z.wT, z.wP, z.us, z.pa, z.cs, z.top, z.pay, nine_far g.1, z.fs, g.2, z.fsf⟩
  split
  · have z := zM_far 9; exact ⟨z.cl, z.wT, z.wP, z.us, z.pa, nine_far (lsC_far 9 _), z.top, z.pay, z.ws, z.fs, z.wsf, z.fsf⟩
  split
  · have z := zM_far 10; have g := lsF_far 9 _ hd; exact ⟨z.cl, z.wT, z.wP, z.us, z.pa, z.cs, z.top, z.pay, z.ws, nine_far g.1, z.wsf, g.2⟩
  · exact zM_far _
end
section
variable {l : List UInt8} {H N : Nat} {E : Int} {x : UInt8} {d : Mq}
theorem me_zero {l : List UInt8} (h : meG l = (H, N, 0)) : ∃ x t, l = x :: t ∧ msG 0 0 t = (H, N, 0) := by
  match l, h with
  | x :: t, h => exact ⟨x, t, rfl, h⟩
theorem pa_e1 (h : meG l = (H, N, E)) (hE : E ≠ 0) : paG l = (zM 0, 0, E) := by
  match l, h with
  | [], h => injection h with h1 h2; injection h2 with h2 h3; subst h3; rfl
  | x :: t, h =>
    have h' : msG 0 0 t = (H, N, E) := h
    unfold paG parG
    dsimp only
    rw [h']
    exact if_neg hE
theorem pa_e2 (h : meG l = (H, N, 0)) (h1 : 1024 < H + N) : paG l = (zM 0, 0, 2) := by
  obtain ⟨x, t, rfl, h'⟩ := me_zero h
  unfold paG parG
  dsimp only
  rw [h']
  dsimp only
  rw [if_pos rfl]
  exact if_pos h1
theorem pa_e3 (h : meG l = (H, N, 0)) (h1 : ¬ 1024 < H + N) (h2 : l.length < H + N) : paG l = (zM 0, 0, 7) := by
  obtain ⟨x, t, rfl, h'⟩ := me_zero h
  unfold paG parG
  dsimp only
  rw [h']
  dsimp only
  rw [if_pos rfl]
  exact (if_neg h1).trans (if_pos h2)
theorem pa_e4 (h : meG l = (H, N, 0)) (h1 : ¬ 1024 < H + N) (h2 : ¬ l.length < H + N) (hx : l[0]? = some x) (hd : d = dcG ((x.toNat : Nat) : Int) ((l.take (H + N)).drop H)) : paG l = if mayG d = true ∧ enG d = l.take (H + N) then (d, H + N, 0) else (zM 0, 0, 1) := by
  obtain ⟨y, t, rfl, h'⟩ := me_zero h
  injection hx with hx
  subst hx
  have hlen : ((y :: t).take (H + N)).length = H + N := by rw [List.length_take]; omega
  unfold paG parG
  dsimp only
  rw [h']
  dsimp only
  rw [if_pos rfl]
  refine (if_neg h1).trans ((if_neg h2).trans ?_)
  dsimp only
  rw [← hd]
  unfold ckG
  rw [hlen]
  by_cases hc : mayG d = true ∧ enG d = (y :: t).take (H + N)
  · rw [if_pos hc, if_pos (by simp [hc.1, hc.2])]
  · rw [if_neg hc, if_neg (by simpa using hc)]
theorem me_bd (h : meG l = (H, N, E)) : H ≤ 5 ∧ N < 268435456 := by
  have key : ∀ (t : List UInt8) (k acc : Nat), k ≤ 3 → acc < 128 ^ k → (msG k acc t).1 ≤ 5 ∧ (msG k acc t).2.1 < 268435456 := by
    intro t
    induction t with
    | nil => intro k acc _ _; exact ⟨Nat.zero_le _, show 0 < 268435456 by decide⟩
    | cons y s ih =>
      intro k acc hk ha
      unfold msG
      split
      · rename_i hy
        split
        · refine ⟨by show k + 2 ≤ 5; omega, ?_⟩
          have h1 := pow_step ha hy
          have h2 : (128 : Nat) ^ (k + 1) ≤ 128 ^ 4 := Nat.pow_le_pow_right (by decide) (by omega)
          show acc + y.toNat * 128 ^ k < _
          omega
        · exact ⟨by decide, by decide⟩
      · split
        · exact ⟨by decide, by decide⟩
        · have := y.toNat_lt
          exact ih _ _ (by omega) (pow_step ha (by omega))
  match l, h with
  | [], h => injection h with h1 h2; injection h2 with h2 h3; omega
  | x :: t, h =>
    have h' : msG 0 0 t = (H, N, E) := h
    have := key t 0 0 (by decide) (by decide)
    rw [h'] at this
    exact this
theorem me_H (h : meG l = (H, N, 0)) : 2 ≤ H := by
  obtain ⟨x, t, -, h'⟩ := me_zero h
  have : ∀ (t : List UInt8) (k acc : Nat), msG k acc t = (H, N, 0) → k + 2 ≤ H := by
    intro t
    induction t with
    | nil => intro k acc h; injection h with h1 h2; injection h2 with h2 h3; exact absurd h3 (by decide)
    | cons y s ih =>
      intro k acc h
      unfold msG at h
      split at h
      · split at h
        · injection h with h1 h2; omega
        · injection h with h1 h2; injection h2 with h2 h3; exact absurd h3 (by decide)
      · split at h
        · injection h with h1 h2; injection h2 with h2 h3; exact absurd h3 (by decide)
        · have := ih _ _ h; omega
  have := this t 0 0 h'
  omega
end
theorem slc2 (b o n c H N B : Nat) (w : World) (hB : B = N) (h2 : H + N ≤ c) (h3 : c ≤ 9223372036854775807) : (Instr.sliceAt 31 (.slice (some ⟨b, o, none⟩) n c) (some (.int .i64 (H : Int))) (some (.int .i64 ((H + N : Nat) : Int))) none).run Tryd.prog w = .ok (.slice (adrAt b o c H) B (c - H)) w := by
  have := run_slice2 b o n c H (H + N) w (by omega) h2 h3
  rw [this, hB, Nat.add_sub_cancel_left]
theorem slc1 (b o n c H N B : Nat) (w : World) (hB : B = H + N) (h2 : H + N ≤ c) (h3 : c ≤ 9223372036854775807) : (Instr.sliceAt 31 (.slice (some ⟨b, o, none⟩) n c) none (some (.int .i64 ((H + N : Nat) : Int))) none).run Tryd.prog w = .ok (.slice (some ⟨b, o, none⟩) B c) w := by
  rw [run_slice1 b o n c (H + N) w h2 h3, hB]
theorem sl_cap {W : World} {a : Option Addr} {n c : Nat} {l : List UInt8} (h : Sl W (.slice a n c) l) : n = l.length ∧ n ≤ c ∧ c ≤ 9223372036854775807 := by
  obtain ⟨ao, cap, hv, h1, h2, -⟩ := h
  injection hv with e1 e2 e3
  subst e2 e3
  exact ⟨rfl, h1, by simpa [maxLen] using h2⟩
set_option maxRecDepth 100000 in
set_option maxHeartbeats 4000000 in
theorem parseG {w : World} {cd : Nat} {ad : Option Addr} {l : List UInt8} (hs : Sl w (.slice ad l.length cd) l) (hl : l.length ≤ 100000) (hT : Tabs w) :
    Calls Tryd.prog 16 #[.slice ad l.length cd] w fun e w' => ∃ ac cc aw cw af cf, e = .returned (.tuple #[(paG l).1.val (.slice ac (paG l).1.cs.length cc) (.slice aw (paG l).1.ws.length cw) (.slice af (paG l).1.fs.length cf), .int .i64 ((paG l).2.1 : Int), .int .i64 (paG l).2.2]) ∧ OL3 w' w.heap.size ac cc aw cw af cf (paG l).1 ∧ Below w.heap.size w w' := by
  have hb0 := Below.refl w.heap.size w
  obtain ⟨H, N, E, hM⟩ : ∃ H N E, meG l = (H, N, E) := ⟨_, _, _, rfl⟩
  have hHN := me_bd hM
  refine fw_en 60 [(0, .slice ad l.length cd)] Tryd.func16 rfl Tryd.ntmps16 rfl ⟨rfl, trivial⟩ ?_
  refine fw_sq (fw_rg rfl ?_)
  refine fw_al (t := 30) (u := fun q => .pointer (some ⟨q, 0, none⟩)) 2 [.int .i64 0, .string { data := #[] }, .bool false, .int .i64 0, .bool false, .string { data := #[] }, .string { data := #[] }, .int .i64 0, .bool false, .string { data := #[] }, .bool false, .string { data := #[] }, .bool false, .bool false, .int .i64 0, .slice none 0 0, .bool false, .int .i64 0, .bool false, .string { data := #[] }, .int .i64 0, .string { data := #[] }, .slice none 0 0, .slice none 0 0] rfl rfl rfl (fun a h => (run_allocOp (by simp [go_sem, Instr.alloc]))) ?_
  intro q1 W2 g5 s3 r4
  have := Nat.le_trans hb0.size g5
  have b6 := hb0.trans (s3.mono hb0.size)
  iterate 2 refine fw_pu rfl ?_
  refine fw_dt ?_
  refine ⟨fun a h => ?_⟩
  refine wp_scope_end rfl rfl fun J' HJ => ?_
  refine wpSpine_seq rfl fun K hK7 => ?_
  refine fw_in h (fw_rg rfl ?_)
  iterate 2 refine fw_pu rfl ?_
  refine fw_dn ?_
  refine ⟨fun a h => ?_⟩
  refine ow_then (hK7 _ _ ?_)
  refine wpSpine_seq rfl fun K hK8 => ?_
  refine fw_in h (fw_rg rfl (fw_pu rfl (fw_dn ?_)))
  refine ⟨fun a h => ?_⟩
  refine ow_then (hK8 _ _ ?_)
  refine wpSpine_seq rfl fun K hK9 => ?_
  refine fw_in h (fw_rg rfl (fw_pu rfl ?_))
  refine fw_ca Tryd.func37 rfl rfl rfl (by have h := measureG (hs.below b6) hl; rw [hM] at h; dsimp only at h; exact h) ?_
  rintro _ V11 ⟨rfl, hb10⟩
  refine ⟨_, rfl, ?_⟩
  have b12 := b6.trans (hb10.mono b6.size)
  have r13 := r4.below hb10
  iterate 7 refine fw_pu rfl ?_
  refine fw_dn ?_
  refine ⟨fun a h => ?_⟩
  refine ow_then (hK9 _ _ ?_)
  refine wpSpine_seq rfl fun K hK14 => ?_
  refine fw_in h (fw_sq (fw_rg rfl ?_))
  iterate 2 refine fw_pu rfl ?_
  refine fw_dt ?_
  rcases Bool.eq_false_or_eq_true ((E == 0)) with hb_15 | hb_15
  · skip
    refine fw_cF rfl (not_of hb_15) (fw_sk ?_)
    refine ⟨fun a h => ?_⟩
    refine ow_then (hK14 _ _ ?_)
    refine wpSpine_seq rfl fun K hK16 => ?_
    refine fw_in h (fw_rg rfl (fw_pu rfl (fw_dn ?_)))
    refine ⟨fun a h => ?_⟩
    refine ow_then (hK16 _ _ ?_)
    refine wpSpine_seq rfl fun K hK17 => ?_
    refine fw_in h (fw_sq (fw_rg rfl ?_))
    iterate 2 refine fw_pu rfl ?_
    refine fw_ex 18 (.int .i64 (((H + N) : Nat) : Int)) rfl rfl rfl (fun a h => (run_binOp (h.ev rfl) (h.ev rfl) (by simp [go_sem]) (addIw _ _ _ _ (by omega) (by omega) (by omega)))) ?_
    refine fw_pu rfl (fw_dt ?_)
    rcases Bool.eq_false_or_eq_true ((decide (1024 < (((H + N) : Nat) : Int)))) with hb_18 | hb_18
    · skip
      refine fw_cT rfl hb_18 (fw_go ?_)
      refine ⟨fun a h => ?_⟩
      refine ow_then_goto (ow_jump (HJ _ _ ?_))
      refine fw_in h (fw_sq (fw_rg rfl ?_))
      refine fw_ex 58 (.agg #[.int .i64 0, .string { data := #[] }, .bool false, .int .i64 0, .bool false, .string { data := #[] }, .string { data := #[] }, .int .i64 0, .bool false, .string { data := #[] }, .bool false, .string { data := #[] }, .bool false, .bool false, .int .i64 0, .slice none 0 0, .bool false, .int .i64 0, .bool false, .string { data := #[] }, .int .i64 0, .string { data := #[] }, .slice none 0 0, .slice none 0 0]) rfl rfl rfl (fun a h => (run_buildOp (vs := #[]) (by simp) (by kernel_rfl))) ?_
      refine fw_pu rfl (fw_st r13 rfl rfl ?_)
      intro W19 s20 r21
      have b22 := below_chg b12 s20 (by omega) b12.size
      iterate 2 refine fw_pu rfl ?_
      refine fw_dt (fw_rt ?_)
      refine ⟨fun a h => ?_⟩
      refine ow_nogoto_ret ?_
      have e : paG l = (zM 0, 0, 2) := pa_e2 (by rw [hM, beq_iff_eq.1 hb_15]) (by have h := of_decide_eq_true hb_18; omega)
      exact ow_retCell2 rfl h.df (h.g 2 rfl) (ldMq r21) (h.g 3 rfl) (h.g 4 rfl) ⟨none, 0, none, 0, none, 0, by rw [e]; first | done | rfl, by rw [e]; exact OL3.nil _ _ ⟨rfl, rfl, rfl⟩, b22⟩
    refine fw_cF rfl hb_18 (fw_sk ?_)
    refine ⟨fun a h => ?_⟩
    refine ow_then (hK17 _ _ ?_)
    refine wpSpine_seq rfl fun K hK23 => ?_
    refine fw_in h (fw_rg rfl (fw_pu rfl (fw_dn ?_)))
    refine ⟨fun a h => ?_⟩
    refine ow_then (hK23 _ _ ?_)
    refine wpSpine_seq rfl fun K hK24 => ?_
    refine fw_in h (fw_sq (fw_rg rfl ?_))
    iterate 4 refine fw_pu rfl ?_
    refine fw_ex 24 (.int .i64 (((H + N) : Nat) : Int)) rfl rfl rfl (fun a h => (run_binOp (h.ev rfl) (h.ev rfl) (by simp [go_sem]) (addIw _ _ _ _ (by omega) (by omega) (by omega)))) ?_
    refine fw_pu rfl (fw_dt ?_)
    rcases Bool.eq_false_or_eq_true ((decide (((l.length : Nat) : Int) < (((H + N) : Nat) : Int)))) with hb_25 | hb_25
    · skip
      refine fw_cT rfl hb_25 (fw_go ?_)
      refine ⟨fun a h => ?_⟩
      refine ow_then_goto (ow_jump (HJ _ _ ?_))
      refine fw_in h (fw_sq (fw_rg rfl ?_))
      refine fw_ex 58 (.agg #[.int .i64 0, .string { data := #[] }, .bool false, .int .i64 0, .bool false, .string { data := #[] }, .string { data := #[] }, .int .i64 0, .bool false, .string { data := #[] }, .bool false, .string { data := #[] }, .bool false, .bool false, .int .i64 0, .slice none 0 0, .bool false, .int .i64 0, .bool false, .string { data := #[] }, .int .i64 0, .string { data := #[] }, .slice none 0 0, .slice none 0 0]) rfl rfl rfl (fun a h => (run_buildOp (vs := #[]) (by simp) (by kernel_rfl))) ?_
      refine fw_pu rfl (fw_st r13 rfl rfl ?_)
      intro W26 s27 r28
      have b29 := below_chg b12 s27 (by omega) b12.size
      iterate 2 refine fw_pu rfl ?_
      refine fw_dt (fw_rt ?_)
      refine ⟨fun a h => ?_⟩
      refine ow_nogoto_ret ?_
      have e : paG l = (zM 0, 0, 7) := pa_e3 (by rw [hM, beq_iff_eq.1 hb_15]) (by have h := of_decide_eq_false hb_18; omega) (by have h := of_decide_eq_true hb_25; omega)
      exact ow_retCell2 rfl h.df (h.g 2 rfl) (ldMq r28) (h.g 3 rfl) (h.g 4 rfl) ⟨none, 0, none, 0, none, 0, by rw [e]; first | done | rfl, by rw [e]; exact OL3.nil _ _ ⟨rfl, rfl, rfl⟩, b29⟩
    refine fw_cF rfl hb_25 (fw_sk ?_)
    refine ⟨fun a h => ?_⟩
    refine ow_then (hK24 _ _ ?_)
    refine wpSpine_seq rfl fun K hK30 => ?_
    refine fw_in h ?_
    have hE0 : E = 0 := beq_iff_eq.1 hb_15
    subst hE0
    have hn1 : ¬ 1024 < H + N := by have h := of_decide_eq_false hb_18; omega
    have hn2 : ¬ l.length < H + N := by have h := of_decide_eq_false hb_25; omega
    have hH2 := me_H hM
    obtain ⟨x, hx⟩ : ∃ x, l[0]? = some x := ⟨_, List.getElem?_eq_getElem (show 0 < l.length by omega)⟩
    obtain ⟨bP, oP, haP, hbP, hcP⟩ := sl_at hs hx
    subst haP
    have hcap := sl_cap hs
    have hx256 := x.toNat_lt
    obtain ⟨body, hbody⟩ : ∃ y, y = (l.take (H + N)).drop H := ⟨_, rfl⟩
    have hbl : body.length = N := by rw [hbody, List.length_drop, List.length_take]; omega
    have hsB : SlN w (.slice (adrAt bP oP cd H) body.length (cd - H)) body := by have g := SlN.at2 hs H (H + N) (by omega) (by omega); rw [hbl, hbody, List.drop_take]; rw [Nat.add_sub_cancel_left] at g ⊢; exact g
    have hsT : Sl w (.slice (some ⟨bP, oP, none⟩) (l.take (H + N)).length cd) (l.take (H + N)) := by have g := hs.prefix (H + N) (by omega); rw [show (l.take (H + N)).length = H + N by rw [List.length_take]; omega]; exact g
    refine fw_hr (fun X => Below w.heap.size w X) (by kernel_rfl) 12 rfl ?_
    intro W31 s32
    have b33 := b12.trans (s32.mono b12.size)
    have r34 := r13.below s32
    refine ⟨b33, ?_⟩
    refine fw_tk 0 rfl rfl (by kernel_rfl) (fun _ _ _ _ _ h => h) ?_
    refine fw_tx 1 27 (.pointer (some ⟨bP, (oP + 0), none⟩)) rfl rfl rfl rfl (fun a h W hW => by have b33 := hW; exact (run_indexOp (h.ev rfl) (h.ev rfl) (idxU8 _ _ _ _ 0 (by omega) _))) (by kernel_rfl) (fun _ _ _ _ _ h => h) ?_
    refine fw_tx 2 28 ((B8 x)) rfl rfl rfl rfl (fun a h W hW => by have b33 := hW; exact (run_loadOp (h.ev rfl) (ldU8 ((Below.cell b33 (p := ⟨bP, oP + 0, none⟩) hbP).trans hcP)))) (by kernel_rfl) (fun _ _ _ _ _ h => h) ?_
    refine fw_tx 3 29 (.int .i64 ((x.toNat : Nat) : Int)) rfl rfl rfl rfl (fun a h W hW => by have b33 := hW; exact (run_convOp (h.ev rfl) (cvU8i _ _))) (by kernel_rfl) (fun _ _ _ _ _ h => h) ?_
    refine fw_tk 4 rfl rfl (by kernel_rfl) (fun _ _ _ _ _ h => h) ?_
    refine fw_tk 5 rfl rfl (by kernel_rfl) (fun _ _ _ _ _ h => h) ?_
    refine fw_tk 6 rfl rfl (by kernel_rfl) (fun _ _ _ _ _ h => h) ?_
    refine fw_tk 7 rfl rfl (by kernel_rfl) (fun _ _ _ _ _ h => h) ?_
    refine fw_tx 8 34 (.int .i64 (((H + N) : Nat) : Int)) rfl rfl rfl rfl (fun a h W hW => by have b33 := hW; exact (run_binOp (h.ev rfl) (h.ev rfl) (by simp [go_sem]) (addIw _ _ _ _ (by omega) (by omega) (by omega)))) (by kernel_rfl) (fun _ _ _ _ _ h => h) ?_
    refine fw_tx 9 35 (.slice (adrAt bP oP cd H) body.length (cd - H)) rfl rfl rfl rfl (fun a h W hW => by have b33 := hW; exact (run_sliceOp2 (h.ev rfl) (h.ev rfl) (h.ev rfl) (slc2 _ _ _ _ _ _ _ _ hbl (by omega) hcap.2.2))) (by kernel_rfl) (fun _ _ _ _ _ h => h) ?_
    refine fw_o1 10 (by kernel_rfl) ?_
    refine fw_oc rfl Tryd.func38 rfl rfl rfl (decG _ (by omega) ⟨hsB.1.below b33, hsB.2⟩) ?_
    rintro _ VD ⟨acd, ccd, awd, cwd, afd, cfd, rfl, hLd, hbD⟩
    refine ⟨_, rfl, ?_⟩
    have hq1 : q1 < W31.heap.size := r34.2.2
    have hw9 : w.heap.size ≤ W31.heap.size := b33.size
    obtain ⟨d, hd⟩ : ∃ y, y = dcG ((x.toNat : Nat) : Int) body := ⟨_, rfl⟩
    rw [← hd] at hLd ⊢
    have hFd : d.Far := by rw [hd]; exact dc_far (by rw [hbl]; unfold far; omega)
    have b35 := b33.trans (hbD.mono b33.size)
    have r36 := r34.below hbD
    refine ⟨b35, ?_⟩
    refine fw_o1 11 (by kernel_rfl) ?_
    refine fw_os rfl r36 rfl rfl ?_
    intro W37 s38 r39
    have b40 := below_chg b35 s38 (by omega) b35.size
    have f41 := (OL3.chg hLd s38 hq1)
    refine ⟨b40, ?_⟩
    refine fw_hz (by kernel_rfl) ?_
    refine ⟨fun a h => ?_⟩
    refine ow_then (hK30 _ _ ?_)
    refine wpSpine_seq rfl fun K hK42 => ?_
    refine fw_in h ?_
    rcases Bool.eq_false_or_eq_true ((mayG d)) with hb_43 | hb_43
    · skip
      refine fw_rg rfl (fw_ld r39 rfl rfl (fw_ca Tryd.func24 rfl rfl rfl ((bytesOk d acd awd afd _ _ _ ccd cwd cfd W37 (OL3.lists f41) hFd (hT.below b40) hb_43)) ?_))
      rintro _ VB ⟨lB, aB, cB, rfl, hlB, hnB, hoB, hbB⟩
      refine ⟨_, rfl, ?_⟩
      have b44 := b40.trans (hbB.mono b40.size)
      have r45 := r39.below hbB
      have f46 := (f41.below hbB)
      iterate 5 refine fw_pu rfl ?_
      refine fw_dn ?_
      refine ⟨fun a h => ?_⟩
      refine ow_then (hK42 _ _ ?_)
      refine wpSpine_seq rfl fun K hK47 => ?_
      refine fw_in h (fw_sq (fw_rg rfl ?_))
      iterate 7 refine fw_pu rfl ?_
      refine fw_ex 49 (.int .i64 (((H + N) : Nat) : Int)) rfl rfl rfl (fun a h => (run_binOp (h.ev rfl) (h.ev rfl) (by simp [go_sem]) (addIw _ _ _ _ (by omega) (by omega) (by omega)))) ?_
      refine fw_ex 50 (.slice (some ⟨bP, oP, none⟩) (l.take (H + N)).length cd) rfl rfl rfl (fun a h => (run_sliceOp1 (h.ev rfl) (h.ev rfl) (slc1 _ _ _ _ _ _ _ _ (by rw [List.length_take]; omega) (by omega) hcap.2.2))) ?_
      refine fw_ca Tryd.func39 rfl rfl rfl ((slEqual_any _ _ lB (l.take (H + N)) VB (by omega) (by rw [List.length_take]; omega) (Sl.of_own hoB).1 (hsT.below b44)).mono fun e X h => (show e = .returned (.bool (decide (lB = l.take (H + N)))) ∧ Below VB.heap.size VB X from ⟨h.1, by obtain ⟨m, rfl⟩ := h.2; exact bdrew (Below.refl _ _) m⟩)) ?_
      rintro _ VE ⟨rfl, hbE⟩
      refine ⟨(.bool (decide (lB = l.take (H + N)))), rfl, ?_⟩
      have b48 := b44.trans (hbE.mono b44.size)
      have r49 := r45.below hbE
      have f50 := (f46.below hbE)
      iterate 2 refine fw_pu rfl ?_
      refine fw_dt ?_
      rcases Bool.eq_false_or_eq_true ((decide (lB = l.take (H + N)))) with hb_51 | hb_51
      · skip
        refine fw_cF rfl (not_of hb_51) (fw_sk ?_)
        refine ⟨fun a h => ?_⟩
        refine ow_then (hK47 _ _ ?_)
        refine wpSpine_seq rfl fun K hK52 => ?_
        refine fw_in h (fw_sq (fw_rg rfl (fw_ld r49 rfl rfl ?_)))
        iterate 2 refine fw_pu rfl ?_
        refine fw_ex 57 (.int .i64 (((H + N) : Nat) : Int)) rfl rfl rfl (fun a h => (run_binOp (h.ev rfl) (h.ev rfl) (by simp [go_sem]) (addIw _ _ _ _ (by omega) (by omega) (by omega)))) ?_
        refine fw_st r49 rfl rfl ?_
        intro W53 s54 r55
        have b56 := below_chg b48 s54 (by omega) b48.size
        have f57 := (OL3.chg f50 s54 hq1)
        iterate 2 refine fw_pu rfl ?_
        refine fw_dt (fw_rt ?_)
        refine ⟨fun a h => ?_⟩
        refine ow_then_ret (ow_jump_ret ?_)
        have e : paG l = (d, H + N, 0) := by rw [pa_e4 hM hn1 hn2 hx (hd.trans (by rw [hbody])), if_pos ⟨hb_43, hlB.symm.trans (of_decide_eq_true hb_51)⟩]
        exact ow_retCell2 rfl h.df (h.g 2 rfl) (run_loadVar_mid _ _ 0 _ (Mq.row d (.slice acd d.cs.length ccd) (.slice awd d.ws.length cwd) (.slice afd d.fs.length cfd)) _ (r55.range 0 _ (fun j v hj => by rw [Nat.zero_add j]; exact hj)) Tryd.underlying30 rfl (by kernel_rfl)) (h.g 3 rfl) (h.g 4 rfl) ⟨acd, ccd, awd, cwd, afd, cfd, by rw [e]; first | done | rfl, by rw [e]; exact OL3.mono f57 hw9, b56⟩
      refine fw_cT rfl (not_of hb_51) (fw_sq (fw_rg rfl (fw_pu rfl (fw_dt (fw_go ?_)))))
      refine ⟨fun a h => ?_⟩
      refine ow_then_goto (ow_jump (HJ _ _ ?_))
      refine fw_in h (fw_sq (fw_rg rfl ?_))
      refine fw_ex 58 (.agg #[.int .i64 0, .string { data := #[] }, .bool false, .int .i64 0, .bool false, .string { data := #[] }, .string { data := #[] }, .int .i64 0, .bool false, .string { data := #[] }, .bool false, .string { data := #[] }, .bool false, .bool false, .int .i64 0, .slice none 0 0, .bool false, .int .i64 0, .bool false, .string { data := #[] }, .int .i64 0, .string { data := #[] }, .slice none 0 0, .slice none 0 0]) rfl rfl rfl (fun a h => (run_buildOp (vs := #[]) (by simp) (by kernel_rfl))) ?_
      refine fw_pu rfl (fw_st r49 rfl rfl ?_)
      intro W58 s59 r60
      have b61 := below_chg b48 s59 (by omega) b48.size
      have f62 := (OL3.chg f50 s59 hq1)
      iterate 2 refine fw_pu rfl ?_
      refine fw_dt (fw_rt ?_)
      refine ⟨fun a h => ?_⟩
      refine ow_nogoto_ret ?_
      have e : paG l = (zM 0, 0, 1) := by rw [pa_e4 hM hn1 hn2 hx (hd.trans (by rw [hbody])), if_neg (by rintro ⟨-, h2⟩; exact absurd (hlB.trans h2) (of_decide_eq_false hb_51))]
      exact ow_retCell2 rfl h.df (h.g 2 rfl) (ldMq r60) (h.g 3 rfl) (h.g 4 rfl) ⟨none, 0, none, 0, none, 0, by rw [e]; first | done | rfl, by rw [e]; exact OL3.nil _ _ ⟨rfl, rfl, rfl⟩, b61⟩
    refine fw_rg rfl (fw_ld r39 rfl rfl (fw_ca Tryd.func24 rfl rfl rfl ((bytesNo d acd awd afd _ _ _ ccd cwd cfd W37 (OL3.lists f41) hFd (hT.below b40) hb_43)) ?_))
    rintro _ VB ⟨rfl, hbB⟩
    refine ⟨_, rfl, ?_⟩
    have b63 := b40.trans (hbB.mono b40.size)
    have r64 := r39.below hbB
    have f65 := (f41.below hbB)
    iterate 5 refine fw_pu rfl ?_
    refine fw_dn ?_
    refine ⟨fun a h => ?_⟩
    refine ow_then (hK42 _ _ ?_)
    refine wpSpine_seq rfl fun K hK66 => ?_
    refine fw_in h (fw_sq (fw_rg rfl ?_))
    iterate 12 refine fw_pu rfl ?_
    refine fw_dt (fw_cT rfl rfl (fw_sq (fw_rg rfl (fw_pu rfl (fw_dt (fw_go ?_))))))
    refine ⟨fun a h => ?_⟩
    refine ow_then_goto (ow_jump (HJ _ _ ?_))
    refine fw_in h (fw_sq (fw_rg rfl ?_))
    refine fw_ex 58 (.agg #[.int .i64 0, .string { data := #[] }, .bool false, .int .i64 0, .bool false, .string { data := #[] }, .string { data := #[] }, .int .i64 0, .bool false, .string { data := #[] }, .bool false, .string { data := #[] }, .bool false, .bool false, .int .i64 0, .slice none 0 0, .bool false, .int .i64 0, .bool false, .string { data := #[] }, .int .i64 0, .string { data := #[] }, .slice none 0 0, .slice none 0 0]) rfl rfl rfl (fun a h => (run_buildOp (vs := #[]) (by simp) (by kernel_rfl))) ?_
    refine fw_pu rfl (fw_st r64 rfl rfl ?_)
    intro W67 s68 r69
    have b70 := below_chg b63 s68 (by omega) b63.size
    have f71 := (OL3.chg f65 s68 hq1)
    iterate 2 refine fw_pu rfl ?_
    refine fw_dt (fw_rt ?_)
    refine ⟨fun a h => ?_⟩
    refine ow_nogoto_ret ?_
    have e : paG l = (zM 0, 0, 1) := by rw [pa_e4 hM hn1 hn2 hx (hd.trans (by rw [hbody])), if_neg (by rintro ⟨h1, -⟩; rw [hb_43] at h1; cases h1)]
    exact ow_retCell2 rfl h.df (h.g 2 rfl) (ldMq r69) (h.g 3 rfl) (h.g 4 rfl) ⟨none, 0, none, 0, none, 0, by rw [e]; first | done | rfl, by rw [e]; exact OL3.nil _ _ ⟨rfl, rfl, rfl⟩, b70⟩
  refine fw_cT rfl (not_of hb_15) (fw_go ?_)
  refine ⟨fun a h => ?_⟩
  refine ow_then_goto (ow_jump (HJ _ _ ?_))
  refine fw_in h (fw_sq (fw_rg rfl ?_))
  refine fw_ex 58 (.agg #[.int .i64 0, .string { data := #[] }, .bool false, .int .i64 0, .bool false, .string { data := #[] }, .string { data := #[] }, .int .i64 0, .bool false, .string { data := #[] }, .bool false, .string { data := #[] }, .bool false, .bool false, .int .i64 0, .slice none 0 0, .bool false, .int .i64 0, .bool false, .string { data := #[] }, .int .i64 0, .string { data := #[] }, .slice none 0 0, .slice none 0 0]) rfl rfl rfl (fun a h => (run_buildOp (vs := #[]) (by simp) (by kernel_rfl))) ?_
  refine fw_pu rfl (fw_st r13 rfl rfl ?_)
  intro W72 s73 r74
  have b75 := below_chg b12 s73 (by omega) b12.size
  iterate 2 refine fw_pu rfl ?_
  refine fw_dt (fw_rt ?_)
  refine ⟨fun a h => ?_⟩
  refine ow_nogoto_ret ?_
  have e : paG l = (zM 0, 0, E) := pa_e1 hM (by intro h9; have h8 := hb_15; rw [h9] at h8; exact absurd h8 (by decide))
  exact ow_retCell2 rfl h.df (h.g 2 rfl) (ldMq r74) (h.g 3 rfl) (h.g 4 rfl) ⟨none, 0, none, 0, none, 0, by rw [e]; first | done | rfl, by rw [e]; exact OL3.nil _ _ ⟨rfl, rfl, rfl⟩, b75⟩
end
end Go.Proofs.YtpgnlhfokffioaaDoor
namespace Go.Proofs.YtpgnlhfokffioaaDoor
section
open Go.RowKit
theorem eqB_refl (m : Mq) : m.eqB m = true := by simp [Mq.eqB]
structure Mq.Near (B : Nat) (m : Mq) : Prop where
  cl : m.cl.size ≤ B
  wT : m.wT.size ≤ B
  wP : m.wP.size ≤ B
  us : m.us.size ≤ B
  pa : m.pa.size ≤ B
  cs : m.cs.length ≤ B
  top : m.top.size ≤ B
  pay : m.pay.size ≤ B
  ws : m.ws.length ≤ B
  fs : m.fs.length ≤ B
  wsf : ∀ s ∈ m.ws, s.f.size ≤ B
  fsf : ∀ s ∈ m.fs, s.size ≤ B
theorem Mq.Near.mono {B B' : Nat} {m : Mq} (h : m.Near B) (hb : B ≤ B') : m.Near B' :=
  ⟨Nat.le_trans h.cl hb, Nat.le_trans h.wT hb, Nat.le_trans h.wP hb, Nat.le_trans h.us hb, Nat.le_trans h.pa hb, Nat.le_trans h.cs hb, Nat.le_trans h.top hb, Nat.le_trans h.pay hb, Nat.le_trans h.ws hb, Nat.le_trans h.fs hb,
    fun s hs => Nat.le_trans (h.wsf s hs) hb, fun s hs => Nat.le_trans (h.fsf s hs) hb⟩
theorem addI (x y : Int) (w : World) (h1 : -9223372036854775808 ≤ x + y) (h2 : x + y < 9223372036854775808) : (binOp .add 3 (.int .i64 x) (.int .i64 y)).run Tryd.prog w = .ok (.int .i64 (x + y)) w := by
  have := wrap_i64 (x + y) h1 h2
  simp [go_sem, this]
set_option maxRecDepth 100000 in
set_option maxHeartbeats 1000000 in
theorem textW_any (v : Value) (l : List ByteArray) (w : World) (hl : l.length ≤ far) (hb : ∀ s ∈ l, s.size ≤ far) (hv : SlR w 1 v (l.map cs1)) :
    Calls Tryd.prog 66 #[v] w fun e w' => ∃ n : Nat, e = .returned (.int .i64 (n : Int)) ∧ l.length ≤ n ∧ n ≤ 281474976710656 ∧ (n ≤ 3000 → ∀ s ∈ l, s.size ≤ n) ∧ w = w' := by
  obtain ⟨ao, cap, rfl, hcl, hcm, -, hB⟩ := hv
  simp only [List.length_map] at hB hcl ⊢
  have HB := Lib.hid hB; clear hB
  have HL := Lib.hid hb; clear hb
  have hl' : l.length ≤ 140737488351232 := hl
  clear hl hcl hcm
  go_enter Tryd.func66, Tryd.ntmps66
  go_wp2
  go_loop [3, 4] (fun m i => ∃ (k n : Nat), k ≤ l.length ∧ i = .int .i64 k ∧ m = .int .i64 n ∧ l.length ≤ n ∧ n ≤ 281474976710656 ∧ (∀ s ∈ l.take k, s.size ≤ n)) (fun _ i => l.length - (intOf i).toNat)
  case atStart => exact ⟨0, l.length, by omega, rfl, rfl, Nat.le_refl _, by omega, by simp⟩
  case round =>
    obtain ⟨k, n, hk, rfl, rfl, hn1, hn2, hs⟩ := hrel
    have HS := Lib.hid hs; clear hs
    by_cases hlt : k < l.length
    · have hlt' : (k : Int) < (l.length : Int) := by omega
      by_cases hn : (n : Int) < 1048576
      · obtain ⟨b, off, rfl, hbw, hBB⟩ := HB.out (by intro h; simp at h; simp [h] at hlt)
        obtain ⟨x, hx⟩ : ∃ x, l[k]? = some x := ⟨_, List.getElem?_eq_getElem hlt⟩
        have hcx : w.cell? ⟨b, off + k, none⟩ = some (.string x) := by
          have := hBB k (cs1 x) (by rw [List.getElem?_map, hx]; rfl) 0 _ rfl
          simpa using this
        have hxm : x.size ≤ 140737488351232 := HL.out x (List.mem_of_getElem? hx)
        have HX := Lib.hid hx; clear hx hBB
        go_wp2
        go_round
        case rel =>
          refine ⟨k + 1, n + x.size, by omega, by go_num, ?_, by omega, by omega, ?_⟩
          · first | rfl | (congr 1; done) | (congr 1; rw [wrap_i64 _ (by omega) (by omega)]; try omega)
          · intro s hs
            rw [List.take_add_one, HX.out] at hs
            rcases List.mem_append.1 hs with h | h
            · have := HS.out s h; omega
            · obtain rfl : s = x := by simpa using h
              omega
        case measure => simp [intOf]; omega
      · have HN := Lib.hid (show ¬ n ≤ 3000 by omega)
        go_wp2
        go_ret
        exact ⟨n, rfl, hn1, hn2, fun h => (HN.out h).elim, rfl⟩
    · have hlt' : ¬ (k : Int) < (l.length : Int) := by omega
      have HT := Lib.hid (show l.take k = l from List.take_of_length_le (by omega))
      clear HB
      go_wp2
      go_ret
      exact ⟨n, rfl, hn1, hn2, fun _ s hs => HS.out s (by rw [HT.out]; exact hs), rfl⟩
set_option maxRecDepth 100000 in
set_option maxHeartbeats 1000000 in
theorem wishesW_any (v : Value) (l : List EWish) (w : World) (hl : l.length ≤ far) (hb : ∀ s ∈ l, s.f.size ≤ far) (hv : SlR w 2 v (l.map rowWish)) :
    Calls Tryd.prog 65 #[v] w fun e w' => ∃ n : Nat, e = .returned (.int .i64 (n : Int)) ∧ l.length ≤ n ∧ n ≤ 281474976710656 ∧ (n ≤ 3000 → ∀ s ∈ l, s.f.size ≤ n) ∧ w = w' := by
  obtain ⟨ao, cap, rfl, hcl, hcm, -, hB⟩ := hv
  simp only [List.length_map] at hB hcl ⊢
  have HB := Lib.hid hB; clear hB
  have HL := Lib.hid hb; clear hb
  have hl' : l.length ≤ 140737488351232 := hl
  clear hl hcl hcm
  go_enter Tryd.func65, Tryd.ntmps65
  go_wp2
  go_loop [3, 4] (fun m i => ∃ (k n : Nat), k ≤ l.length ∧ i = .int .i64 k ∧ m = .int .i64 n ∧ l.length ≤ n ∧ n ≤ 281474976710656 ∧ (∀ s ∈ l.take k, s.f.size ≤ n)) (fun _ i => l.length - (intOf i).toNat)
  case atStart => exact ⟨0, l.length, by omega, rfl, rfl, Nat.le_refl _, by omega, by simp⟩
  case round =>
    obtain ⟨k, n, hk, rfl, rfl, hn1, hn2, hs⟩ := hrel
    have HS := Lib.hid hs; clear hs
    by_cases hlt : k < l.length
    · have hlt' : (k : Int) < (l.length : Int) := by omega
      by_cases hn : (n : Int) < 1048576
      · obtain ⟨b, off, rfl, hbw, hBB⟩ := HB.out (by intro h; simp at h; simp [h] at hlt)
        obtain ⟨x, hx⟩ : ∃ x, l[k]? = some x := ⟨_, List.getElem?_eq_getElem hlt⟩
        have hcx : w.cell? ⟨b, off + k * 2, none⟩ = some (.string x.f) := by
          have := hBB k (rowWish x) (by rw [List.getElem?_map, hx]; rfl) 0 _ rfl
          simpa using this
        have hxm : x.f.size ≤ 140737488351232 := HL.out x (List.mem_of_getElem? hx)
        have HX := Lib.hid hx; clear hx hBB
        go_wp2
        go_round
        case rel =>
          refine ⟨k + 1, n + x.f.size, by omega, by go_num, ?_, by omega, by omega, ?_⟩
          · first | rfl | (congr 1; done) | (congr 1; rw [wrap_i64 _ (by omega) (by omega)]; try omega)
          · intro s hs
            rw [List.take_add_one, HX.out] at hs
            rcases List.mem_append.1 hs with h | h
            · have := HS.out s h; omega
            · obtain rfl : s = x := by simpa using h
              omega
        case measure => simp [intOf]; omega
      · have HN := Lib.hid (show ¬ n ≤ 3000 by omega)
        go_wp2
        go_ret
        exact ⟨n, rfl, hn1, hn2, fun h => (HN.out h).elim, rfl⟩
    · have hlt' : ¬ (k : Int) < (l.length : Int) := by omega
      have HT := Lib.hid (show l.take k = l from List.take_of_length_le (by omega))
      clear HB
      go_wp2
      go_ret
      exact ⟨n, rfl, hn1, hn2, fun _ s hs => HS.out s (by rw [HT.out]; exact hs), rfl⟩
set_option maxRecDepth 100000 in
set_option maxHeartbeats 4000000 in
theorem mqWeight_any (m : Mq) (vc vw vf : Value) (w : World) (hF : m.Far) (hL : m.Lists w vc vw vf) :
    Calls Tryd.prog 35 #[m.val vc vw vf] w fun e w' => ∃ n : Int, e = .returned (.int .i64 n) ∧ Below w.heap.size w w' ∧ 0 ≤ n ∧ (n ≤ 3000 → m.Near 3000) := by
  have hb0 := Below.refl w.heap.size w
  obtain ⟨ac, cc, rfl, -, -, -, -⟩ := id hL.c
  obtain ⟨aw, cw, rfl, -, -, -, -⟩ := id hL.w
  obtain ⟨af, cf, rfl, -, -, -, -⟩ := id hL.f
  obtain ⟨b1, b2, b3, b4, b5, b6, b7, b8, b9, b10, b11, b12⟩ := id hF
  obtain ⟨nc, hnc⟩ : ∃ n, n = (m.cs.map cn).length := ⟨_, rfl⟩
  obtain ⟨nw, hnw⟩ : ∃ n, n = (m.ws.map rowWish).length := ⟨_, rfl⟩
  obtain ⟨nf, hnf⟩ : ∃ n, n = (m.fs.map cs1).length := ⟨_, rfl⟩
  rw [← hnc, ← hnw, ← hnf] at hL ⊢
  have hnc' : nc = m.cs.length := by rw [hnc, List.length_map]
  have Cw : ∀ W, Below w.heap.size w W → Calls Tryd.prog 65 #[.slice aw nw cw] W fun e X => ∃ v, e = .returned v ∧ ∃ n : Nat, v = .int .i64 (n : Int) ∧ m.ws.length ≤ n ∧ n ≤ 281474976710656 ∧ (n ≤ 3000 → ∀ s ∈ m.ws, s.f.size ≤ n) ∧ W = X :=
    fun W hb => (wishesW_any _ m.ws W b9 b11 (hL.below hb).w).mono fun e X ⟨n, he, h⟩ => ⟨_, he, n, rfl, h⟩
  have Cf : ∀ W, Below w.heap.size w W → Calls Tryd.prog 66 #[.slice af nf cf] W fun e X => ∃ v, e = .returned v ∧ ∃ n : Nat, v = .int .i64 (n : Int) ∧ m.fs.length ≤ n ∧ n ≤ 281474976710656 ∧ (n ≤ 3000 → ∀ s ∈ m.fs, s.size ≤ n) ∧ W = X :=
    fun W hb => (textW_any _ m.fs W b10 b12 (hL.below hb).f).mono fun e X ⟨n, he, h⟩ => ⟨_, he, n, rfl, h⟩
  have hnc6 : nc ≤ far := by rw [hnc']; exact b6
  simp only [far] at b1 b2 b3 b4 b5 hnc6 b7 b8
  have HF : ∀ zw zf : Nat, m.ws.length ≤ zw → m.fs.length ≤ zf → (zw ≤ 3000 → ∀ s ∈ m.ws, s.f.size ≤ zw) → (zf ≤ 3000 → ∀ s ∈ m.fs, s.size ≤ zf) → ((((((((((m.cl.size : Int) + (m.wT.size : Int)) + (m.wP.size : Int)) + (m.us.size : Int)) + (m.pa.size : Int)) + ((nc : Nat) : Int)) + (m.top.size : Int)) + (m.pay.size : Int)) + (zw : Int)) + (zf : Int)) ≤ 3000 → m.Near 3000 := by
    intro zw zf h1 h2 h3 h4 h5
    exact ⟨by omega, by omega, by omega, by omega, by omega, by omega, by omega, by omega, by omega, by omega, fun s hs => Nat.le_trans (h3 (by omega) s hs) (by omega), fun s hs => Nat.le_trans (h4 (by omega) s hs) (by omega)⟩
  have HF := Lib.hid HF
  clear hnc hnw hnf b6 b9 b10 b11 b12
  refine ow_enter 44 Tryd.func35 rfl Tryd.ntmps35 (by simp) ?_
  rintro a hsz hdf hargs
  have s_0 : a.tmps[0]? = some (.agg (Mq.row m (.slice ac nc cc) (.slice aw nw cw) (.slice af nf cf)).toArray) := hargs 0 _ rfl
  clear hargs
  refine wp_seq ?_
  refine ow_region [_, _] rfl (by intro o ho; simp only [List.mem_cons, List.not_mem_nil, or_false] at ho; rcases ho with rfl | rfl <;> rfl) ?_
  obtain ⟨q1, hq1⟩ : ∃ x, x = w.heap.size := ⟨_, rfl⟩
  refine ow_run 1 (.pointer (some ⟨q1, 0, none⟩)) (w.alloc (.cells #[.int .i64 m.k, .string m.cl, .bool m.clean, .int .i64 m.keep, .bool m.wI, .string m.wT, .string m.wP, .int .i64 m.wQ, .bool m.wR, .string m.us, .bool m.hu, .string m.pa, .bool m.hp, .bool m.pres, .int .i64 m.code, .slice ac nc cc, .bool m.dup, .int .i64 m.q, .bool m.re, .string m.top, .int .i64 m.id, .string m.pay, .slice aw nw cw, .slice af nf cf] 30)) rfl (by rw [hq1]; exact (run_boxOp (eval_of s_0) (by simp [go_sem, Instr.box]))) ?_
  have hqq1 : w.heap.size ≤ q1 := by rw [hq1]; exact hb0.size
  refine fresh (C := fun x W => wpRun _ _ x W _) (fun x X => _ = x ∧ Below w.heap.size w X ∧ RowAt X q1 (Mq.row m (.slice ac nc cc) (.slice aw nw cw) (.slice af nf cf))) ⟨rfl, (hb0.alloc hb0.size _), (by rw [hq1]; exact rowAt_alloc _ [.int .i64 m.k, .string m.cl, .bool m.clean, .int .i64 m.keep, .bool m.wI, .string m.wT, .string m.wP, .int .i64 m.wQ, .bool m.wR, .string m.us, .bool m.hu, .string m.pa, .bool m.hp, .bool m.pres, .int .i64 m.code, .slice ac nc cc, .bool m.dup, .int .i64 m.q, .bool m.re, .string m.top, .int .i64 m.id, .string m.pay, .slice aw nw cw, .slice af nf cf] _)⟩ ?_
  rintro _ W2 ⟨rfl, hbW2, rW2_0⟩
  clear hq1
  refine ow_run 2 (.int .i64 0) _ rfl (run_assignOp (eval_cst _ _)) ?_
  refine fresh (C := fun x W => wpRun _ [] x W _) (fun x X => _ = X ∧ x.tmps.size = 44 ∧ x.defers = [] ∧ x.tmps[1]? = some (.pointer (some ⟨q1, 0, none⟩))) ⟨rfl, (by simp only [put_size]; exact hsz), (by simp only [put_defers]; exact hdf), (pf1 (by decide) (put_get _ _ _ (by rw [hsz]; decide)))⟩ ?_
  clear hsz hdf s_0
  rintro a _ ⟨rfl, hsz, hdf, s_1⟩
  refine ow_then ?_
  refine wp_seq ?_
  refine ah_region (fun W => Below w.heap.size w W ∧ RowAt W q1 (Mq.row m (.slice ac nc cc) (.slice aw nw cw) (.slice af nf cf))) (by kernel_rfl) 42 rfl ?_
  refine fresh (C := fun x W => AH _ _ _ _ _ _ x W) (fun x X => _ = x ∧ Below w.heap.size w X ∧ RowAt X q1 (Mq.row m (.slice ac nc cc) (.slice aw nw cw) (.slice af nf cf))) ⟨rfl, (hbW2.trans (((Below.refl _ W2).drew).mono hbW2.size)), (rW2_0.below ((Below.refl _ W2).drew))⟩ ?_
  rintro _ W4 ⟨rfl, hbW4, rW4_0⟩
  refine ah_takeW 0 3 (.pointer (some ⟨q1, 1, none⟩)) rfl (wanted_none rfl) rfl (by kernel_rfl) (by kernel_rfl) (by kernel_rfl) (fun _ _ _ h => h) ⟨hbW4, rW4_0⟩ (fun W hW => by (try obtain ⟨hbW4, rW4_0⟩ := hW); exact (run_fieldAddr (eval_of s_1) (by simp [go_sem, Instr.fieldAt]))) ?_
  refine ah_takeW 1 4 (.string m.cl) rfl (wanted_none rfl) rfl (by kernel_rfl) (by kernel_rfl) (by kernel_rfl) (fun _ _ _ h => h) ⟨hbW4, rW4_0⟩ (fun W hW => by (try obtain ⟨hbW4, rW4_0⟩ := hW); exact (run_loadOp (eval_of (put_get _ _ _ (by rw [hsz]; decide))) (by simp [go_sem, Instr.loadAt, rW4_0.cell (j := 1) rfl]))) ?_
  refine ah_takeW 2 5 (.int .i64 (m.cl.size : Int)) rfl (wanted_none rfl) rfl (by kernel_rfl) (by kernel_rfl) (by kernel_rfl) (fun _ _ _ h => h) ⟨hbW4, rW4_0⟩ (fun W hW => by (try obtain ⟨hbW4, rW4_0⟩ := hW); exact (run_lenStr Tryd.underlying9 (eval_of (put_get _ _ _ (by simp only [put_size]; rw [hsz]; decide))))) ?_
  refine ah_takeW 3 6 (.pointer (some ⟨q1, 4, none⟩)) rfl (wanted_none rfl) rfl (by kernel_rfl) (by kernel_rfl) (by kernel_rfl) (fun _ _ _ h => h) ⟨hbW4, rW4_0⟩ (fun W hW => by (try obtain ⟨hbW4, rW4_0⟩ := hW); exact (run_fieldAddr (eval_of (pf1 (by decide) (pf2 (by decide) s_1))) (by simp [go_sem, Instr.fieldAt]))) ?_
  refine ah_takeW 4 7 (.pointer (some ⟨q1, 5, none⟩)) rfl (wanted_none rfl) rfl (by kernel_rfl) (by kernel_rfl) (by kernel_rfl) (fun _ _ _ h => h) ⟨hbW4, rW4_0⟩ (fun W hW => by (try obtain ⟨hbW4, rW4_0⟩ := hW); exact (run_fieldAddr (eval_of (put_get _ _ _ (by simp only [put_size]; rw [hsz]; decide))) (by simp [go_sem, Instr.fieldAt]))) ?_
  refine ah_takeW 5 8 (.string m.wT) rfl (wanted_none rfl) rfl (by kernel_rfl) (by kernel_rfl) (by kernel_rfl) (fun _ _ _ h => h) ⟨hbW4, rW4_0⟩ (fun W hW => by (try obtain ⟨hbW4, rW4_0⟩ := hW); exact (run_loadOp (eval_of (put_get _ _ _ (by simp only [put_size]; rw [hsz]; decide))) (by simp [go_sem, Instr.loadAt, rW4_0.cell (j := 5) rfl]))) ?_
  refine ah_takeW 6 9 (.int .i64 (m.wT.size : Int)) rfl (wanted_none rfl) rfl (by kernel_rfl) (by kernel_rfl) (by kernel_rfl) (fun _ _ _ h => h) ⟨hbW4, rW4_0⟩ (fun W hW => by (try obtain ⟨hbW4, rW4_0⟩ := hW); exact (run_lenStr Tryd.underlying9 (eval_of (put_get _ _ _ (by simp only [put_size]; rw [hsz]; decide))))) ?_
  refine ah_takeW 7 10 (.int .i64 ((m.cl.size : Int) + (m.wT.size : Int))) rfl (wanted_none rfl) rfl (by kernel_rfl) (by kernel_rfl) (by kernel_rfl) (fun _ _ _ h => h) ⟨hbW4, rW4_0⟩ (fun W hW => by (try obtain ⟨hbW4, rW4_0⟩ := hW); exact (run_binOp (eval_of (pf4 (by decide) (put_get _ _ _ (by simp only [put_size]; rw [hsz]; decide)))) (eval_of (put_get _ _ _ (by simp only [put_size]; rw [hsz]; decide))) (by simp [go_sem]) (addI _ _ _ (by omega) (by omega)))) ?_
  refine ah_takeW 8 11 (.pointer (some ⟨q1, 4, none⟩)) rfl (wanted_none rfl) rfl (by kernel_rfl) (by kernel_rfl) (by kernel_rfl) (fun _ _ _ h => h) ⟨hbW4, rW4_0⟩ (fun W hW => by (try obtain ⟨hbW4, rW4_0⟩ := hW); exact (run_fieldAddr (eval_of (pf8 (by decide) s_1)) (by simp [go_sem, Instr.fieldAt]))) ?_
  refine ah_takeW 9 12 (.pointer (some ⟨q1, 6, none⟩)) rfl (wanted_none rfl) rfl (by kernel_rfl) (by kernel_rfl) (by kernel_rfl) (fun _ _ _ h => h) ⟨hbW4, rW4_0⟩ (fun W hW => by (try obtain ⟨hbW4, rW4_0⟩ := hW); exact (run_fieldAddr (eval_of (put_get _ _ _ (by simp only [put_size]; rw [hsz]; decide))) (by simp [go_sem, Instr.fieldAt]))) ?_
  refine ah_takeW 10 13 (.string m.wP) rfl (wanted_none rfl) rfl (by kernel_rfl) (by kernel_rfl) (by kernel_rfl) (fun _ _ _ h => h) ⟨hbW4, rW4_0⟩ (fun W hW => by (try obtain ⟨hbW4, rW4_0⟩ := hW); exact (run_loadOp (eval_of (put_get _ _ _ (by simp only [put_size]; rw [hsz]; decide))) (by simp [go_sem, Instr.loadAt, rW4_0.cell (j := 6) rfl]))) ?_
  refine ah_takeW 11 14 (.int .i64 (m.wP.size : Int)) rfl (wanted_none rfl) rfl (by kernel_rfl) (by kernel_rfl) (by kernel_rfl) (fun _ _ _ h => h) ⟨hbW4, rW4_0⟩ (fun W hW => by (try obtain ⟨hbW4, rW4_0⟩ := hW); exact (run_lenStr Tryd.underlying9 (eval_of (put_get _ _ _ (by simp only [put_size]; rw [hsz]; decide))))) ?_
  refine ah_takeW 12 15 (.int .i64 (((m.cl.size : Int) + (m.wT.size : Int)) + (m.wP.size : Int))) rfl (wanted_none rfl) rfl (by kernel_rfl) (by kernel_rfl) (by kernel_rfl) (fun _ _ _ h => h) ⟨hbW4, rW4_0⟩ (fun W hW => by (try obtain ⟨hbW4, rW4_0⟩ := hW); exact (run_binOp (eval_of (pf4 (by decide) (put_get _ _ _ (by simp only [put_size]; rw [hsz]; decide)))) (eval_of (put_get _ _ _ (by simp only [put_size]; rw [hsz]; decide))) (by simp [go_sem]) (addI _ _ _ (by omega) (by omega)))) ?_
  refine ah_takeW 13 16 (.pointer (some ⟨q1, 9, none⟩)) rfl (wanted_none rfl) rfl (by kernel_rfl) (by kernel_rfl) (by kernel_rfl) (fun _ _ _ h => h) ⟨hbW4, rW4_0⟩ (fun W hW => by (try obtain ⟨hbW4, rW4_0⟩ := hW); exact (run_fieldAddr (eval_of (pf1 (by decide) (pf4 (by decide) (pf8 (by decide) s_1)))) (by simp [go_sem, Instr.fieldAt]))) ?_
  refine ah_takeW 14 17 (.string m.us) rfl (wanted_none rfl) rfl (by kernel_rfl) (by kernel_rfl) (by kernel_rfl) (fun _ _ _ h => h) ⟨hbW4, rW4_0⟩ (fun W hW => by (try obtain ⟨hbW4, rW4_0⟩ := hW); exact (run_loadOp (eval_of (put_get _ _ _ (by simp only [put_size]; rw [hsz]; decide))) (by simp [go_sem, Instr.loadAt, rW4_0.cell (j := 9) rfl]))) ?_
  refine ah_takeW 15 18 (.int .i64 (m.us.size : Int)) rfl (wanted_none rfl) rfl (by kernel_rfl) (by kernel_rfl) (by kernel_rfl) (fun _ _ _ h => h) ⟨hbW4, rW4_0⟩ (fun W hW => by (try obtain ⟨hbW4, rW4_0⟩ := hW); exact (run_lenStr Tryd.underlying9 (eval_of (put_get _ _ _ (by simp only [put_size]; rw [hsz]; decide))))) ?_
  refine ah_takeW 16 19 (.int .i64 ((((m.cl.size : Int) + (m.wT.size : Int)) + (m.wP.size : Int)) + (m.us.size : Int))) rfl (wanted_none rfl) rfl (by kernel_rfl) (by kernel_rfl) (by kernel_rfl) (fun _ _ _ h => h) ⟨hbW4, rW4_0⟩ (fun W hW => by (try obtain ⟨hbW4, rW4_0⟩ := hW); exact (run_binOp (eval_of (pf1 (by decide) (pf2 (by decide) (put_get _ _ _ (by simp only [put_size]; rw [hsz]; decide))))) (eval_of (put_get _ _ _ (by simp only [put_size]; rw [hsz]; decide))) (by simp [go_sem]) (addI _ _ _ (by omega) (by omega)))) ?_
  refine ah_takeW 17 20 (.pointer (some ⟨q1, 11, none⟩)) rfl (wanted_none rfl) rfl (by kernel_rfl) (by kernel_rfl) (by kernel_rfl) (fun _ _ _ h => h) ⟨hbW4, rW4_0⟩ (fun W hW => by (try obtain ⟨hbW4, rW4_0⟩ := hW); exact (run_fieldAddr (eval_of (pf1 (by decide) (pf16 (by decide) s_1))) (by simp [go_sem, Instr.fieldAt]))) ?_
  refine ah_takeW 18 21 (.string m.pa) rfl (wanted_none rfl) rfl (by kernel_rfl) (by kernel_rfl) (by kernel_rfl) (fun _ _ _ h => h) ⟨hbW4, rW4_0⟩ (fun W hW => by (try obtain ⟨hbW4, rW4_0⟩ := hW); exact (run_loadOp (eval_of (put_get _ _ _ (by simp only [put_size]; rw [hsz]; decide))) (by simp [go_sem, Instr.loadAt, rW4_0.cell (j := 11) rfl]))) ?_
  refine ah_takeW 19 22 (.int .i64 (m.pa.size : Int)) rfl (wanted_none rfl) rfl (by kernel_rfl) (by kernel_rfl) (by kernel_rfl) (fun _ _ _ h => h) ⟨hbW4, rW4_0⟩ (fun W hW => by (try obtain ⟨hbW4, rW4_0⟩ := hW); exact (run_lenStr Tryd.underlying9 (eval_of (put_get _ _ _ (by simp only [put_size]; rw [hsz]; decide))))) ?_
  refine ah_takeW 20 23 (.int .i64 (((((m.cl.size : Int) + (m.wT.size : Int)) + (m.wP.size : Int)) + (m.us.size : Int)) + (m.pa.size : Int))) rfl (wanted_none rfl) rfl (by kernel_rfl) (by kernel_rfl) (by kernel_rfl) (fun _ _ _ h => h) ⟨hbW4, rW4_0⟩ (fun W hW => by (try obtain ⟨hbW4, rW4_0⟩ := hW); exact (run_binOp (eval_of (pf1 (by decide) (pf2 (by decide) (put_get _ _ _ (by simp only [put_size]; rw [hsz]; decide))))) (eval_of (put_get _ _ _ (by simp only [put_size]; rw [hsz]; decide))) (by simp [go_sem]) (addI _ _ _ (by omega) (by omega)))) ?_
  refine ah_takeW 21 24 (.pointer (some ⟨q1, 15, none⟩)) rfl (wanted_none rfl) rfl (by kernel_rfl) (by kernel_rfl) (by kernel_rfl) (fun _ _ _ h => h) ⟨hbW4, rW4_0⟩ (fun W hW => by (try obtain ⟨hbW4, rW4_0⟩ := hW); exact (run_fieldAddr (eval_of (pf1 (by decide) (pf4 (by decide) (pf16 (by decide) s_1)))) (by simp [go_sem, Instr.fieldAt]))) ?_
  refine ah_takeW 22 25 (.slice ac nc cc) rfl (wanted_none rfl) rfl (by kernel_rfl) (by kernel_rfl) (by kernel_rfl) (fun _ _ _ h => h) ⟨hbW4, rW4_0⟩ (fun W hW => by (try obtain ⟨hbW4, rW4_0⟩ := hW); exact (run_loadOp (eval_of (put_get _ _ _ (by simp only [put_size]; rw [hsz]; decide))) (by simp [go_sem, Instr.loadAt, rW4_0.cell (j := 15) rfl]))) ?_
  refine ah_takeW 23 26 (.int .i64 ((nc : Nat) : Int)) rfl (wanted_none rfl) rfl (by kernel_rfl) (by kernel_rfl) (by kernel_rfl) (fun _ _ _ h => h) ⟨hbW4, rW4_0⟩ (fun W hW => by (try obtain ⟨hbW4, rW4_0⟩ := hW); exact (run_lenOp Tryd.underlying26 (eval_of (put_get _ _ _ (by simp only [put_size]; rw [hsz]; decide))))) ?_
  refine ah_takeW 24 27 (.int .i64 ((((((m.cl.size : Int) + (m.wT.size : Int)) + (m.wP.size : Int)) + (m.us.size : Int)) + (m.pa.size : Int)) + ((nc : Nat) : Int))) rfl (wanted_none rfl) rfl (by kernel_rfl) (by kernel_rfl) (by kernel_rfl) (fun _ _ _ h => h) ⟨hbW4, rW4_0⟩ (fun W hW => by (try obtain ⟨hbW4, rW4_0⟩ := hW); exact (run_binOp (eval_of (pf1 (by decide) (pf2 (by decide) (put_get _ _ _ (by simp only [put_size]; rw [hsz]; decide))))) (eval_of (put_get _ _ _ (by simp only [put_size]; rw [hsz]; decide))) (by simp [go_sem]) (addI _ _ _ (by omega) (by omega)))) ?_
  refine ah_takeW 25 28 (.pointer (some ⟨q1, 19, none⟩)) rfl (wanted_none rfl) rfl (by kernel_rfl) (by kernel_rfl) (by kernel_rfl) (fun _ _ _ h => h) ⟨hbW4, rW4_0⟩ (fun W hW => by (try obtain ⟨hbW4, rW4_0⟩ := hW); exact (run_fieldAddr (eval_of (pf1 (by decide) (pf8 (by decide) (pf16 (by decide) s_1)))) (by simp [go_sem, Instr.fieldAt]))) ?_
  refine ah_takeW 26 29 (.string m.top) rfl (wanted_none rfl) rfl (by kernel_rfl) (by kernel_rfl) (by kernel_rfl) (fun _ _ _ h => h) ⟨hbW4, rW4_0⟩ (fun W hW => by (try obtain ⟨hbW4, rW4_0⟩ := hW); exact (run_loadOp (eval_of (put_get _ _ _ (by simp only [put_size]; rw [hsz]; decide))) (by simp [go_sem, Instr.loadAt, rW4_0.cell (j := 19) rfl]))) ?_
  refine ah_takeW 27 30 (.int .i64 (m.top.size : Int)) rfl (wanted_none rfl) rfl (by kernel_rfl) (by kernel_rfl) (by kernel_rfl) (fun _ _ _ h => h) ⟨hbW4, rW4_0⟩ (fun W hW => by (try obtain ⟨hbW4, rW4_0⟩ := hW); exact (run_lenStr Tryd.underlying9 (eval_of (put_get _ _ _ (by simp only [put_size]; rw [hsz]; decide))))) ?_
  refine ah_takeW 28 31 (.int .i64 (((((((m.cl.size : Int) + (m.wT.size : Int)) + (m.wP.size : Int)) + (m.us.size : Int)) + (m.pa.size : Int)) + ((nc : Nat) : Int)) + (m.top.size : Int))) rfl (wanted_none rfl) rfl (by kernel_rfl) (by kernel_rfl) (by kernel_rfl) (fun _ _ _ h => h) ⟨hbW4, rW4_0⟩ (fun W hW => by (try obtain ⟨hbW4, rW4_0⟩ := hW); exact (run_binOp (eval_of (pf1 (by decide) (pf2 (by decide) (put_get _ _ _ (by simp only [put_size]; rw [hsz]; decide))))) (eval_of (put_get _ _ _ (by simp only [put_size]; rw [hsz]; decide))) (by simp [go_sem]) (addI _ _ _ (by omega) (by omega)))) ?_
  refine ah_takeW 29 32 (.pointer (some ⟨q1, 21, none⟩)) rfl (wanted_none rfl) rfl (by kernel_rfl) (by kernel_rfl) (by kernel_rfl) (fun _ _ _ h => h) ⟨hbW4, rW4_0⟩ (fun W hW => by (try obtain ⟨hbW4, rW4_0⟩ := hW); exact (run_fieldAddr (eval_of (pf1 (by decide) (pf4 (by decide) (pf8 (by decide) (pf16 (by decide) s_1))))) (by simp [go_sem, Instr.fieldAt]))) ?_
  refine ah_takeW 30 33 (.string m.pay) rfl (wanted_none rfl) rfl (by kernel_rfl) (by kernel_rfl) (by kernel_rfl) (fun _ _ _ h => h) ⟨hbW4, rW4_0⟩ (fun W hW => by (try obtain ⟨hbW4, rW4_0⟩ := hW); exact (run_loadOp (eval_of (put_get _ _ _ (by simp only [put_size]; rw [hsz]; decide))) (by simp [go_sem, Instr.loadAt, rW4_0.cell (j := 21) rfl]))) ?_
  refine ah_takeW 31 34 (.int .i64 (m.pay.size : Int)) rfl (wanted_none rfl) rfl (by kernel_rfl) (by kernel_rfl) (by kernel_rfl) (fun _ _ _ h => h) ⟨hbW4, rW4_0⟩ (fun W hW => by (try obtain ⟨hbW4, rW4_0⟩ := hW); exact (run_lenStr Tryd.underlying9 (eval_of (put_get _ _ _ (by simp only [put_size]; rw [hsz]; decide))))) ?_
  refine ah_takeW 32 35 (.int .i64 ((((((((m.cl.size : Int) + (m.wT.size : Int)) + (m.wP.size : Int)) + (m.us.size : Int)) + (m.pa.size : Int)) + ((nc : Nat) : Int)) + (m.top.size : Int)) + (m.pay.size : Int))) rfl (wanted_none rfl) rfl (by kernel_rfl) (by kernel_rfl) (by kernel_rfl) (fun _ _ _ h => h) ⟨hbW4, rW4_0⟩ (fun W hW => by (try obtain ⟨hbW4, rW4_0⟩ := hW); exact (run_binOp (eval_of (pf1 (by decide) (pf2 (by decide) (put_get _ _ _ (by simp only [put_size]; rw [hsz]; decide))))) (eval_of (put_get _ _ _ (by simp only [put_size]; rw [hsz]; decide))) (by simp [go_sem]) (addI _ _ _ (by omega) (by omega)))) ?_
  refine ah_takeW 33 36 (.pointer (some ⟨q1, 22, none⟩)) rfl (wanted_none rfl) rfl (by kernel_rfl) (by kernel_rfl) (by kernel_rfl) (fun _ _ _ h => h) ⟨hbW4, rW4_0⟩ (fun W hW => by (try obtain ⟨hbW4, rW4_0⟩ := hW); exact (run_fieldAddr (eval_of (pf1 (by decide) (pf16 (by decide) (pf16 (by decide) s_1)))) (by simp [go_sem, Instr.fieldAt]))) ?_
  refine ah_takeW 34 37 (.slice aw nw cw) rfl (wanted_none rfl) rfl (by kernel_rfl) (by kernel_rfl) (by kernel_rfl) (fun _ _ _ h => h) ⟨hbW4, rW4_0⟩ (fun W hW => by (try obtain ⟨hbW4, rW4_0⟩ := hW); exact (run_loadOp (eval_of (put_get _ _ _ (by simp only [put_size]; rw [hsz]; decide))) (by simp [go_sem, Instr.loadAt, rW4_0.cell (j := 22) rfl]))) ?_
  refine ah_takeW 37 40 (.pointer (some ⟨q1, 23, none⟩)) rfl (wanted_none rfl) rfl (by kernel_rfl) (by kernel_rfl) (by kernel_rfl) (fun _ _ _ h => h) ⟨hbW4, rW4_0⟩ (fun W hW => by (try obtain ⟨hbW4, rW4_0⟩ := hW); exact (run_fieldAddr (eval_of (pf1 (by decide) (pf2 (by decide) (pf16 (by decide) (pf16 (by decide) s_1))))) (by simp [go_sem, Instr.fieldAt]))) ?_
  refine ah_takeW 38 41 (.slice af nf cf) rfl (wanted_none rfl) rfl (by kernel_rfl) (by kernel_rfl) (by kernel_rfl) (fun _ _ _ h => h) ⟨hbW4, rW4_0⟩ (fun W hW => by (try obtain ⟨hbW4, rW4_0⟩ := hW); exact (run_loadOp (eval_of (put_get _ _ _ (by simp only [put_size]; rw [hsz]; decide))) (by simp [go_sem, Instr.loadAt, rW4_0.cell (j := 23) rfl]))) ?_
  refine ah_one 35 (by kernel_rfl) ?_
  refine ao_call rfl (wanted_none rfl) 38 (fun v X => ∃ n : Nat, v = .int .i64 (n : Int) ∧ m.ws.length ≤ n ∧ n ≤ 281474976710656 ∧ (n ≤ 3000 → ∀ s ∈ m.ws, s.f.size ≤ n) ∧ W4 = X) rfl _ _ (run_callOp Tryd.func65 rfl rfl (arr1 (eval_of (pf2 (by decide) (put_get _ _ _ (by simp only [put_size]; rw [hsz]; decide)))))) ((Cw _ hbW4)) ?_
  rintro _ _ ⟨zw, rfl, hzw0, hzw1, hzw2, rfl⟩
  refine ⟨⟨hbW4, rW4_0⟩, ?_⟩
  refine ah_takeW 36 39 (.int .i64 (((((((((m.cl.size : Int) + (m.wT.size : Int)) + (m.wP.size : Int)) + (m.us.size : Int)) + (m.pa.size : Int)) + ((nc : Nat) : Int)) + (m.top.size : Int)) + (m.pay.size : Int)) + (zw : Int))) rfl (wanted_none rfl) rfl (by kernel_rfl) (by kernel_rfl) (by kernel_rfl) (fun _ _ _ h => h) ⟨hbW4, rW4_0⟩ (fun W hW => by (try obtain ⟨hbW4, rW4_0⟩ := hW); exact (run_binOp (eval_of (pf1 (by decide) (pf4 (by decide) (put_get _ _ _ (by simp only [put_size]; rw [hsz]; decide))))) (eval_of (put_get _ _ _ (by simp only [put_size]; rw [hsz]; decide))) (by simp [go_sem]) (addI _ _ _ (by omega) (by omega)))) ?_
  refine ah_one 39 (by kernel_rfl) ?_
  refine ao_call rfl (wanted_none rfl) 42 (fun v X => ∃ n : Nat, v = .int .i64 (n : Int) ∧ m.fs.length ≤ n ∧ n ≤ 281474976710656 ∧ (n ≤ 3000 → ∀ s ∈ m.fs, s.size ≤ n) ∧ W4 = X) rfl _ _ (run_callOp Tryd.func66 rfl rfl (arr1 (eval_of (pf2 (by decide) (put_get _ _ _ (by simp only [put_size]; rw [hsz]; decide)))))) ((Cf _ hbW4)) ?_
  rintro _ _ ⟨zf, rfl, hzf0, hzf1, hzf2, rfl⟩
  refine ⟨⟨hbW4, rW4_0⟩, ?_⟩
  refine ah_takeW 40 43 (.int .i64 ((((((((((m.cl.size : Int) + (m.wT.size : Int)) + (m.wP.size : Int)) + (m.us.size : Int)) + (m.pa.size : Int)) + ((nc : Nat) : Int)) + (m.top.size : Int)) + (m.pay.size : Int)) + (zw : Int)) + (zf : Int))) rfl (wanted_none rfl) rfl (by kernel_rfl) (by kernel_rfl) (by kernel_rfl) (fun _ _ _ h => h) ⟨hbW4, rW4_0⟩ (fun W hW => by (try obtain ⟨hbW4, rW4_0⟩ := hW); exact (run_binOp (eval_of (pf1 (by decide) (put_get _ _ _ (by simp only [put_size]; rw [hsz]; decide)))) (eval_of (put_get _ _ _ (by simp only [put_size]; rw [hsz]; decide))) (by simp [go_sem]) (addI _ _ _ (by omega) (by omega)))) ?_
  refine ah_takeW 41 2 (.int .i64 ((((((((((m.cl.size : Int) + (m.wT.size : Int)) + (m.wP.size : Int)) + (m.us.size : Int)) + (m.pa.size : Int)) + ((nc : Nat) : Int)) + (m.top.size : Int)) + (m.pay.size : Int)) + (zw : Int)) + (zf : Int))) rfl (wanted_none rfl) rfl (by kernel_rfl) (by kernel_rfl) (by kernel_rfl) (fun _ _ _ h => h) ⟨hbW4, rW4_0⟩ (fun W hW => by (try obtain ⟨hbW4, rW4_0⟩ := hW); exact (run_assignOp (eval_of (put_get _ _ _ (by simp only [put_size]; rw [hsz]; decide))))) ?_
  refine fresh (C := fun x W => AH _ _ _ _ _ _ x W) (fun x X => _ = X ∧ x.tmps.size = 44 ∧ x.defers = [] ∧ x.tmps[2]? = some (.int .i64 ((((((((((m.cl.size : Int) + (m.wT.size : Int)) + (m.wP.size : Int)) + (m.us.size : Int)) + (m.pa.size : Int)) + ((nc : Nat) : Int)) + (m.top.size : Int)) + (m.pay.size : Int)) + (zw : Int)) + (zf : Int)))) ⟨rfl, (by simp only [put_size]; exact hsz), (by simp only [put_defers]; exact hdf), (put_get _ _ _ (by simp only [put_size]; rw [hsz]; decide))⟩ ?_
  clear hsz hdf s_1
  rintro a _ ⟨rfl, hsz, hdf, s_2⟩
  refine ah_done (by kernel_rfl) ?_
  refine ow_then ?_
  refine wp_ret ?_
  refine ow_ret1 rfl hdf s_2 ⟨_, rfl, hbW4, ?_, ?_⟩
  · omega
  · intro h3
    exact HF.out zw zf hzw0 hzf0 hzw2 hzf2 h3
set_option maxRecDepth 100000 in
set_option maxHeartbeats 4000000 in
theorem heavy_any (m : Mq) (ac aw af ax : Option Addr) (nc nw nf nx cc cw cf cx : Nat) (w : World) (hF : m.Far) (hL : m.Lists w (.slice ac nc cc) (.slice aw nw cw) (.slice af nf cf)) :
    Calls Tryd.prog 14 #[(.agg (Mq.row m (.slice ac nc cc) (.slice aw nw cw) (.slice af nf cf) ++ [(.slice ax nx cx : Value)]).toArray)] w fun e w' => ∃ b, e = .returned (.bool b) ∧ Below w.heap.size w w' ∧ (b = false → m.Near 3000 ∧ nx ≤ 3000) := by
  have hb0 := Below.refl w.heap.size w
  refine ow_enter 13 Tryd.func14 rfl Tryd.ntmps14 (by simp) ?_
  rintro a hsz hdf hargs
  have s_0 : a.tmps[0]? = some (.agg (Mq.row m (.slice ac nc cc) (.slice aw nw cw) (.slice af nf cf) ++ [(.slice ax nx cx : Value)]).toArray) := hargs 0 _ rfl
  clear hargs
  refine wp_seq ?_
  refine ow_region [_, _] rfl (by intro o ho; simp only [List.mem_cons, List.not_mem_nil, or_false] at ho; rcases ho with rfl | rfl <;> rfl) ?_
  obtain ⟨q1, hq1⟩ : ∃ x, x = w.heap.size := ⟨_, rfl⟩
  refine ow_run 1 (.pointer (some ⟨q1, 0, none⟩)) (w.alloc (.cells #[.int .i64 m.k, .string m.cl, .bool m.clean, .int .i64 m.keep, .bool m.wI, .string m.wT, .string m.wP, .int .i64 m.wQ, .bool m.wR, .string m.us, .bool m.hu, .string m.pa, .bool m.hp, .bool m.pres, .int .i64 m.code, .slice ac nc cc, .bool m.dup, .int .i64 m.q, .bool m.re, .string m.top, .int .i64 m.id, .string m.pay, .slice aw nw cw, .slice af nf cf, .slice ax nx cx] 33)) rfl (by rw [hq1]; exact (run_boxOp (eval_of s_0) (by simp [go_sem, Instr.box]))) ?_
  have hqq1 : w.heap.size ≤ q1 := by rw [hq1]; exact hb0.size
  refine fresh (C := fun x W => wpRun _ _ x W _) (fun x X => _ = x ∧ Below w.heap.size w X ∧ RowAt X q1 (Mq.row m (.slice ac nc cc) (.slice aw nw cw) (.slice af nf cf) ++ [(.slice ax nx cx : Value)])) ⟨rfl, (hb0.alloc hb0.size _), (by rw [hq1]; exact rowAt_alloc _ [.int .i64 m.k, .string m.cl, .bool m.clean, .int .i64 m.keep, .bool m.wI, .string m.wT, .string m.wP, .int .i64 m.wQ, .bool m.wR, .string m.us, .bool m.hu, .string m.pa, .bool m.hp, .bool m.pres, .int .i64 m.code, .slice ac nc cc, .bool m.dup, .int .i64 m.q, .bool m.re, .string m.top, .int .i64 m.id, .string m.pay, .slice aw nw cw, .slice af nf cf, .slice ax nx cx] _)⟩ ?_
  rintro _ W2 ⟨rfl, hbW2, rW2_0⟩
  clear hq1
  refine ow_run 2 (.bool false) _ rfl (run_assignOp (eval_cst _ _)) ?_
  refine fresh (C := fun x W => wpRun _ [] x W _) (fun x X => _ = X ∧ x.tmps.size = 13 ∧ x.defers = [] ∧ x.tmps[1]? = some (.pointer (some ⟨q1, 0, none⟩))) ⟨rfl, (by simp only [put_size]; exact hsz), (by simp only [put_defers]; exact hdf), (pf1 (by decide) (put_get _ _ _ (by rw [hsz]; decide)))⟩ ?_
  clear hsz hdf s_0
  rintro a _ ⟨rfl, hsz, hdf, s_1⟩
  refine ow_then ?_
  refine wp_seq ?_
  refine owl_region [_, _, _, _, _, _, _, _, _, _, _] rfl ?_
  refine owl_run (wanted_none rfl) 3 (.pointer (some ⟨q1, 0, none⟩)) _ rfl (run_fieldAddr (eval_of s_1) (by simp [go_sem, Instr.fieldAt])) ?_
  refine owl_run (wanted_none rfl) 4 (.agg (Mq.row m (.slice ac nc cc) (.slice aw nw cw) (.slice af nf cf)).toArray) _ rfl (run_loadOp (eval_of (put_get _ _ _ (by rw [hsz]; decide))) (run_loadN [.int .i64 m.k, .string m.cl, .bool m.clean, .int .i64 m.keep, .bool m.wI, .string m.wT, .string m.wP, .int .i64 m.wQ, .bool m.wR, .string m.us, .bool m.hu, .string m.pa, .bool m.hp, .bool m.pres, .int .i64 m.code, .slice ac nc cc, .bool m.dup, .int .i64 m.q, .bool m.re, .string m.top, .int .i64 m.id, .string m.pay, .slice aw nw cw, .slice af nf cf] rW2_0 (fun j v hj => mid_row 0 24 _ _ rfl j v hj) Tryd.underlying30 rfl (by kernel_rfl))) ?_
  refine owl_call (wanted_none rfl) 5 (fun v X => ∃ n : Int, v = .int .i64 n ∧ Below W2.heap.size W2 X ∧ 0 ≤ n ∧ (n ≤ 3000 → m.Near 3000)) rfl _ _ (run_callOp Tryd.func35 rfl rfl (arr1 (eval_of (put_get _ _ _ (by simp only [put_size]; rw [hsz]; decide))))) ((mqWeight_any m _ _ _ W2 hF (hL.below hbW2)).mono fun e X ⟨n, he, hr⟩ => ⟨_, he, n, rfl, hr⟩) ?_
  rintro _ V5 ⟨nz, rfl, hb4, hz0, hz3⟩
  refine fresh (C := fun x W => WL _ _ _ _ x W) (fun x X => _ = x ∧ Below w.heap.size w X ∧ RowAt X q1 (Mq.row m (.slice ac nc cc) (.slice aw nw cw) (.slice af nf cf) ++ [(.slice ax nx cx : Value)])) ⟨rfl, (hbW2.trans (hb4.mono hbW2.size)), (rW2_0.below hb4)⟩ ?_
  rintro _ W6 ⟨rfl, hbW6, rW6_0⟩
  refine owl_run (wanted_none rfl) 6 (.bool (decide (3000 < nz))) _ rfl (run_binOp (eval_of (put_get _ _ _ (by simp only [put_size]; rw [hsz]; decide))) (eval_cst _ _) (by simp [go_sem]) (by simp [go_sem])) ?_
  refine owl_run (wanted_none rfl) 7 (.bool (decide (3000 < nz))) _ rfl (run_moveOp (eval_of (put_get _ _ _ (by simp only [put_size]; rw [hsz]; decide)))) ?_
  rcases Bool.eq_false_or_eq_true ((decide (3000 < nz))) with hb_7 | hb_7
  · skip
    refine owg_no 4 7 false true rfl (by kernel_rfl) (flag_of (put_get _ _ _ (by simp only [put_size]; rw [hsz]; decide)) hb_7) (by decide) 8 rfl ?_
    refine owg_no 4 7 false true rfl (by kernel_rfl) (flag_of (pf1 (by decide) (put_get _ _ _ (by simp only [put_size]; rw [hsz]; decide))) hb_7) (by decide) 9 rfl ?_
    refine owg_no 4 7 false true rfl (by kernel_rfl) (flag_of (pf2 (by decide) (put_get _ _ _ (by simp only [put_size]; rw [hsz]; decide))) hb_7) (by decide) 10 rfl ?_
    refine owg_no 4 7 false true rfl (by kernel_rfl) (flag_of (pf1 (by decide) (pf2 (by decide) (put_get _ _ _ (by simp only [put_size]; rw [hsz]; decide)))) hb_7) (by decide) 11 rfl ?_
    refine owl_run (wanted_none rfl) 12 (.bool true) _ rfl (run_pickT (eval_cast (eval_of (pf4 (by decide) (put_get _ _ _ (by simp only [put_size]; rw [hsz]; decide)))) hb_7) (eval_cst _ _)) ?_
    refine owl_run (wanted_none rfl) 2 (.bool true) _ rfl (run_assignOp (eval_of (put_get _ _ _ (by simp only [put_size]; rw [hsz]; decide)))) ?_
    refine fresh (C := fun x W => WL _ _ _ [] x W) (fun x X => _ = X ∧ x.tmps.size = 13 ∧ x.defers = [] ∧ x.tmps[2]? = some (.bool true)) ⟨rfl, (by simp only [put_size]; exact hsz), (by simp only [put_defers]; exact hdf), (put_get _ _ _ (by simp only [put_size]; rw [hsz]; decide))⟩ ?_
    clear hsz hdf s_1
    rintro a _ ⟨rfl, hsz, hdf, s_2⟩
    refine wl_done ?_
    refine ow_then ?_
    refine wp_ret ?_
    refine ow_ret1 rfl hdf s_2 ⟨_, rfl, hbW6, ?_⟩
    intro h; cases h
  · skip
    refine owg_run 4 7 false rfl (by kernel_rfl) (flag_of (put_get _ _ _ (by simp only [put_size]; rw [hsz]; decide)) hb_7) 8 (.pointer (some ⟨q1, 24, none⟩)) _ rfl (run_fieldAddr (eval_of (pf1 (by decide) (pf4 (by decide) s_1))) (by simp [go_sem, Instr.fieldAt])) ?_
    refine owg_run 4 7 false rfl (by kernel_rfl) (flag_of (pf1 (by decide) (put_get _ _ _ (by simp only [put_size]; rw [hsz]; decide))) hb_7) 9 (.slice ax nx cx) _ rfl (run_loadOp (eval_of (put_get _ _ _ (by simp only [put_size]; rw [hsz]; decide))) (by simp [go_sem, Instr.loadAt, rW6_0.cell (j := 24) rfl])) ?_
    refine owg_run 4 7 false rfl (by kernel_rfl) (flag_of (pf2 (by decide) (put_get _ _ _ (by simp only [put_size]; rw [hsz]; decide))) hb_7) 10 (.int .i64 ((nx : Nat) : Int)) _ rfl (run_lenOp Tryd.underlying31 (eval_of (put_get _ _ _ (by simp only [put_size]; rw [hsz]; decide)))) ?_
    refine owg_run 4 7 false rfl (by kernel_rfl) (flag_of (pf1 (by decide) (pf2 (by decide) (put_get _ _ _ (by simp only [put_size]; rw [hsz]; decide)))) hb_7) 11 (.bool (decide (3000 < ((nx : Nat) : Int)))) _ rfl (run_binOp (eval_of (put_get _ _ _ (by simp only [put_size]; rw [hsz]; decide))) (eval_cst _ _) (by simp [go_sem]) (by simp [go_sem])) ?_
    refine owl_run (wanted_none rfl) 12 (.bool (decide (3000 < ((nx : Nat) : Int)))) _ rfl (run_pickF (eval_cast (eval_of (pf4 (by decide) (put_get _ _ _ (by simp only [put_size]; rw [hsz]; decide)))) hb_7) (eval_of (put_get _ _ _ (by simp only [put_size]; rw [hsz]; decide)))) ?_
    refine owl_run (wanted_none rfl) 2 (.bool (decide (3000 < ((nx : Nat) : Int)))) _ rfl (run_assignOp (eval_of (put_get _ _ _ (by simp only [put_size]; rw [hsz]; decide)))) ?_
    refine fresh (C := fun x W => WL _ _ _ [] x W) (fun x X => _ = X ∧ x.tmps.size = 13 ∧ x.defers = [] ∧ x.tmps[2]? = some (.bool (decide (3000 < ((nx : Nat) : Int))))) ⟨rfl, (by simp only [put_size]; exact hsz), (by simp only [put_defers]; exact hdf), (put_get _ _ _ (by simp only [put_size]; rw [hsz]; decide))⟩ ?_
    clear hsz hdf s_1
    rintro a _ ⟨rfl, hsz, hdf, s_2⟩
    refine wl_done ?_
    refine ow_then ?_
    refine wp_ret ?_
    refine ow_ret1 rfl hdf s_2 ⟨_, rfl, hbW6, ?_⟩
    intro h; exact ⟨hz3 (by have := hb_7; simp at this; omega), by simp at h; omega⟩
structure MqOwn (W : World) (B : Nat) (m : Mq) (vc vw vf : Value) : Prop where
  c : W.ownsRow B 3 1 vc m.cs.length (m.cs.map (fun x => (.int .i64 x : Value)))
  w : W.ownsRow B 93 2 vw m.ws.length (m.ws.map rowWish).flatten
  f : W.ownsRow B 9 1 vf m.fs.length (m.fs.map (fun x => (.string x : Value)))
  cw : ∀ k, vc.ownBlock = some k → vw.ownBlock ≠ some k
  cf : ∀ k, vc.ownBlock = some k → vf.ownBlock ≠ some k
  wf : ∀ k, vw.ownBlock = some k → vf.ownBlock ≠ some k
theorem MqOwn.below {W W' : World} {B : Nat} {m : Mq} {vc vw vf : Value} (h : MqOwn W B m vc vw vf) (hb : Below W.heap.size W W') : MqOwn W' B m vc vw vf := ⟨below_own h.c hb, below_own h.w hb, below_own h.f hb, h.cw, h.cf, h.wf⟩
theorem MqOwn.lists {W : World} {B : Nat} {m : Mq} {vc vw vf : Value} (h : MqOwn W B m vc vw vf) : m.Lists W vc vw vf := by
  refine ⟨?_, ?_, ?_⟩
  · exact (SlR.of_own (by decide) (by intro q hq; obtain ⟨x, -, rfl⟩ := List.mem_map.1 hq; rfl) (by rw [flatNumbers]; exact h.c)).1
  · exact (SlR.of_own (by decide) (by intro q hq; obtain ⟨x, -, rfl⟩ := List.mem_map.1 hq; rfl) h.w).1
  · exact (SlR.of_own (by decide) (by intro q hq; obtain ⟨x, -, rfl⟩ := List.mem_map.1 hq; rfl) (by rw [flatStrings]; exact h.f)).1
end
end Go.Proofs.YtpgnlhfokffioaaDoor
namespace Go.Proofs.YtpgnlhfokffioaaDoor
section
open Go.RowKit Go.Lib
theorem num18_any (n : Int) (w : World) : Calls Tryd.prog 18 #[.int .i64 n] w fun e w' => e = .returned (.int .i64 n) ∧ w = w' := by
  go_enter Tryd.func18, Tryd.ntmps18
  go_wp2
  go_ret
  exact ⟨rfl, rfl⟩
theorem parseN {w : World} {n cd : Nat} {ad : Option Addr} {l : List UInt8} {p : Mq × Nat × Int} (hn : n = l.length) (hp : paG l = p) (hs : Sl w (.slice ad n cd) l) (hl : l.length ≤ 100000) (hT : Tabs w) :
    Calls Tryd.prog 16 #[.slice ad n cd] w fun e w' => ∃ ac cc aw cw af cf, e = .returned (.tuple #[p.1.val (.slice ac p.1.cs.length cc) (.slice aw p.1.ws.length cw) (.slice af p.1.fs.length cf), .int .i64 (p.2.1 : Int), .int .i64 p.2.2]) ∧ OL3 w' w.heap.size ac cc aw cw af cf p.1 ∧ Below w.heap.size w w' := by
  subst hn hp
  exact parseG hs hl hT
theorem slcA {a : Option Addr} {n c j : Nat} (h : ∃ b o, a = some ⟨b, o, none⟩) (h2 : j ≤ c) (h3 : c ≤ 9223372036854775807) (w : World) : (Instr.sliceAt 31 (.slice a n c) none (some (.int .i64 (j : Int))) none).run Tryd.prog w = .ok (.slice a j c) w := by
  obtain ⟨b, o, rfl⟩ := h
  exact run_slice1 b o n c j w h2 h3
theorem sl_pre {W : World} {n c k : Nat} {a : Option Addr} {l : List UInt8} (h : Sl W (.slice a n c) l) (ha : ∃ b o, a = some ⟨b, o, none⟩) (hk : k ≤ l.length) : Sl W (.slice a k c) (l.take k) := by
  obtain ⟨b, o, rfl⟩ := ha
  obtain ⟨rfl, -⟩ := sl_cap h
  exact h.prefix k hk
theorem idxAsk (b off n cap i : Nat) (hi : i < n) (w : World) : (Instr.indexAt 22 (.slice (some ⟨b, off, none⟩) n cap) (.int .i64 (i : Int))).run Tryd.prog w = .ok (.pointer (some ⟨b, off + i * 25, none⟩)) w := by
  have h2 : ¬ n ≤ i := by omega
  simp [go_sem, Instr.indexAt, h2]
theorem ask_at {w : World} {a : Option Addr} {n c i : Nat} {L : List (Mq × List UInt8)} {q : Mq × List UInt8} (h : SlOf w 25 Ask18.At (.slice a n c) L) (hi : L[i]? = some q) : ∃ b o, a = some ⟨b, o, none⟩ ∧ b < w.heap.size ∧ Ask18.At w b (o + i * 25) q := by
  obtain ⟨ao, cap, e, h1, h2, h3, h4⟩ := id h
  injection e with e1 e2 e3
  obtain ⟨b, off, e4, hb, hq⟩ := h4 (by rintro rfl; simp at hi)
  exact ⟨b, off, e1.trans e4, hb, hq i q hi⟩
theorem ask_len {w : World} {a : Option Addr} {n c : Nat} {L : List (Mq × List UInt8)} (h : SlOf w 25 Ask18.At (.slice a n c) L) : n = L.length := by
  obtain ⟨ao, cap, e, -⟩ := h
  injection e with e1 e2 e3
def O3N (ac : Option Addr) (cc : Nat) (aw : Option Addr) (cw : Nat) (af : Option Addr) (cf : Nat) (m : Mq) (q : Nat) : Prop := (∀ k, (Value.slice ac m.cs.length cc).ownBlock = some k → k ≠ q) ∧ (∀ k, (Value.slice aw m.ws.length cw).ownBlock = some k → k ≠ q) ∧ (∀ k, (Value.slice af m.fs.length cf).ownBlock = some k → k ≠ q)
theorem OL3.ltq {W : World} {B q : Nat} {ac aw af : Option Addr} {cc cw cf : Nat} {m : Mq} (h : OL3 W B ac cc aw cw af cf m) (hq : W.heap.size ≤ q) : O3N ac cc aw cw af cf m q := ⟨fun k hk e => by have := (blk_lt h.c hk).2; omega, fun k hk e => by have := (blk_lt h.w hk).2; omega, fun k hk e => by have := (blk_lt h.f hk).2; omega⟩
theorem OL3.chgN {W W' : World} {B q : Nat} {ac aw af : Option Addr} {cc cw cf : Nat} {m : Mq} (h : OL3 W B ac cc aw cw af cf m) (s : W.grownBy W' (some q)) (hn : O3N ac cc aw cw af cf m q) : OL3 W' B ac cc aw cw af cf m := ⟨olC_chg h.c s hn.1, olW_chg h.w s hn.2.1, olF_chg h.f s hn.2.2⟩
theorem ldSl {W : World} {b o : Nat} {v : Value} (h : W.cell? ⟨b, o, none⟩ = some v) : (Instr.loadAt 31 (.pointer (some ⟨b, o, none⟩))).run Tryd.prog W = .ok v W := by simp [go_sem, Instr.loadAt, h]
theorem en12 : enG (zM 12) = [192, 0] := by decide +kernel
theorem hm12 : mayG (zM 12) = true := by
  unfold mayG; rw [Bool.and_eq_true]; exact ⟨rfl, by decide +kernel⟩
set_option maxRecDepth 100000 in
set_option maxHeartbeats 4000000 in
theorem wakesG {w : World} (hT : Tabs w) :
    Calls Tryd.prog 22 #[] w fun e w' => e = .returned (.bool true) ∧ Below w.heap.size w w' := by
  have hb0 := Below.refl w.heap.size w
  refine fw_en 16 [] Tryd.func22 rfl Tryd.ntmps22 rfl trivial ?_
  refine fw_sq (fw_rg rfl (fw_pu rfl (fw_dt (fw_sq (fw_rg rfl ?_)))))
  refine fw_ex 4 (.agg #[.int .i64 12, .string { data := #[] }, .bool false, .int .i64 0, .bool false, .string { data := #[] }, .string { data := #[] }, .int .i64 0, .bool false, .string { data := #[] }, .bool false, .string { data := #[] }, .bool false, .bool false, .int .i64 0, .slice none 0 0, .bool false, .int .i64 0, .bool false, .string { data := #[] }, .int .i64 0, .string { data := #[] }, .slice none 0 0, .slice none 0 0]) rfl rfl rfl (fun a h => (run_buildOp (bp1 (h.ev rfl)) (by first | kernel_rfl | rfl))) ?_
  refine fw_ca Tryd.func24 rfl rfl rfl ((bytesOk (zM 12) none none none _ _ _ 0 0 0 w ⟨nilL _ _, nilL _ _, nilL _ _⟩ (zM_far 12) (hT.below hb0) hm12)) ?_
  rintro _ VB ⟨_, aB, cB, rfl, rfl, hnB, hoB, hbB⟩
  refine ⟨_, rfl, ?_⟩
  have b1 := hb0.trans (hbB.mono hb0.size)
  iterate 5 refine fw_pu rfl ?_
  refine fw_dt (fw_sq (fw_rg rfl (fw_pu rfl (fw_ca Tryd.func18 rfl rfl rfl ((num18_any 0 VB)) ?_))))
  rintro _ _ ⟨rfl, rfl⟩
  refine ⟨(.int .i64 0), rfl, ?_⟩
  iterate 3 refine fw_pu rfl ?_
  refine fw_al (t := 5) (u := fun q => .slice (some ⟨q, 0, none⟩) 2 2) 13 [(B8 192), (B8 0)] rfl rfl rfl (fun a h => (bs8_2 _ (h.ev rfl) (h.ev rfl))) ?_
  intro q2 W3 g6 s4 r5
  have := Nat.le_trans b1.size g6
  have b7 := b1.trans (s4.mono b1.size)
  have f8 := (below_own hoB s4)
  refine fw_ca Tryd.func20 rfl rfl rfl ((eqBytes_any _ _ (enG (zM 12)) [192, 0] W3 (by decide +kernel) (by decide) (Sl.of_own f8).1 (slBB _ _ 192 0 r5)).mono fun e X h => (show e = .returned (.bool true) ∧ Below W3.heap.size W3 X from ⟨h.1.trans (by rw [en12]; rfl), by obtain ⟨m, rfl⟩ := h.2; exact bdrew (Below.refl _ _) m⟩)) ?_
  rintro _ VE ⟨rfl, hbE⟩
  refine ⟨(.bool true), rfl, ?_⟩
  have b9 := b7.trans (hbE.mono b7.size)
  have r10 := r5.below hbE
  have f11 := (below_own f8 hbE)
  iterate 2 refine fw_pu rfl ?_
  refine fw_dt (fw_rt ?_)
  refine ⟨fun a h => ?_⟩
  exact ow_ret1 rfl h.df (h.g 0 rfl) ⟨rfl, b9⟩
end
end Go.Proofs.YtpgnlhfokffioaaDoor
