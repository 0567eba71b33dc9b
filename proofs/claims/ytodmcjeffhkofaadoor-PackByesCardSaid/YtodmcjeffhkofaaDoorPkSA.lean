/-
  Packets: what the law of a kind wants.
-/
import Derived.Test.YtodmcjeffhkofaaDoorMqB
namespace Go.Proofs.YtodmcjeffhkofaaDoor
open Go.RowKit
def idB (n : Int) : Bool := decide (1 ≤ n ∧ n ≤ 65535)
def Mq.cackB (m : Mq) : Bool := decide (0 ≤ m.code) && decide (m.code ≤ 5) && (!m.pres || m.code == 0)
theorem isID_any (n : Int) (w : World) : Calls Tryd.prog 89 #[.int .i64 n] w fun e w' => e = .returned (.bool (idB n)) ∧ w = w' := by
  obtain ⟨b, hb⟩ : ∃ b, b = idB n := ⟨_, rfl⟩
  rw [← hb]
  have HB := Lib.hid (hb.trans (by rfl : idB n = decide (1 ≤ n ∧ n ≤ 65535))); clear hb
  by_cases h0 : 1 ≤ n
  · go_enter Tryd.func89, Tryd.ntmps89
    go_wp2
    go_ret
    exact ⟨by rw [HB.out]; congr 2; simp [h0], rfl⟩
  · go_enter Tryd.func89, Tryd.ntmps89
    go_wp2
    go_ret
    exact ⟨by rw [HB.out]; congr 2; simp; omega, rfl⟩
theorem idR_any (n : Int) (w : World) : Calls Tryd.prog 65 #[.int .i64 n] w fun e w' => e = .returned (.bool (idB n)) ∧ w = w' := by
  obtain ⟨b, hb⟩ : ∃ b, b = idB n := ⟨_, rfl⟩
  rw [← hb]
  have HB := Lib.hid (hb.trans (by rfl : idB n = decide (1 ≤ n ∧ n ≤ 65535))); clear hb
  by_cases h0 : 1 ≤ n
  · go_enter Tryd.func65, Tryd.ntmps65
    go_wp2
    go_ret
    exact ⟨by rw [HB.out]; congr 2; simp [h0], rfl⟩
  · go_enter Tryd.func65, Tryd.ntmps65
    go_wp2
    go_ret
    exact ⟨by rw [HB.out]; congr 2; simp; omega, rfl⟩
theorem numR_any (n m : Int) (w : World) : Calls Tryd.prog 62 #[.int .i64 n, .int .i64 m] w fun e w' => e = .returned (.bool (decide (0 ≤ n) && decide (n ≤ m))) ∧ w = w' := by
  by_cases h0 : 0 ≤ n
  · go_enter Tryd.func62, Tryd.ntmps62
    go_wp2
    go_ret
    exact ⟨by simp [h0], rfl⟩
  · go_enter Tryd.func62, Tryd.ntmps62
    go_wp2
    go_ret
    exact ⟨by rw [decide_eq_false (by omega : ¬ 0 ≤ n)]; rfl, rfl⟩
/-- May it be? By kinds; the simple ones. -/
def Mq.simB (m : Mq) : Bool := decide (m.k = 2 ∨ m.k = 4 ∨ m.k = 5 ∨ m.k = 6 ∨ m.k = 7 ∨ m.k = 11 ∨ m.k = 12 ∨ m.k = 13 ∨ m.k = 14)
abbrev E0 : ByteArray := { data := #[] }
theorem E0_list : E0.toList = [] := ba_nil
theorem nil_dec {α : Type} [DecidableEq α] (l : List α) : decide (([] : List α) = l) = (((l.length : Nat) : Int) == 0) := by cases l <;> simp <;> omega
theorem nl_beq (l : List UInt8) : (([] : List UInt8) == l) = (l == []) := by cases l <;> rfl
theorem z_beq (n : Int) : ((0 : Int) == n) = (n == 0) := by rw [Bool.eq_iff_iff, beq_iff_eq, beq_iff_eq]; exact eq_comm
theorem f_beq (b : Bool) : (false == b) = !b := by cases b <;> rfl
theorem eqB_id (k : Int) (m : Mq) : (({ k := k, cl := E0, clean := false, keep := 0, wI := false, wT := E0, wP := E0, wQ := 0, wR := false, us := E0, hu := false, pa := E0, hp := false, pres := false, code := 0, cs := [], dup := false, q := 0, re := false, top := E0, id := m.id, pay := E0, ws := [], fs := [] } : Mq)).eqB { m with k := k } = (({ m with k := k, id := 0 } : Mq)).noB := by
  simp only [Mq.eqB, Mq.noB, isE, E0_list, nil_dec, nl_beq, z_beq, f_beq, beq_self_eq_true, Bool.true_and, Bool.and_assoc]
theorem eqB_no (k : Int) (m : Mq) : (({ k := k, cl := E0, clean := false, keep := 0, wI := false, wT := E0, wP := E0, wQ := 0, wR := false, us := E0, hu := false, pa := E0, hp := false, pres := false, code := 0, cs := [], dup := false, q := 0, re := false, top := E0, id := 0, pay := E0, ws := [], fs := [] } : Mq)).eqB { m with k := k } = (({ m with k := k } : Mq)).noB := by
  simp only [Mq.eqB, Mq.noB, isE, E0_list, nil_dec, nl_beq, z_beq, f_beq, beq_self_eq_true, Bool.true_and, Bool.and_assoc]
theorem num2_nil (B : Nat) (v : Int) (w : World) (hB : B ≤ w.heap.size) :
    Calls Tryd.prog 85 #[.slice none 0 0, .int .i64 2, .int .i64 v] w fun e w' => ∃ u, e = .returned u ∧ ∃ ao cp, u = .slice ao 2 cp ∧ Below w.heap.size w w' ∧ w'.ownsRow B 5 1 (.slice ao 2 cp) 2 ((bigv v 2).map B8) :=
  (numApp_k w.heap.size 0 (.slice none 0 0) [] 2 2 v w rfl (World.ownsRow_nil _ _ _ _) (by decide) (by decide) (Nat.le_refl _)).mono fun e w' ⟨u, he, hg, ho⟩ => by
    obtain ⟨ao, cp, rfl⟩ := own_slice ho
    exact ⟨_, he, ao, cp, by simp, grew_nil hg, by simpa using own_mono ho hB⟩
set_option maxRecDepth 100000 in
set_option maxHeartbeats 1000000 in
theorem appendLength_small (base n0 : Nat) (vb : Value) (xs : List UInt8) (n : Nat) (hn : n < 128) (w : World) (hown : w.ownsRow base 5 1 vb n0 (xs.map B8)) (hn0 : n0 ≤ 900000) (hbase : base ≤ w.heap.size) :
    Calls Tryd.prog 60 #[vb, .int .i64 n] w fun e w' => ∃ v', e = .returned v' ∧ Below base w w' ∧ w'.ownsRow base 5 1 v' (n0 + 1) ((xs ++ [UInt8.ofNat n]).map B8) := by
  obtain ⟨i0, hi, hz0, hz1, hz2⟩ := info_parts infoU8
  have h128 : decide ((128 : Int) ≤ (n : Int)) = false := by simp; omega
  have hlt : (n : Int) < 128 := by omega
  have hb : ((UInt8.ofNat n).toNat : Int) = (n : Int) := by
    simp only [UInt8.toNat_ofNat']; omega
  have HB := Lib.hid hb
  clear hb
  go_enter Tryd.func60, Tryd.ntmps60
  go_wp2_with (first
    | (refine wp_loop_once ?_)
    | (at_builtin; refine wpList_append_at _ rfl _ _ 31 rfl base 5 i0 (.int .u8 0) 1 1 Tryd.underlying31 hi hz0 hz1 hz2 rfl (by decide) _ _ _ rfl (hown.alloc _) ⟨w.heap.size, 0, none⟩ 1 1 [B8 (UInt8.ofNat n)] rfl rfl ?c1 ?c2 ?c3 ?c4 ?c5 ?_))
  case c1 =>
    intro j u hj
    match j, hj with
    | 0, hj => simp at hj; subst hj; simp [Addr.add]; exact HB.out.symm
  case c2 => intro u hu; simp at hu; subst hu; rfl
  case c3 => unfold maxLen; omega
  case c4 => omega
  case c5 => simp; omega
  intro v' w1 hown' hgrow _
  have hb2 : Below base w w1 := ((Below.refl base w).alloc hbase _).grown hgrow (by simp; omega) (fun k hk => (hown.lt k hk).1)
  go_wp2
  go_ret
  exact ⟨_, rfl, hb2, by rw [List.map_append]; exact hown'⟩
theorem own_one (w : World) (x : UInt8) : (w.alloc (.cells #[B8 x] 5)).ownsRow w.heap.size 5 1 (.slice (some ⟨w.heap.size, 0, none⟩) 1 1) 1 ([x].map B8) :=
  ⟨rfl, .inr ⟨w.heap.size, 1, #[B8 x], rfl, Nat.le_refl _, heap_alloc_new w _, Nat.le_refl _, by unfold maxLen; omega, rfl, rfl⟩⟩
theorem opTo_append {o : Oper} {a : Act} {w : World} (s x : Operand)
    (ho : o.op = .call { callee := .builtin .append, args := #[s, x], argTypes := #[31, 31] }) (base : Nat) (v : Value) (n : Nat) (xs l : List UInt8) (hs : a.eval s = v) (hown : w.ownsRow base 5 1 v n (xs.map B8)) (vx : Value) (hx : a.eval x = vx) (hl : Sl w vx l)
    (hb1 : n ≤ 100000000) (hb2 : l.length ≤ 100000000) (hbase : base ≤ w.heap.size) : opTo Tryd.prog o a w fun v' w' => Below base w w' ∧ w'.ownsRow base 5 1 v' (n + l.length) ((xs ++ l).map B8) := by
  obtain ⟨i0, hi, hz0, hz1, hz2⟩ := info_parts infoU8
  obtain ⟨ao, cap, rfl, h1, h2, h3, h4⟩ := id hl
  cases ao with
  | none =>
    have hc := h3 rfl
    have hl0 : l = [] := List.eq_nil_of_length_eq_zero (by omega)
    subst hl0 hc
    have hr := run_append_owned_none (P := Tryd.prog) (w := w) base 31 o.type 5 i0 1 Tryd.underlying31 hi v n (xs.map B8) hown
    refine .inl ⟨v, w, ?_, Below.refl _ _, by simpa using hown⟩
    unfold execOp
    simp only [ho, resolve, invoke, builtin, Sem.run_bind, Sem.run_pure, Result.andThen_ok, List.map_toArray, List.map_cons, List.map_nil, hs, hx, List.length_nil, hr]
  | some ad =>
    obtain ⟨v', w', hr, h2', h3', h4'⟩ := run_append_at (P := Tryd.prog) w base 31 o.type 5 i0 (.int .u8 0) 1 1 Tryd.underlying31 hi hz0 hz1 hz2 rfl (by decide) v n (xs.map B8) hown ad l.length cap (l.map B8) (by simp) hl.news (B8_one l) (by unfold maxLen; omega) (by omega) hbase
    refine .inl ⟨v', w', ?_, grew_below ((Grew.refl w v).app0 h3' h4') hbase (own_block hown), by rw [List.map_append]; exact h2'⟩
    unfold execOp
    simp only [ho, resolve, invoke, builtin, Sem.run_bind, Sem.run_pure, Result.andThen_ok, List.map_toArray, List.map_cons, List.map_nil, hs, hx, hr]

theorem run_build1 {ρ : Operand → Value} {d : Option Tmp} {x : Operand} {ty : TypeId} {pos : String} {af : Array Edge} {g : Option (Nat × Bool)} {n : Int} {w : World} (hx : ρ x = .int .u8 n) :
    (execOp ρ ⟨d, .buildSlice 31 1 #[(0, x)], ty, pos, af, g⟩).run Tryd.prog w = .ok (.value (.slice (some ⟨w.heap.size, 0, none⟩) 1 1)) (w.alloc (.cells #[.int .u8 n] 5)) := by
  simp [execOp, hx, go_sem, Instr.buildSlice]
theorem body_sl {e : Ending} {w X : World} {B n : Nat} {l : List UInt8} (h : ∃ v, e = .returned v ∧ Below w.heap.size w X ∧ X.ownsRow B 5 1 v n (l.map B8)) : ∃ v, e = .returned v ∧ ∃ ao cp, v = .slice ao n cp ∧ Below w.heap.size w X ∧ Sl X (.slice ao n cp) l := by
  obtain ⟨v, he, hb, ho⟩ := h
  obtain ⟨ao, cp, rfl⟩ := own_slice ho
  exact ⟨_, he, ao, cp, rfl, hb, (Sl.of_own ho).1⟩
theorem len_sl {e : Ending} {w X : World} {B n : Nat} {l : List UInt8} (h : ∃ v, e = .returned v ∧ Below B w X ∧ X.ownsRow B 5 1 v n (l.map B8)) : ∃ v, e = .returned v ∧ ∃ ao cp, v = .slice ao n cp ∧ Below B w X ∧ X.ownsRow B 5 1 (.slice ao n cp) n (l.map B8) := by
  obtain ⟨v, he, hb, ho⟩ := h
  obtain ⟨ao, cp, rfl⟩ := own_slice ho
  exact ⟨_, he, ao, cp, rfl, hb, ho⟩
theorem big2_nil (B : Nat) (v : Int) (w : World) (hB : B ≤ w.heap.size) :
    Calls Tryd.prog 96 #[.int .i64 v, .int .i64 2] w fun e w' => ∃ u, e = .returned u ∧ ∃ ao cp, u = .slice ao 2 cp ∧ Below w.heap.size w w' ∧ w'.ownsRow B 5 1 (.slice ao 2 cp) 2 ((bigv v 2).map B8) :=
  (big_k 2 2 v w rfl (by decide)).mono fun e w' ⟨u, he, hg, ho⟩ => by
    obtain ⟨ao, cp, rfl⟩ := own_slice ho
    exact ⟨_, he, ao, cp, rfl, grew_nil hg, own_mono ho hB⟩
set_option maxRecDepth 100000 in
set_option maxHeartbeats 2000000 in
theorem measure_small (v : Value) (x0 nb : UInt8) (l : List UInt8) (hnb : nb.toNat < 128) (w : World) (hv : Sl w v (x0 :: nb :: l)) :
    Calls Tryd.prog 45 #[v] w fun e w' => e = .returned (.tuple #[.int .i64 2, .int .i64 (nb.toNat : Int), .int .i64 0]) ∧ w = w' := by
  obtain ⟨ao, cap, rfl, h1, h2, -, hB⟩ := hv
  obtain ⟨b, off, rfl, hbw, hBB⟩ := hB (by simp)
  have hc := hBB 1 nb rfl
  have hn : (nb.toNat : Int) < 128 := by omega
  have hlen : (x0 :: nb :: l).length = l.length + 2 := rfl
  rw [hlen] at h1 ⊢
  have h2' : cap ≤ 9223372036854775807 := by simpa [maxLen] using h2
  clear hBB hB h2 hlen
  have hmod : (nb.toNat : Int) % 128 = (nb.toNat : Int) := by omega
  have hor : bits BinOp.or IntKind.i64 0 (nb.toNat : Int) = (nb.toNat : Int) := by
    have := or_byte 0 (nb.toNat : Int) (by decide) (by decide) (by omega) (by omega)
    simpa using this
  have hor0 : bits BinOp.or IntKind.i64 0 0 = 0 := by decide
  have HO := Lib.hid hor; have HO0 := Lib.hid hor0
  clear hor hor0
  go_enter Tryd.func45, Tryd.ntmps45
  go_wp2_with fail
  refine wp_scope_end rfl rfl fun J' HJ => ?_
  repeat' (first | (refine wpSpine_label (HJ _ _ ?_)) | (refine wpSpine_seq rfl fun K hK => ?_; go_wp2_with (first | (refine wp_loop_once ?_))) | (refine wp_goto (HJ _ _ ?_)))
  all_goals
    simp only [Exit.jumpsTo]
    refine bodyPost_ret (v := .tuple #[.int .i64 2, .int .i64 (nb.toNat : Int), .int .i64 0]) ?_ rfl ⟨rfl, rfl⟩
    simp [results, Tryd.results45, go_sem, HO.out, HO0.out]
  all_goals omega
theorem Sl.at_some {w : World} {v : Value} {l : List UInt8} (h : Sl w v l) (hl : l ≠ []) : ∃ b off cap, v = .slice (some ⟨b, off, none⟩) l.length cap ∧ l.length ≤ cap ∧ cap ≤ 9223372036854775807 ∧ b < w.heap.size := by
  obtain ⟨ao, cap, rfl, h1, h2, h3, h4⟩ := h
  obtain ⟨b, off, rfl, hb, -⟩ := h4 hl
  exact ⟨b, off, cap, rfl, h1, by simpa [maxLen] using h2, hb⟩
set_option maxRecDepth 100000 in
set_option maxHeartbeats 2000000 in
theorem rdBytes_some (g b off cap : Nat) (l : List UInt8) (n k : Nat) (hk : k = min n l.length) (w : World) (hn : n ≤ 70000) (hg : w.cell? ⟨g, 0, none⟩ = some (.slice (some ⟨b, off, none⟩) l.length cap)) (hf : w.frozen? ⟨g, 0, none⟩ = false) (h1 : l.length ≤ cap) (_h2 : cap ≤ 9223372036854775807) :
    Calls Tryd.prog 100 #[.pointer (some ⟨g, 0, none⟩), .int .i64 n] w fun e w' => e = .returned (.slice (some ⟨b, off, none⟩) k cap) ∧ w' = w.setCell ⟨g, 0, none⟩ (.slice (if cap - k = 0 then some ⟨b, off, none⟩ else some ⟨b, off + k, none⟩) (l.length - k) (cap - k)) := by
  by_cases hc : n ≤ l.length
  · obtain rfl : k = n := by omega
    have hd : (k : Int) ≤ (l.length : Int) := by omega
    clear hk
    go_enter Tryd.func100, Tryd.ntmps100
    go_wp2
    all_goals go_ret
    all_goals exact ⟨rfl, rfl⟩
  · obtain rfl : k = l.length := by omega
    have hd : (l.length : Int) < (n : Int) := by omega
    clear hk
    go_enter Tryd.func100, Tryd.ntmps100
    go_wp2
    all_goals go_ret
    all_goals exact ⟨rfl, rfl⟩
theorem Sl.split {w : World} {b off cap : Nat} {l : List UInt8} (h : Sl w (.slice (some ⟨b, off, none⟩) l.length cap) l) (k : Nat) (hk : k ≤ l.length) :
    Sl w (.slice (some ⟨b, off, none⟩) k cap) (l.take k) ∧ Sl w (.slice (if cap - k = 0 then some ⟨b, off, none⟩ else some ⟨b, off + k, none⟩) (l.length - k) (cap - k)) (l.drop k) := by
  refine ⟨h.prefix k hk, ?_⟩
  obtain ⟨ao, c, hv, h1, h2, -⟩ := id h
  simp only [Value.slice.injEq] at hv
  obtain ⟨-, -, rfl⟩ := hv
  split
  · rename_i h0
    have hl : l.length - k = 0 := by omega
    have hd : l.drop k = [] := List.drop_eq_nil_of_le (by omega)
    rw [hl, h0, hd]
    exact Sl.none_left w _
  · exact h.suffix k hk
theorem rdBytes_none (g n : Nat) (w : World) (hn : n ≤ 70000) (hg : w.cell? ⟨g, 0, none⟩ = some (.slice none 0 0)) (hf : w.frozen? ⟨g, 0, none⟩ = false) :
    Calls Tryd.prog 100 #[.pointer (some ⟨g, 0, none⟩), .int .i64 n] w fun e w' => e = .returned (.slice none 0 0) ∧ w' = w.setCell ⟨g, 0, none⟩ (.slice none 0 0) := by
  by_cases h0 : n = 0
  · subst h0
    go_enter Tryd.func100, Tryd.ntmps100
    go_wp2
    all_goals go_ret
    all_goals exact ⟨rfl, rfl⟩
  · have hp : (0 : Int) < (n : Int) := by omega
    have hd : decide ((0 : Int) < (n : Int)) = true := by simpa using hp
    clear h0
    go_enter Tryd.func100, Tryd.ntmps100
    go_wp2
    all_goals go_ret
    all_goals exact ⟨rfl, rfl⟩
/-- What is left to a reader: bytes, at a place or none. -/
def SlN (w : World) (v : Value) (l : List UInt8) : Prop := Sl w v l ∧ (v = .slice none 0 0 ∨ ∃ b off n c, v = .slice (some ⟨b, off, none⟩) n c)
/-- What a reader reads, and what is left to it. -/
theorem rdBytes_any (w0 : World) (g n : Nat) (v : Value) (l : List UInt8) (w : World) (hn : n ≤ 70000) (hg : w.cell? ⟨g, 0, none⟩ = some v) (hf : w.frozen? ⟨g, 0, none⟩ = false) (hv : SlN w0 v l) :
    Calls Tryd.prog 100 #[.pointer (some ⟨g, 0, none⟩), .int .i64 n] w fun e w' => ∃ v1 v2, e = .returned v1 ∧ w' = w.setCell ⟨g, 0, none⟩ v2 ∧ Sl w0 v1 (l.take n) ∧ SlN w0 v2 (l.drop n) := by
  obtain ⟨hs, rfl | ⟨b, off, n1, cap, rfl⟩⟩ := hv
  · obtain ⟨ao, cap, he, h1, h2, h3, h4⟩ := id hs
    simp only [Value.slice.injEq] at he
    obtain rfl : l = [] := List.eq_nil_of_length_eq_zero he.2.1.symm
    exact (rdBytes_none g n w hn hg hf).mono fun e w' ⟨he, hw⟩ => ⟨_, _, he, hw, by simpa using Sl.none_left w0 _, by simpa using Sl.none_left w0 _, .inl rfl⟩
  · obtain ⟨ao, c, he, h1, h2, h3, h4⟩ := id hs
    simp only [Value.slice.injEq] at he
    obtain ⟨-, rfl, rfl⟩ := he
    have h2' : cap ≤ 9223372036854775807 := by simpa [maxLen] using h2
    have ht : l.take (min n l.length) = l.take n := by rw [List.take_eq_take_iff]; omega
    have hdr : l.drop (min n l.length) = l.drop n := by
      by_cases h : n ≤ l.length
      · rw [Nat.min_eq_left h]
      · rw [Nat.min_eq_right (by omega), List.drop_eq_nil_of_le (Nat.le_refl _), List.drop_eq_nil_of_le (by omega)]
    have hs2 := hs.split (min n l.length) (by omega)
    rw [ht, hdr] at hs2
    refine (rdBytes_some g b off cap l n _ rfl w hn hg hf h1 h2').mono fun e w' ⟨he, hw⟩ => ⟨_, _, he, hw, hs2.1, hs2.2, .inr ?_⟩
    split
    · exact ⟨_, _, _, _, rfl⟩
    · exact ⟨_, _, _, _, rfl⟩
/-- A reader that lies in a block of its own; what it reads is older. -/
structure RdrAt (w0 w : World) (g : Nat) (l : List UInt8) : Prop where
  cell : ∃ v, w.cell? ⟨g, 0, none⟩ = some v ∧ SlN w0 v l
  free : w.frozen? ⟨g, 0, none⟩ = false
  old : Below w0.heap.size w0 w
  le : w0.heap.size ≤ g
  lt : g < w.heap.size
set_option maxRecDepth 100000 in
set_option maxHeartbeats 2000000 in
theorem rdNumber_any (w0 : World) (g n : Nat) (l : List UInt8) (w : World) (hn : n ≤ 6) (h : RdrAt w0 w g l) :
    Calls Tryd.prog 76 #[.pointer (some ⟨g, 0, none⟩), .int .i64 n] w fun e w' => e = .returned (.int .i64 (ofv (l.take n))) ∧ RdrAt w0 w' g (l.drop n) ∧ Below g w w' := by
  obtain ⟨v, hc, hs⟩ := h.cell
  have C1 := Lib.hid (rdBytes_any w0 g n v l w (by omega) hc h.free hs)
  have H := Lib.hid h
  clear h hs hc
  go_enter Tryd.func76, Tryd.ntmps76
  go_wp2_with fail
  go_at_call 100
  refine C1.out.mono ?_
  rintro e w1 ⟨v1, v2, rfl, rfl, s1, s2⟩
  have HB := Lib.hid (H.out.old.setCell (p := ⟨g, 0, none⟩) H.out.le v2)
  have S2 := Lib.hid s2
  have N1 := Lib.hid (numRead_any v1 (l.take n) (w.setCell ⟨g, 0, none⟩ v2) (by rw [List.length_take]; omega) (s1.below HB.out))
  clear s1 s2 C1
  go_wp2_with fail
  go_at_call 99
  refine N1.out.mono ?_
  rintro e w1 ⟨rfl, rfl⟩
  go_wp2_with fail
  go_ret
  obtain ⟨u, hu, -⟩ := H.out.cell
  exact ⟨rfl, ⟨⟨v2, World.cell?_setCell_same _ _ _ hu, S2.out⟩, by rw [World.frozen?_setCell]; exact H.out.free, HB.out, H.out.le, by simpa using H.out.lt⟩, (Below.refl g w).setCell (Nat.le_refl _) v2⟩

set_option maxRecDepth 100000 in
set_option maxHeartbeats 1000000 in
theorem slEqual_any (v1 v2 : Value) (l1 l2 : List UInt8) (w : World) (hl : l1.length ≤ 1000000) (_hl2 : l2.length ≤ 1000000) (hv1 : Sl w v1 l1) (hv2 : Sl w v2 l2) :
    Calls Tryd.prog 47 #[v1, v2] w fun e w' => e = .returned (.bool (decide (l1 = l2))) ∧ ∃ m, w' = w.drewN m := by
  obtain ⟨ao1, cap1, rfl, -, -, -, hB1⟩ := hv1
  obtain ⟨ao2, cap2, rfl, -, -, -, hB2⟩ := hv2
  have HB1 := Lib.hid hB1; clear hB1
  have HB2 := Lib.hid hB2; clear hB2
  by_cases hlen : l1.length = l2.length
  · have hne : ((l1.length : Int) != (l2.length : Int)) = false := by simp [hlen]
    have HL := Lib.hid hlen
    go_enter Tryd.func47, Tryd.ntmps47
    have h1 : l1.length ≤ l2.length := by omega
    have h2 : l2.length ≤ l1.length := by omega
    clear hlen
    go_wp2
    go_loopw [13] (fun i wr => ∃ (k m : Nat), k ≤ l1.length ∧ i = .int .i64 k ∧ wr = w.drewN m ∧ l1.take k = l2.take k) (fun i _ => l1.length - (intOf i).toNat)
    case atStart => exact ⟨0, 0, by omega, rfl, rfl, rfl⟩
    case round =>
      obtain ⟨k, m, hk, rfl, rfl, heq⟩ := hrel
      have HE := Lib.hid heq; clear heq
      by_cases hlt : k < l1.length
      · obtain ⟨b1, off1, rfl, hbw1, hBB1⟩ := HB1.out (by intro h; simp [h] at hlt)
        obtain ⟨x, hx, hcx, hx1⟩ := hBB1.get k hlt
        obtain ⟨b2, off2, rfl, hbw2, hBB2⟩ := HB2.out (by intro h; have h5 : l2.length = 0 := by rw [h]; rfl
                                                          omega)
        obtain ⟨y, hy, hcy, hy1⟩ := hBB2.get k (by omega)
        have HX := Lib.hid hx; clear hx hBB1
        have HY := Lib.hid hy; clear hy hBB2
        have ht1 : l1.take (k+1) = l1.take k ++ [x] := by rw [List.take_add_one, HX.out]; rfl
        have ht2 : l2.take (k+1) = l2.take k ++ [y] := by rw [List.take_add_one, HY.out]; rfl
        have HT1 := Lib.hid ht1; have HT2 := Lib.hid ht2; clear ht1 ht2
        by_cases hxy : x = y
        · subst hxy
          go_wp2
          go_quiet (fail)
          go_wp2
          go_roundw
          case rel => exact ⟨k + 1, m + nq, by omega, by go_num, rfl, by rw [HT1.out, HT2.out, HE.out]⟩
          case measure => simp [intOf]; omega
        · have hne2 : ((x.toNat : Int) != (y.toNat : Int)) = true := by
            simp only [bne_iff_ne, ne_eq]; intro h; exact hxy (UInt8.toNat_inj.1 (by omega))
          have hfin : decide (l1 = l2) = false := by
            simp only [decide_eq_false_iff_not]; intro h
            have := HX.out; rw [h, HY.out] at this; exact hxy (by simpa using this.symm)
          have HF := Lib.hid hfin; clear hfin hxy
          go_wp2
          go_quiet (fail)
          go_wp2
          go_ret
          exact ⟨by rw [HF.out]; rfl, _, by first | rfl | exact World.drewN_drewN _ _ _⟩
      · have : k = l1.length := by omega
        have hfin : decide (l1 = l2) = true := by
          simp only [decide_eq_true_eq]
          have := HE.out; rw [List.take_of_length_le (by omega), List.take_of_length_le (by omega)] at this; exact this
        have HF := Lib.hid hfin; clear hfin this HB1 HB2
        go_wp2
        go_ret
        exact ⟨by rw [HF.out]; rfl, _, rfl⟩
  · have hne : ((l1.length : Int) != (l2.length : Int)) = true := by
      simp only [bne_iff_ne, ne_eq]; omega
    have hfin : decide (l1 = l2) = false := by simp only [decide_eq_false_iff_not]; intro h; exact hlen (by rw [h])
    have HF := Lib.hid hfin; clear hfin hlen HB1 HB2
    go_enter Tryd.func47, Tryd.ntmps47
    go_wp2
    go_ret
    exact ⟨by rw [HF.out]; rfl, 0, rfl⟩
theorem run_index0 (b o L cap : Nat) (w : World) (h : 0 < L) : (Instr.indexAt 31 (.slice (some ⟨b, o, none⟩) L cap) (.int .i64 0)).run Tryd.prog w = .ok (.pointer (some ⟨b, o, none⟩)) w := by
  simp [go_sem, Instr.indexAt, h]
/-- Where a slice from i on lies. -/
def adrAt (b o cap i : Nat) : Option Addr := if cap - i = 0 then some ⟨b, o, none⟩ else some ⟨b, o + i, none⟩
theorem run_slice1 (b o L cap j : Nat) (w : World) (h2 : j ≤ cap) (_h3 : cap ≤ 9223372036854775807) : (Instr.sliceAt 31 (.slice (some ⟨b, o, none⟩) L cap) none (some (.int .i64 j)) none).run Tryd.prog w = .ok (.slice (some ⟨b, o, none⟩) j cap) w := by
  have g2 : (j : Int) ≤ (cap : Int) := by omega
  simp [go_sem, Instr.sliceAt, *]
end Go.Proofs.YtodmcjeffhkofaaDoor
