/-
  Packets: what the laws lean on.
-/
import Derived.Test.YtpgnlhfokffioaaDoorKeC
namespace Go.Proofs.YtpgnlhfokffioaaDoor
section
open Go.RowKit Go.Lib
def idB (n : Int) : Bool := decide (1 ≤ n ∧ n ≤ 65535)
set_option maxRecDepth 100000 in
set_option maxHeartbeats 1000000 in
theorem idR_any (n : Int) (w : World) : Calls Tryd.prog 57 #[.int .i64 n] w fun e w' => e = .returned (.bool (idB n)) ∧ w = w' := by
  obtain ⟨b, hb⟩ : ∃ b, b = idB n := ⟨_, rfl⟩
  rw [← hb]
  have HB := Lib.hid (hb.trans (by rfl : idB n = decide (1 ≤ n ∧ n ≤ 65535))); clear hb
  by_cases h0 : 1 ≤ n
  · go_enter Tryd.func57, Tryd.ntmps57
    go_wp2
    go_ret
    exact ⟨by rw [HB.out]; congr 2; simp [h0], rfl⟩
  · go_enter Tryd.func57, Tryd.ntmps57
    go_wp2
    go_ret
    exact ⟨by rw [HB.out]; congr 2; simp; omega, rfl⟩
theorem numR_any (n m : Int) (w : World) : Calls Tryd.prog 54 #[.int .i64 n, .int .i64 m] w fun e w' => e = .returned (.bool (decide (0 ≤ n) && decide (n ≤ m))) ∧ w = w' := by
  by_cases h0 : 0 ≤ n
  · go_enter Tryd.func54, Tryd.ntmps54
    go_wp2
    go_ret
    exact ⟨by simp [h0], rfl⟩
  · go_enter Tryd.func54, Tryd.ntmps54
    go_wp2
    go_ret
    exact ⟨by rw [decide_eq_false (by omega : ¬ 0 ≤ n)]; rfl, rfl⟩
theorem idB_G (n : Int) : idB n = idG n := by unfold idB idG; by_cases h1 : 1 ≤ n <;> by_cases h2 : n ≤ 65535 <;> simp [h1, h2]
theorem idR_G (n : Int) (w : World) : Calls Tryd.prog 57 #[.int .i64 n] w fun e w' => e = .returned (.bool (idG n)) ∧ w = w' := by rw [← idB_G]; exact idR_any n w
theorem ixStr (s : ByteArray) (i : Nat) (x : UInt8) (hx : s.data.toList[i]? = some x) (w : World) : (Instr.index 9 (.string s) (.int .i64 (i : Int))).run Tryd.prog w = .ok (B8 x) w := by
  have hi : i < s.size := by have := (List.getElem?_eq_some_iff.1 hx).1; rwa [Array.length_toList] at this
  have hv : s.data[i]? = some x := by rw [← Array.getElem?_toList]; exact hx
  obtain ⟨hl, he⟩ := Array.getElem?_eq_some_iff.1 hv
  simp [go_sem, Instr.index, hi]
  exact congrArg (fun z : UInt8 => (z.toNat : Int)) he
theorem run_ixOp {P : Program} {ρ : Operand → Value} {d : Option Tmp} {ty : TypeId} {pos : String} {af : Array Edge} {g : Option (Nat × Bool)} {w : World} {v : Value} {t : TypeId} {x y : Operand} {u1 u2 : Value} (hx : ρ x = u1) (hy : ρ y = u2) (h : (Instr.index t u1 u2).run P w = .ok v w) : (execOp ρ ⟨d, .index t x y, ty, pos, af, g⟩).run P w = .ok (.value v) w := by
  unfold execOp
  simp only [hx, hy, Sem.run_bind, h, Result.andThen_ok]
  rfl
theorem u8e (x y : UInt8) (w : World) : (binOp .eql 5 (B8 x) (B8 y)).run Tryd.prog w = .ok (.bool (x == y)) w := by
  have e : ((x.toNat : Int) == (y.toNat : Int)) = (x == y) := by
    rw [Bool.eq_iff_iff, beq_iff_eq, beq_iff_eq]
    constructor
    · intro h; exact UInt8.toNat_inj.1 (by omega)
    · rintro rfl; rfl
  rw [← e]
  simp [go_sem]
theorem zr_all (s : ByteArray) : zrG s = !s.data.toList.all (fun x => !(x == 0)) := by
  unfold zrG
  rw [← Lib.contains_iff_indexByte, Bool.eq_iff_iff]
  simp only [List.contains_iff_mem, Bool.not_eq_true', List.all_eq_false]
  constructor
  · intro h; exact ⟨0, h, by decide⟩
  · rintro ⟨x, hx, h⟩
    by_cases h1 : x = 0
    · exact h1 ▸ hx
    · simp [h1] at h
def hasQ (l : List UInt8) : Bool := l.contains 43 || l.contains 35
theorem containsAny_hasQ : ∀ l : List UInt8, Lib.containsAny l [43, 35] = hasQ l
  | [] => rfl
  | b :: l => by
    have ih := containsAny_hasQ l
    unfold Lib.containsAny at ih ⊢
    have hge := Lib.indexAny_ge [43, 35] l
    rw [Lib.indexAny]
    unfold hasQ at ih ⊢
    by_cases hb : ([43, 35] : List UInt8).contains b = true
    · rw [if_pos hb]
      have : b = 43 ∨ b = 35 := by simpa using hb
      rcases this with rfl | rfl <;> simp
    · rw [if_neg hb]
      have h1 : ¬ b = 43 ∧ ¬ b = 35 := by simpa using hb
      have e1 : (b :: l).contains 43 = l.contains 43 := by simp; intro e; exact absurd e.symm h1.1
      have e2 : (b :: l).contains 35 = l.contains 35 := by simp; intro e; exact absurd e.symm h1.2
      rw [e1, e2, ← ih]
      by_cases h : Lib.indexAny l [43, 35] = -1
      · simp [h]
      · have h2 : (Lib.indexAny l [43, 35] == -1) = false := by simpa using h
        rw [h2]
        simp only [Bool.false_eq_true, if_false]
        have h3 : 0 ≤ Lib.indexAny l [43, 35] := by omega
        rw [decide_eq_true h3, decide_eq_true (by omega)]
theorem pl_all (s : ByteArray) : plG s = !s.data.toList.all (fun x => !(x == 43) && !(x == 35)) := by
  unfold plG
  rw [containsAny_hasQ, Bool.eq_iff_iff]
  unfold hasQ
  simp only [Bool.or_eq_true, List.contains_iff_mem, Bool.not_eq_true', List.all_eq_false]
  constructor
  · rintro (h | h)
    · exact ⟨43, h, by decide⟩
    · exact ⟨35, h, by decide⟩
  · rintro ⟨x, hx, h⟩
    by_cases h1 : x = 43
    · exact .inl (h1 ▸ hx)
    · by_cases h2 : x = 35
      · exact .inr (h2 ▸ hx)
      · simp [h1, h2] at h
def kpG (n : Int) : Bool := decide (0 ≤ n) && decide (n ≤ 65535)
def c5G (n : Int) : Bool := decide (0 ≤ n) && decide (n ≤ 5)
theorem numQ (n : Int) (w : World) : Calls Tryd.prog 54 #[.int .i64 n, .int .i64 2] w fun e w' => e = .returned (.bool (qsG n)) ∧ w = w' := numR_any n 2 w
theorem numK (n : Int) (w : World) : Calls Tryd.prog 54 #[.int .i64 n, .int .i64 65535] w fun e w' => e = .returned (.bool (kpG n)) ∧ w = w' := numR_any n 65535 w
theorem num5 (n : Int) (w : World) : Calls Tryd.prog 54 #[.int .i64 n, .int .i64 5] w fun e w' => e = .returned (.bool (c5G n)) ∧ w = w' := numR_any n 5 w
def wxG (l : List EWish) : Bool := !decide (((l.length : Nat) : Int) < 1) && (!decide (8 < ((l.length : Nat) : Int)) && wsG l)
def mxG (m : Mq) : Bool :=
  if m.k == 1 then txG m.cl 0 23 && (kpG m.keep && (wlG m && (txG m.us 0 64 && ((m.hu || (isE m.us && !m.hp)) && (decide ((m.pa.size : Int) ≤ 64) && (m.hp || isE m.pa))))))
  else if m.k == 2 then c5G m.code && (m.code == 0 || !m.pres)
  else if m.k == 3 then txG m.top 1 64 && (!plG m.top && (qsG m.q && (decide ((m.pay.size : Int) ≤ 128) && (if m.q == 0 then !m.dup && m.id == 0 else idG m.id))))
  else if (m.k == 4 || m.k == 5 || m.k == 6 || m.k == 7 || m.k == 11) then idG m.id
  else if m.k == 8 then idG m.id && wxG m.ws
  else if m.k == 9 then idG m.id && (decide (1 ≤ ((m.cs.length : Nat) : Int)) && (decide (((m.cs.length : Nat) : Int) ≤ 8) && csG m.cs))
  else if m.k == 10 then idG m.id && (decide (1 ≤ ((m.fs.length : Nat) : Int)) && (decide (((m.fs.length : Nat) : Int) ≤ 8) && fsG m.fs))
  else (m.k == 12 || m.k == 13 || m.k == 14)
theorem dec_not (a b : Int) : (!decide (a < b)) = decide (b ≤ a) := by by_cases h : a < b <;> simp [h] <;> omega
theorem mx_va (m : Mq) : mxG m = vaG m := by
  unfold mxG vaG
  have e1 : (txG m.cl 0 23 && (kpG m.keep && (wlG m && (txG m.us 0 64 && ((m.hu || (isE m.us && !m.hp)) && (decide ((m.pa.size : Int) ≤ 64) && (m.hp || isE m.pa))))))) = cnG m := by
    unfold cnG kpG
    rw [dec_not, dec_not, dec_not]
    exact (by decide : ∀ a b c d e f g h i j : Bool, (a && ((b && c) && (d && (e && ((f || (g && !h)) && (i && (h || j))))))) = ((a && (b && (c && d))) && ((e && (f || g)) && (i && ((h || j) && (!h || f)))))) _ _ _ _ _ _ _ _ _ _
  have e2 : (c5G m.code && (m.code == 0 || !m.pres)) = (decide (0 ≤ m.code) && (decide (m.code ≤ 5) && (!m.pres || m.code == 0))) := by
    unfold c5G
    exact (by decide : ∀ a b c d : Bool, ((a && b) && (d || !c)) = (a && (b && (!c || d)))) _ _ _ _
  have e3 : (txG m.top 1 64 && (!plG m.top && (qsG m.q && (decide ((m.pay.size : Int) ≤ 128) && (if m.q == 0 then !m.dup && m.id == 0 else idG m.id))))) = pbG m := by
    unfold pbG tpG
    rw [dec_not]
    exact (by decide : ∀ a b c d e : Bool, (a && (!b && (c && (d && e)))) = ((a && !b) && (c && (d && e)))) _ _ _ _ _
  have e8 : (idG m.id && wxG m.ws) = (idG m.id && (ctG m.ws.length && wsG m.ws)) := by
    unfold wxG ctG
    rw [dec_not, dec_not, Bool.and_assoc]
  have e9 : (idG m.id && (decide (1 ≤ ((m.cs.length : Nat) : Int)) && (decide (((m.cs.length : Nat) : Int) ≤ 8) && csG m.cs))) = (idG m.id && (ctG m.cs.length && csG m.cs)) := by
    unfold ctG
    rw [Bool.and_assoc]
  have e10 : (idG m.id && (decide (1 ≤ ((m.fs.length : Nat) : Int)) && (decide (((m.fs.length : Nat) : Int) ≤ 8) && fsG m.fs))) = (idG m.id && (ctG m.fs.length && fsG m.fs)) := by
    unfold ctG
    rw [Bool.and_assoc]
  rw [e1, e2, e3, e8, e9, e10]
theorem len0 {α : Type} : ((((([] : List α).length : Nat) : Int)) == 0) = true := rfl
theorem all_snoc {α : Type} {p : α → Bool} {l : List α} {i : Nat} {x : α} (hx : l[i]? = some x) : (l.take (i + 1)).all p = ((l.take i).all p && p x) := by
  rw [List.take_add_one, hx, List.all_append]; simp
set_option maxRecDepth 100000 in
set_option maxHeartbeats 4000000 in
theorem textX (s : ByteArray) (lo hi : Int) (w : World) (hs : s.size ≤ 9223372036854775806) (hT : Tabs w) :
    Calls Tryd.prog 53 #[.string s, .int .i64 lo, .int .i64 hi] w fun e w' => e = .returned (.bool (txG s lo hi)) ∧ Below w.heap.size w w' := by
  have hb0 := Below.refl w.heap.size w
  refine fw_en 33 [(0, .string s), (1, .int .i64 lo), (2, .int .i64 hi)] Tryd.func53 rfl Tryd.ntmps53 rfl ⟨rfl, rfl, rfl, trivial⟩ ?_
  refine fw_sq (fw_rg rfl (fw_pu rfl (fw_dt (fw_sq (fw_sq (fw_rg rfl ?_))))))
  iterate 5 refine fw_pu rfl ?_
  rcases Bool.eq_false_or_eq_true ((decide ((s.size : Int) < lo))) with hb_1 | hb_1
  · skip
    refine fw_kn 12 rfl hb_1 ?_
    iterate 10 refine fw_pu rfl ?_
    refine fw_dt (fw_cT rfl rfl (fw_sq (fw_rg rfl (fw_pu rfl (fw_dt (fw_rt (fw_tr ?_)))))))
    refine ⟨fun a h => ?_⟩
    have e1 : decide (lo ≤ (s.size : Int)) = false := by have h := of_decide_eq_true hb_1; exact decide_eq_false (by omega)
    exact ow_ret1 rfl h.df (h.g 6 rfl) ⟨by unfold txG; simp [e1], hb0⟩
  refine fw_kn 12 rfl hb_1 ?_
  iterate 6 refine fw_pu rfl ?_
  rcases Bool.eq_false_or_eq_true ((decide (hi < (s.size : Int)))) with hb_2 | hb_2
  · skip
    refine fw_kn 18 rfl hb_2 ?_
    iterate 4 refine fw_pu rfl ?_
    refine fw_dt (fw_cT rfl rfl (fw_sq (fw_rg rfl (fw_pu rfl (fw_dt (fw_rt (fw_tr ?_)))))))
    refine ⟨fun a h => ?_⟩
    have e1 : decide (lo ≤ (s.size : Int)) = true := by have h := of_decide_eq_false hb_1; exact decide_eq_true (by omega)
    have e2 : decide ((s.size : Int) ≤ hi) = false := by have h := of_decide_eq_true hb_2; exact decide_eq_false (by omega)
    exact ow_ret1 rfl h.df (h.g 6 rfl) ⟨by unfold txG; simp [e1, e2], hb0⟩
  refine fw_kn 18 rfl hb_2 (fw_pu rfl ?_)
  refine fw_ca Tryd.func78 rfl rfl rfl ((Any.utf8_ValidString Tryd.laysValid s w (by omega) (hT.below hb0))) ?_
  rintro _ V4 ⟨rfl, hb3⟩
  refine ⟨(.bool (vdG s)), rfl, ?_⟩
  have b5 := hb0.trans (hb3.mono hb0.size)
  iterate 2 refine fw_pu rfl ?_
  refine fw_dt ?_
  rcases Bool.eq_false_or_eq_true ((vdG s)) with hb_6 | hb_6
  · skip
    refine fw_cF rfl (not_of hb_6) (fw_sk (fw_th (fw_sq (fw_sq (fw_rg rfl (fw_pu rfl (fw_dt (fw_bk ?_))))))))
    refine fw_lp (fun N K W => ∃ (i : Nat), N = s.size - i ∧ i ≤ s.size ∧ (s.data.toList.take i).all (fun x => !(x == 0)) = true ∧ K = [(0, .string s), (7, .int .i64 ((i : Nat) : Int))] ∧ Below w.heap.size w W) _ _ ⟨0, rfl, Nat.zero_le _, rfl, rfl, b5⟩ ⟨rfl, (by first | rfl | (simp only [Look, cond, Nat.beq]; first | rfl | (congr 2; first | rfl | omega | (push_cast; omega)) | (simp; try omega))), trivial⟩ ?_
    rintro N _ W7 ⟨i, rfl, hil, hall, rfl, bW7⟩
    intro K9 hK9
    refine fw_sq (fw_sq (fw_rg rfl ?_))
    iterate 4 refine fw_pu rfl ?_
    refine fw_dt ?_
    rcases Bool.eq_false_or_eq_true ((decide (((i : Nat) : Int) < (s.size : Int)))) with hb_10 | hb_10
    · skip
      refine fw_cT rfl hb_10 (fw_sk (fw_th (fw_sq (fw_bk (fw_sq ?_)))))
      have hiL : i < s.data.toList.length := by have h := of_decide_eq_true hb_10; rw [Array.length_toList]; have h2 : s.data.size = s.size := rfl; omega
      have hiS : i < s.size := by rwa [Array.length_toList] at hiL
      obtain ⟨x, hx⟩ : ∃ x, s.data.toList[i]? = some x := ⟨_, List.getElem?_eq_getElem hiL⟩
      refine fw_rg rfl ?_
      iterate 2 refine fw_pu rfl ?_
      refine fw_ex 31 ((B8 x)) rfl rfl rfl (fun a h => (run_ixOp (h.ev rfl) (h.ev rfl) (ixStr _ _ _ hx _))) ?_
      refine fw_ex 32 (.bool (x == 0)) rfl rfl rfl (fun a h => (run_binOp (h.ev rfl) (h.ev rfl) (by simp [go_sem]) (u8e _ 0 _))) ?_
      refine fw_dt ?_
      rcases Bool.eq_false_or_eq_true ((x == 0)) with hb_11 | hb_11
      · skip
        refine fw_cT rfl hb_11 (fw_sq (fw_rg rfl (fw_pu rfl (fw_dt (fw_rt (fw_br ?_))))))
        iterate 2 refine fw_tr ?_
        refine fw_br (fw_tr ?_)
        refine ⟨fun a h => ?_⟩
        have e1 : decide (lo ≤ (s.size : Int)) = true := by have h := of_decide_eq_false hb_1; exact decide_eq_true (by omega)
        have e2 : decide ((s.size : Int) ≤ hi) = true := by have h := of_decide_eq_false hb_2; exact decide_eq_true (by omega)
        have hz : zrG s = true := by rw [zr_all, all_no hx (by simp [hb_11])]; rfl
        exact ow_ret1 rfl h.df (h.g 6 rfl) ⟨by unfold txG; simp [hz], bW7⟩
      refine fw_cF rfl hb_11 (fw_sk (fw_bn (fw_th (fw_rg rfl (fw_pu rfl ?_)))))
      refine fw_ex 28 (.int .i64 (((i + 1) : Nat) : Int)) rfl rfl rfl (fun a h => (run_binOp (h.ev rfl) (h.ev rfl) (by simp [go_sem]) (addIw _ _ _ _ (by omega) (by omega) (by omega)))) ?_
      refine fw_pu rfl (fw_dn ?_)
      exact fw_th (fw_gf (hK9 _ _ _ (by omega) ⟨(i + 1), rfl, (by omega), (all_take hall hx (by simp [hb_11])), rfl, bW7⟩) ⟨rfl, (by first | rfl | (simp only [Look, cond, Nat.beq]; first | rfl | (congr 2; first | rfl | omega | (push_cast; omega)) | (simp; try omega))), trivial⟩)
    refine fw_cF rfl hb_10 (fw_xt (fw_te (fw_te (fw_be (fw_th (fw_sq (fw_rg rfl (fw_pu rfl (fw_dt (fw_rt ?_))))))))))
    refine ⟨fun a h => ?_⟩
    have e1 : decide (lo ≤ (s.size : Int)) = true := by have h := of_decide_eq_false hb_1; exact decide_eq_true (by omega)
    have e2 : decide ((s.size : Int) ≤ hi) = true := by have h := of_decide_eq_false hb_2; exact decide_eq_true (by omega)
    have hi : i = s.data.toList.length := by have h := of_decide_eq_false hb_10; rw [Array.length_toList]; have h2 : s.data.size = s.size := rfl; omega
    rw [hi, List.take_length] at hall
    have hz : zrG s = false := by rw [zr_all, hall]; rfl
    exact ow_ret1 rfl h.df (h.g 6 rfl) ⟨by unfold txG; simp [e1, e2, hb_6, hz], bW7⟩
  refine fw_cT rfl (not_of hb_6) (fw_sq (fw_rg rfl (fw_pu rfl (fw_dt (fw_rt (fw_tr ?_))))))
  refine ⟨fun a h => ?_⟩
  have e1 : decide (lo ≤ (s.size : Int)) = true := by have h := of_decide_eq_false hb_1; exact decide_eq_true (by omega)
  have e2 : decide ((s.size : Int) ≤ hi) = true := by have h := of_decide_eq_false hb_2; exact decide_eq_true (by omega)
  exact ow_ret1 rfl h.df (h.g 6 rfl) ⟨by unfold txG; simp [e1, e2, hb_6], b5⟩
set_option maxRecDepth 100000 in
set_option maxHeartbeats 4000000 in
theorem plainX (s : ByteArray) (w : World) (hs : s.size ≤ 9223372036854775806) :
    Calls Tryd.prog 56 #[.string s] w fun e w' => e = .returned (.bool (!plG s)) ∧ Below w.heap.size w w' := by
  have hb0 := Below.refl w.heap.size w
  refine fw_en 20 [(0, .string s)] Tryd.func56 rfl Tryd.ntmps56 rfl ⟨rfl, trivial⟩ ?_
  refine fw_sq (fw_rg rfl (fw_pu rfl (fw_dt (fw_sq (fw_sq (fw_rg rfl (fw_pu rfl (fw_dt (fw_bk ?_)))))))))
  refine fw_lp (fun N K W => ∃ (i : Nat), N = s.size - i ∧ i ≤ s.size ∧ (s.data.toList.take i).all (fun x => !(x == 43) && !(x == 35)) = true ∧ K = [(0, .string s), (3, .int .i64 ((i : Nat) : Int))] ∧ Below w.heap.size w W) _ _ ⟨0, rfl, Nat.zero_le _, rfl, rfl, hb0⟩ ⟨rfl, (by first | rfl | (simp only [Look, cond, Nat.beq]; first | rfl | (congr 2; first | rfl | omega | (push_cast; omega)) | (simp; try omega))), trivial⟩ ?_
  rintro N _ W1 ⟨i, rfl, hil, hall, rfl, bW1⟩
  intro K3 hK3
  refine fw_sq (fw_sq (fw_rg rfl ?_))
  iterate 4 refine fw_pu rfl ?_
  refine fw_dt ?_
  rcases Bool.eq_false_or_eq_true ((decide (((i : Nat) : Int) < (s.size : Int)))) with hb_4 | hb_4
  · skip
    refine fw_cT rfl hb_4 (fw_sk (fw_th (fw_sq (fw_bk (fw_sq ?_)))))
    have hiL : i < s.data.toList.length := by have h := of_decide_eq_true hb_4; rw [Array.length_toList]; have h2 : s.data.size = s.size := rfl; omega
    have hiS : i < s.size := by rwa [Array.length_toList] at hiL
    obtain ⟨x, hx⟩ : ∃ x, s.data.toList[i]? = some x := ⟨_, List.getElem?_eq_getElem hiL⟩
    refine fw_rg rfl ?_
    iterate 2 refine fw_pu rfl ?_
    refine fw_ex 12 ((B8 x)) rfl rfl rfl (fun a h => (run_ixOp (h.ev rfl) (h.ev rfl) (ixStr _ _ _ hx _))) ?_
    refine fw_ex 13 (.bool (x == 43)) rfl rfl rfl (fun a h => (run_binOp (h.ev rfl) (h.ev rfl) (by simp [go_sem]) (u8e _ 43 _))) ?_
    refine fw_pu rfl ?_
    rcases Bool.eq_false_or_eq_true ((x == 43)) with hb_5 | hb_5
    · skip
      refine fw_kn 14 rfl hb_5 ?_
      iterate 5 refine fw_pu rfl ?_
      refine fw_dt (fw_cT rfl rfl (fw_sq (fw_rg rfl (fw_pu rfl (fw_dt (fw_rt (fw_br ?_)))))))
      iterate 2 refine fw_tr ?_
      refine fw_br (fw_tr ?_)
      refine ⟨fun a h => ?_⟩
      exact ow_ret1 rfl h.df (h.g 2 rfl) ⟨by rw [pl_all, all_no hx (by simp [hb_5])]; rfl, bW1⟩
    refine fw_kn 14 rfl hb_5 ?_
    iterate 2 refine fw_pu rfl ?_
    refine fw_ex 17 ((B8 x)) rfl rfl rfl (fun a h => (run_ixOp (h.ev rfl) (h.ev rfl) (ixStr _ _ _ hx _))) ?_
    refine fw_ex 18 (.bool (x == 35)) rfl rfl rfl (fun a h => (run_binOp (h.ev rfl) (h.ev rfl) (by simp [go_sem]) (u8e _ 35 _))) ?_
    refine fw_pu rfl (fw_dt ?_)
    rcases Bool.eq_false_or_eq_true ((x == 35)) with hb_6 | hb_6
    · skip
      refine fw_cT rfl hb_6 (fw_sq (fw_rg rfl (fw_pu rfl (fw_dt (fw_rt (fw_br ?_))))))
      iterate 2 refine fw_tr ?_
      refine fw_br (fw_tr ?_)
      refine ⟨fun a h => ?_⟩
      exact ow_ret1 rfl h.df (h.g 2 rfl) ⟨by rw [pl_all, all_no hx (by simp [hb_5, hb_6])]; rfl, bW1⟩
    refine fw_cF rfl hb_6 (fw_sk (fw_bn (fw_th (fw_rg rfl (fw_pu rfl ?_)))))
    refine fw_ex 9 (.int .i64 (((i + 1) : Nat) : Int)) rfl rfl rfl (fun a h => (run_binOp (h.ev rfl) (h.ev rfl) (by simp [go_sem]) (addIw _ _ _ _ (by omega) (by omega) (by omega)))) ?_
    refine fw_pu rfl (fw_dn ?_)
    exact fw_th (fw_gf (hK3 _ _ _ (by omega) ⟨(i + 1), rfl, (by omega), (all_take hall hx (by simp [hb_5, hb_6])), rfl, bW1⟩) ⟨rfl, (by first | rfl | (simp only [Look, cond, Nat.beq]; first | rfl | (congr 2; first | rfl | omega | (push_cast; omega)) | (simp; try omega))), trivial⟩)
  refine fw_cF rfl hb_4 (fw_xt (fw_te (fw_te (fw_be (fw_th (fw_sq (fw_rg rfl (fw_pu rfl (fw_dt (fw_rt ?_))))))))))
  refine ⟨fun a h => ?_⟩
  have hi : i = s.data.toList.length := by have h := of_decide_eq_false hb_4; rw [Array.length_toList]; have h2 : s.data.size = s.size := rfl; omega
  rw [hi, List.take_length] at hall
  exact ow_ret1 rfl h.df (h.g 2 rfl) ⟨by rw [pl_all, hall]; rfl, bW1⟩
set_option maxRecDepth 100000 in
set_option maxHeartbeats 4000000 in
theorem willX (m : Mq) (w : World) (hF : m.Far) (hT : Tabs w) :
    Calls Tryd.prog 55 #[.agg #[.bool m.wI, .string m.wT, .string m.wP, .int .i64 m.wQ, .bool m.wR]] w fun e w' => e = .returned (.bool (wlG m)) ∧ Below w.heap.size w w' := by
  have hb0 := Below.refl w.heap.size w
  have hF0 : m.cl.size ≤ 140737488351232 := hF.cl
  have hF1 : m.wT.size ≤ 140737488351232 := hF.wT
  have hF2 : m.wP.size ≤ 140737488351232 := hF.wP
  have hF3 : m.us.size ≤ 140737488351232 := hF.us
  have hF4 : m.pa.size ≤ 140737488351232 := hF.pa
  have hF5 : m.top.size ≤ 140737488351232 := hF.top
  have hF6 : m.pay.size ≤ 140737488351232 := hF.pay
  refine fw_en 23 [(0, .agg #[.bool m.wI, .string m.wT, .string m.wP, .int .i64 m.wQ, .bool m.wR])] Tryd.func55 rfl Tryd.ntmps55 rfl ⟨rfl, trivial⟩ ?_
  refine fw_sq (fw_rg rfl (fw_bx rfl (cs := [.bool m.wI, .string m.wT, .string m.wP, .int .i64 m.wQ, .bool m.wR]) rfl ?_))
  intro q1 W2 g5 s3 r4
  have := Nat.le_trans hb0.size g5
  have b6 := hb0.trans (s3.mono hb0.size)
  refine fw_pu rfl (fw_dt (fw_sq (fw_sq (fw_rg rfl (fw_pu rfl (fw_ld r4 rfl rfl (fw_pu rfl (fw_dt ?_))))))))
  rcases Bool.eq_false_or_eq_true (m.wI) with hb_7 | hb_7
  · skip
    refine fw_cF rfl (not_of hb_7) (fw_sk (fw_th (fw_sq (fw_rg rfl (fw_pu rfl (fw_ld r4 rfl rfl ?_))))))
    refine fw_ca Tryd.func53 rfl rfl rfl ((textX m.wT 1 64 W2 (by omega) (hT.below b6))) ?_
    rintro _ V9 ⟨rfl, hb8⟩
    refine ⟨(.bool (txG m.wT 1 64)), rfl, ?_⟩
    have b10 := b6.trans (hb8.mono b6.size)
    have r11 := r4.below hb8
    refine fw_pu rfl ?_
    rcases Bool.eq_false_or_eq_true ((txG m.wT 1 64)) with hb_12 | hb_12
    · skip
      refine fw_kn 12 rfl hb_12 (fw_pu rfl (fw_ld r11 rfl rfl ?_))
      iterate 4 refine fw_pu rfl ?_
      rcases Bool.eq_false_or_eq_true ((decide ((m.wP.size : Int) ≤ 128))) with hb_13 | hb_13
      · skip
        refine fw_kn 18 rfl hb_13 (fw_pu rfl (fw_ld r11 rfl rfl (fw_ca Tryd.func54 rfl rfl rfl ((numQ m.wQ V9)) ?_)))
        rintro _ _ ⟨rfl, rfl⟩
        refine ⟨(.bool (qsG m.wQ)), rfl, ?_⟩
        iterate 2 refine fw_pu rfl ?_
        refine fw_dt (fw_rt ?_)
        refine ⟨fun a h => ?_⟩
        exact ow_ret1 rfl h.df (h.g 2 rfl) ⟨by (try unfold wlG); simp [hb_7, hb_12, hb_13], b10⟩
      refine fw_kn 18 rfl hb_13 ?_
      iterate 5 refine fw_pu rfl ?_
      refine fw_dt (fw_rt ?_)
      refine ⟨fun a h => ?_⟩
      exact ow_ret1 rfl h.df (h.g 2 rfl) ⟨by (try unfold wlG); simp [hb_7, hb_12, hb_13], b10⟩
    refine fw_kn 12 rfl hb_12 ?_
    iterate 11 refine fw_pu rfl ?_
    refine fw_dt (fw_rt ?_)
    refine ⟨fun a h => ?_⟩
    exact ow_ret1 rfl h.df (h.g 2 rfl) ⟨by (try unfold wlG); simp [hb_7, hb_12], b10⟩
  refine fw_cT rfl (not_of hb_7) (fw_sq (fw_rg rfl (fw_ld r4 rfl rfl ?_)))
  refine fw_ex 7 (.agg #[.bool false, .string { data := #[] }, .string { data := #[] }, .int .i64 0, .bool false]) rfl rfl rfl (fun a h => (run_buildOp (vs := #[]) (by simp) (by kernel_rfl))) ?_
  refine fw_ex 8 (.bool (!m.wI && isE m.wT && isE m.wP && (m.wQ == 0) && !m.wR)) rfl rfl rfl (fun a h => (run_binOp (h.ev rfl) (h.ev rfl) (eqWill _ _ _ _ _) (willZ _ _ _ _ _ _))) (fw_pu rfl (fw_dt (fw_rt (fw_tr ?_))))
  refine ⟨fun a h => ?_⟩
  exact ow_ret1 rfl h.df (h.g 2 rfl) ⟨by (try unfold wlG); simp [hb_7], b6⟩
set_option maxRecDepth 100000 in
set_option maxHeartbeats 4000000 in
theorem wishesX (l : List EWish) (a : Option Addr) (n c : Nat) (w : World) (hS : SlR w 2 (.slice a n c) (l.map rowWish)) (hl : l.length ≤ far) (hB : ∀ s ∈ l, s.f.size ≤ 140737488351232) (hT : Tabs w) :
    Calls Tryd.prog 58 #[.slice a n c] w fun e w' => e = .returned (.bool (wxG l)) ∧ Below w.heap.size w w' := by
  obtain rfl : n = l.length := by have := slR_len hS; simpa using this
  have hb0 := Below.refl w.heap.size w
  have hl0 : l.length ≤ 140737488351232 := hl
  refine fw_en 34 [(0, .slice a l.length c)] Tryd.func58 rfl Tryd.ntmps58 rfl ⟨rfl, trivial⟩ ?_
  refine fw_sq (fw_rg rfl (fw_pu rfl (fw_dt (fw_sq (fw_sq (fw_rg rfl ?_))))))
  iterate 4 refine fw_pu rfl ?_
  rcases Bool.eq_false_or_eq_true ((decide (((l.length : Nat) : Int) < 1))) with hb_1 | hb_1
  · skip
    refine fw_kn 7 rfl hb_1 ?_
    iterate 4 refine fw_pu rfl ?_
    refine fw_dt (fw_cT rfl rfl (fw_sq (fw_rg rfl (fw_pu rfl (fw_dt (fw_rt (fw_tr ?_)))))))
    refine ⟨fun a h => ?_⟩
    exact ow_ret1 rfl h.df (h.g 2 rfl) ⟨by unfold wxG; simp only [hb_1]; rfl, hb0⟩
  refine fw_kn 7 rfl hb_1 ?_
  iterate 4 refine fw_pu rfl ?_
  refine fw_dt ?_
  rcases Bool.eq_false_or_eq_true ((decide (8 < ((l.length : Nat) : Int)))) with hb_2 | hb_2
  · skip
    refine fw_cT rfl hb_2 (fw_sq (fw_rg rfl (fw_pu rfl (fw_dt (fw_rt (fw_tr ?_))))))
    refine ⟨fun a h => ?_⟩
    exact ow_ret1 rfl h.df (h.g 2 rfl) ⟨by unfold wxG; simp only [hb_1, hb_2]; rfl, hb0⟩
  refine fw_cF rfl hb_2 (fw_sk (fw_th (fw_sq (fw_sq (fw_rg rfl (fw_pu rfl (fw_dt (fw_bk ?_))))))))
  refine fw_lp (fun N K W => ∃ (i : Nat), N = l.length - i ∧ i ≤ l.length ∧ (l.take i).all wishG = true ∧ K = [(0, .slice a l.length c), (3, .int .i64 ((i : Nat) : Int))] ∧ Below w.heap.size w W) _ _ ⟨0, rfl, Nat.zero_le _, rfl, rfl, hb0⟩ ⟨rfl, (by first | rfl | (simp only [Look, cond, Nat.beq]; first | rfl | (congr 2; first | rfl | omega | (push_cast; omega)) | (simp; try omega))), trivial⟩ ?_
  rintro N _ W3 ⟨i, rfl, hil, hall, rfl, bW3⟩
  intro K5 hK5
  refine fw_sq (fw_sq (fw_rg rfl ?_))
  iterate 4 refine fw_pu rfl ?_
  refine fw_dt ?_
  rcases Bool.eq_false_or_eq_true ((decide (((i : Nat) : Int) < ((l.length : Nat) : Int)))) with hb_6 | hb_6
  · skip
    refine fw_cT rfl hb_6 (fw_sk (fw_th (fw_sq (fw_bk (fw_sq ?_)))))
    have hiL : i < l.length := by have h := of_decide_eq_true hb_6; omega
    obtain ⟨x0, hx0⟩ : ∃ p, l[i]? = some p := ⟨_, List.getElem?_eq_getElem hiL⟩
    obtain ⟨bP, oP, haP, hbP, hcP⟩ := slR_at hS (i := i) (q := rowWish x0) (by rw [List.getElem?_map, hx0]; rfl)
    have hsz := hB x0 (List.mem_of_getElem? hx0)
    refine fw_rg rfl ?_
    iterate 2 refine fw_pu rfl ?_
    refine fw_ex 20 (.pointer (some ⟨bP, (oP + i * 2), none⟩)) rfl rfl rfl (fun a h => (run_indexOp (h.ev rfl) (h.ev rfl) (by rw [haP]; exact idxWs _ _ _ _ _ hiL _))) ?_
    refine fw_pu rfl ?_
    refine fw_ex 22 (.string x0.f) rfl rfl rfl (fun a h => (run_loadOp (h.ev rfl) (ldS1 ((Below.cell bW3 (p := ⟨bP, oP + i * 2 + 0, none⟩) hbP).trans (hcP 0 _ rfl))))) ?_
    refine fw_ca Tryd.func53 rfl rfl rfl ((textX x0.f 1 64 W3 (by omega) (hT.below bW3))) ?_
    rintro _ V8 ⟨rfl, hb7⟩
    refine ⟨(.bool (txG x0.f 1 64)), rfl, ?_⟩
    have b9 := bW3.trans (hb7.mono bW3.size)
    iterate 2 refine fw_pu rfl ?_
    rcases Bool.eq_false_or_eq_true ((txG x0.f 1 64)) with hb_10 | hb_10
    · skip
      refine fw_kn 25 rfl (not_of hb_10) ?_
      iterate 2 refine fw_pu rfl ?_
      refine fw_ex 28 (.pointer (some ⟨bP, (oP + i * 2), none⟩)) rfl rfl rfl (fun a h => (run_indexOp (h.ev rfl) (h.ev rfl) (by rw [haP]; exact idxWs _ _ _ _ _ hiL _))) ?_
      refine fw_pu rfl ?_
      refine fw_ex 30 (.int .i64 x0.q) rfl rfl rfl (fun a h => (run_loadOp (h.ev rfl) (ldI1 ((Below.cell b9 (p := ⟨bP, oP + i * 2 + 1, none⟩) hbP).trans (hcP 1 _ rfl))))) ?_
      refine fw_ca Tryd.func54 rfl rfl rfl ((numQ x0.q V8)) ?_
      rintro _ _ ⟨rfl, rfl⟩
      refine ⟨(.bool (qsG x0.q)), rfl, ?_⟩
      iterate 2 refine fw_pu rfl ?_
      refine fw_dt ?_
      rcases Bool.eq_false_or_eq_true ((qsG x0.q)) with hb_11 | hb_11
      · skip
        refine fw_cF rfl (not_of hb_11) (fw_sk (fw_bn (fw_th (fw_rg rfl (fw_pu rfl ?_)))))
        refine fw_ex 17 (.int .i64 (((i + 1) : Nat) : Int)) rfl rfl rfl (fun a h => (run_binOp (h.ev rfl) (h.ev rfl) (by simp [go_sem]) (addIw _ _ _ _ (by omega) (by omega) (by omega)))) ?_
        refine fw_pu rfl (fw_dn ?_)
        exact fw_th (fw_gf (hK5 _ _ _ (by omega) ⟨(i + 1), rfl, hiL, (all_take hall hx0 (by unfold wishG; simp [hb_10, hb_11])), rfl, b9⟩) ⟨rfl, (by first | rfl | (simp only [Look, cond, Nat.beq]; first | rfl | (congr 2; first | rfl | omega | (push_cast; omega)) | (simp; try omega))), trivial⟩)
      refine fw_cT rfl (not_of hb_11) (fw_sq (fw_rg rfl (fw_pu rfl (fw_dt (fw_rt (fw_br ?_))))))
      iterate 2 refine fw_tr ?_
      refine fw_br (fw_tr ?_)
      refine ⟨fun a h => ?_⟩
      have hw : wsG l = false := all_no hx0 (by unfold wishG; simp [hb_10, hb_11])
      exact ow_ret1 rfl h.df (h.g 2 rfl) ⟨by unfold wxG; simp only [hb_1, hb_2, hw]; rfl, b9⟩
    refine fw_kn 25 rfl (not_of hb_10) ?_
    iterate 8 refine fw_pu rfl ?_
    refine fw_dt (fw_cT rfl rfl (fw_sq (fw_rg rfl (fw_pu rfl (fw_dt (fw_rt (fw_br ?_)))))))
    iterate 2 refine fw_tr ?_
    refine fw_br (fw_tr ?_)
    refine ⟨fun a h => ?_⟩
    have hw : wsG l = false := all_no hx0 (by unfold wishG; simp [hb_10])
    exact ow_ret1 rfl h.df (h.g 2 rfl) ⟨by unfold wxG; simp only [hb_1, hb_2, hw]; rfl, b9⟩
  refine fw_cF rfl hb_6 (fw_xt (fw_te (fw_te (fw_be (fw_th (fw_sq (fw_rg rfl (fw_pu rfl (fw_dt (fw_rt ?_))))))))))
  refine ⟨fun a h => ?_⟩
  have hi : i = l.length := by have h := of_decide_eq_false hb_6; omega
  rw [hi, List.take_length] at hall
  have hw : wsG l = true := hall
  exact ow_ret1 rfl h.df (h.g 2 rfl) ⟨by unfold wxG; simp only [hb_1, hb_2, hw]; rfl, bW3⟩
set_option maxRecDepth 100000 in
set_option maxHeartbeats 4000000 in
theorem mayX (m : Mq) (ac aw af : Option Addr) (nc nw nf cc cw cf : Nat) (w : World) (hL : m.Lists w (.slice ac nc cc) (.slice aw nw cw) (.slice af nf cf)) (hF : m.Far) (hN : m.cs.length ≤ 1000000 ∧ m.ws.length ≤ 1000000 ∧ m.fs.length ≤ 1000000) (hT : Tabs w) :
    Calls Tryd.prog 25 #[.agg (Mq.row m (.slice ac nc cc) (.slice aw nw cw) (.slice af nf cf)).toArray] w fun e w' => e = .returned (.bool ((mxG m && baG m))) ∧ Below w.heap.size w w' := by
  obtain rfl : nc = m.cs.length := by have := slR_len hL.c; simpa using this
  obtain rfl : nw = m.ws.length := by have := slR_len hL.w; simpa using this
  obtain rfl : nf = m.fs.length := by have := slR_len hL.f; simpa using this
  have hb0 := Below.refl w.heap.size w
  have hF0 : m.cl.size ≤ 140737488351232 := hF.cl
  have hF1 : m.wT.size ≤ 140737488351232 := hF.wT
  have hF2 : m.wP.size ≤ 140737488351232 := hF.wP
  have hF3 : m.us.size ≤ 140737488351232 := hF.us
  have hF4 : m.pa.size ≤ 140737488351232 := hF.pa
  have hF5 : m.top.size ≤ 140737488351232 := hF.top
  have hF6 : m.pay.size ≤ 140737488351232 := hF.pay
  refine fw_en 289 [(0, .agg (Mq.row m (.slice ac m.cs.length cc) (.slice aw m.ws.length cw) (.slice af m.fs.length cf)).toArray)] Tryd.func25 rfl Tryd.ntmps25 rfl ⟨rfl, trivial⟩ ?_
  refine fw_sq (fw_rg rfl (fw_bx rfl (cs := [.int .i64 m.k, .string m.cl, .bool m.clean, .int .i64 m.keep, .bool m.wI, .string m.wT, .string m.wP, .int .i64 m.wQ, .bool m.wR, .string m.us, .bool m.hu, .string m.pa, .bool m.hp, .bool m.pres, .int .i64 m.code, .slice ac m.cs.length cc, .bool m.dup, .int .i64 m.q, .bool m.re, .string m.top, .int .i64 m.id, .string m.pay, .slice aw m.ws.length cw, .slice af m.fs.length cf]) rfl ?_))
  intro q1 W2 g5 s3 r4
  have := Nat.le_trans hb0.size g5
  have b6 := hb0.trans (s3.mono hb0.size)
  refine fw_pu rfl (fw_dt (fw_sq (fw_rg rfl (fw_pu rfl (fw_ld r4 rfl rfl ?_)))))
  refine fw_ex 9 (.agg #[.int .i64 m.k, .string { data := #[] }, .bool false, .int .i64 0, .bool false, .string { data := #[] }, .string { data := #[] }, .int .i64 0, .bool false, .string { data := #[] }, .bool false, .string { data := #[] }, .bool false, .bool false, .int .i64 0, .slice none 0 0, .bool false, .int .i64 0, .bool false, .string { data := #[] }, .int .i64 0, .string { data := #[] }, .slice none 0 0, .slice none 0 0]) rfl rfl rfl (fun a h => (run_buildOp (bp1 (h.ev rfl)) (by first | kernel_rfl | rfl))) ?_
  refine fw_al (t := 30) (u := fun q => .pointer (some ⟨q, 0, none⟩)) 3 [.int .i64 0, .string { data := #[] }, .bool false, .int .i64 0, .bool false, .string { data := #[] }, .string { data := #[] }, .int .i64 0, .bool false, .string { data := #[] }, .bool false, .string { data := #[] }, .bool false, .bool false, .int .i64 0, .slice none 0 0, .bool false, .int .i64 0, .bool false, .string { data := #[] }, .int .i64 0, .string { data := #[] }, .slice none 0 0, .slice none 0 0] rfl rfl rfl (fun a h => (run_allocOp (by simp [go_sem, Instr.alloc]))) ?_
  intro q7 W8 g11 s9 r10
  have := Nat.le_trans b6.size g11
  have := r4.lt g11
  have b12 := b6.trans (s9.mono b6.size)
  have r13 := r4.below s9
  refine fw_st r10 rfl rfl ?_
  intro W14 s15 r16
  have b17 := below_chg b12 s15 (by omega) b12.size
  have r18 := r13.chg s15 (by omega)
  replace r16 : RowAt W14 q7 [.int .i64 m.k, .string { data := #[] }, .bool false, .int .i64 0, .bool false, .string { data := #[] }, .string { data := #[] }, .int .i64 0, .bool false, .string { data := #[] }, .bool false, .string { data := #[] }, .bool false, .bool false, .int .i64 0, .slice none 0 0, .bool false, .int .i64 0, .bool false, .string { data := #[] }, .int .i64 0, .string { data := #[] }, .slice none 0 0, .slice none 0 0] := r16
  refine fw_dt (fw_sq (fw_rg rfl (fw_pu rfl (fw_dt (fw_sq (fw_sq (fw_rg rfl (fw_pu rfl (fw_ld r18 rfl rfl (fw_dt (fw_bk (fw_sq (fw_rg rfl ?_)))))))))))))
  iterate 2 refine fw_pu rfl ?_
  refine fw_dt ?_
  rcases Bool.eq_false_or_eq_true ((m.k == 1)) with hb_19 | hb_19
  · skip
    refine fw_cT rfl hb_19 (fw_sq ?_)
    refine fw_hr (fun X => Below w.heap.size w X ∧ RowAt X q1 (Mq.row m (.slice ac m.cs.length cc) (.slice aw m.ws.length cw) (.slice af m.fs.length cf))) (by kernel_rfl) 32 rfl ?_
    intro W20 s21
    have b22 := b17.trans (s21.mono b17.size)
    have r23 := r18.below s21
    have r24 := r16.below s21
    refine ⟨⟨b22, r23⟩, ?_⟩
    refine fw_tk 0 rfl rfl (by kernel_rfl) (fun _ _ _ _ _ h => h) ?_
    refine fw_tl 1 (fun _ h => h.2) rfl rfl rfl (by kernel_rfl) (fun _ _ _ _ _ h => h) ?_
    refine fw_tk 2 rfl rfl (by kernel_rfl) (fun _ _ _ _ _ h => h) ?_
    refine fw_tl 3 (fun _ h => h.2) rfl rfl rfl (by kernel_rfl) (fun _ _ _ _ _ h => h) ?_
    refine fw_tk 4 rfl rfl (by kernel_rfl) (fun _ _ _ _ _ h => h) ?_
    refine fw_tl 5 (fun _ h => h.2) rfl rfl rfl (by kernel_rfl) (fun _ _ _ _ _ h => h) ?_
    refine fw_tk 6 rfl rfl (by kernel_rfl) (fun _ _ _ _ _ h => h) ?_
    refine fw_tl 7 (fun _ h => h.2) rfl rfl rfl (by kernel_rfl) (fun _ _ _ _ _ h => h) ?_
    refine fw_tk 8 rfl rfl (by kernel_rfl) (fun _ _ _ _ _ h => h) ?_
    refine fw_tl 9 (fun _ h => h.2) rfl rfl rfl (by kernel_rfl) (fun _ _ _ _ _ h => h) ?_
    refine fw_tk 10 rfl rfl (by kernel_rfl) (fun _ _ _ _ _ h => h) ?_
    refine fw_tl 11 (fun _ h => h.2) rfl rfl rfl (by kernel_rfl) (fun _ _ _ _ _ h => h) ?_
    refine fw_tk 12 rfl rfl (by kernel_rfl) (fun _ _ _ _ _ h => h) ?_
    refine fw_tl 13 (fun _ h => h.2) rfl rfl rfl (by kernel_rfl) (fun _ _ _ _ _ h => h) ?_
    refine fw_tk 14 rfl rfl (by kernel_rfl) (fun _ _ _ _ _ h => h) ?_
    refine fw_tl 15 (fun _ h => h.2) rfl rfl rfl (by kernel_rfl) (fun _ _ _ _ _ h => h) ?_
    refine fw_tk 16 rfl rfl (by kernel_rfl) (fun _ _ _ _ _ h => h) ?_
    refine fw_o1 17 (by kernel_rfl) ?_
    refine fw_os rfl r24 rfl rfl ?_
    intro W25 s26 r27
    have b28 := below_chg b22 s26 (by omega) b22.size
    have r29 := r23.chg s26 (by omega)
    refine ⟨⟨b28, r29⟩, ?_⟩
    refine fw_tk 18 rfl rfl (by kernel_rfl) (fun _ _ _ _ _ h => h) ?_
    refine fw_o1 19 (by kernel_rfl) ?_
    refine fw_os rfl r27 rfl rfl ?_
    intro W30 s31 r32
    have b33 := below_chg b28 s31 (by omega) b28.size
    have r34 := r29.chg s31 (by omega)
    refine ⟨⟨b33, r34⟩, ?_⟩
    refine fw_tk 20 rfl rfl (by kernel_rfl) (fun _ _ _ _ _ h => h) ?_
    refine fw_o1 21 (by kernel_rfl) ?_
    refine fw_os rfl r32 rfl rfl ?_
    intro W35 s36 r37
    have b38 := below_chg b33 s36 (by omega) b33.size
    have r39 := r34.chg s36 (by omega)
    refine ⟨⟨b38, r39⟩, ?_⟩
    refine fw_tk 22 rfl rfl (by kernel_rfl) (fun _ _ _ _ _ h => h) ?_
    refine fw_o1 23 (by kernel_rfl) ?_
    refine fw_os rfl r37 rfl rfl ?_
    intro W40 s41 r42
    have b43 := below_chg b38 s41 (by omega) b38.size
    have r44 := r39.chg s41 (by omega)
    refine ⟨⟨b43, r44⟩, ?_⟩
    refine fw_tk 24 rfl rfl (by kernel_rfl) (fun _ _ _ _ _ h => h) ?_
    refine fw_o1 25 (by kernel_rfl) ?_
    refine fw_os rfl r42 rfl rfl ?_
    intro W45 s46 r47
    have b48 := below_chg b43 s46 (by omega) b43.size
    have r49 := r44.chg s46 (by omega)
    refine ⟨⟨b48, r49⟩, ?_⟩
    refine fw_tk 26 rfl rfl (by kernel_rfl) (fun _ _ _ _ _ h => h) ?_
    refine fw_o1 27 (by kernel_rfl) ?_
    refine fw_os rfl r47 rfl rfl ?_
    intro W50 s51 r52
    have b53 := below_chg b48 s51 (by omega) b48.size
    have r54 := r49.chg s51 (by omega)
    refine ⟨⟨b53, r54⟩, ?_⟩
    refine fw_tk 28 rfl rfl (by kernel_rfl) (fun _ _ _ _ _ h => h) ?_
    refine fw_o1 29 (by kernel_rfl) ?_
    refine fw_os rfl r52 rfl rfl ?_
    intro W55 s56 r57
    have b58 := below_chg b53 s56 (by omega) b53.size
    have r59 := r54.chg s56 (by omega)
    refine ⟨⟨b58, r59⟩, ?_⟩
    refine fw_tk 30 rfl rfl (by kernel_rfl) (fun _ _ _ _ _ h => h) ?_
    refine fw_o1 31 (by kernel_rfl) ?_
    refine fw_os rfl r57 rfl rfl ?_
    intro W60 s61 r62
    have b63 := below_chg b58 s61 (by omega) b58.size
    have r64 := r59.chg s61 (by omega)
    refine ⟨⟨b63, r64⟩, ?_⟩
    refine fw_ht (by kernel_rfl) ?_
    refine fw_rg rfl (fw_pu rfl (fw_ld r64 rfl rfl ?_))
    refine fw_ca Tryd.func53 rfl rfl rfl ((textX m.cl 0 23 W60 (by omega) (hT.below b63))) ?_
    rintro _ V66 ⟨rfl, hb65⟩
    refine ⟨(.bool (txG m.cl 0 23)), rfl, ?_⟩
    have b67 := b63.trans (hb65.mono b63.size)
    have r68 := r64.below hb65
    have r69 := r62.below hb65
    refine fw_pu rfl ?_
    rcases Bool.eq_false_or_eq_true ((txG m.cl 0 23)) with hb_70 | hb_70
    · skip
      refine fw_kn 41 rfl hb_70 (fw_pu rfl (fw_ld r68 rfl rfl (fw_ca Tryd.func54 rfl rfl rfl ((numK m.keep V66)) ?_)))
      rintro _ _ ⟨rfl, rfl⟩
      refine ⟨(.bool (kpG m.keep)), rfl, ?_⟩
      iterate 2 refine fw_pu rfl ?_
      rcases Bool.eq_false_or_eq_true ((kpG m.keep)) with hb_71 | hb_71
      · skip
        refine fw_kn 46 rfl hb_71 (fw_pu rfl (fw_ld r68 rfl rfl (fw_ca Tryd.func55 rfl rfl rfl ((willX m V66 hF (hT.below b67))) ?_)))
        rintro _ V73 ⟨rfl, hb72⟩
        refine ⟨(.bool (wlG m)), rfl, ?_⟩
        have b74 := b67.trans (hb72.mono b67.size)
        have r75 := r68.below hb72
        have r76 := r69.below hb72
        iterate 2 refine fw_pu rfl ?_
        rcases Bool.eq_false_or_eq_true ((wlG m)) with hb_77 | hb_77
        · skip
          refine fw_kn 51 rfl hb_77 (fw_pu rfl (fw_ld r75 rfl rfl ?_))
          refine fw_ca Tryd.func53 rfl rfl rfl ((textX m.us 0 64 V73 (by omega) (hT.below b74))) ?_
          rintro _ V79 ⟨rfl, hb78⟩
          refine ⟨(.bool (txG m.us 0 64)), rfl, ?_⟩
          have b80 := b74.trans (hb78.mono b74.size)
          have r81 := r75.below hb78
          have r82 := r76.below hb78
          iterate 2 refine fw_pu rfl ?_
          rcases Bool.eq_false_or_eq_true ((txG m.us 0 64)) with hb_83 | hb_83
          · skip
            refine fw_kn 56 rfl hb_83 (fw_pu rfl (fw_ld r81 rfl rfl (fw_pu rfl ?_)))
            rcases Bool.eq_false_or_eq_true (m.hu) with hb_84 | hb_84
            · skip
              refine fw_kn 59 rfl hb_84 ?_
              iterate 12 refine fw_pu rfl ?_
              refine fw_ld r81 rfl rfl ?_
              iterate 4 refine fw_pu rfl ?_
              rcases Bool.eq_false_or_eq_true ((decide ((m.pa.size : Int) ≤ 64))) with hb_85 | hb_85
              · skip
                refine fw_kn 76 rfl hb_85 (fw_pu rfl (fw_ld r81 rfl rfl (fw_pu rfl ?_)))
                rcases Bool.eq_false_or_eq_true (m.hp) with hb_86 | hb_86
                · skip
                  refine fw_kn 79 rfl hb_86 ?_
                  iterate 6 refine fw_pu rfl ?_
                  refine fw_dn (fw_bn (fw_th (fw_sq (fw_rg rfl ?_))))
                  iterate 2 refine fw_pu rfl ?_
                  refine fw_ld r82 rfl rfl (fw_ld r81 rfl rfl ?_)
                  refine fw_ca Tryd.func19 rfl rfl rfl ((by have h := eqMq_any ({ k := m.k, cl := m.cl, clean := m.clean, keep := m.keep, wI := m.wI, wT := m.wT, wP := m.wP, wQ := m.wQ, wR := m.wR, us := m.us, hu := m.hu, pa := m.pa, hp := m.hp, pres := false, code := 0, cs := [], dup := false, q := 0, re := false, top := E0, id := 0, pay := E0, ws := [], fs := [] } : Mq) m _ _ _ _ _ _ V79 ⟨nilL _ _, nilL _ _, nilL _ _⟩ (hL.below b80) (Nat.zero_le _) (Nat.zero_le _) (Nat.zero_le _) hN.1 hN.2.1 hN.2.2; rw [show ({ k := m.k, cl := m.cl, clean := m.clean, keep := m.keep, wI := m.wI, wT := m.wT, wP := m.wP, wQ := m.wQ, wR := m.wR, us := m.us, hu := m.hu, pa := m.pa, hp := m.hp, pres := false, code := 0, cs := [], dup := false, q := 0, re := false, top := E0, id := 0, pay := E0, ws := [], fs := [] } : Mq).eqB m = baG m from (by unfold baG stG; simp only [hb_19, if_true, Mq.eqB, Mq.noB, isE, E0_list, nil_dec, nl_beq, z_beq, f_beq, beq_self_eq_true, Bool.not_false, Bool.true_and, Bool.and_true, Bool.and_assoc])] at h; exact h)) ?_
                  rintro _ V88 ⟨rfl, hb87⟩
                  refine ⟨(.bool (baG m)), rfl, ?_⟩
                  have b89 := b80.trans (hb87.mono b80.size)
                  have r90 := r81.below hb87
                  have r91 := r82.below hb87
                  iterate 2 refine fw_pu rfl ?_
                  refine fw_dt (fw_rt ?_)
                  refine ⟨fun a h => ?_⟩
                  exact ow_ret1 rfl h.df (h.g 2 rfl) ⟨by unfold mxG; simp [hb_19, hb_70, hb_71, hb_77, hb_83, hb_84, hb_85, hb_86], b89⟩
                refine fw_kn 79 rfl hb_86 (fw_pu rfl (fw_ld r81 rfl rfl (fw_ex 82 (.bool (isE m.pa)) rfl rfl rfl (fun a h => (run_binOp (h.ev rfl) (h.ev rfl) (eqStrG _ _ _ _ _ _) (strE _ _))) ?_)))
                iterate 3 refine fw_pu rfl ?_
                refine fw_dn (fw_bn (fw_th (fw_sq (fw_rg rfl ?_))))
                iterate 2 refine fw_pu rfl ?_
                rcases Bool.eq_false_or_eq_true ((isE m.pa)) with hb_92 | hb_92
                · skip
                  refine fw_kn 284 rfl hb_92 (fw_ld r82 rfl rfl (fw_ld r81 rfl rfl ?_))
                  refine fw_ca Tryd.func19 rfl rfl rfl ((by have h := eqMq_any ({ k := m.k, cl := m.cl, clean := m.clean, keep := m.keep, wI := m.wI, wT := m.wT, wP := m.wP, wQ := m.wQ, wR := m.wR, us := m.us, hu := m.hu, pa := m.pa, hp := m.hp, pres := false, code := 0, cs := [], dup := false, q := 0, re := false, top := E0, id := 0, pay := E0, ws := [], fs := [] } : Mq) m _ _ _ _ _ _ V79 ⟨nilL _ _, nilL _ _, nilL _ _⟩ (hL.below b80) (Nat.zero_le _) (Nat.zero_le _) (Nat.zero_le _) hN.1 hN.2.1 hN.2.2; rw [show ({ k := m.k, cl := m.cl, clean := m.clean, keep := m.keep, wI := m.wI, wT := m.wT, wP := m.wP, wQ := m.wQ, wR := m.wR, us := m.us, hu := m.hu, pa := m.pa, hp := m.hp, pres := false, code := 0, cs := [], dup := false, q := 0, re := false, top := E0, id := 0, pay := E0, ws := [], fs := [] } : Mq).eqB m = baG m from (by unfold baG stG; simp only [hb_19, if_true, Mq.eqB, Mq.noB, isE, E0_list, nil_dec, nl_beq, z_beq, f_beq, beq_self_eq_true, Bool.not_false, Bool.true_and, Bool.and_true, Bool.and_assoc])] at h; exact h)) ?_
                  rintro _ V94 ⟨rfl, hb93⟩
                  refine ⟨(.bool (baG m)), rfl, ?_⟩
                  have b95 := b80.trans (hb93.mono b80.size)
                  have r96 := r81.below hb93
                  have r97 := r82.below hb93
                  iterate 2 refine fw_pu rfl ?_
                  refine fw_dt (fw_rt ?_)
                  refine ⟨fun a h => ?_⟩
                  exact ow_ret1 rfl h.df (h.g 2 rfl) ⟨by unfold mxG; simp [hb_19, hb_70, hb_71, hb_77, hb_83, hb_84, hb_85, hb_86, hb_92], b95⟩
                refine fw_kn 284 rfl hb_92 ?_
                iterate 5 refine fw_pu rfl ?_
                refine fw_dt (fw_rt ?_)
                refine ⟨fun a h => ?_⟩
                exact ow_ret1 rfl h.df (h.g 2 rfl) ⟨by unfold mxG; simp [hb_19, hb_70, hb_71, hb_77, hb_83, hb_84, hb_85, hb_86, hb_92], b80⟩
              refine fw_kn 76 rfl hb_85 ?_
              iterate 9 refine fw_pu rfl ?_
              refine fw_dn (fw_bn (fw_th (fw_sq (fw_rg rfl ?_))))
              iterate 7 refine fw_pu rfl ?_
              refine fw_dt (fw_rt ?_)
              refine ⟨fun a h => ?_⟩
              exact ow_ret1 rfl h.df (h.g 2 rfl) ⟨by unfold mxG; simp [hb_19, hb_70, hb_71, hb_77, hb_83, hb_84, hb_85], b80⟩
            refine fw_kn 59 rfl hb_84 (fw_pu rfl (fw_ld r81 rfl rfl (fw_ex 62 (.bool (isE m.us)) rfl rfl rfl (fun a h => (run_binOp (h.ev rfl) (h.ev rfl) (eqStrG _ _ _ _ _ _) (strE _ _))) (fw_pu rfl ?_))))
            rcases Bool.eq_false_or_eq_true ((isE m.us)) with hb_98 | hb_98
            · skip
              refine fw_kn 63 rfl hb_98 (fw_pu rfl (fw_ld r81 rfl rfl ?_))
              iterate 5 refine fw_pu rfl ?_
              rcases Bool.eq_false_or_eq_true (m.hp) with hb_99 | hb_99
              · skip
                refine fw_kn 70 rfl (not_of hb_99) ?_
                iterate 15 refine fw_pu rfl ?_
                refine fw_dn (fw_bn (fw_th (fw_sq (fw_rg rfl ?_))))
                iterate 7 refine fw_pu rfl ?_
                refine fw_dt (fw_rt ?_)
                refine ⟨fun a h => ?_⟩
                exact ow_ret1 rfl h.df (h.g 2 rfl) ⟨by unfold mxG; simp [hb_19, hb_70, hb_71, hb_77, hb_83, hb_84, hb_98, hb_99], b80⟩
              refine fw_kn 70 rfl (not_of hb_99) (fw_pu rfl (fw_ld r81 rfl rfl ?_))
              iterate 4 refine fw_pu rfl ?_
              rcases Bool.eq_false_or_eq_true ((decide ((m.pa.size : Int) ≤ 64))) with hb_100 | hb_100
              · skip
                refine fw_kn 76 rfl hb_100 (fw_pu rfl (fw_ld r81 rfl rfl (fw_pu rfl (fw_kn 79 rfl hb_99 (fw_pu rfl (fw_ld r81 rfl rfl (fw_ex 82 (.bool (isE m.pa)) rfl rfl rfl (fun a h => (run_binOp (h.ev rfl) (h.ev rfl) (eqStrG _ _ _ _ _ _) (strE _ _))) ?_)))))))
                iterate 3 refine fw_pu rfl ?_
                refine fw_dn (fw_bn (fw_th (fw_sq (fw_rg rfl ?_))))
                iterate 2 refine fw_pu rfl ?_
                rcases Bool.eq_false_or_eq_true ((isE m.pa)) with hb_101 | hb_101
                · skip
                  refine fw_kn 284 rfl hb_101 (fw_ld r82 rfl rfl (fw_ld r81 rfl rfl ?_))
                  refine fw_ca Tryd.func19 rfl rfl rfl ((by have h := eqMq_any ({ k := m.k, cl := m.cl, clean := m.clean, keep := m.keep, wI := m.wI, wT := m.wT, wP := m.wP, wQ := m.wQ, wR := m.wR, us := m.us, hu := m.hu, pa := m.pa, hp := m.hp, pres := false, code := 0, cs := [], dup := false, q := 0, re := false, top := E0, id := 0, pay := E0, ws := [], fs := [] } : Mq) m _ _ _ _ _ _ V79 ⟨nilL _ _, nilL _ _, nilL _ _⟩ (hL.below b80) (Nat.zero_le _) (Nat.zero_le _) (Nat.zero_le _) hN.1 hN.2.1 hN.2.2; rw [show ({ k := m.k, cl := m.cl, clean := m.clean, keep := m.keep, wI := m.wI, wT := m.wT, wP := m.wP, wQ := m.wQ, wR := m.wR, us := m.us, hu := m.hu, pa := m.pa, hp := m.hp, pres := false, code := 0, cs := [], dup := false, q := 0, re := false, top := E0, id := 0, pay := E0, ws := [], fs := [] } : Mq).eqB m = baG m from (by unfold baG stG; simp only [hb_19, if_true, Mq.eqB, Mq.noB, isE, E0_list, nil_dec, nl_beq, z_beq, f_beq, beq_self_eq_true, Bool.not_false, Bool.true_and, Bool.and_true, Bool.and_assoc])] at h; exact h)) ?_
                  rintro _ V103 ⟨rfl, hb102⟩
                  refine ⟨(.bool (baG m)), rfl, ?_⟩
                  have b104 := b80.trans (hb102.mono b80.size)
                  have r105 := r81.below hb102
                  have r106 := r82.below hb102
                  iterate 2 refine fw_pu rfl ?_
                  refine fw_dt (fw_rt ?_)
                  refine ⟨fun a h => ?_⟩
                  exact ow_ret1 rfl h.df (h.g 2 rfl) ⟨by unfold mxG; simp [hb_19, hb_70, hb_71, hb_77, hb_83, hb_84, hb_98, hb_99, hb_100, hb_101], b104⟩
                refine fw_kn 284 rfl hb_101 ?_
                iterate 5 refine fw_pu rfl ?_
                refine fw_dt (fw_rt ?_)
                refine ⟨fun a h => ?_⟩
                exact ow_ret1 rfl h.df (h.g 2 rfl) ⟨by unfold mxG; simp [hb_19, hb_70, hb_71, hb_77, hb_83, hb_84, hb_98, hb_99, hb_100, hb_101], b80⟩
              refine fw_kn 76 rfl hb_100 ?_
              iterate 9 refine fw_pu rfl ?_
              refine fw_dn (fw_bn (fw_th (fw_sq (fw_rg rfl ?_))))
              iterate 7 refine fw_pu rfl ?_
              refine fw_dt (fw_rt ?_)
              refine ⟨fun a h => ?_⟩
              exact ow_ret1 rfl h.df (h.g 2 rfl) ⟨by unfold mxG; simp [hb_19, hb_70, hb_71, hb_77, hb_83, hb_84, hb_98, hb_99, hb_100], b80⟩
            refine fw_kn 63 rfl hb_98 ?_
            iterate 22 refine fw_pu rfl ?_
            refine fw_dn (fw_bn (fw_th (fw_sq (fw_rg rfl ?_))))
            iterate 7 refine fw_pu rfl ?_
            refine fw_dt (fw_rt ?_)
            refine ⟨fun a h => ?_⟩
            exact ow_ret1 rfl h.df (h.g 2 rfl) ⟨by unfold mxG; simp [hb_19, hb_70, hb_71, hb_77, hb_83, hb_84, hb_98], b80⟩
          refine fw_kn 56 rfl hb_83 ?_
          iterate 29 refine fw_pu rfl ?_
          refine fw_dn (fw_bn (fw_th (fw_sq (fw_rg rfl ?_))))
          iterate 7 refine fw_pu rfl ?_
          refine fw_dt (fw_rt ?_)
          refine ⟨fun a h => ?_⟩
          exact ow_ret1 rfl h.df (h.g 2 rfl) ⟨by unfold mxG; simp [hb_19, hb_70, hb_71, hb_77, hb_83], b80⟩
        refine fw_kn 51 rfl hb_77 ?_
        iterate 34 refine fw_pu rfl ?_
        refine fw_dn (fw_bn (fw_th (fw_sq (fw_rg rfl ?_))))
        iterate 7 refine fw_pu rfl ?_
        refine fw_dt (fw_rt ?_)
        refine ⟨fun a h => ?_⟩
        exact ow_ret1 rfl h.df (h.g 2 rfl) ⟨by unfold mxG; simp [hb_19, hb_70, hb_71, hb_77], b74⟩
      refine fw_kn 46 rfl hb_71 ?_
      iterate 39 refine fw_pu rfl ?_
      refine fw_dn (fw_bn (fw_th (fw_sq (fw_rg rfl ?_))))
      iterate 7 refine fw_pu rfl ?_
      refine fw_dt (fw_rt ?_)
      refine ⟨fun a h => ?_⟩
      exact ow_ret1 rfl h.df (h.g 2 rfl) ⟨by unfold mxG; simp [hb_19, hb_70, hb_71], b67⟩
    refine fw_kn 41 rfl hb_70 ?_
    iterate 44 refine fw_pu rfl ?_
    refine fw_dn (fw_bn (fw_th (fw_sq (fw_rg rfl ?_))))
    iterate 7 refine fw_pu rfl ?_
    refine fw_dt (fw_rt ?_)
    refine ⟨fun a h => ?_⟩
    exact ow_ret1 rfl h.df (h.g 2 rfl) ⟨by unfold mxG; simp [hb_19, hb_70], b67⟩
  refine fw_cF rfl hb_19 (fw_sq (fw_rg rfl ?_))
  iterate 2 refine fw_pu rfl ?_
  refine fw_dt ?_
  rcases Bool.eq_false_or_eq_true ((m.k == 2)) with hb_107 | hb_107
  · skip
    refine fw_cT rfl hb_107 (fw_sq ?_)
    refine fw_hr (fun X => Below w.heap.size w X ∧ RowAt X q1 (Mq.row m (.slice ac m.cs.length cc) (.slice aw m.ws.length cw) (.slice af m.fs.length cf))) (by kernel_rfl) 8 rfl ?_
    intro W108 s109
    have b110 := b17.trans (s109.mono b17.size)
    have r111 := r18.below s109
    have r112 := r16.below s109
    refine ⟨⟨b110, r111⟩, ?_⟩
    refine fw_tk 0 rfl rfl (by kernel_rfl) (fun _ _ _ _ _ h => h) ?_
    refine fw_tl 1 (fun _ h => h.2) rfl rfl rfl (by kernel_rfl) (fun _ _ _ _ _ h => h) ?_
    refine fw_tk 2 rfl rfl (by kernel_rfl) (fun _ _ _ _ _ h => h) ?_
    refine fw_tl 3 (fun _ h => h.2) rfl rfl rfl (by kernel_rfl) (fun _ _ _ _ _ h => h) ?_
    refine fw_tk 4 rfl rfl (by kernel_rfl) (fun _ _ _ _ _ h => h) ?_
    refine fw_o1 5 (by kernel_rfl) ?_
    refine fw_os rfl r112 rfl rfl ?_
    intro W113 s114 r115
    have b116 := below_chg b110 s114 (by omega) b110.size
    have r117 := r111.chg s114 (by omega)
    refine ⟨⟨b116, r117⟩, ?_⟩
    refine fw_tk 6 rfl rfl (by kernel_rfl) (fun _ _ _ _ _ h => h) ?_
    refine fw_o1 7 (by kernel_rfl) ?_
    refine fw_os rfl r115 rfl rfl ?_
    intro W118 s119 r120
    have b121 := below_chg b116 s119 (by omega) b116.size
    have r122 := r117.chg s119 (by omega)
    refine ⟨⟨b121, r122⟩, ?_⟩
    refine fw_ht (by kernel_rfl) ?_
    refine fw_rg rfl (fw_pu rfl (fw_ld r122 rfl rfl (fw_ca Tryd.func54 rfl rfl rfl ((num5 m.code W118)) ?_)))
    rintro _ _ ⟨rfl, rfl⟩
    refine ⟨(.bool (c5G m.code)), rfl, ?_⟩
    refine fw_pu rfl ?_
    rcases Bool.eq_false_or_eq_true ((c5G m.code)) with hb_123 | hb_123
    · skip
      refine fw_kn 96 rfl hb_123 (fw_pu rfl (fw_ld r122 rfl rfl ?_))
      iterate 2 refine fw_pu rfl ?_
      rcases Bool.eq_false_or_eq_true ((m.code == 0)) with hb_124 | hb_124
      · skip
        refine fw_kn 100 rfl hb_124 ?_
        iterate 6 refine fw_pu rfl ?_
        refine fw_dn (fw_bn (fw_th (fw_sq (fw_rg rfl ?_))))
        iterate 2 refine fw_pu rfl ?_
        refine fw_ld r120 rfl rfl (fw_ld r122 rfl rfl ?_)
        refine fw_ca Tryd.func19 rfl rfl rfl ((by have h := eqMq_any ({ k := m.k, cl := E0, clean := false, keep := 0, wI := false, wT := E0, wP := E0, wQ := 0, wR := false, us := E0, hu := false, pa := E0, hp := false, pres := m.pres, code := m.code, cs := [], dup := false, q := 0, re := false, top := E0, id := 0, pay := E0, ws := [], fs := [] } : Mq) m _ _ _ _ _ _ W118 ⟨nilL _ _, nilL _ _, nilL _ _⟩ (hL.below b121) (Nat.zero_le _) (Nat.zero_le _) (Nat.zero_le _) hN.1 hN.2.1 hN.2.2; rw [show ({ k := m.k, cl := E0, clean := false, keep := 0, wI := false, wT := E0, wP := E0, wQ := 0, wR := false, us := E0, hu := false, pa := E0, hp := false, pres := m.pres, code := m.code, cs := [], dup := false, q := 0, re := false, top := E0, id := 0, pay := E0, ws := [], fs := [] } : Mq).eqB m = baG m from (by unfold baG stG; simp only [hb_19, hb_107, if_true, if_false, Bool.false_eq_true, Mq.eqB, Mq.noB, isE, E0_list, nil_dec, nl_beq, z_beq, f_beq, beq_self_eq_true, Bool.not_false, Bool.true_and, Bool.and_true, Bool.and_assoc])] at h; exact h)) ?_
        rintro _ V126 ⟨rfl, hb125⟩
        refine ⟨(.bool (baG m)), rfl, ?_⟩
        have b127 := b121.trans (hb125.mono b121.size)
        have r128 := r122.below hb125
        have r129 := r120.below hb125
        iterate 2 refine fw_pu rfl ?_
        refine fw_dt (fw_rt ?_)
        refine ⟨fun a h => ?_⟩
        exact ow_ret1 rfl h.df (h.g 2 rfl) ⟨by unfold mxG; simp [hb_19, hb_107, hb_123, hb_124], b127⟩
      refine fw_kn 100 rfl hb_124 (fw_pu rfl (fw_ld r122 rfl rfl ?_))
      iterate 4 refine fw_pu rfl ?_
      refine fw_dn (fw_bn (fw_th (fw_sq (fw_rg rfl ?_))))
      iterate 2 refine fw_pu rfl ?_
      rcases Bool.eq_false_or_eq_true (m.pres) with hb_130 | hb_130
      · skip
        refine fw_kn 284 rfl (not_of hb_130) ?_
        iterate 5 refine fw_pu rfl ?_
        refine fw_dt (fw_rt ?_)
        refine ⟨fun a h => ?_⟩
        exact ow_ret1 rfl h.df (h.g 2 rfl) ⟨by unfold mxG; simp [hb_19, hb_107, hb_123, hb_124, hb_130], b121⟩
      refine fw_kn 284 rfl (not_of hb_130) (fw_ld r120 rfl rfl (fw_ld r122 rfl rfl ?_))
      refine fw_ca Tryd.func19 rfl rfl rfl ((by have h := eqMq_any ({ k := m.k, cl := E0, clean := false, keep := 0, wI := false, wT := E0, wP := E0, wQ := 0, wR := false, us := E0, hu := false, pa := E0, hp := false, pres := m.pres, code := m.code, cs := [], dup := false, q := 0, re := false, top := E0, id := 0, pay := E0, ws := [], fs := [] } : Mq) m _ _ _ _ _ _ W118 ⟨nilL _ _, nilL _ _, nilL _ _⟩ (hL.below b121) (Nat.zero_le _) (Nat.zero_le _) (Nat.zero_le _) hN.1 hN.2.1 hN.2.2; rw [show ({ k := m.k, cl := E0, clean := false, keep := 0, wI := false, wT := E0, wP := E0, wQ := 0, wR := false, us := E0, hu := false, pa := E0, hp := false, pres := m.pres, code := m.code, cs := [], dup := false, q := 0, re := false, top := E0, id := 0, pay := E0, ws := [], fs := [] } : Mq).eqB m = baG m from (by unfold baG stG; simp only [hb_19, hb_107, if_true, if_false, Bool.false_eq_true, Mq.eqB, Mq.noB, isE, E0_list, nil_dec, nl_beq, z_beq, f_beq, beq_self_eq_true, Bool.not_false, Bool.true_and, Bool.and_true, Bool.and_assoc])] at h; exact h)) ?_
      rintro _ V132 ⟨rfl, hb131⟩
      refine ⟨(.bool (baG m)), rfl, ?_⟩
      have b133 := b121.trans (hb131.mono b121.size)
      have r134 := r122.below hb131
      have r135 := r120.below hb131
      iterate 2 refine fw_pu rfl ?_
      refine fw_dt (fw_rt ?_)
      refine ⟨fun a h => ?_⟩
      exact ow_ret1 rfl h.df (h.g 2 rfl) ⟨by unfold mxG; simp [hb_19, hb_107, hb_123, hb_124, hb_130], b133⟩
    refine fw_kn 96 rfl hb_123 ?_
    iterate 10 refine fw_pu rfl ?_
    refine fw_dn (fw_bn (fw_th (fw_sq (fw_rg rfl ?_))))
    iterate 7 refine fw_pu rfl ?_
    refine fw_dt (fw_rt ?_)
    refine ⟨fun a h => ?_⟩
    exact ow_ret1 rfl h.df (h.g 2 rfl) ⟨by unfold mxG; simp [hb_19, hb_107, hb_123], b121⟩
  refine fw_cF rfl hb_107 (fw_sq (fw_rg rfl ?_))
  iterate 2 refine fw_pu rfl ?_
  refine fw_dt ?_
  rcases Bool.eq_false_or_eq_true ((m.k == 3)) with hb_136 | hb_136
  · skip
    refine fw_cT rfl hb_136 (fw_sq ?_)
    refine fw_hr (fun X => Below w.heap.size w X ∧ RowAt X q1 (Mq.row m (.slice ac m.cs.length cc) (.slice aw m.ws.length cw) (.slice af m.fs.length cf))) (by kernel_rfl) 24 rfl ?_
    intro W137 s138
    have b139 := b17.trans (s138.mono b17.size)
    have r140 := r18.below s138
    have r141 := r16.below s138
    refine ⟨⟨b139, r140⟩, ?_⟩
    refine fw_tk 0 rfl rfl (by kernel_rfl) (fun _ _ _ _ _ h => h) ?_
    refine fw_tl 1 (fun _ h => h.2) rfl rfl rfl (by kernel_rfl) (fun _ _ _ _ _ h => h) ?_
    refine fw_tk 2 rfl rfl (by kernel_rfl) (fun _ _ _ _ _ h => h) ?_
    refine fw_tl 3 (fun _ h => h.2) rfl rfl rfl (by kernel_rfl) (fun _ _ _ _ _ h => h) ?_
    refine fw_tk 4 rfl rfl (by kernel_rfl) (fun _ _ _ _ _ h => h) ?_
    refine fw_tl 5 (fun _ h => h.2) rfl rfl rfl (by kernel_rfl) (fun _ _ _ _ _ h => h) ?_
    refine fw_tk 6 rfl rfl (by kernel_rfl) (fun _ _ _ _ _ h => h) ?_
    refine fw_tl 7 (fun _ h => h.2) rfl rfl rfl (by kernel_rfl) (fun _ _ _ _ _ h => h) ?_
    refine fw_tk 8 rfl rfl (by kernel_rfl) (fun _ _ _ _ _ h => h) ?_
    refine fw_tl 9 (fun _ h => h.2) rfl rfl rfl (by kernel_rfl) (fun _ _ _ _ _ h => h) ?_
    refine fw_tk 10 rfl rfl (by kernel_rfl) (fun _ _ _ _ _ h => h) ?_
    refine fw_tl 11 (fun _ h => h.2) rfl rfl rfl (by kernel_rfl) (fun _ _ _ _ _ h => h) ?_
    refine fw_tk 12 rfl rfl (by kernel_rfl) (fun _ _ _ _ _ h => h) ?_
    refine fw_o1 13 (by kernel_rfl) ?_
    refine fw_os rfl r141 rfl rfl ?_
    intro W142 s143 r144
    have b145 := below_chg b139 s143 (by omega) b139.size
    have r146 := r140.chg s143 (by omega)
    refine ⟨⟨b145, r146⟩, ?_⟩
    refine fw_tk 14 rfl rfl (by kernel_rfl) (fun _ _ _ _ _ h => h) ?_
    refine fw_o1 15 (by kernel_rfl) ?_
    refine fw_os rfl r144 rfl rfl ?_
    intro W147 s148 r149
    have b150 := below_chg b145 s148 (by omega) b145.size
    have r151 := r146.chg s148 (by omega)
    refine ⟨⟨b150, r151⟩, ?_⟩
    refine fw_tk 16 rfl rfl (by kernel_rfl) (fun _ _ _ _ _ h => h) ?_
    refine fw_o1 17 (by kernel_rfl) ?_
    refine fw_os rfl r149 rfl rfl ?_
    intro W152 s153 r154
    have b155 := below_chg b150 s153 (by omega) b150.size
    have r156 := r151.chg s153 (by omega)
    refine ⟨⟨b155, r156⟩, ?_⟩
    refine fw_tk 18 rfl rfl (by kernel_rfl) (fun _ _ _ _ _ h => h) ?_
    refine fw_o1 19 (by kernel_rfl) ?_
    refine fw_os rfl r154 rfl rfl ?_
    intro W157 s158 r159
    have b160 := below_chg b155 s158 (by omega) b155.size
    have r161 := r156.chg s158 (by omega)
    refine ⟨⟨b160, r161⟩, ?_⟩
    refine fw_tk 20 rfl rfl (by kernel_rfl) (fun _ _ _ _ _ h => h) ?_
    refine fw_o1 21 (by kernel_rfl) ?_
    refine fw_os rfl r159 rfl rfl ?_
    intro W162 s163 r164
    have b165 := below_chg b160 s163 (by omega) b160.size
    have r166 := r161.chg s163 (by omega)
    refine ⟨⟨b165, r166⟩, ?_⟩
    refine fw_tk 22 rfl rfl (by kernel_rfl) (fun _ _ _ _ _ h => h) ?_
    refine fw_o1 23 (by kernel_rfl) ?_
    refine fw_os rfl r164 rfl rfl ?_
    intro W167 s168 r169
    have b170 := below_chg b165 s168 (by omega) b165.size
    have r171 := r166.chg s168 (by omega)
    refine ⟨⟨b170, r171⟩, ?_⟩
    refine fw_ht (by kernel_rfl) ?_
    refine fw_sq (fw_rg rfl (fw_pu rfl (fw_ld r171 rfl rfl ?_)))
    refine fw_ca Tryd.func53 rfl rfl rfl ((textX m.top 1 64 W167 (by omega) (hT.below b170))) ?_
    rintro _ V173 ⟨rfl, hb172⟩
    refine ⟨(.bool (txG m.top 1 64)), rfl, ?_⟩
    have b174 := b170.trans (hb172.mono b170.size)
    have r175 := r171.below hb172
    have r176 := r169.below hb172
    refine fw_pu rfl ?_
    rcases Bool.eq_false_or_eq_true ((txG m.top 1 64)) with hb_177 | hb_177
    · skip
      refine fw_kn 129 rfl hb_177 (fw_pu rfl (fw_ld r175 rfl rfl ?_))
      refine fw_ca Tryd.func56 rfl rfl rfl ((plainX m.top V173 (by omega))) ?_
      rintro _ V179 ⟨rfl, hb178⟩
      refine ⟨(.bool (!plG m.top)), rfl, ?_⟩
      have b180 := b174.trans (hb178.mono b174.size)
      have r181 := r175.below hb178
      have r182 := r176.below hb178
      iterate 2 refine fw_pu rfl ?_
      rcases Bool.eq_false_or_eq_true (plG m.top) with hb_183 | hb_183
      · skip
        refine fw_kn 134 rfl (not_of hb_183) ?_
        iterate 11 refine fw_pu rfl ?_
        refine fw_dt (fw_sq (fw_rg rfl (fw_pu rfl (fw_ld r181 rfl rfl (fw_pu rfl (fw_dt ?_))))))
        rcases Bool.eq_false_or_eq_true ((m.q == 0)) with hb_184 | hb_184
        · skip
          refine fw_cT rfl hb_184 (fw_rg rfl ?_)
          iterate 12 refine fw_pu rfl ?_
          refine fw_dn (fw_bn (fw_th (fw_sq (fw_rg rfl ?_))))
          iterate 7 refine fw_pu rfl ?_
          refine fw_dt (fw_rt ?_)
          refine ⟨fun a h => ?_⟩
          exact ow_ret1 rfl h.df (h.g 2 rfl) ⟨by unfold mxG; simp [hb_19, hb_107, hb_136, hb_177, hb_183, hb_184], b180⟩
        refine fw_cF rfl hb_184 (fw_rg rfl ?_)
        iterate 7 refine fw_pu rfl ?_
        refine fw_dn (fw_bn (fw_th (fw_sq (fw_rg rfl ?_))))
        iterate 7 refine fw_pu rfl ?_
        refine fw_dt (fw_rt ?_)
        refine ⟨fun a h => ?_⟩
        exact ow_ret1 rfl h.df (h.g 2 rfl) ⟨by unfold mxG; simp [hb_19, hb_107, hb_136, hb_177, hb_183, hb_184], b180⟩
      refine fw_kn 134 rfl (not_of hb_183) (fw_pu rfl (fw_ld r181 rfl rfl (fw_ca Tryd.func54 rfl rfl rfl ((numQ m.q V179)) ?_)))
      rintro _ _ ⟨rfl, rfl⟩
      refine ⟨(.bool (qsG m.q)), rfl, ?_⟩
      iterate 2 refine fw_pu rfl ?_
      rcases Bool.eq_false_or_eq_true ((qsG m.q)) with hb_185 | hb_185
      · skip
        refine fw_kn 139 rfl hb_185 (fw_pu rfl (fw_ld r181 rfl rfl ?_))
        iterate 4 refine fw_pu rfl ?_
        refine fw_dt (fw_sq (fw_rg rfl (fw_pu rfl (fw_ld r181 rfl rfl (fw_pu rfl (fw_dt ?_))))))
        rcases Bool.eq_false_or_eq_true ((m.q == 0)) with hb_186 | hb_186
        · skip
          refine fw_cT rfl hb_186 (fw_rg rfl ?_)
          iterate 2 refine fw_pu rfl ?_
          rcases Bool.eq_false_or_eq_true ((decide ((m.pay.size : Int) ≤ 128))) with hb_187 | hb_187
          · skip
            refine fw_kn 149 rfl hb_187 (fw_pu rfl (fw_ld r181 rfl rfl ?_))
            iterate 3 refine fw_pu rfl ?_
            rcases Bool.eq_false_or_eq_true (m.dup) with hb_188 | hb_188
            · skip
              refine fw_kn 154 rfl (not_of hb_188) ?_
              iterate 5 refine fw_pu rfl ?_
              refine fw_dn (fw_bn (fw_th (fw_sq (fw_rg rfl ?_))))
              iterate 7 refine fw_pu rfl ?_
              refine fw_dt (fw_rt ?_)
              refine ⟨fun a h => ?_⟩
              exact ow_ret1 rfl h.df (h.g 2 rfl) ⟨by unfold mxG; simp [hb_19, hb_107, hb_136, hb_177, hb_183, hb_185, hb_186, hb_187, hb_188], b180⟩
            refine fw_kn 154 rfl (not_of hb_188) (fw_pu rfl (fw_ld r181 rfl rfl ?_))
            iterate 3 refine fw_pu rfl ?_
            refine fw_dn (fw_bn (fw_th (fw_sq (fw_rg rfl ?_))))
            iterate 2 refine fw_pu rfl ?_
            rcases Bool.eq_false_or_eq_true ((m.id == 0)) with hb_189 | hb_189
            · skip
              refine fw_kn 284 rfl hb_189 (fw_ld r182 rfl rfl (fw_ld r181 rfl rfl ?_))
              refine fw_ca Tryd.func19 rfl rfl rfl ((by have h := eqMq_any ({ k := m.k, cl := E0, clean := false, keep := 0, wI := false, wT := E0, wP := E0, wQ := 0, wR := false, us := E0, hu := false, pa := E0, hp := false, pres := false, code := 0, cs := [], dup := m.dup, q := m.q, re := m.re, top := m.top, id := m.id, pay := m.pay, ws := [], fs := [] } : Mq) m _ _ _ _ _ _ V179 ⟨nilL _ _, nilL _ _, nilL _ _⟩ (hL.below b180) (Nat.zero_le _) (Nat.zero_le _) (Nat.zero_le _) hN.1 hN.2.1 hN.2.2; rw [show ({ k := m.k, cl := E0, clean := false, keep := 0, wI := false, wT := E0, wP := E0, wQ := 0, wR := false, us := E0, hu := false, pa := E0, hp := false, pres := false, code := 0, cs := [], dup := m.dup, q := m.q, re := m.re, top := m.top, id := m.id, pay := m.pay, ws := [], fs := [] } : Mq).eqB m = baG m from (by unfold baG stG; simp only [hb_19, hb_107, hb_136, if_true, if_false, Bool.false_eq_true, Mq.eqB, Mq.noB, isE, E0_list, nil_dec, nl_beq, z_beq, f_beq, beq_self_eq_true, Bool.not_false, Bool.true_and, Bool.and_true, Bool.and_assoc])] at h; exact h)) ?_
              rintro _ V191 ⟨rfl, hb190⟩
              refine ⟨(.bool (baG m)), rfl, ?_⟩
              have b192 := b180.trans (hb190.mono b180.size)
              have r193 := r181.below hb190
              have r194 := r182.below hb190
              iterate 2 refine fw_pu rfl ?_
              refine fw_dt (fw_rt ?_)
              refine ⟨fun a h => ?_⟩
              exact ow_ret1 rfl h.df (h.g 2 rfl) ⟨by unfold mxG; simp [hb_19, hb_107, hb_136, hb_177, hb_183, hb_185, hb_186, hb_187, hb_188, hb_189], b192⟩
            refine fw_kn 284 rfl hb_189 ?_
            iterate 5 refine fw_pu rfl ?_
            refine fw_dt (fw_rt ?_)
            refine ⟨fun a h => ?_⟩
            exact ow_ret1 rfl h.df (h.g 2 rfl) ⟨by unfold mxG; simp [hb_19, hb_107, hb_136, hb_177, hb_183, hb_185, hb_186, hb_187, hb_188, hb_189], b180⟩
          refine fw_kn 149 rfl hb_187 ?_
          iterate 10 refine fw_pu rfl ?_
          refine fw_dn (fw_bn (fw_th (fw_sq (fw_rg rfl ?_))))
          iterate 7 refine fw_pu rfl ?_
          refine fw_dt (fw_rt ?_)
          refine ⟨fun a h => ?_⟩
          exact ow_ret1 rfl h.df (h.g 2 rfl) ⟨by unfold mxG; simp [hb_19, hb_107, hb_136, hb_177, hb_183, hb_185, hb_186, hb_187], b180⟩
        refine fw_cF rfl hb_186 (fw_rg rfl ?_)
        iterate 2 refine fw_pu rfl ?_
        rcases Bool.eq_false_or_eq_true ((decide ((m.pay.size : Int) ≤ 128))) with hb_195 | hb_195
        · skip
          refine fw_kn 160 rfl hb_195 (fw_pu rfl (fw_ld r181 rfl rfl (fw_ca Tryd.func57 rfl rfl rfl ((idR_G m.id V179)) ?_)))
          rintro _ _ ⟨rfl, rfl⟩
          refine ⟨(.bool (idG m.id)), rfl, ?_⟩
          iterate 2 refine fw_pu rfl ?_
          refine fw_dn (fw_bn (fw_th (fw_sq (fw_rg rfl ?_))))
          iterate 2 refine fw_pu rfl ?_
          rcases Bool.eq_false_or_eq_true ((idG m.id)) with hb_196 | hb_196
          · skip
            refine fw_kn 284 rfl hb_196 (fw_ld r182 rfl rfl (fw_ld r181 rfl rfl ?_))
            refine fw_ca Tryd.func19 rfl rfl rfl ((by have h := eqMq_any ({ k := m.k, cl := E0, clean := false, keep := 0, wI := false, wT := E0, wP := E0, wQ := 0, wR := false, us := E0, hu := false, pa := E0, hp := false, pres := false, code := 0, cs := [], dup := m.dup, q := m.q, re := m.re, top := m.top, id := m.id, pay := m.pay, ws := [], fs := [] } : Mq) m _ _ _ _ _ _ V179 ⟨nilL _ _, nilL _ _, nilL _ _⟩ (hL.below b180) (Nat.zero_le _) (Nat.zero_le _) (Nat.zero_le _) hN.1 hN.2.1 hN.2.2; rw [show ({ k := m.k, cl := E0, clean := false, keep := 0, wI := false, wT := E0, wP := E0, wQ := 0, wR := false, us := E0, hu := false, pa := E0, hp := false, pres := false, code := 0, cs := [], dup := m.dup, q := m.q, re := m.re, top := m.top, id := m.id, pay := m.pay, ws := [], fs := [] } : Mq).eqB m = baG m from (by unfold baG stG; simp only [hb_19, hb_107, hb_136, if_true, if_false, Bool.false_eq_true, Mq.eqB, Mq.noB, isE, E0_list, nil_dec, nl_beq, z_beq, f_beq, beq_self_eq_true, Bool.not_false, Bool.true_and, Bool.and_true, Bool.and_assoc])] at h; exact h)) ?_
            rintro _ V198 ⟨rfl, hb197⟩
            refine ⟨(.bool (baG m)), rfl, ?_⟩
            have b199 := b180.trans (hb197.mono b180.size)
            have r200 := r181.below hb197
            have r201 := r182.below hb197
            iterate 2 refine fw_pu rfl ?_
            refine fw_dt (fw_rt ?_)
            refine ⟨fun a h => ?_⟩
            exact ow_ret1 rfl h.df (h.g 2 rfl) ⟨by unfold mxG; simp [hb_19, hb_107, hb_136, hb_177, hb_183, hb_185, hb_186, hb_195, hb_196], b199⟩
          refine fw_kn 284 rfl hb_196 ?_
          iterate 5 refine fw_pu rfl ?_
          refine fw_dt (fw_rt ?_)
          refine ⟨fun a h => ?_⟩
          exact ow_ret1 rfl h.df (h.g 2 rfl) ⟨by unfold mxG; simp [hb_19, hb_107, hb_136, hb_177, hb_183, hb_185, hb_186, hb_195, hb_196], b180⟩
        refine fw_kn 160 rfl hb_195 ?_
        iterate 5 refine fw_pu rfl ?_
        refine fw_dn (fw_bn (fw_th (fw_sq (fw_rg rfl ?_))))
        iterate 7 refine fw_pu rfl ?_
        refine fw_dt (fw_rt ?_)
        refine ⟨fun a h => ?_⟩
        exact ow_ret1 rfl h.df (h.g 2 rfl) ⟨by unfold mxG; simp [hb_19, hb_107, hb_136, hb_177, hb_183, hb_185, hb_186, hb_195], b180⟩
      refine fw_kn 139 rfl hb_185 ?_
      iterate 6 refine fw_pu rfl ?_
      refine fw_dt (fw_sq (fw_rg rfl (fw_pu rfl (fw_ld r181 rfl rfl (fw_pu rfl (fw_dt ?_))))))
      rcases Bool.eq_false_or_eq_true ((m.q == 0)) with hb_202 | hb_202
      · skip
        refine fw_cT rfl hb_202 (fw_rg rfl ?_)
        iterate 12 refine fw_pu rfl ?_
        refine fw_dn (fw_bn (fw_th (fw_sq (fw_rg rfl ?_))))
        iterate 7 refine fw_pu rfl ?_
        refine fw_dt (fw_rt ?_)
        refine ⟨fun a h => ?_⟩
        exact ow_ret1 rfl h.df (h.g 2 rfl) ⟨by unfold mxG; simp [hb_19, hb_107, hb_136, hb_177, hb_183, hb_185, hb_202], b180⟩
      refine fw_cF rfl hb_202 (fw_rg rfl ?_)
      iterate 7 refine fw_pu rfl ?_
      refine fw_dn (fw_bn (fw_th (fw_sq (fw_rg rfl ?_))))
      iterate 7 refine fw_pu rfl ?_
      refine fw_dt (fw_rt ?_)
      refine ⟨fun a h => ?_⟩
      exact ow_ret1 rfl h.df (h.g 2 rfl) ⟨by unfold mxG; simp [hb_19, hb_107, hb_136, hb_177, hb_183, hb_185, hb_202], b180⟩
    refine fw_kn 129 rfl hb_177 ?_
    iterate 16 refine fw_pu rfl ?_
    refine fw_dt (fw_sq (fw_rg rfl (fw_pu rfl (fw_ld r175 rfl rfl (fw_pu rfl (fw_dt ?_))))))
    rcases Bool.eq_false_or_eq_true ((m.q == 0)) with hb_203 | hb_203
    · skip
      refine fw_cT rfl hb_203 (fw_rg rfl ?_)
      iterate 12 refine fw_pu rfl ?_
      refine fw_dn (fw_bn (fw_th (fw_sq (fw_rg rfl ?_))))
      iterate 7 refine fw_pu rfl ?_
      refine fw_dt (fw_rt ?_)
      refine ⟨fun a h => ?_⟩
      exact ow_ret1 rfl h.df (h.g 2 rfl) ⟨by unfold mxG; simp [hb_19, hb_107, hb_136, hb_177, hb_203], b174⟩
    refine fw_cF rfl hb_203 (fw_rg rfl ?_)
    iterate 7 refine fw_pu rfl ?_
    refine fw_dn (fw_bn (fw_th (fw_sq (fw_rg rfl ?_))))
    iterate 7 refine fw_pu rfl ?_
    refine fw_dt (fw_rt ?_)
    refine ⟨fun a h => ?_⟩
    exact ow_ret1 rfl h.df (h.g 2 rfl) ⟨by unfold mxG; simp [hb_19, hb_107, hb_136, hb_177, hb_203], b174⟩
  refine fw_cF rfl hb_136 (fw_sq (fw_sq (fw_rg rfl ?_)))
  iterate 2 refine fw_pu rfl ?_
  refine fw_dt ?_
  rcases Bool.eq_false_or_eq_true ((m.k == 4)) with hb_204 | hb_204
  · skip
    refine fw_cT rfl hb_204 (fw_sk (fw_th (fw_cT rfl hb_204 (fw_sq (fw_rg rfl (fw_pu rfl (fw_ld r18 rfl rfl (fw_pu rfl (fw_st r16 rfl rfl ?_)))))))))
    intro W205 s206 r207
    have b208 := below_chg b17 s206 (by omega) b17.size
    have r209 := r18.chg s206 (by omega)
    replace r207 : RowAt W205 q7 [.int .i64 m.k, .string { data := #[] }, .bool false, .int .i64 0, .bool false, .string { data := #[] }, .string { data := #[] }, .int .i64 0, .bool false, .string { data := #[] }, .bool false, .string { data := #[] }, .bool false, .bool false, .int .i64 0, .slice none 0 0, .bool false, .int .i64 0, .bool false, .string { data := #[] }, .int .i64 m.id, .string { data := #[] }, .slice none 0 0, .slice none 0 0] := r207
    refine fw_dt (fw_rg rfl (fw_pu rfl (fw_ld r209 rfl rfl (fw_ca Tryd.func57 rfl rfl rfl ((idR_G m.id W205)) ?_))))
    rintro _ _ ⟨rfl, rfl⟩
    refine ⟨(.bool (idG m.id)), rfl, ?_⟩
    refine fw_pu rfl (fw_dn (fw_bn (fw_th (fw_sq (fw_rg rfl ?_)))))
    iterate 2 refine fw_pu rfl ?_
    rcases Bool.eq_false_or_eq_true ((idG m.id)) with hb_210 | hb_210
    · skip
      refine fw_kn 284 rfl hb_210 (fw_ld r207 rfl rfl (fw_ld r209 rfl rfl ?_))
      refine fw_ca Tryd.func19 rfl rfl rfl ((by have h := eqMq_any ({ k := m.k, cl := E0, clean := false, keep := 0, wI := false, wT := E0, wP := E0, wQ := 0, wR := false, us := E0, hu := false, pa := E0, hp := false, pres := false, code := 0, cs := [], dup := false, q := 0, re := false, top := E0, id := m.id, pay := E0, ws := [], fs := [] } : Mq) m _ _ _ _ _ _ W205 ⟨nilL _ _, nilL _ _, nilL _ _⟩ (hL.below b208) (Nat.zero_le _) (Nat.zero_le _) (Nat.zero_le _) hN.1 hN.2.1 hN.2.2; rw [show ({ k := m.k, cl := E0, clean := false, keep := 0, wI := false, wT := E0, wP := E0, wQ := 0, wR := false, us := E0, hu := false, pa := E0, hp := false, pres := false, code := 0, cs := [], dup := false, q := 0, re := false, top := E0, id := m.id, pay := E0, ws := [], fs := [] } : Mq).eqB m = baG m from (by unfold baG stG; simp only [hb_19, hb_107, hb_136, hb_204, Bool.true_or, if_true, if_false, Bool.false_eq_true, Mq.eqB, Mq.noB, isE, E0_list, nil_dec, nl_beq, z_beq, f_beq, beq_self_eq_true, Bool.true_and, Bool.and_true, Bool.and_assoc])] at h; exact h)) ?_
      rintro _ V212 ⟨rfl, hb211⟩
      refine ⟨(.bool (baG m)), rfl, ?_⟩
      have b213 := b208.trans (hb211.mono b208.size)
      have r214 := r209.below hb211
      have r215 := r207.below hb211
      iterate 2 refine fw_pu rfl ?_
      refine fw_dt (fw_rt ?_)
      refine ⟨fun a h => ?_⟩
      exact ow_ret1 rfl h.df (h.g 2 rfl) ⟨by unfold mxG; simp [hb_19, hb_107, hb_136, hb_204, hb_210], b213⟩
    refine fw_kn 284 rfl hb_210 ?_
    iterate 5 refine fw_pu rfl ?_
    refine fw_dt (fw_rt ?_)
    refine ⟨fun a h => ?_⟩
    exact ow_ret1 rfl h.df (h.g 2 rfl) ⟨by unfold mxG; simp [hb_19, hb_107, hb_136, hb_204, hb_210], b208⟩
  refine fw_cF rfl hb_204 (fw_sq (fw_rg rfl ?_))
  iterate 2 refine fw_pu rfl ?_
  refine fw_dt ?_
  rcases Bool.eq_false_or_eq_true ((m.k == 5)) with hb_216 | hb_216
  · skip
    refine fw_cT rfl hb_216 (fw_sk (fw_th (fw_cT rfl hb_216 (fw_sq (fw_rg rfl (fw_pu rfl (fw_ld r18 rfl rfl (fw_pu rfl (fw_st r16 rfl rfl ?_)))))))))
    intro W217 s218 r219
    have b220 := below_chg b17 s218 (by omega) b17.size
    have r221 := r18.chg s218 (by omega)
    replace r219 : RowAt W217 q7 [.int .i64 m.k, .string { data := #[] }, .bool false, .int .i64 0, .bool false, .string { data := #[] }, .string { data := #[] }, .int .i64 0, .bool false, .string { data := #[] }, .bool false, .string { data := #[] }, .bool false, .bool false, .int .i64 0, .slice none 0 0, .bool false, .int .i64 0, .bool false, .string { data := #[] }, .int .i64 m.id, .string { data := #[] }, .slice none 0 0, .slice none 0 0] := r219
    refine fw_dt (fw_rg rfl (fw_pu rfl (fw_ld r221 rfl rfl (fw_ca Tryd.func57 rfl rfl rfl ((idR_G m.id W217)) ?_))))
    rintro _ _ ⟨rfl, rfl⟩
    refine ⟨(.bool (idG m.id)), rfl, ?_⟩
    refine fw_pu rfl (fw_dn (fw_bn (fw_th (fw_sq (fw_rg rfl ?_)))))
    iterate 2 refine fw_pu rfl ?_
    rcases Bool.eq_false_or_eq_true ((idG m.id)) with hb_222 | hb_222
    · skip
      refine fw_kn 284 rfl hb_222 (fw_ld r219 rfl rfl (fw_ld r221 rfl rfl ?_))
      refine fw_ca Tryd.func19 rfl rfl rfl ((by have h := eqMq_any ({ k := m.k, cl := E0, clean := false, keep := 0, wI := false, wT := E0, wP := E0, wQ := 0, wR := false, us := E0, hu := false, pa := E0, hp := false, pres := false, code := 0, cs := [], dup := false, q := 0, re := false, top := E0, id := m.id, pay := E0, ws := [], fs := [] } : Mq) m _ _ _ _ _ _ W217 ⟨nilL _ _, nilL _ _, nilL _ _⟩ (hL.below b220) (Nat.zero_le _) (Nat.zero_le _) (Nat.zero_le _) hN.1 hN.2.1 hN.2.2; rw [show ({ k := m.k, cl := E0, clean := false, keep := 0, wI := false, wT := E0, wP := E0, wQ := 0, wR := false, us := E0, hu := false, pa := E0, hp := false, pres := false, code := 0, cs := [], dup := false, q := 0, re := false, top := E0, id := m.id, pay := E0, ws := [], fs := [] } : Mq).eqB m = baG m from (by unfold baG stG; simp only [hb_19, hb_107, hb_136, hb_204, hb_216, Bool.true_or, Bool.or_true, if_true, if_false, Bool.false_eq_true, Mq.eqB, Mq.noB, isE, E0_list, nil_dec, nl_beq, z_beq, f_beq, beq_self_eq_true, Bool.true_and, Bool.and_true, Bool.and_assoc])] at h; exact h)) ?_
      rintro _ V224 ⟨rfl, hb223⟩
      refine ⟨(.bool (baG m)), rfl, ?_⟩
      have b225 := b220.trans (hb223.mono b220.size)
      have r226 := r221.below hb223
      have r227 := r219.below hb223
      iterate 2 refine fw_pu rfl ?_
      refine fw_dt (fw_rt ?_)
      refine ⟨fun a h => ?_⟩
      exact ow_ret1 rfl h.df (h.g 2 rfl) ⟨by unfold mxG; simp [hb_19, hb_107, hb_136, hb_204, hb_216, hb_222], b225⟩
    refine fw_kn 284 rfl hb_222 ?_
    iterate 5 refine fw_pu rfl ?_
    refine fw_dt (fw_rt ?_)
    refine ⟨fun a h => ?_⟩
    exact ow_ret1 rfl h.df (h.g 2 rfl) ⟨by unfold mxG; simp [hb_19, hb_107, hb_136, hb_204, hb_216, hb_222], b220⟩
  refine fw_cF rfl hb_216 (fw_sq (fw_rg rfl ?_))
  iterate 2 refine fw_pu rfl ?_
  refine fw_dt ?_
  rcases Bool.eq_false_or_eq_true ((m.k == 6)) with hb_228 | hb_228
  · skip
    refine fw_cT rfl hb_228 (fw_sk (fw_th (fw_cT rfl hb_228 (fw_sq (fw_rg rfl (fw_pu rfl (fw_ld r18 rfl rfl (fw_pu rfl (fw_st r16 rfl rfl ?_)))))))))
    intro W229 s230 r231
    have b232 := below_chg b17 s230 (by omega) b17.size
    have r233 := r18.chg s230 (by omega)
    replace r231 : RowAt W229 q7 [.int .i64 m.k, .string { data := #[] }, .bool false, .int .i64 0, .bool false, .string { data := #[] }, .string { data := #[] }, .int .i64 0, .bool false, .string { data := #[] }, .bool false, .string { data := #[] }, .bool false, .bool false, .int .i64 0, .slice none 0 0, .bool false, .int .i64 0, .bool false, .string { data := #[] }, .int .i64 m.id, .string { data := #[] }, .slice none 0 0, .slice none 0 0] := r231
    refine fw_dt (fw_rg rfl (fw_pu rfl (fw_ld r233 rfl rfl (fw_ca Tryd.func57 rfl rfl rfl ((idR_G m.id W229)) ?_))))
    rintro _ _ ⟨rfl, rfl⟩
    refine ⟨(.bool (idG m.id)), rfl, ?_⟩
    refine fw_pu rfl (fw_dn (fw_bn (fw_th (fw_sq (fw_rg rfl ?_)))))
    iterate 2 refine fw_pu rfl ?_
    rcases Bool.eq_false_or_eq_true ((idG m.id)) with hb_234 | hb_234
    · skip
      refine fw_kn 284 rfl hb_234 (fw_ld r231 rfl rfl (fw_ld r233 rfl rfl ?_))
      refine fw_ca Tryd.func19 rfl rfl rfl ((by have h := eqMq_any ({ k := m.k, cl := E0, clean := false, keep := 0, wI := false, wT := E0, wP := E0, wQ := 0, wR := false, us := E0, hu := false, pa := E0, hp := false, pres := false, code := 0, cs := [], dup := false, q := 0, re := false, top := E0, id := m.id, pay := E0, ws := [], fs := [] } : Mq) m _ _ _ _ _ _ W229 ⟨nilL _ _, nilL _ _, nilL _ _⟩ (hL.below b232) (Nat.zero_le _) (Nat.zero_le _) (Nat.zero_le _) hN.1 hN.2.1 hN.2.2; rw [show ({ k := m.k, cl := E0, clean := false, keep := 0, wI := false, wT := E0, wP := E0, wQ := 0, wR := false, us := E0, hu := false, pa := E0, hp := false, pres := false, code := 0, cs := [], dup := false, q := 0, re := false, top := E0, id := m.id, pay := E0, ws := [], fs := [] } : Mq).eqB m = baG m from (by unfold baG stG; simp only [hb_19, hb_107, hb_136, hb_204, hb_216, hb_228, Bool.true_or, Bool.or_true, Bool.or_self, if_true, if_false, Bool.false_eq_true, Mq.eqB, Mq.noB, isE, E0_list, nil_dec, nl_beq, z_beq, f_beq, beq_self_eq_true, Bool.true_and, Bool.and_true, Bool.and_assoc])] at h; exact h)) ?_
      rintro _ V236 ⟨rfl, hb235⟩
      refine ⟨(.bool (baG m)), rfl, ?_⟩
      have b237 := b232.trans (hb235.mono b232.size)
      have r238 := r233.below hb235
      have r239 := r231.below hb235
      iterate 2 refine fw_pu rfl ?_
      refine fw_dt (fw_rt ?_)
      refine ⟨fun a h => ?_⟩
      exact ow_ret1 rfl h.df (h.g 2 rfl) ⟨by unfold mxG; simp [hb_19, hb_107, hb_136, hb_204, hb_216, hb_228, hb_234], b237⟩
    refine fw_kn 284 rfl hb_234 ?_
    iterate 5 refine fw_pu rfl ?_
    refine fw_dt (fw_rt ?_)
    refine ⟨fun a h => ?_⟩
    exact ow_ret1 rfl h.df (h.g 2 rfl) ⟨by unfold mxG; simp [hb_19, hb_107, hb_136, hb_204, hb_216, hb_228, hb_234], b232⟩
  refine fw_cF rfl hb_228 (fw_sq (fw_rg rfl ?_))
  iterate 2 refine fw_pu rfl ?_
  refine fw_dt ?_
  rcases Bool.eq_false_or_eq_true ((m.k == 7)) with hb_240 | hb_240
  · skip
    refine fw_cT rfl hb_240 (fw_sk (fw_th (fw_cT rfl hb_240 (fw_sq (fw_rg rfl (fw_pu rfl (fw_ld r18 rfl rfl (fw_pu rfl (fw_st r16 rfl rfl ?_)))))))))
    intro W241 s242 r243
    have b244 := below_chg b17 s242 (by omega) b17.size
    have r245 := r18.chg s242 (by omega)
    replace r243 : RowAt W241 q7 [.int .i64 m.k, .string { data := #[] }, .bool false, .int .i64 0, .bool false, .string { data := #[] }, .string { data := #[] }, .int .i64 0, .bool false, .string { data := #[] }, .bool false, .string { data := #[] }, .bool false, .bool false, .int .i64 0, .slice none 0 0, .bool false, .int .i64 0, .bool false, .string { data := #[] }, .int .i64 m.id, .string { data := #[] }, .slice none 0 0, .slice none 0 0] := r243
    refine fw_dt (fw_rg rfl (fw_pu rfl (fw_ld r245 rfl rfl (fw_ca Tryd.func57 rfl rfl rfl ((idR_G m.id W241)) ?_))))
    rintro _ _ ⟨rfl, rfl⟩
    refine ⟨(.bool (idG m.id)), rfl, ?_⟩
    refine fw_pu rfl (fw_dn (fw_bn (fw_th (fw_sq (fw_rg rfl ?_)))))
    iterate 2 refine fw_pu rfl ?_
    rcases Bool.eq_false_or_eq_true ((idG m.id)) with hb_246 | hb_246
    · skip
      refine fw_kn 284 rfl hb_246 (fw_ld r243 rfl rfl (fw_ld r245 rfl rfl ?_))
      refine fw_ca Tryd.func19 rfl rfl rfl ((by have h := eqMq_any ({ k := m.k, cl := E0, clean := false, keep := 0, wI := false, wT := E0, wP := E0, wQ := 0, wR := false, us := E0, hu := false, pa := E0, hp := false, pres := false, code := 0, cs := [], dup := false, q := 0, re := false, top := E0, id := m.id, pay := E0, ws := [], fs := [] } : Mq) m _ _ _ _ _ _ W241 ⟨nilL _ _, nilL _ _, nilL _ _⟩ (hL.below b244) (Nat.zero_le _) (Nat.zero_le _) (Nat.zero_le _) hN.1 hN.2.1 hN.2.2; rw [show ({ k := m.k, cl := E0, clean := false, keep := 0, wI := false, wT := E0, wP := E0, wQ := 0, wR := false, us := E0, hu := false, pa := E0, hp := false, pres := false, code := 0, cs := [], dup := false, q := 0, re := false, top := E0, id := m.id, pay := E0, ws := [], fs := [] } : Mq).eqB m = baG m from (by unfold baG stG; simp only [hb_19, hb_107, hb_136, hb_204, hb_216, hb_228, hb_240, Bool.true_or, Bool.or_true, Bool.or_self, if_true, if_false, Bool.false_eq_true, Mq.eqB, Mq.noB, isE, E0_list, nil_dec, nl_beq, z_beq, f_beq, beq_self_eq_true, Bool.true_and, Bool.and_true, Bool.and_assoc])] at h; exact h)) ?_
      rintro _ V248 ⟨rfl, hb247⟩
      refine ⟨(.bool (baG m)), rfl, ?_⟩
      have b249 := b244.trans (hb247.mono b244.size)
      have r250 := r245.below hb247
      have r251 := r243.below hb247
      iterate 2 refine fw_pu rfl ?_
      refine fw_dt (fw_rt ?_)
      refine ⟨fun a h => ?_⟩
      exact ow_ret1 rfl h.df (h.g 2 rfl) ⟨by unfold mxG; simp [hb_19, hb_107, hb_136, hb_204, hb_216, hb_228, hb_240, hb_246], b249⟩
    refine fw_kn 284 rfl hb_246 ?_
    iterate 5 refine fw_pu rfl ?_
    refine fw_dt (fw_rt ?_)
    refine ⟨fun a h => ?_⟩
    exact ow_ret1 rfl h.df (h.g 2 rfl) ⟨by unfold mxG; simp [hb_19, hb_107, hb_136, hb_204, hb_216, hb_228, hb_240, hb_246], b244⟩
  refine fw_cF rfl hb_240 (fw_rg rfl ?_)
  iterate 2 refine fw_pu rfl ?_
  refine fw_dt ?_
  rcases Bool.eq_false_or_eq_true ((m.k == 11)) with hb_252 | hb_252
  · skip
    refine fw_cT rfl hb_252 (fw_sq (fw_rg rfl (fw_pu rfl (fw_ld r18 rfl rfl (fw_pu rfl (fw_st r16 rfl rfl ?_))))))
    intro W253 s254 r255
    have b256 := below_chg b17 s254 (by omega) b17.size
    have r257 := r18.chg s254 (by omega)
    replace r255 : RowAt W253 q7 [.int .i64 m.k, .string { data := #[] }, .bool false, .int .i64 0, .bool false, .string { data := #[] }, .string { data := #[] }, .int .i64 0, .bool false, .string { data := #[] }, .bool false, .string { data := #[] }, .bool false, .bool false, .int .i64 0, .slice none 0 0, .bool false, .int .i64 0, .bool false, .string { data := #[] }, .int .i64 m.id, .string { data := #[] }, .slice none 0 0, .slice none 0 0] := r255
    refine fw_dt (fw_rg rfl (fw_pu rfl (fw_ld r257 rfl rfl (fw_ca Tryd.func57 rfl rfl rfl ((idR_G m.id W253)) ?_))))
    rintro _ _ ⟨rfl, rfl⟩
    refine ⟨(.bool (idG m.id)), rfl, ?_⟩
    refine fw_pu rfl (fw_dn (fw_bn (fw_th (fw_sq (fw_rg rfl ?_)))))
    iterate 2 refine fw_pu rfl ?_
    rcases Bool.eq_false_or_eq_true ((idG m.id)) with hb_258 | hb_258
    · skip
      refine fw_kn 284 rfl hb_258 (fw_ld r255 rfl rfl (fw_ld r257 rfl rfl ?_))
      refine fw_ca Tryd.func19 rfl rfl rfl ((by have h := eqMq_any ({ k := m.k, cl := E0, clean := false, keep := 0, wI := false, wT := E0, wP := E0, wQ := 0, wR := false, us := E0, hu := false, pa := E0, hp := false, pres := false, code := 0, cs := [], dup := false, q := 0, re := false, top := E0, id := m.id, pay := E0, ws := [], fs := [] } : Mq) m _ _ _ _ _ _ W253 ⟨nilL _ _, nilL _ _, nilL _ _⟩ (hL.below b256) (Nat.zero_le _) (Nat.zero_le _) (Nat.zero_le _) hN.1 hN.2.1 hN.2.2; rw [show ({ k := m.k, cl := E0, clean := false, keep := 0, wI := false, wT := E0, wP := E0, wQ := 0, wR := false, us := E0, hu := false, pa := E0, hp := false, pres := false, code := 0, cs := [], dup := false, q := 0, re := false, top := E0, id := m.id, pay := E0, ws := [], fs := [] } : Mq).eqB m = baG m from (by unfold baG stG; simp only [hb_19, hb_107, hb_136, hb_204, hb_216, hb_228, hb_240, hb_252, Bool.or_true, Bool.or_self, if_true, if_false, Bool.false_eq_true, Mq.eqB, Mq.noB, isE, E0_list, nil_dec, nl_beq, z_beq, f_beq, beq_self_eq_true, Bool.true_and, Bool.and_true, Bool.and_assoc])] at h; exact h)) ?_
      rintro _ V260 ⟨rfl, hb259⟩
      refine ⟨(.bool (baG m)), rfl, ?_⟩
      have b261 := b256.trans (hb259.mono b256.size)
      have r262 := r257.below hb259
      have r263 := r255.below hb259
      iterate 2 refine fw_pu rfl ?_
      refine fw_dt (fw_rt ?_)
      refine ⟨fun a h => ?_⟩
      exact ow_ret1 rfl h.df (h.g 2 rfl) ⟨by unfold mxG; simp [hb_19, hb_107, hb_136, hb_204, hb_216, hb_228, hb_240, hb_252, hb_258], b261⟩
    refine fw_kn 284 rfl hb_258 ?_
    iterate 5 refine fw_pu rfl ?_
    refine fw_dt (fw_rt ?_)
    refine ⟨fun a h => ?_⟩
    exact ow_ret1 rfl h.df (h.g 2 rfl) ⟨by unfold mxG; simp [hb_19, hb_107, hb_136, hb_204, hb_216, hb_228, hb_240, hb_252, hb_258], b256⟩
  refine fw_cF rfl hb_252 (fw_sq (fw_rg rfl ?_))
  iterate 2 refine fw_pu rfl ?_
  refine fw_dt ?_
  rcases Bool.eq_false_or_eq_true ((m.k == 8)) with hb_264 | hb_264
  · skip
    refine fw_cT rfl hb_264 (fw_sq ?_)
    refine fw_hr (fun X => Below w.heap.size w X ∧ RowAt X q1 (Mq.row m (.slice ac m.cs.length cc) (.slice aw m.ws.length cw) (.slice af m.fs.length cf))) (by kernel_rfl) 8 rfl ?_
    intro W265 s266
    have b267 := b17.trans (s266.mono b17.size)
    have r268 := r18.below s266
    have r269 := r16.below s266
    refine ⟨⟨b267, r268⟩, ?_⟩
    refine fw_tk 0 rfl rfl (by kernel_rfl) (fun _ _ _ _ _ h => h) ?_
    refine fw_tl 1 (fun _ h => h.2) rfl rfl rfl (by kernel_rfl) (fun _ _ _ _ _ h => h) ?_
    refine fw_tk 2 rfl rfl (by kernel_rfl) (fun _ _ _ _ _ h => h) ?_
    refine fw_tl 3 (fun _ h => h.2) rfl rfl rfl (by kernel_rfl) (fun _ _ _ _ _ h => h) ?_
    refine fw_tk 4 rfl rfl (by kernel_rfl) (fun _ _ _ _ _ h => h) ?_
    refine fw_o1 5 (by kernel_rfl) ?_
    refine fw_os rfl r269 rfl rfl ?_
    intro W270 s271 r272
    have b273 := below_chg b267 s271 (by omega) b267.size
    have r274 := r268.chg s271 (by omega)
    refine ⟨⟨b273, r274⟩, ?_⟩
    refine fw_tk 6 rfl rfl (by kernel_rfl) (fun _ _ _ _ _ h => h) ?_
    refine fw_o1 7 (by kernel_rfl) ?_
    refine fw_os rfl r272 rfl rfl ?_
    intro W275 s276 r277
    have b278 := below_chg b273 s276 (by omega) b273.size
    have r279 := r274.chg s276 (by omega)
    refine ⟨⟨b278, r279⟩, ?_⟩
    refine fw_ht (by kernel_rfl) ?_
    refine fw_rg rfl (fw_pu rfl (fw_ld r279 rfl rfl (fw_ca Tryd.func57 rfl rfl rfl ((idR_G m.id W275)) ?_)))
    rintro _ _ ⟨rfl, rfl⟩
    refine ⟨(.bool (idG m.id)), rfl, ?_⟩
    refine fw_pu rfl ?_
    rcases Bool.eq_false_or_eq_true ((idG m.id)) with hb_280 | hb_280
    · skip
      refine fw_kn 188 rfl hb_280 (fw_pu rfl (fw_ld r279 rfl rfl (fw_ca Tryd.func58 rfl rfl rfl ((wishesX m.ws aw _ cw W275 (hL.w.below b278) hF.ws hF.wsf (hT.below b278))) ?_)))
      rintro _ V282 ⟨rfl, hb281⟩
      refine ⟨(.bool (wxG m.ws)), rfl, ?_⟩
      have b283 := b278.trans (hb281.mono b278.size)
      have r284 := r279.below hb281
      have r285 := r277.below hb281
      iterate 2 refine fw_pu rfl ?_
      refine fw_dn (fw_bn (fw_th (fw_sq (fw_rg rfl ?_))))
      iterate 2 refine fw_pu rfl ?_
      rcases Bool.eq_false_or_eq_true ((wxG m.ws)) with hb_286 | hb_286
      · skip
        refine fw_kn 284 rfl hb_286 (fw_ld r285 rfl rfl (fw_ld r284 rfl rfl ?_))
        refine fw_ca Tryd.func19 rfl rfl rfl ((by have h := eqMq_any ({ k := m.k, cl := E0, clean := false, keep := 0, wI := false, wT := E0, wP := E0, wQ := 0, wR := false, us := E0, hu := false, pa := E0, hp := false, pres := false, code := 0, cs := [], dup := false, q := 0, re := false, top := E0, id := m.id, pay := E0, ws := m.ws, fs := [] } : Mq) m _ _ _ _ _ _ V282 ⟨nilL _ _, (hL.w.below b283), nilL _ _⟩ (hL.below b283) (Nat.zero_le _) hN.2.1 (Nat.zero_le _) hN.1 hN.2.1 hN.2.2; rw [show ({ k := m.k, cl := E0, clean := false, keep := 0, wI := false, wT := E0, wP := E0, wQ := 0, wR := false, us := E0, hu := false, pa := E0, hp := false, pres := false, code := 0, cs := [], dup := false, q := 0, re := false, top := E0, id := m.id, pay := E0, ws := m.ws, fs := [] } : Mq).eqB m = baG m from (by unfold baG stG; simp only [hb_19, hb_107, hb_136, hb_204, hb_216, hb_228, hb_240, hb_252, hb_264, Bool.or_self, if_true, if_false, Bool.false_eq_true, Mq.eqB, Mq.noB, isE, E0_list, nil_dec, nl_beq, z_beq, f_beq, beq_self_eq_true, decide_true, len0, Bool.true_and, Bool.and_true, Bool.and_assoc])] at h; exact h)) ?_
        rintro _ V288 ⟨rfl, hb287⟩
        refine ⟨(.bool (baG m)), rfl, ?_⟩
        have b289 := b283.trans (hb287.mono b283.size)
        have r290 := r284.below hb287
        have r291 := r285.below hb287
        iterate 2 refine fw_pu rfl ?_
        refine fw_dt (fw_rt ?_)
        refine ⟨fun a h => ?_⟩
        exact ow_ret1 rfl h.df (h.g 2 rfl) ⟨by unfold mxG; simp [hb_19, hb_107, hb_136, hb_204, hb_216, hb_228, hb_240, hb_252, hb_264, hb_280, hb_286], b289⟩
      refine fw_kn 284 rfl hb_286 ?_
      iterate 5 refine fw_pu rfl ?_
      refine fw_dt (fw_rt ?_)
      refine ⟨fun a h => ?_⟩
      exact ow_ret1 rfl h.df (h.g 2 rfl) ⟨by unfold mxG; simp [hb_19, hb_107, hb_136, hb_204, hb_216, hb_228, hb_240, hb_252, hb_264, hb_280, hb_286], b283⟩
    refine fw_kn 188 rfl hb_280 ?_
    iterate 5 refine fw_pu rfl ?_
    refine fw_dn (fw_bn (fw_th (fw_sq (fw_rg rfl ?_))))
    iterate 7 refine fw_pu rfl ?_
    refine fw_dt (fw_rt ?_)
    refine ⟨fun a h => ?_⟩
    exact ow_ret1 rfl h.df (h.g 2 rfl) ⟨by unfold mxG; simp [hb_19, hb_107, hb_136, hb_204, hb_216, hb_228, hb_240, hb_252, hb_264, hb_280], b278⟩
  refine fw_cF rfl hb_264 (fw_sq (fw_rg rfl ?_))
  iterate 2 refine fw_pu rfl ?_
  refine fw_dt ?_
  rcases Bool.eq_false_or_eq_true ((m.k == 9)) with hb_292 | hb_292
  · skip
    refine fw_cT rfl hb_292 (fw_sq ?_)
    refine fw_hr (fun X => Below w.heap.size w X ∧ RowAt X q1 (Mq.row m (.slice ac m.cs.length cc) (.slice aw m.ws.length cw) (.slice af m.fs.length cf))) (by kernel_rfl) 8 rfl ?_
    intro W293 s294
    have b295 := b17.trans (s294.mono b17.size)
    have r296 := r18.below s294
    have r297 := r16.below s294
    refine ⟨⟨b295, r296⟩, ?_⟩
    refine fw_tk 0 rfl rfl (by kernel_rfl) (fun _ _ _ _ _ h => h) ?_
    refine fw_tl 1 (fun _ h => h.2) rfl rfl rfl (by kernel_rfl) (fun _ _ _ _ _ h => h) ?_
    refine fw_tk 2 rfl rfl (by kernel_rfl) (fun _ _ _ _ _ h => h) ?_
    refine fw_tl 3 (fun _ h => h.2) rfl rfl rfl (by kernel_rfl) (fun _ _ _ _ _ h => h) ?_
    refine fw_tk 4 rfl rfl (by kernel_rfl) (fun _ _ _ _ _ h => h) ?_
    refine fw_o1 5 (by kernel_rfl) ?_
    refine fw_os rfl r297 rfl rfl ?_
    intro W298 s299 r300
    have b301 := below_chg b295 s299 (by omega) b295.size
    have r302 := r296.chg s299 (by omega)
    refine ⟨⟨b301, r302⟩, ?_⟩
    refine fw_tk 6 rfl rfl (by kernel_rfl) (fun _ _ _ _ _ h => h) ?_
    refine fw_o1 7 (by kernel_rfl) ?_
    refine fw_os rfl r300 rfl rfl ?_
    intro W303 s304 r305
    have b306 := below_chg b301 s304 (by omega) b301.size
    have r307 := r302.chg s304 (by omega)
    refine ⟨⟨b306, r307⟩, ?_⟩
    refine fw_ht (by kernel_rfl) ?_
    refine fw_sq (fw_rg rfl (fw_pu rfl (fw_ld r307 rfl rfl (fw_ca Tryd.func57 rfl rfl rfl ((idR_G m.id W303)) ?_))))
    rintro _ _ ⟨rfl, rfl⟩
    refine ⟨(.bool (idG m.id)), rfl, ?_⟩
    refine fw_pu rfl ?_
    rcases Bool.eq_false_or_eq_true ((idG m.id)) with hb_308 | hb_308
    · skip
      refine fw_kn 204 rfl hb_308 (fw_pu rfl (fw_ld r307 rfl rfl ?_))
      iterate 4 refine fw_pu rfl ?_
      rcases Bool.eq_false_or_eq_true ((decide (1 ≤ ((m.cs.length : Nat) : Int)))) with hb_309 | hb_309
      · skip
        refine fw_kn 210 rfl hb_309 (fw_pu rfl (fw_ld r307 rfl rfl ?_))
        iterate 4 refine fw_pu rfl ?_
        refine fw_dt (fw_sq (fw_rg rfl (fw_pu rfl (fw_dt (fw_bk ?_)))))
        refine fw_lp (fun N K W => ∃ (i : Nat) (b : Bool), N = m.cs.length - i ∧ i ≤ m.cs.length ∧ b = ((decide (((m.cs.length : Nat) : Int) ≤ 8)) && (m.cs.take i).all codeG) ∧ K = [(1, .pointer (some ⟨q1, 0, none⟩)), (3, .pointer (some ⟨q7, 0, none⟩)), (4, .bool b), (5, .int .i64 ((i : Nat) : Int))] ∧ Below w.heap.size w W ∧ RowAt W q1 (Mq.row m (.slice ac m.cs.length cc) (.slice aw m.ws.length cw) (.slice af m.fs.length cf)) ∧ RowAt W q7 [.int .i64 m.k, .string { data := #[] }, .bool false, .int .i64 0, .bool false, .string { data := #[] }, .string { data := #[] }, .int .i64 0, .bool false, .string { data := #[] }, .bool false, .string { data := #[] }, .bool false, .bool false, .int .i64 0, .slice ac m.cs.length cc, .bool false, .int .i64 0, .bool false, .string { data := #[] }, .int .i64 m.id, .string { data := #[] }, .slice none 0 0, .slice none 0 0]) _ _ ⟨0, (decide (((m.cs.length : Nat) : Int) ≤ 8)), rfl, Nat.zero_le _, (Bool.and_true _).symm, rfl, b306, r307, r305⟩ ⟨rfl, rfl, (by first | rfl | (simp only [Look, cond, Nat.beq]; first | rfl | (congr 2; first | rfl | omega | (push_cast; omega)) | (simp; try omega))), (by first | rfl | (simp only [Look, cond, Nat.beq]; first | rfl | (congr 2; first | rfl | omega | (push_cast; omega)) | (simp; try omega))), trivial⟩ ?_
        rintro N _ W310 ⟨i, b, rfl, hil, hinv, rfl, bW310, rW310_0, rW310_1⟩
        intro K312 hK312
        refine fw_sq (fw_sq (fw_rg rfl ?_))
        iterate 2 refine fw_pu rfl ?_
        refine fw_ld rW310_0 rfl rfl ?_
        iterate 2 refine fw_pu rfl ?_
        refine fw_dt ?_
        rcases Bool.eq_false_or_eq_true ((decide (((i : Nat) : Int) < ((m.cs.length : Nat) : Int)))) with hb_313 | hb_313
        · skip
          refine fw_cT rfl hb_313 (fw_sk (fw_th (fw_sq (fw_bk ?_))))
          have hiL : i < m.cs.length := by have h := of_decide_eq_true hb_313; omega
          obtain ⟨x0, hx0⟩ : ∃ p, m.cs[i]? = some p := ⟨_, List.getElem?_eq_getElem hiL⟩
          obtain ⟨bP, oP, haP, hbP, hcP⟩ := slR_at hL.c (i := i) (q := cn x0) (by rw [List.getElem?_map, hx0]; rfl)
          refine fw_rg rfl ?_
          iterate 2 refine fw_pu rfl ?_
          rcases Bool.eq_false_or_eq_true (b) with hb_314 | hb_314
          · skip
            refine fw_kn 224 rfl hb_314 (fw_pu rfl (fw_ld rW310_0 rfl rfl (fw_pu rfl ?_)))
            refine fw_ex 228 (.pointer (some ⟨bP, (oP + i * 1), none⟩)) rfl rfl rfl (fun a h => (run_indexOp (h.ev rfl) (h.ev rfl) (by rw [haP]; exact idxIs _ _ _ _ _ hiL _))) ?_
            refine fw_ex 229 (.int .i64 x0) rfl rfl rfl (fun a h => (run_loadOp (h.ev rfl) (ldI1 ((Below.cell bW310 (p := ⟨bP, oP + i * 1, none⟩) hbP).trans (hcP 0 _ rfl))))) ?_
            refine fw_ca Tryd.func54 rfl rfl rfl ((numQ x0 W310)) ?_
            rintro _ _ ⟨rfl, rfl⟩
            refine ⟨(.bool (qsG x0)), rfl, ?_⟩
            refine fw_pu rfl ?_
            rcases Bool.eq_false_or_eq_true ((qsG x0)) with hb_315 | hb_315
            · skip
              refine fw_kn 231 rfl hb_315 ?_
              iterate 9 refine fw_pu rfl ?_
              refine fw_dn (fw_bn (fw_th (fw_rg rfl (fw_pu rfl ?_))))
              refine fw_ex 222 (.int .i64 (((i + 1) : Nat) : Int)) rfl rfl rfl (fun a h => (run_binOp (h.ev rfl) (h.ev rfl) (by simp [go_sem]) (addIw _ _ _ _ (by omega) (by omega) (by omega)))) ?_
              refine fw_pu rfl (fw_dn ?_)
              exact fw_th (fw_gf (hK312 _ _ _ (by omega) ⟨(i + 1), true, rfl, hiL, (by rw [all_snoc hx0, ← Bool.and_assoc, ← hinv]; unfold codeG; simp [hb_315, hb_314]), rfl, bW310, rW310_0, rW310_1⟩) ⟨rfl, rfl, (by first | rfl | (simp only [Look, cond, Nat.beq]; first | rfl | (congr 2; first | rfl | omega | (push_cast; omega)) | (simp; try omega))), (by first | rfl | (simp only [Look, cond, Nat.beq]; first | rfl | (congr 2; first | rfl | omega | (push_cast; omega)) | (simp; try omega))), trivial⟩)
            refine fw_kn 231 rfl hb_315 (fw_pu rfl (fw_ld rW310_0 rfl rfl (fw_pu rfl ?_)))
            refine fw_ex 235 (.pointer (some ⟨bP, (oP + i * 1), none⟩)) rfl rfl rfl (fun a h => (run_indexOp (h.ev rfl) (h.ev rfl) (by rw [haP]; exact idxIs _ _ _ _ _ hiL _))) ?_
            refine fw_ex 236 (.int .i64 x0) rfl rfl rfl (fun a h => (run_loadOp (h.ev rfl) (ldI1 ((Below.cell bW310 (p := ⟨bP, oP + i * 1, none⟩) hbP).trans (hcP 0 _ rfl))))) ?_
            iterate 4 refine fw_pu rfl ?_
            refine fw_dn (fw_bn (fw_th (fw_rg rfl (fw_pu rfl ?_))))
            refine fw_ex 222 (.int .i64 (((i + 1) : Nat) : Int)) rfl rfl rfl (fun a h => (run_binOp (h.ev rfl) (h.ev rfl) (by simp [go_sem]) (addIw _ _ _ _ (by omega) (by omega) (by omega)))) ?_
            refine fw_pu rfl (fw_dn ?_)
            exact fw_th (fw_gf (hK312 _ _ _ (by omega) ⟨(i + 1), (x0 == 128), rfl, hiL, (by rw [all_snoc hx0, ← Bool.and_assoc, ← hinv]; unfold codeG; simp [hb_315, hb_314]), rfl, bW310, rW310_0, rW310_1⟩) ⟨rfl, rfl, (by first | rfl | (simp only [Look, cond, Nat.beq]; first | rfl | (congr 2; first | rfl | omega | (push_cast; omega)) | (simp; try omega))), (by first | rfl | (simp only [Look, cond, Nat.beq]; first | rfl | (congr 2; first | rfl | omega | (push_cast; omega)) | (simp; try omega))), trivial⟩)
          refine fw_kn 224 rfl hb_314 ?_
          iterate 16 refine fw_pu rfl ?_
          refine fw_dn (fw_bn (fw_th (fw_rg rfl (fw_pu rfl ?_))))
          refine fw_ex 222 (.int .i64 (((i + 1) : Nat) : Int)) rfl rfl rfl (fun a h => (run_binOp (h.ev rfl) (h.ev rfl) (by simp [go_sem]) (addIw _ _ _ _ (by omega) (by omega) (by omega)))) ?_
          refine fw_pu rfl (fw_dn ?_)
          exact fw_th (fw_gf (hK312 _ _ _ (by omega) ⟨(i + 1), false, rfl, hiL, (by rw [all_snoc hx0, ← Bool.and_assoc, ← hinv]; unfold codeG; simp [hb_314]), rfl, bW310, rW310_0, rW310_1⟩) ⟨rfl, rfl, (by first | rfl | (simp only [Look, cond, Nat.beq]; first | rfl | (congr 2; first | rfl | omega | (push_cast; omega)) | (simp; try omega))), (by first | rfl | (simp only [Look, cond, Nat.beq]; first | rfl | (congr 2; first | rfl | omega | (push_cast; omega)) | (simp; try omega))), trivial⟩)
        refine fw_cF rfl hb_313 (fw_xt (fw_te (fw_te (fw_be (fw_bn (fw_th (fw_sq ?_)))))))
        have hi : i = m.cs.length := by have h := of_decide_eq_false hb_313; omega
        rw [hi, List.take_length] at hinv
        have hsp : ((decide (((m.cs.length : Nat) : Int) ≤ 8)) && csG m.cs) = b := hinv.symm
        refine fw_rg rfl ?_
        iterate 2 refine fw_pu rfl ?_
        rcases Bool.eq_false_or_eq_true (b) with hb_316 | hb_316
        · skip
          refine fw_kn 284 rfl hb_316 (fw_ld rW310_1 rfl rfl (fw_ld rW310_0 rfl rfl ?_))
          refine fw_ca Tryd.func19 rfl rfl rfl ((by have h := eqMq_any ({ k := m.k, cl := E0, clean := false, keep := 0, wI := false, wT := E0, wP := E0, wQ := 0, wR := false, us := E0, hu := false, pa := E0, hp := false, pres := false, code := 0, cs := m.cs, dup := false, q := 0, re := false, top := E0, id := m.id, pay := E0, ws := [], fs := [] } : Mq) m _ _ _ _ _ _ W310 ⟨(hL.c.below bW310), nilL _ _, nilL _ _⟩ (hL.below bW310) hN.1 (Nat.zero_le _) (Nat.zero_le _) hN.1 hN.2.1 hN.2.2; rw [show ({ k := m.k, cl := E0, clean := false, keep := 0, wI := false, wT := E0, wP := E0, wQ := 0, wR := false, us := E0, hu := false, pa := E0, hp := false, pres := false, code := 0, cs := m.cs, dup := false, q := 0, re := false, top := E0, id := m.id, pay := E0, ws := [], fs := [] } : Mq).eqB m = baG m from (by unfold baG stG; simp only [hb_19, hb_107, hb_136, hb_204, hb_216, hb_228, hb_240, hb_252, hb_264, hb_292, Bool.or_self, if_true, if_false, Bool.false_eq_true, Mq.eqB, Mq.noB, isE, E0_list, nil_dec, nl_beq, z_beq, f_beq, beq_self_eq_true, decide_true, len0, Bool.true_and, Bool.and_true, Bool.and_assoc])] at h; exact h)) ?_
          rintro _ V318 ⟨rfl, hb317⟩
          refine ⟨(.bool (baG m)), rfl, ?_⟩
          have b319 := bW310.trans (hb317.mono bW310.size)
          have r320 := rW310_0.below hb317
          have r321 := rW310_1.below hb317
          iterate 2 refine fw_pu rfl ?_
          refine fw_dt (fw_rt ?_)
          refine ⟨fun a h => ?_⟩
          exact ow_ret1 rfl h.df (h.g 2 rfl) ⟨by unfold mxG; simp [hb_19, hb_107, hb_136, hb_204, hb_216, hb_228, hb_240, hb_252, hb_264, hb_292, hb_308, hb_309, hb_316, hsp], b319⟩
        refine fw_kn 284 rfl hb_316 ?_
        iterate 5 refine fw_pu rfl ?_
        refine fw_dt (fw_rt ?_)
        refine ⟨fun a h => ?_⟩
        exact ow_ret1 rfl h.df (h.g 2 rfl) ⟨by unfold mxG; simp [hb_19, hb_107, hb_136, hb_204, hb_216, hb_228, hb_240, hb_252, hb_264, hb_292, hb_308, hb_309, hb_316, hsp], bW310⟩
      refine fw_kn 210 rfl hb_309 ?_
      iterate 6 refine fw_pu rfl ?_
      refine fw_dt (fw_sq (fw_rg rfl (fw_pu rfl (fw_dt (fw_bk ?_)))))
      refine fw_lp (fun N K W => ∃ (i : Nat) (b : Bool), N = m.cs.length - i ∧ i ≤ m.cs.length ∧ b = (false && (m.cs.take i).all codeG) ∧ K = [(1, .pointer (some ⟨q1, 0, none⟩)), (3, .pointer (some ⟨q7, 0, none⟩)), (4, .bool b), (5, .int .i64 ((i : Nat) : Int))] ∧ Below w.heap.size w W ∧ RowAt W q1 (Mq.row m (.slice ac m.cs.length cc) (.slice aw m.ws.length cw) (.slice af m.fs.length cf)) ∧ RowAt W q7 [.int .i64 m.k, .string { data := #[] }, .bool false, .int .i64 0, .bool false, .string { data := #[] }, .string { data := #[] }, .int .i64 0, .bool false, .string { data := #[] }, .bool false, .string { data := #[] }, .bool false, .bool false, .int .i64 0, .slice ac m.cs.length cc, .bool false, .int .i64 0, .bool false, .string { data := #[] }, .int .i64 m.id, .string { data := #[] }, .slice none 0 0, .slice none 0 0]) _ _ ⟨0, false, rfl, Nat.zero_le _, (Bool.and_true _).symm, rfl, b306, r307, r305⟩ ⟨rfl, rfl, (by first | rfl | (simp only [Look, cond, Nat.beq]; first | rfl | (congr 2; first | rfl | omega | (push_cast; omega)) | (simp; try omega))), (by first | rfl | (simp only [Look, cond, Nat.beq]; first | rfl | (congr 2; first | rfl | omega | (push_cast; omega)) | (simp; try omega))), trivial⟩ ?_
      rintro N _ W322 ⟨i, b, rfl, hil, hinv, rfl, bW322, rW322_0, rW322_1⟩
      intro K324 hK324
      refine fw_sq (fw_sq (fw_rg rfl ?_))
      iterate 2 refine fw_pu rfl ?_
      refine fw_ld rW322_0 rfl rfl ?_
      iterate 2 refine fw_pu rfl ?_
      refine fw_dt ?_
      rcases Bool.eq_false_or_eq_true ((decide (((i : Nat) : Int) < ((m.cs.length : Nat) : Int)))) with hb_325 | hb_325
      · skip
        refine fw_cT rfl hb_325 (fw_sk (fw_th (fw_sq (fw_bk ?_))))
        have hiL : i < m.cs.length := by have h := of_decide_eq_true hb_325; omega
        obtain ⟨x0, hx0⟩ : ∃ p, m.cs[i]? = some p := ⟨_, List.getElem?_eq_getElem hiL⟩
        obtain ⟨bP, oP, haP, hbP, hcP⟩ := slR_at hL.c (i := i) (q := cn x0) (by rw [List.getElem?_map, hx0]; rfl)
        refine fw_rg rfl ?_
        iterate 2 refine fw_pu rfl ?_
        rcases Bool.eq_false_or_eq_true (b) with hb_326 | hb_326
        · skip
          refine fw_kn 224 rfl hb_326 (fw_pu rfl (fw_ld rW322_0 rfl rfl (fw_pu rfl ?_)))
          refine fw_ex 228 (.pointer (some ⟨bP, (oP + i * 1), none⟩)) rfl rfl rfl (fun a h => (run_indexOp (h.ev rfl) (h.ev rfl) (by rw [haP]; exact idxIs _ _ _ _ _ hiL _))) ?_
          refine fw_ex 229 (.int .i64 x0) rfl rfl rfl (fun a h => (run_loadOp (h.ev rfl) (ldI1 ((Below.cell bW322 (p := ⟨bP, oP + i * 1, none⟩) hbP).trans (hcP 0 _ rfl))))) ?_
          refine fw_ca Tryd.func54 rfl rfl rfl ((numQ x0 W322)) ?_
          rintro _ _ ⟨rfl, rfl⟩
          refine ⟨(.bool (qsG x0)), rfl, ?_⟩
          refine fw_pu rfl ?_
          rcases Bool.eq_false_or_eq_true ((qsG x0)) with hb_327 | hb_327
          · skip
            refine fw_kn 231 rfl hb_327 ?_
            iterate 9 refine fw_pu rfl ?_
            refine fw_dn (fw_bn (fw_th (fw_rg rfl (fw_pu rfl ?_))))
            refine fw_ex 222 (.int .i64 (((i + 1) : Nat) : Int)) rfl rfl rfl (fun a h => (run_binOp (h.ev rfl) (h.ev rfl) (by simp [go_sem]) (addIw _ _ _ _ (by omega) (by omega) (by omega)))) ?_
            refine fw_pu rfl (fw_dn ?_)
            exact fw_th (fw_gf (hK324 _ _ _ (by omega) ⟨(i + 1), true, rfl, hiL, (by rw [all_snoc hx0, ← Bool.and_assoc, ← hinv]; unfold codeG; simp [hb_327, hb_326]), rfl, bW322, rW322_0, rW322_1⟩) ⟨rfl, rfl, (by first | rfl | (simp only [Look, cond, Nat.beq]; first | rfl | (congr 2; first | rfl | omega | (push_cast; omega)) | (simp; try omega))), (by first | rfl | (simp only [Look, cond, Nat.beq]; first | rfl | (congr 2; first | rfl | omega | (push_cast; omega)) | (simp; try omega))), trivial⟩)
          refine fw_kn 231 rfl hb_327 (fw_pu rfl (fw_ld rW322_0 rfl rfl (fw_pu rfl ?_)))
          refine fw_ex 235 (.pointer (some ⟨bP, (oP + i * 1), none⟩)) rfl rfl rfl (fun a h => (run_indexOp (h.ev rfl) (h.ev rfl) (by rw [haP]; exact idxIs _ _ _ _ _ hiL _))) ?_
          refine fw_ex 236 (.int .i64 x0) rfl rfl rfl (fun a h => (run_loadOp (h.ev rfl) (ldI1 ((Below.cell bW322 (p := ⟨bP, oP + i * 1, none⟩) hbP).trans (hcP 0 _ rfl))))) ?_
          iterate 4 refine fw_pu rfl ?_
          refine fw_dn (fw_bn (fw_th (fw_rg rfl (fw_pu rfl ?_))))
          refine fw_ex 222 (.int .i64 (((i + 1) : Nat) : Int)) rfl rfl rfl (fun a h => (run_binOp (h.ev rfl) (h.ev rfl) (by simp [go_sem]) (addIw _ _ _ _ (by omega) (by omega) (by omega)))) ?_
          refine fw_pu rfl (fw_dn ?_)
          exact fw_th (fw_gf (hK324 _ _ _ (by omega) ⟨(i + 1), (x0 == 128), rfl, hiL, (by rw [all_snoc hx0, ← Bool.and_assoc, ← hinv]; unfold codeG; simp [hb_327, hb_326]), rfl, bW322, rW322_0, rW322_1⟩) ⟨rfl, rfl, (by first | rfl | (simp only [Look, cond, Nat.beq]; first | rfl | (congr 2; first | rfl | omega | (push_cast; omega)) | (simp; try omega))), (by first | rfl | (simp only [Look, cond, Nat.beq]; first | rfl | (congr 2; first | rfl | omega | (push_cast; omega)) | (simp; try omega))), trivial⟩)
        refine fw_kn 224 rfl hb_326 ?_
        iterate 16 refine fw_pu rfl ?_
        refine fw_dn (fw_bn (fw_th (fw_rg rfl (fw_pu rfl ?_))))
        refine fw_ex 222 (.int .i64 (((i + 1) : Nat) : Int)) rfl rfl rfl (fun a h => (run_binOp (h.ev rfl) (h.ev rfl) (by simp [go_sem]) (addIw _ _ _ _ (by omega) (by omega) (by omega)))) ?_
        refine fw_pu rfl (fw_dn ?_)
        exact fw_th (fw_gf (hK324 _ _ _ (by omega) ⟨(i + 1), false, rfl, hiL, (by rw [all_snoc hx0, ← Bool.and_assoc, ← hinv]; unfold codeG; simp [hb_326]), rfl, bW322, rW322_0, rW322_1⟩) ⟨rfl, rfl, (by first | rfl | (simp only [Look, cond, Nat.beq]; first | rfl | (congr 2; first | rfl | omega | (push_cast; omega)) | (simp; try omega))), (by first | rfl | (simp only [Look, cond, Nat.beq]; first | rfl | (congr 2; first | rfl | omega | (push_cast; omega)) | (simp; try omega))), trivial⟩)
      refine fw_cF rfl hb_325 (fw_xt (fw_te (fw_te (fw_be (fw_bn (fw_th (fw_sq ?_)))))))
      have hi : i = m.cs.length := by have h := of_decide_eq_false hb_325; omega
      rw [hi, List.take_length] at hinv
      have hbf : b = false := hinv
      refine fw_rg rfl ?_
      iterate 2 refine fw_pu rfl ?_
      refine fw_kn 284 rfl hbf ?_
      iterate 5 refine fw_pu rfl ?_
      refine fw_dt (fw_rt ?_)
      refine ⟨fun a h => ?_⟩
      exact ow_ret1 rfl h.df (h.g 2 rfl) ⟨by unfold mxG; simp [hb_19, hb_107, hb_136, hb_204, hb_216, hb_228, hb_240, hb_252, hb_264, hb_292, hb_308, hb_309], bW322⟩
    refine fw_kn 204 rfl hb_308 ?_
    iterate 12 refine fw_pu rfl ?_
    refine fw_dt (fw_sq (fw_rg rfl (fw_pu rfl (fw_dt (fw_bk ?_)))))
    refine fw_lp (fun N K W => ∃ (i : Nat) (b : Bool), N = m.cs.length - i ∧ i ≤ m.cs.length ∧ b = (false && (m.cs.take i).all codeG) ∧ K = [(1, .pointer (some ⟨q1, 0, none⟩)), (3, .pointer (some ⟨q7, 0, none⟩)), (4, .bool b), (5, .int .i64 ((i : Nat) : Int))] ∧ Below w.heap.size w W ∧ RowAt W q1 (Mq.row m (.slice ac m.cs.length cc) (.slice aw m.ws.length cw) (.slice af m.fs.length cf)) ∧ RowAt W q7 [.int .i64 m.k, .string { data := #[] }, .bool false, .int .i64 0, .bool false, .string { data := #[] }, .string { data := #[] }, .int .i64 0, .bool false, .string { data := #[] }, .bool false, .string { data := #[] }, .bool false, .bool false, .int .i64 0, .slice ac m.cs.length cc, .bool false, .int .i64 0, .bool false, .string { data := #[] }, .int .i64 m.id, .string { data := #[] }, .slice none 0 0, .slice none 0 0]) _ _ ⟨0, false, rfl, Nat.zero_le _, (Bool.and_true _).symm, rfl, b306, r307, r305⟩ ⟨rfl, rfl, (by first | rfl | (simp only [Look, cond, Nat.beq]; first | rfl | (congr 2; first | rfl | omega | (push_cast; omega)) | (simp; try omega))), (by first | rfl | (simp only [Look, cond, Nat.beq]; first | rfl | (congr 2; first | rfl | omega | (push_cast; omega)) | (simp; try omega))), trivial⟩ ?_
    rintro N _ W328 ⟨i, b, rfl, hil, hinv, rfl, bW328, rW328_0, rW328_1⟩
    intro K330 hK330
    refine fw_sq (fw_sq (fw_rg rfl ?_))
    iterate 2 refine fw_pu rfl ?_
    refine fw_ld rW328_0 rfl rfl ?_
    iterate 2 refine fw_pu rfl ?_
    refine fw_dt ?_
    rcases Bool.eq_false_or_eq_true ((decide (((i : Nat) : Int) < ((m.cs.length : Nat) : Int)))) with hb_331 | hb_331
    · skip
      refine fw_cT rfl hb_331 (fw_sk (fw_th (fw_sq (fw_bk ?_))))
      have hiL : i < m.cs.length := by have h := of_decide_eq_true hb_331; omega
      obtain ⟨x0, hx0⟩ : ∃ p, m.cs[i]? = some p := ⟨_, List.getElem?_eq_getElem hiL⟩
      obtain ⟨bP, oP, haP, hbP, hcP⟩ := slR_at hL.c (i := i) (q := cn x0) (by rw [List.getElem?_map, hx0]; rfl)
      refine fw_rg rfl ?_
      iterate 2 refine fw_pu rfl ?_
      rcases Bool.eq_false_or_eq_true (b) with hb_332 | hb_332
      · skip
        refine fw_kn 224 rfl hb_332 (fw_pu rfl (fw_ld rW328_0 rfl rfl (fw_pu rfl ?_)))
        refine fw_ex 228 (.pointer (some ⟨bP, (oP + i * 1), none⟩)) rfl rfl rfl (fun a h => (run_indexOp (h.ev rfl) (h.ev rfl) (by rw [haP]; exact idxIs _ _ _ _ _ hiL _))) ?_
        refine fw_ex 229 (.int .i64 x0) rfl rfl rfl (fun a h => (run_loadOp (h.ev rfl) (ldI1 ((Below.cell bW328 (p := ⟨bP, oP + i * 1, none⟩) hbP).trans (hcP 0 _ rfl))))) ?_
        refine fw_ca Tryd.func54 rfl rfl rfl ((numQ x0 W328)) ?_
        rintro _ _ ⟨rfl, rfl⟩
        refine ⟨(.bool (qsG x0)), rfl, ?_⟩
        refine fw_pu rfl ?_
        rcases Bool.eq_false_or_eq_true ((qsG x0)) with hb_333 | hb_333
        · skip
          refine fw_kn 231 rfl hb_333 ?_
          iterate 9 refine fw_pu rfl ?_
          refine fw_dn (fw_bn (fw_th (fw_rg rfl (fw_pu rfl ?_))))
          refine fw_ex 222 (.int .i64 (((i + 1) : Nat) : Int)) rfl rfl rfl (fun a h => (run_binOp (h.ev rfl) (h.ev rfl) (by simp [go_sem]) (addIw _ _ _ _ (by omega) (by omega) (by omega)))) ?_
          refine fw_pu rfl (fw_dn ?_)
          exact fw_th (fw_gf (hK330 _ _ _ (by omega) ⟨(i + 1), true, rfl, hiL, (by rw [all_snoc hx0, ← Bool.and_assoc, ← hinv]; unfold codeG; simp [hb_333, hb_332]), rfl, bW328, rW328_0, rW328_1⟩) ⟨rfl, rfl, (by first | rfl | (simp only [Look, cond, Nat.beq]; first | rfl | (congr 2; first | rfl | omega | (push_cast; omega)) | (simp; try omega))), (by first | rfl | (simp only [Look, cond, Nat.beq]; first | rfl | (congr 2; first | rfl | omega | (push_cast; omega)) | (simp; try omega))), trivial⟩)
        refine fw_kn 231 rfl hb_333 (fw_pu rfl (fw_ld rW328_0 rfl rfl (fw_pu rfl ?_)))
        refine fw_ex 235 (.pointer (some ⟨bP, (oP + i * 1), none⟩)) rfl rfl rfl (fun a h => (run_indexOp (h.ev rfl) (h.ev rfl) (by rw [haP]; exact idxIs _ _ _ _ _ hiL _))) ?_
        refine fw_ex 236 (.int .i64 x0) rfl rfl rfl (fun a h => (run_loadOp (h.ev rfl) (ldI1 ((Below.cell bW328 (p := ⟨bP, oP + i * 1, none⟩) hbP).trans (hcP 0 _ rfl))))) ?_
        iterate 4 refine fw_pu rfl ?_
        refine fw_dn (fw_bn (fw_th (fw_rg rfl (fw_pu rfl ?_))))
        refine fw_ex 222 (.int .i64 (((i + 1) : Nat) : Int)) rfl rfl rfl (fun a h => (run_binOp (h.ev rfl) (h.ev rfl) (by simp [go_sem]) (addIw _ _ _ _ (by omega) (by omega) (by omega)))) ?_
        refine fw_pu rfl (fw_dn ?_)
        exact fw_th (fw_gf (hK330 _ _ _ (by omega) ⟨(i + 1), (x0 == 128), rfl, hiL, (by rw [all_snoc hx0, ← Bool.and_assoc, ← hinv]; unfold codeG; simp [hb_333, hb_332]), rfl, bW328, rW328_0, rW328_1⟩) ⟨rfl, rfl, (by first | rfl | (simp only [Look, cond, Nat.beq]; first | rfl | (congr 2; first | rfl | omega | (push_cast; omega)) | (simp; try omega))), (by first | rfl | (simp only [Look, cond, Nat.beq]; first | rfl | (congr 2; first | rfl | omega | (push_cast; omega)) | (simp; try omega))), trivial⟩)
      refine fw_kn 224 rfl hb_332 ?_
      iterate 16 refine fw_pu rfl ?_
      refine fw_dn (fw_bn (fw_th (fw_rg rfl (fw_pu rfl ?_))))
      refine fw_ex 222 (.int .i64 (((i + 1) : Nat) : Int)) rfl rfl rfl (fun a h => (run_binOp (h.ev rfl) (h.ev rfl) (by simp [go_sem]) (addIw _ _ _ _ (by omega) (by omega) (by omega)))) ?_
      refine fw_pu rfl (fw_dn ?_)
      exact fw_th (fw_gf (hK330 _ _ _ (by omega) ⟨(i + 1), false, rfl, hiL, (by rw [all_snoc hx0, ← Bool.and_assoc, ← hinv]; unfold codeG; simp [hb_332]), rfl, bW328, rW328_0, rW328_1⟩) ⟨rfl, rfl, (by first | rfl | (simp only [Look, cond, Nat.beq]; first | rfl | (congr 2; first | rfl | omega | (push_cast; omega)) | (simp; try omega))), (by first | rfl | (simp only [Look, cond, Nat.beq]; first | rfl | (congr 2; first | rfl | omega | (push_cast; omega)) | (simp; try omega))), trivial⟩)
    refine fw_cF rfl hb_331 (fw_xt (fw_te (fw_te (fw_be (fw_bn (fw_th (fw_sq ?_)))))))
    have hi : i = m.cs.length := by have h := of_decide_eq_false hb_331; omega
    rw [hi, List.take_length] at hinv
    have hbf : b = false := hinv
    refine fw_rg rfl ?_
    iterate 2 refine fw_pu rfl ?_
    refine fw_kn 284 rfl hbf ?_
    iterate 5 refine fw_pu rfl ?_
    refine fw_dt (fw_rt ?_)
    refine ⟨fun a h => ?_⟩
    exact ow_ret1 rfl h.df (h.g 2 rfl) ⟨by unfold mxG; simp [hb_19, hb_107, hb_136, hb_204, hb_216, hb_228, hb_240, hb_252, hb_264, hb_292, hb_308], bW328⟩
  refine fw_cF rfl hb_292 (fw_sq (fw_rg rfl ?_))
  iterate 2 refine fw_pu rfl ?_
  refine fw_dt ?_
  rcases Bool.eq_false_or_eq_true ((m.k == 10)) with hb_334 | hb_334
  · skip
    refine fw_cT rfl hb_334 (fw_sq ?_)
    refine fw_hr (fun X => Below w.heap.size w X ∧ RowAt X q1 (Mq.row m (.slice ac m.cs.length cc) (.slice aw m.ws.length cw) (.slice af m.fs.length cf))) (by kernel_rfl) 8 rfl ?_
    intro W335 s336
    have b337 := b17.trans (s336.mono b17.size)
    have r338 := r18.below s336
    have r339 := r16.below s336
    refine ⟨⟨b337, r338⟩, ?_⟩
    refine fw_tk 0 rfl rfl (by kernel_rfl) (fun _ _ _ _ _ h => h) ?_
    refine fw_tl 1 (fun _ h => h.2) rfl rfl rfl (by kernel_rfl) (fun _ _ _ _ _ h => h) ?_
    refine fw_tk 2 rfl rfl (by kernel_rfl) (fun _ _ _ _ _ h => h) ?_
    refine fw_tl 3 (fun _ h => h.2) rfl rfl rfl (by kernel_rfl) (fun _ _ _ _ _ h => h) ?_
    refine fw_tk 4 rfl rfl (by kernel_rfl) (fun _ _ _ _ _ h => h) ?_
    refine fw_o1 5 (by kernel_rfl) ?_
    refine fw_os rfl r339 rfl rfl ?_
    intro W340 s341 r342
    have b343 := below_chg b337 s341 (by omega) b337.size
    have r344 := r338.chg s341 (by omega)
    refine ⟨⟨b343, r344⟩, ?_⟩
    refine fw_tk 6 rfl rfl (by kernel_rfl) (fun _ _ _ _ _ h => h) ?_
    refine fw_o1 7 (by kernel_rfl) ?_
    refine fw_os rfl r342 rfl rfl ?_
    intro W345 s346 r347
    have b348 := below_chg b343 s346 (by omega) b343.size
    have r349 := r344.chg s346 (by omega)
    refine ⟨⟨b348, r349⟩, ?_⟩
    refine fw_ht (by kernel_rfl) ?_
    refine fw_sq (fw_rg rfl (fw_pu rfl (fw_ld r349 rfl rfl (fw_ca Tryd.func57 rfl rfl rfl ((idR_G m.id W345)) ?_))))
    rintro _ _ ⟨rfl, rfl⟩
    refine ⟨(.bool (idG m.id)), rfl, ?_⟩
    refine fw_pu rfl ?_
    rcases Bool.eq_false_or_eq_true ((idG m.id)) with hb_350 | hb_350
    · skip
      refine fw_kn 251 rfl hb_350 (fw_pu rfl (fw_ld r349 rfl rfl ?_))
      iterate 4 refine fw_pu rfl ?_
      rcases Bool.eq_false_or_eq_true ((decide (1 ≤ ((m.fs.length : Nat) : Int)))) with hb_351 | hb_351
      · skip
        refine fw_kn 257 rfl hb_351 (fw_pu rfl (fw_ld r349 rfl rfl ?_))
        iterate 4 refine fw_pu rfl ?_
        refine fw_dt (fw_sq (fw_rg rfl (fw_pu rfl (fw_dt (fw_bk ?_)))))
        refine fw_lp (fun N K W => ∃ (i : Nat) (b : Bool), N = m.fs.length - i ∧ i ≤ m.fs.length ∧ b = ((decide (((m.fs.length : Nat) : Int) ≤ 8)) && (m.fs.take i).all filtG) ∧ K = [(1, .pointer (some ⟨q1, 0, none⟩)), (3, .pointer (some ⟨q7, 0, none⟩)), (4, .bool b), (6, .int .i64 ((i : Nat) : Int))] ∧ Below w.heap.size w W ∧ RowAt W q1 (Mq.row m (.slice ac m.cs.length cc) (.slice aw m.ws.length cw) (.slice af m.fs.length cf)) ∧ RowAt W q7 [.int .i64 m.k, .string { data := #[] }, .bool false, .int .i64 0, .bool false, .string { data := #[] }, .string { data := #[] }, .int .i64 0, .bool false, .string { data := #[] }, .bool false, .string { data := #[] }, .bool false, .bool false, .int .i64 0, .slice none 0 0, .bool false, .int .i64 0, .bool false, .string { data := #[] }, .int .i64 m.id, .string { data := #[] }, .slice none 0 0, .slice af m.fs.length cf]) _ _ ⟨0, (decide (((m.fs.length : Nat) : Int) ≤ 8)), rfl, Nat.zero_le _, (Bool.and_true _).symm, rfl, b348, r349, r347⟩ ⟨rfl, rfl, (by first | rfl | (simp only [Look, cond, Nat.beq]; first | rfl | (congr 2; first | rfl | omega | (push_cast; omega)) | (simp; try omega))), (by first | rfl | (simp only [Look, cond, Nat.beq]; first | rfl | (congr 2; first | rfl | omega | (push_cast; omega)) | (simp; try omega))), trivial⟩ ?_
        rintro N _ W352 ⟨i, b, rfl, hil, hinv, rfl, bW352, rW352_0, rW352_1⟩
        intro K354 hK354
        refine fw_sq (fw_sq (fw_rg rfl ?_))
        iterate 2 refine fw_pu rfl ?_
        refine fw_ld rW352_0 rfl rfl ?_
        iterate 2 refine fw_pu rfl ?_
        refine fw_dt ?_
        rcases Bool.eq_false_or_eq_true ((decide (((i : Nat) : Int) < ((m.fs.length : Nat) : Int)))) with hb_355 | hb_355
        · skip
          refine fw_cT rfl hb_355 (fw_sk (fw_th (fw_sq (fw_bk ?_))))
          have hiL : i < m.fs.length := by have h := of_decide_eq_true hb_355; omega
          obtain ⟨x0, hx0⟩ : ∃ p, m.fs[i]? = some p := ⟨_, List.getElem?_eq_getElem hiL⟩
          obtain ⟨bP, oP, haP, hbP, hcP⟩ := slR_at hL.f (i := i) (q := cs1 x0) (by rw [List.getElem?_map, hx0]; rfl)
          have hsz : x0.size ≤ 140737488351232 := hF.fsf x0 (List.mem_of_getElem? hx0)
          refine fw_rg rfl ?_
          iterate 2 refine fw_pu rfl ?_
          rcases Bool.eq_false_or_eq_true (b) with hb_356 | hb_356
          · skip
            refine fw_kn 271 rfl hb_356 (fw_pu rfl (fw_ld rW352_0 rfl rfl (fw_pu rfl ?_)))
            refine fw_ex 275 (.pointer (some ⟨bP, (oP + i * 1), none⟩)) rfl rfl rfl (fun a h => (run_indexOp (h.ev rfl) (h.ev rfl) (by rw [haP]; exact idxSs _ _ _ _ _ hiL _))) ?_
            refine fw_ex 276 (.string x0) rfl rfl rfl (fun a h => (run_loadOp (h.ev rfl) (ldS1 ((Below.cell bW352 (p := ⟨bP, oP + i * 1, none⟩) hbP).trans (hcP 0 _ rfl))))) ?_
            refine fw_ca Tryd.func53 rfl rfl rfl ((textX x0 1 64 W352 (by omega) (hT.below bW352))) ?_
            rintro _ V358 ⟨rfl, hb357⟩
            refine ⟨(.bool (txG x0 1 64)), rfl, ?_⟩
            have b359 := bW352.trans (hb357.mono bW352.size)
            have r360 := rW352_0.below hb357
            have r361 := rW352_1.below hb357
            iterate 2 refine fw_pu rfl ?_
            refine fw_dn (fw_bn (fw_th (fw_rg rfl (fw_pu rfl ?_))))
            refine fw_ex 269 (.int .i64 (((i + 1) : Nat) : Int)) rfl rfl rfl (fun a h => (run_binOp (h.ev rfl) (h.ev rfl) (by simp [go_sem]) (addIw _ _ _ _ (by omega) (by omega) (by omega)))) ?_
            refine fw_pu rfl (fw_dn ?_)
            exact fw_th (fw_gf (hK354 _ _ _ (by omega) ⟨(i + 1), (txG x0 1 64), rfl, hiL, (by rw [all_snoc hx0, ← Bool.and_assoc, ← hinv]; unfold filtG; simp [hb_356]), rfl, b359, r360, r361⟩) ⟨rfl, rfl, (by first | rfl | (simp only [Look, cond, Nat.beq]; first | rfl | (congr 2; first | rfl | omega | (push_cast; omega)) | (simp; try omega))), (by first | rfl | (simp only [Look, cond, Nat.beq]; first | rfl | (congr 2; first | rfl | omega | (push_cast; omega)) | (simp; try omega))), trivial⟩)
          refine fw_kn 271 rfl hb_356 ?_
          iterate 8 refine fw_pu rfl ?_
          refine fw_dn (fw_bn (fw_th (fw_rg rfl (fw_pu rfl ?_))))
          refine fw_ex 269 (.int .i64 (((i + 1) : Nat) : Int)) rfl rfl rfl (fun a h => (run_binOp (h.ev rfl) (h.ev rfl) (by simp [go_sem]) (addIw _ _ _ _ (by omega) (by omega) (by omega)))) ?_
          refine fw_pu rfl (fw_dn ?_)
          exact fw_th (fw_gf (hK354 _ _ _ (by omega) ⟨(i + 1), false, rfl, hiL, (by rw [all_snoc hx0, ← Bool.and_assoc, ← hinv]; unfold filtG; simp [hb_356]), rfl, bW352, rW352_0, rW352_1⟩) ⟨rfl, rfl, (by first | rfl | (simp only [Look, cond, Nat.beq]; first | rfl | (congr 2; first | rfl | omega | (push_cast; omega)) | (simp; try omega))), (by first | rfl | (simp only [Look, cond, Nat.beq]; first | rfl | (congr 2; first | rfl | omega | (push_cast; omega)) | (simp; try omega))), trivial⟩)
        refine fw_cF rfl hb_355 (fw_xt (fw_te (fw_te (fw_be (fw_bn (fw_th (fw_sq ?_)))))))
        have hi : i = m.fs.length := by have h := of_decide_eq_false hb_355; omega
        rw [hi, List.take_length] at hinv
        have hsp : ((decide (((m.fs.length : Nat) : Int) ≤ 8)) && fsG m.fs) = b := hinv.symm
        refine fw_rg rfl ?_
        iterate 2 refine fw_pu rfl ?_
        rcases Bool.eq_false_or_eq_true (b) with hb_362 | hb_362
        · skip
          refine fw_kn 284 rfl hb_362 (fw_ld rW352_1 rfl rfl (fw_ld rW352_0 rfl rfl ?_))
          refine fw_ca Tryd.func19 rfl rfl rfl ((by have h := eqMq_any ({ k := m.k, cl := E0, clean := false, keep := 0, wI := false, wT := E0, wP := E0, wQ := 0, wR := false, us := E0, hu := false, pa := E0, hp := false, pres := false, code := 0, cs := [], dup := false, q := 0, re := false, top := E0, id := m.id, pay := E0, ws := [], fs := m.fs } : Mq) m _ _ _ _ _ _ W352 ⟨nilL _ _, nilL _ _, (hL.f.below bW352)⟩ (hL.below bW352) (Nat.zero_le _) (Nat.zero_le _) hN.2.2 hN.1 hN.2.1 hN.2.2; rw [show ({ k := m.k, cl := E0, clean := false, keep := 0, wI := false, wT := E0, wP := E0, wQ := 0, wR := false, us := E0, hu := false, pa := E0, hp := false, pres := false, code := 0, cs := [], dup := false, q := 0, re := false, top := E0, id := m.id, pay := E0, ws := [], fs := m.fs } : Mq).eqB m = baG m from (by unfold baG stG; simp only [hb_19, hb_107, hb_136, hb_204, hb_216, hb_228, hb_240, hb_252, hb_264, hb_292, hb_334, Bool.or_self, if_true, if_false, Bool.false_eq_true, Mq.eqB, Mq.noB, isE, E0_list, nil_dec, nl_beq, z_beq, f_beq, beq_self_eq_true, decide_true, len0, Bool.true_and, Bool.and_true, Bool.and_assoc])] at h; exact h)) ?_
          rintro _ V364 ⟨rfl, hb363⟩
          refine ⟨(.bool (baG m)), rfl, ?_⟩
          have b365 := bW352.trans (hb363.mono bW352.size)
          have r366 := rW352_0.below hb363
          have r367 := rW352_1.below hb363
          iterate 2 refine fw_pu rfl ?_
          refine fw_dt (fw_rt ?_)
          refine ⟨fun a h => ?_⟩
          exact ow_ret1 rfl h.df (h.g 2 rfl) ⟨by unfold mxG; simp [hb_19, hb_107, hb_136, hb_204, hb_216, hb_228, hb_240, hb_252, hb_264, hb_292, hb_334, hb_350, hb_351, hb_362, hsp], b365⟩
        refine fw_kn 284 rfl hb_362 ?_
        iterate 5 refine fw_pu rfl ?_
        refine fw_dt (fw_rt ?_)
        refine ⟨fun a h => ?_⟩
        exact ow_ret1 rfl h.df (h.g 2 rfl) ⟨by unfold mxG; simp [hb_19, hb_107, hb_136, hb_204, hb_216, hb_228, hb_240, hb_252, hb_264, hb_292, hb_334, hb_350, hb_351, hb_362, hsp], bW352⟩
      refine fw_kn 257 rfl hb_351 ?_
      iterate 6 refine fw_pu rfl ?_
      refine fw_dt (fw_sq (fw_rg rfl (fw_pu rfl (fw_dt (fw_bk ?_)))))
      refine fw_lp (fun N K W => ∃ (i : Nat) (b : Bool), N = m.fs.length - i ∧ i ≤ m.fs.length ∧ b = (false && (m.fs.take i).all filtG) ∧ K = [(1, .pointer (some ⟨q1, 0, none⟩)), (3, .pointer (some ⟨q7, 0, none⟩)), (4, .bool b), (6, .int .i64 ((i : Nat) : Int))] ∧ Below w.heap.size w W ∧ RowAt W q1 (Mq.row m (.slice ac m.cs.length cc) (.slice aw m.ws.length cw) (.slice af m.fs.length cf)) ∧ RowAt W q7 [.int .i64 m.k, .string { data := #[] }, .bool false, .int .i64 0, .bool false, .string { data := #[] }, .string { data := #[] }, .int .i64 0, .bool false, .string { data := #[] }, .bool false, .string { data := #[] }, .bool false, .bool false, .int .i64 0, .slice none 0 0, .bool false, .int .i64 0, .bool false, .string { data := #[] }, .int .i64 m.id, .string { data := #[] }, .slice none 0 0, .slice af m.fs.length cf]) _ _ ⟨0, false, rfl, Nat.zero_le _, (Bool.and_true _).symm, rfl, b348, r349, r347⟩ ⟨rfl, rfl, (by first | rfl | (simp only [Look, cond, Nat.beq]; first | rfl | (congr 2; first | rfl | omega | (push_cast; omega)) | (simp; try omega))), (by first | rfl | (simp only [Look, cond, Nat.beq]; first | rfl | (congr 2; first | rfl | omega | (push_cast; omega)) | (simp; try omega))), trivial⟩ ?_
      rintro N _ W368 ⟨i, b, rfl, hil, hinv, rfl, bW368, rW368_0, rW368_1⟩
      intro K370 hK370
      refine fw_sq (fw_sq (fw_rg rfl ?_))
      iterate 2 refine fw_pu rfl ?_
      refine fw_ld rW368_0 rfl rfl ?_
      iterate 2 refine fw_pu rfl ?_
      refine fw_dt ?_
      rcases Bool.eq_false_or_eq_true ((decide (((i : Nat) : Int) < ((m.fs.length : Nat) : Int)))) with hb_371 | hb_371
      · skip
        refine fw_cT rfl hb_371 (fw_sk (fw_th (fw_sq (fw_bk ?_))))
        have hiL : i < m.fs.length := by have h := of_decide_eq_true hb_371; omega
        obtain ⟨x0, hx0⟩ : ∃ p, m.fs[i]? = some p := ⟨_, List.getElem?_eq_getElem hiL⟩
        obtain ⟨bP, oP, haP, hbP, hcP⟩ := slR_at hL.f (i := i) (q := cs1 x0) (by rw [List.getElem?_map, hx0]; rfl)
        have hsz : x0.size ≤ 140737488351232 := hF.fsf x0 (List.mem_of_getElem? hx0)
        refine fw_rg rfl ?_
        iterate 2 refine fw_pu rfl ?_
        rcases Bool.eq_false_or_eq_true (b) with hb_372 | hb_372
        · skip
          refine fw_kn 271 rfl hb_372 (fw_pu rfl (fw_ld rW368_0 rfl rfl (fw_pu rfl ?_)))
          refine fw_ex 275 (.pointer (some ⟨bP, (oP + i * 1), none⟩)) rfl rfl rfl (fun a h => (run_indexOp (h.ev rfl) (h.ev rfl) (by rw [haP]; exact idxSs _ _ _ _ _ hiL _))) ?_
          refine fw_ex 276 (.string x0) rfl rfl rfl (fun a h => (run_loadOp (h.ev rfl) (ldS1 ((Below.cell bW368 (p := ⟨bP, oP + i * 1, none⟩) hbP).trans (hcP 0 _ rfl))))) ?_
          refine fw_ca Tryd.func53 rfl rfl rfl ((textX x0 1 64 W368 (by omega) (hT.below bW368))) ?_
          rintro _ V374 ⟨rfl, hb373⟩
          refine ⟨(.bool (txG x0 1 64)), rfl, ?_⟩
          have b375 := bW368.trans (hb373.mono bW368.size)
          have r376 := rW368_0.below hb373
          have r377 := rW368_1.below hb373
          iterate 2 refine fw_pu rfl ?_
          refine fw_dn (fw_bn (fw_th (fw_rg rfl (fw_pu rfl ?_))))
          refine fw_ex 269 (.int .i64 (((i + 1) : Nat) : Int)) rfl rfl rfl (fun a h => (run_binOp (h.ev rfl) (h.ev rfl) (by simp [go_sem]) (addIw _ _ _ _ (by omega) (by omega) (by omega)))) ?_
          refine fw_pu rfl (fw_dn ?_)
          exact fw_th (fw_gf (hK370 _ _ _ (by omega) ⟨(i + 1), (txG x0 1 64), rfl, hiL, (by rw [all_snoc hx0, ← Bool.and_assoc, ← hinv]; unfold filtG; simp [hb_372]), rfl, b375, r376, r377⟩) ⟨rfl, rfl, (by first | rfl | (simp only [Look, cond, Nat.beq]; first | rfl | (congr 2; first | rfl | omega | (push_cast; omega)) | (simp; try omega))), (by first | rfl | (simp only [Look, cond, Nat.beq]; first | rfl | (congr 2; first | rfl | omega | (push_cast; omega)) | (simp; try omega))), trivial⟩)
        refine fw_kn 271 rfl hb_372 ?_
        iterate 8 refine fw_pu rfl ?_
        refine fw_dn (fw_bn (fw_th (fw_rg rfl (fw_pu rfl ?_))))
        refine fw_ex 269 (.int .i64 (((i + 1) : Nat) : Int)) rfl rfl rfl (fun a h => (run_binOp (h.ev rfl) (h.ev rfl) (by simp [go_sem]) (addIw _ _ _ _ (by omega) (by omega) (by omega)))) ?_
        refine fw_pu rfl (fw_dn ?_)
        exact fw_th (fw_gf (hK370 _ _ _ (by omega) ⟨(i + 1), false, rfl, hiL, (by rw [all_snoc hx0, ← Bool.and_assoc, ← hinv]; unfold filtG; simp [hb_372]), rfl, bW368, rW368_0, rW368_1⟩) ⟨rfl, rfl, (by first | rfl | (simp only [Look, cond, Nat.beq]; first | rfl | (congr 2; first | rfl | omega | (push_cast; omega)) | (simp; try omega))), (by first | rfl | (simp only [Look, cond, Nat.beq]; first | rfl | (congr 2; first | rfl | omega | (push_cast; omega)) | (simp; try omega))), trivial⟩)
      refine fw_cF rfl hb_371 (fw_xt (fw_te (fw_te (fw_be (fw_bn (fw_th (fw_sq ?_)))))))
      have hi : i = m.fs.length := by have h := of_decide_eq_false hb_371; omega
      rw [hi, List.take_length] at hinv
      have hbf : b = false := hinv
      refine fw_rg rfl ?_
      iterate 2 refine fw_pu rfl ?_
      refine fw_kn 284 rfl hbf ?_
      iterate 5 refine fw_pu rfl ?_
      refine fw_dt (fw_rt ?_)
      refine ⟨fun a h => ?_⟩
      exact ow_ret1 rfl h.df (h.g 2 rfl) ⟨by unfold mxG; simp [hb_19, hb_107, hb_136, hb_204, hb_216, hb_228, hb_240, hb_252, hb_264, hb_292, hb_334, hb_350, hb_351], bW368⟩
    refine fw_kn 251 rfl hb_350 ?_
    iterate 12 refine fw_pu rfl ?_
    refine fw_dt (fw_sq (fw_rg rfl (fw_pu rfl (fw_dt (fw_bk ?_)))))
    refine fw_lp (fun N K W => ∃ (i : Nat) (b : Bool), N = m.fs.length - i ∧ i ≤ m.fs.length ∧ b = (false && (m.fs.take i).all filtG) ∧ K = [(1, .pointer (some ⟨q1, 0, none⟩)), (3, .pointer (some ⟨q7, 0, none⟩)), (4, .bool b), (6, .int .i64 ((i : Nat) : Int))] ∧ Below w.heap.size w W ∧ RowAt W q1 (Mq.row m (.slice ac m.cs.length cc) (.slice aw m.ws.length cw) (.slice af m.fs.length cf)) ∧ RowAt W q7 [.int .i64 m.k, .string { data := #[] }, .bool false, .int .i64 0, .bool false, .string { data := #[] }, .string { data := #[] }, .int .i64 0, .bool false, .string { data := #[] }, .bool false, .string { data := #[] }, .bool false, .bool false, .int .i64 0, .slice none 0 0, .bool false, .int .i64 0, .bool false, .string { data := #[] }, .int .i64 m.id, .string { data := #[] }, .slice none 0 0, .slice af m.fs.length cf]) _ _ ⟨0, false, rfl, Nat.zero_le _, (Bool.and_true _).symm, rfl, b348, r349, r347⟩ ⟨rfl, rfl, (by first | rfl | (simp only [Look, cond, Nat.beq]; first | rfl | (congr 2; first | rfl | omega | (push_cast; omega)) | (simp; try omega))), (by first | rfl | (simp only [Look, cond, Nat.beq]; first | rfl | (congr 2; first | rfl | omega | (push_cast; omega)) | (simp; try omega))), trivial⟩ ?_
    rintro N _ W378 ⟨i, b, rfl, hil, hinv, rfl, bW378, rW378_0, rW378_1⟩
    intro K380 hK380
    refine fw_sq (fw_sq (fw_rg rfl ?_))
    iterate 2 refine fw_pu rfl ?_
    refine fw_ld rW378_0 rfl rfl ?_
    iterate 2 refine fw_pu rfl ?_
    refine fw_dt ?_
    rcases Bool.eq_false_or_eq_true ((decide (((i : Nat) : Int) < ((m.fs.length : Nat) : Int)))) with hb_381 | hb_381
    · skip
      refine fw_cT rfl hb_381 (fw_sk (fw_th (fw_sq (fw_bk ?_))))
      have hiL : i < m.fs.length := by have h := of_decide_eq_true hb_381; omega
      obtain ⟨x0, hx0⟩ : ∃ p, m.fs[i]? = some p := ⟨_, List.getElem?_eq_getElem hiL⟩
      obtain ⟨bP, oP, haP, hbP, hcP⟩ := slR_at hL.f (i := i) (q := cs1 x0) (by rw [List.getElem?_map, hx0]; rfl)
      have hsz : x0.size ≤ 140737488351232 := hF.fsf x0 (List.mem_of_getElem? hx0)
      refine fw_rg rfl ?_
      iterate 2 refine fw_pu rfl ?_
      rcases Bool.eq_false_or_eq_true (b) with hb_382 | hb_382
      · skip
        refine fw_kn 271 rfl hb_382 (fw_pu rfl (fw_ld rW378_0 rfl rfl (fw_pu rfl ?_)))
        refine fw_ex 275 (.pointer (some ⟨bP, (oP + i * 1), none⟩)) rfl rfl rfl (fun a h => (run_indexOp (h.ev rfl) (h.ev rfl) (by rw [haP]; exact idxSs _ _ _ _ _ hiL _))) ?_
        refine fw_ex 276 (.string x0) rfl rfl rfl (fun a h => (run_loadOp (h.ev rfl) (ldS1 ((Below.cell bW378 (p := ⟨bP, oP + i * 1, none⟩) hbP).trans (hcP 0 _ rfl))))) ?_
        refine fw_ca Tryd.func53 rfl rfl rfl ((textX x0 1 64 W378 (by omega) (hT.below bW378))) ?_
        rintro _ V384 ⟨rfl, hb383⟩
        refine ⟨(.bool (txG x0 1 64)), rfl, ?_⟩
        have b385 := bW378.trans (hb383.mono bW378.size)
        have r386 := rW378_0.below hb383
        have r387 := rW378_1.below hb383
        iterate 2 refine fw_pu rfl ?_
        refine fw_dn (fw_bn (fw_th (fw_rg rfl (fw_pu rfl ?_))))
        refine fw_ex 269 (.int .i64 (((i + 1) : Nat) : Int)) rfl rfl rfl (fun a h => (run_binOp (h.ev rfl) (h.ev rfl) (by simp [go_sem]) (addIw _ _ _ _ (by omega) (by omega) (by omega)))) ?_
        refine fw_pu rfl (fw_dn ?_)
        exact fw_th (fw_gf (hK380 _ _ _ (by omega) ⟨(i + 1), (txG x0 1 64), rfl, hiL, (by rw [all_snoc hx0, ← Bool.and_assoc, ← hinv]; unfold filtG; simp [hb_382]), rfl, b385, r386, r387⟩) ⟨rfl, rfl, (by first | rfl | (simp only [Look, cond, Nat.beq]; first | rfl | (congr 2; first | rfl | omega | (push_cast; omega)) | (simp; try omega))), (by first | rfl | (simp only [Look, cond, Nat.beq]; first | rfl | (congr 2; first | rfl | omega | (push_cast; omega)) | (simp; try omega))), trivial⟩)
      refine fw_kn 271 rfl hb_382 ?_
      iterate 8 refine fw_pu rfl ?_
      refine fw_dn (fw_bn (fw_th (fw_rg rfl (fw_pu rfl ?_))))
      refine fw_ex 269 (.int .i64 (((i + 1) : Nat) : Int)) rfl rfl rfl (fun a h => (run_binOp (h.ev rfl) (h.ev rfl) (by simp [go_sem]) (addIw _ _ _ _ (by omega) (by omega) (by omega)))) ?_
      refine fw_pu rfl (fw_dn ?_)
      exact fw_th (fw_gf (hK380 _ _ _ (by omega) ⟨(i + 1), false, rfl, hiL, (by rw [all_snoc hx0, ← Bool.and_assoc, ← hinv]; unfold filtG; simp [hb_382]), rfl, bW378, rW378_0, rW378_1⟩) ⟨rfl, rfl, (by first | rfl | (simp only [Look, cond, Nat.beq]; first | rfl | (congr 2; first | rfl | omega | (push_cast; omega)) | (simp; try omega))), (by first | rfl | (simp only [Look, cond, Nat.beq]; first | rfl | (congr 2; first | rfl | omega | (push_cast; omega)) | (simp; try omega))), trivial⟩)
    refine fw_cF rfl hb_381 (fw_xt (fw_te (fw_te (fw_be (fw_bn (fw_th (fw_sq ?_)))))))
    have hi : i = m.fs.length := by have h := of_decide_eq_false hb_381; omega
    rw [hi, List.take_length] at hinv
    have hbf : b = false := hinv
    refine fw_rg rfl ?_
    iterate 2 refine fw_pu rfl ?_
    refine fw_kn 284 rfl hbf ?_
    iterate 5 refine fw_pu rfl ?_
    refine fw_dt (fw_rt ?_)
    refine ⟨fun a h => ?_⟩
    exact ow_ret1 rfl h.df (h.g 2 rfl) ⟨by unfold mxG; simp [hb_19, hb_107, hb_136, hb_204, hb_216, hb_228, hb_240, hb_252, hb_264, hb_292, hb_334, hb_350], bW378⟩
  refine fw_cF rfl hb_334 (fw_sq (fw_sq (fw_rg rfl ?_)))
  iterate 2 refine fw_pu rfl ?_
  refine fw_dt ?_
  rcases Bool.eq_false_or_eq_true ((m.k == 12)) with hb_388 | hb_388
  · skip
    refine fw_cT rfl hb_388 (fw_sk (fw_th (fw_cT rfl hb_388 (fw_sk (fw_bn (fw_th (fw_sq (fw_rg rfl ?_))))))))
    iterate 2 refine fw_pu rfl ?_
    refine fw_ld r16 rfl rfl (fw_ld r18 rfl rfl ?_)
    refine fw_ca Tryd.func19 rfl rfl rfl ((by have h := eqMq_any ({ k := m.k, cl := E0, clean := false, keep := 0, wI := false, wT := E0, wP := E0, wQ := 0, wR := false, us := E0, hu := false, pa := E0, hp := false, pres := false, code := 0, cs := [], dup := false, q := 0, re := false, top := E0, id := 0, pay := E0, ws := [], fs := [] } : Mq) m _ _ _ _ _ _ W14 ⟨nilL _ _, nilL _ _, nilL _ _⟩ (hL.below b17) (Nat.zero_le _) (Nat.zero_le _) (Nat.zero_le _) hN.1 hN.2.1 hN.2.2; rw [show ({ k := m.k, cl := E0, clean := false, keep := 0, wI := false, wT := E0, wP := E0, wQ := 0, wR := false, us := E0, hu := false, pa := E0, hp := false, pres := false, code := 0, cs := [], dup := false, q := 0, re := false, top := E0, id := 0, pay := E0, ws := [], fs := [] } : Mq).eqB m = baG m from (by unfold baG stG; simp only [hb_19, hb_107, hb_136, hb_204, hb_216, hb_228, hb_240, hb_252, hb_264, hb_292, hb_334, Bool.or_self, if_false, Bool.false_eq_true, Mq.eqB, Mq.noB, isE, E0_list, nil_dec, nl_beq, z_beq, f_beq, beq_self_eq_true, Bool.true_and, Bool.and_assoc])] at h; exact h)) ?_
    rintro _ V390 ⟨rfl, hb389⟩
    refine ⟨(.bool (baG m)), rfl, ?_⟩
    have b391 := b17.trans (hb389.mono b17.size)
    have r392 := r18.below hb389
    have r393 := r16.below hb389
    iterate 2 refine fw_pu rfl ?_
    refine fw_dt (fw_rt ?_)
    refine ⟨fun a h => ?_⟩
    exact ow_ret1 rfl h.df (h.g 2 rfl) ⟨by unfold mxG; simp [hb_19, hb_107, hb_136, hb_204, hb_216, hb_228, hb_240, hb_252, hb_264, hb_292, hb_334, hb_388], b391⟩
  refine fw_cF rfl hb_388 (fw_sq (fw_rg rfl ?_))
  iterate 2 refine fw_pu rfl ?_
  refine fw_dt ?_
  rcases Bool.eq_false_or_eq_true ((m.k == 13)) with hb_394 | hb_394
  · skip
    refine fw_cT rfl hb_394 (fw_sk (fw_th (fw_cT rfl hb_394 (fw_sk (fw_bn (fw_th (fw_sq (fw_rg rfl ?_))))))))
    iterate 2 refine fw_pu rfl ?_
    refine fw_ld r16 rfl rfl (fw_ld r18 rfl rfl ?_)
    refine fw_ca Tryd.func19 rfl rfl rfl ((by have h := eqMq_any ({ k := m.k, cl := E0, clean := false, keep := 0, wI := false, wT := E0, wP := E0, wQ := 0, wR := false, us := E0, hu := false, pa := E0, hp := false, pres := false, code := 0, cs := [], dup := false, q := 0, re := false, top := E0, id := 0, pay := E0, ws := [], fs := [] } : Mq) m _ _ _ _ _ _ W14 ⟨nilL _ _, nilL _ _, nilL _ _⟩ (hL.below b17) (Nat.zero_le _) (Nat.zero_le _) (Nat.zero_le _) hN.1 hN.2.1 hN.2.2; rw [show ({ k := m.k, cl := E0, clean := false, keep := 0, wI := false, wT := E0, wP := E0, wQ := 0, wR := false, us := E0, hu := false, pa := E0, hp := false, pres := false, code := 0, cs := [], dup := false, q := 0, re := false, top := E0, id := 0, pay := E0, ws := [], fs := [] } : Mq).eqB m = baG m from (by unfold baG stG; simp only [hb_19, hb_107, hb_136, hb_204, hb_216, hb_228, hb_240, hb_252, hb_264, hb_292, hb_334, Bool.or_self, if_false, Bool.false_eq_true, Mq.eqB, Mq.noB, isE, E0_list, nil_dec, nl_beq, z_beq, f_beq, beq_self_eq_true, Bool.true_and, Bool.and_assoc])] at h; exact h)) ?_
    rintro _ V396 ⟨rfl, hb395⟩
    refine ⟨(.bool (baG m)), rfl, ?_⟩
    have b397 := b17.trans (hb395.mono b17.size)
    have r398 := r18.below hb395
    have r399 := r16.below hb395
    iterate 2 refine fw_pu rfl ?_
    refine fw_dt (fw_rt ?_)
    refine ⟨fun a h => ?_⟩
    exact ow_ret1 rfl h.df (h.g 2 rfl) ⟨by unfold mxG; simp [hb_19, hb_107, hb_136, hb_204, hb_216, hb_228, hb_240, hb_252, hb_264, hb_292, hb_334, hb_388, hb_394], b397⟩
  refine fw_cF rfl hb_394 (fw_rg rfl ?_)
  iterate 2 refine fw_pu rfl ?_
  refine fw_dt ?_
  rcases Bool.eq_false_or_eq_true ((m.k == 14)) with hb_400 | hb_400
  · skip
    refine fw_cT rfl hb_400 (fw_sk (fw_bn (fw_th (fw_sq (fw_rg rfl ?_)))))
    iterate 2 refine fw_pu rfl ?_
    refine fw_ld r16 rfl rfl (fw_ld r18 rfl rfl ?_)
    refine fw_ca Tryd.func19 rfl rfl rfl ((by have h := eqMq_any ({ k := m.k, cl := E0, clean := false, keep := 0, wI := false, wT := E0, wP := E0, wQ := 0, wR := false, us := E0, hu := false, pa := E0, hp := false, pres := false, code := 0, cs := [], dup := false, q := 0, re := false, top := E0, id := 0, pay := E0, ws := [], fs := [] } : Mq) m _ _ _ _ _ _ W14 ⟨nilL _ _, nilL _ _, nilL _ _⟩ (hL.below b17) (Nat.zero_le _) (Nat.zero_le _) (Nat.zero_le _) hN.1 hN.2.1 hN.2.2; rw [show ({ k := m.k, cl := E0, clean := false, keep := 0, wI := false, wT := E0, wP := E0, wQ := 0, wR := false, us := E0, hu := false, pa := E0, hp := false, pres := false, code := 0, cs := [], dup := false, q := 0, re := false, top := E0, id := 0, pay := E0, ws := [], fs := [] } : Mq).eqB m = baG m from (by unfold baG stG; simp only [hb_19, hb_107, hb_136, hb_204, hb_216, hb_228, hb_240, hb_252, hb_264, hb_292, hb_334, Bool.or_self, if_false, Bool.false_eq_true, Mq.eqB, Mq.noB, isE, E0_list, nil_dec, nl_beq, z_beq, f_beq, beq_self_eq_true, Bool.true_and, Bool.and_assoc])] at h; exact h)) ?_
    rintro _ V402 ⟨rfl, hb401⟩
    refine ⟨(.bool (baG m)), rfl, ?_⟩
    have b403 := b17.trans (hb401.mono b17.size)
    have r404 := r18.below hb401
    have r405 := r16.below hb401
    iterate 2 refine fw_pu rfl ?_
    refine fw_dt (fw_rt ?_)
    refine ⟨fun a h => ?_⟩
    exact ow_ret1 rfl h.df (h.g 2 rfl) ⟨by unfold mxG; simp [hb_19, hb_107, hb_136, hb_204, hb_216, hb_228, hb_240, hb_252, hb_264, hb_292, hb_334, hb_388, hb_394, hb_400], b403⟩
  refine fw_cF rfl hb_400 (fw_sq (fw_rg rfl (fw_pu rfl (fw_dt (fw_rt (fw_br (fw_tr ?_)))))))
  refine ⟨fun a h => ?_⟩
  exact ow_ret1 rfl h.df (h.g 2 rfl) ⟨by unfold mxG; simp [hb_19, hb_107, hb_136, hb_204, hb_216, hb_228, hb_240, hb_252, hb_264, hb_292, hb_334, hb_388, hb_394, hb_400], b17⟩
theorem bigO (v : Int) (w : World) : Calls Tryd.prog 88 #[.int .i64 v, .int .i64 2] w fun e w' => ∃ l a c, e = .returned (.slice a l.length c) ∧ l = bigv v 2 ∧ Below w.heap.size w w' ∧ OB w' w.heap.size a c l := by
  refine (big_any 2 v w (by decide)).mono ?_
  rintro e w' ⟨v1, rfl, hg, ho⟩
  obtain ⟨a, c, rfl⟩ := own_slice ho
  exact ⟨bigv v 2, a, c, by rw [bigv_length], rfl, grew_nil hg, by show w'.ownsRow _ _ _ (.slice a (bigv v 2).length c) (bigv v 2).length _; rw [show (bigv v 2).length = 2 from bigv_length _ _]; exact ho⟩
def bt (b : Bool) (n : UInt8) : UInt8 := if b then n else 0
theorem btG (b : Bool) (n : UInt8) (w : World) : Calls Tryd.prog 61 #[.bool b, B8 n] w fun e w' => e = .returned (B8 (bt b n)) ∧ w = w' := bit_any b n w
theorem u8or (x y : UInt8) (w : World) : (binOp .or 5 (B8 x) (B8 y)).run Tryd.prog w = .ok (B8 (x ||| y)) w := by
  have h : ∀ x y : UInt8, bits .or .u8 (x.toNat : Int) (y.toNat : Int) = ((x ||| y).toNat : Int) := by
    intro x y
    have h1 : (BitVec.ofInt 8 (x.toNat : Int)).toNat = x.toNat := by rw [BitVec.toNat_ofInt]; have := x.toNat_lt; omega
    have h2 : (BitVec.ofInt 8 (y.toNat : Int)).toNat = y.toNat := by rw [BitVec.toNat_ofInt]; have := y.toNat_lt; omega
    show IntKind.wrap .u8 (((BitVec.ofInt 8 (x.toNat : Int) ||| BitVec.ofInt 8 (y.toNat : Int)).toNat : Nat) : Int) = _
    rw [BitVec.toNat_or, h1, h2, UInt8.toNat_or, IntKind.wrap_u8]
    have h3 := (x ||| y).toNat_lt
    rw [UInt8.toNat_or] at h3
    omega
  simp [go_sem, h]
theorem u8shl (x : UInt8) (n : Nat) (hn : n = 1 ∨ n = 3 ∨ n = 4) (w : World) : (binOp .shl 5 (B8 x) (.int .u64 n)).run Tryd.prog w = .ok (B8 (UInt8.ofNat (x.toNat * 2 ^ n))) w := by
  have hlt := x.toNat_lt
  rcases hn with rfl | rfl | rfl
  · have h : ((UInt8.ofNat (x.toNat * 2 ^ 1)).toNat : Int) = ((x.toNat : Int) * 2) % 256 := by simp only [UInt8.toNat_ofNat']; omega
    show _ = Result.ok (Value.int .u8 ((UInt8.ofNat (x.toNat * 2 ^ 1)).toNat : Int)) w
    rw [h]; simp [go_sem, IntKind.wrap_u8]
  · have h : ((UInt8.ofNat (x.toNat * 2 ^ 3)).toNat : Int) = ((x.toNat : Int) * 8) % 256 := by simp only [UInt8.toNat_ofNat']; omega
    show _ = Result.ok (Value.int .u8 ((UInt8.ofNat (x.toNat * 2 ^ 3)).toNat : Int)) w
    rw [h]; simp [go_sem, IntKind.wrap_u8]
  · have h : ((UInt8.ofNat (x.toNat * 2 ^ 4)).toNat : Int) = ((x.toNat : Int) * 16) % 256 := by simp only [UInt8.toNat_ofNat']; omega
    show _ = Result.ok (Value.int .u8 ((UInt8.ofNat (x.toNat * 2 ^ 4)).toNat : Int)) w
    rw [h]; simp [go_sem, IntKind.wrap_u8]
theorem cf8_all : ∀ (c i r p u : Bool) (n : Fin 3), (((((bt c 2 ||| bt i 4) ||| UInt8.ofNat ((b8I (n.val : Int)).toNat * 2 ^ 3)) ||| bt r 32) ||| bt p 64) ||| bt u 128) = b8I (bits .or .i64 (bits .or .i64 (bits .or .i64 (bits .or .i64 (bits .or .i64 (flg c 2) (flg i 4)) ((n.val : Int) * 8)) (flg r 32)) (flg p 64)) (flg u 128)) := by decide +kernel
theorem cf8 (m : Mq) (hq : 0 ≤ m.wQ ∧ m.wQ ≤ 2) : (((((bt m.clean 2 ||| bt m.wI 4) ||| UInt8.ofNat ((b8I m.wQ).toNat * 2 ^ 3)) ||| bt m.wR 32) ||| bt m.hp 64) ||| bt m.hu 128) = b8I (cfG m) := by
  have h := cf8_all m.clean m.wI m.wR m.hp m.hu ⟨m.wQ.toNat, by omega⟩
  have e : ((⟨m.wQ.toNat, by omega⟩ : Fin 3).val : Int) = m.wQ := by simp; omega
  rw [e] at h
  exact h
theorem fl8_all : ∀ (d r : Bool) (n : Fin 3), (UInt8.ofNat ((b8I 3).toNat * 2 ^ 4) ||| ((bt d 8 ||| UInt8.ofNat ((b8I (n.val : Int)).toNat * 2 ^ 1)) ||| bt r 1)) = b8I (bits .or .i64 (3 * 16) (bits .or .i64 (bits .or .i64 (flg d 8) ((n.val : Int) * 2)) (flg r 1))) := by decide +kernel
theorem hd8_all : ∀ (k : Fin 15), (UInt8.ofNat ((b8I (k.val : Int)).toNat * 2 ^ 4) ||| 2) = b8I (bits .or .i64 ((k.val : Int) * 16) 2) ∧ (UInt8.ofNat ((b8I (k.val : Int)).toNat * 2 ^ 4) ||| 0) = b8I (bits .or .i64 ((k.val : Int) * 16) 0) := by decide +kernel
theorem pr8 (b : Bool) : bt b 1 = b8I (flg b 1) := by cases b <;> decide +kernel
def preB (m : Mq) : List UInt8 :=
  if m.k == 1 then cbG m else if m.k == 2 then [b8I (flg m.pres 1), b8I m.code]
  else if m.k == 3 then encS m.top ++ (if decide (0 < m.q) then bigv m.id 2 else []) ++ m.pay.data.toList
  else if (m.k == 12 || m.k == 13 || m.k == 14) then [] else bigv m.id 2
theorem bd_pre {m : Mq} (h : mayG m = true) : preB m ++ m.ws.flatMap encW ++ m.cs.map b8I ++ m.fs.flatMap encS = bdG m := by
  rcases may_kind h with hk | hk | hk | hk | hk | hk | hk | hk | hk | hk | hk | hk | hk | hk
  · have e := (mf_1 h hk).2; have e1 : m.ws = [] := by rw [e]; rfl
    have e2 : m.cs = [] := by rw [e]; rfl
    have e3 : m.fs = [] := by rw [e]; rfl
    unfold preB bdG; rw [hk, e1, e2, e3]; simp
  · have e := (mf_2 h hk).2; have e1 : m.ws = [] := by rw [e]; rfl
    have e2 : m.cs = [] := by rw [e]; rfl
    have e3 : m.fs = [] := by rw [e]; rfl
    unfold preB bdG; rw [hk, e1, e2, e3]; simp
  · have e := (mf_3 h hk).2; have e1 : m.ws = [] := by rw [e]; rfl
    have e2 : m.cs = [] := by rw [e]; rfl
    have e3 : m.fs = [] := by rw [e]; rfl
    unfold preB bdG; rw [hk, e1, e2, e3]; simp
  · unfold preB bdG; rw [hk]; simp
  · unfold preB bdG; rw [hk]; simp
  · unfold preB bdG; rw [hk]; simp
  · unfold preB bdG; rw [hk]; simp
  · unfold preB bdG; rw [hk]; simp
  · unfold preB bdG; rw [hk]; simp
  · unfold preB bdG; rw [hk]; simp
  · unfold preB bdG; rw [hk]; simp
  · have e := (mf_12 h hk).2; unfold preB bdG; rw [hk, e]; simp [zM]
  · have e := (mf_13 h hk).2; unfold preB bdG; rw [hk, e]; simp [zM]
  · have e := (mf_14 h hk).2; unfold preB bdG; rw [hk, e]; simp [zM]
theorem opTo_bs2 {o : Oper} {a : Act} {w : World} {x0 x1 : Operand} {u v : UInt8} (ho : o.op = .buildSlice 31 2 #[(0, x0), (1, x1)]) (h0 : a.eval x0 = B8 u) (h1 : a.eval x1 = B8 v) : opTo Tryd.prog o a w fun v' w' => ∃ l' a' c', v' = .slice a' l'.length c' ∧ l' = [u, v] ∧ Below w.heap.size w w' ∧ OB w' w.heap.size a' c' l' := by
  refine .inl ⟨_, w.alloc (.cells ([B8 u, B8 v] : List Value).toArray 5), ?_, [u, v], _, _, rfl, rfl, (Below.refl _ w).alloc (Nat.le_refl _) _, ⟨rfl, .inr ⟨w.heap.size, 2, #[B8 u, B8 v], rfl, Nat.le_refl _, heap_alloc_new w _, Nat.le_refl _, by unfold maxLen; omega, rfl, rfl⟩⟩⟩
  obtain ⟨dst, op, ty, pos, af, g⟩ := o
  dsimp only at ho
  subst ho
  exact bs8_2 w h0 h1
theorem grew_mid {w w1 w2 w3 : World} {v v1 v2 : Value} (hb : Below w.heap.size w w1) (h1 : Grew w1 w2 v v1) (h2 : Grew w2 w3 v1 v2) : Grew w w3 v v2 := by
  have h0 : Grew w w1 v v := ⟨⟨hb.os, hb.tape, hb.output, hb.size, fun k hk _ => hb.block k hk⟩, .inl rfl⟩
  exact (h0.trans h1).trans h2
section
variable {B : Nat} {ad : Option Addr} {c : Nat} {l : List UInt8} {w : World}
set_option maxRecDepth 100000 in
set_option maxHeartbeats 4000000 in
theorem txtPut (s : ByteArray) (hown : OB w B ad c l) (hs : s.size ≤ 1000) (hl : l.length ≤ 900000) (hB : B ≤ w.heap.size) : Calls Tryd.prog 87 #[.slice ad l.length c, .string s] w (Put B w ad c l (encS s)) := by
  have hb0 := Below.refl B w
  have hBs := hB
  have hBw := hB
  have hwB : B ≤ B := Nat.le_refl _
  refine fw_en 13 [(0, .slice ad l.length c), (1, .string s)] Tryd.func87 rfl Tryd.ntmps87 rfl ⟨rfl, rfl, trivial⟩ ?_
  refine fw_sq (fw_rg rfl (fw_pu rfl (fw_dt (fw_sq (fw_rg rfl ?_)))))
  iterate 3 refine fw_pu rfl ?_
  refine fw_ca Tryd.func88 rfl rfl rfl ((bigO (s.size : Int) w)) ?_
  rintro _ V2 ⟨l1, a1, c1, rfl, hl1, hb1, ho1⟩
  refine ⟨_, rfl, ?_⟩
  have hbx := hb1
  have b3 := hb0.trans (hb1.mono (Nat.le_trans hBw hb0.size))
  have f4 := (below_own hown hb1)
  have hBs := Nat.le_trans hBs hb1.size
  refine fw_to 9 rfl rfl rfl (fun a h => opTo_byt (l := l) (ad := ad) (c := c) _ _ rfl (h.ev rfl) f4 (h.ev rfl) (Sl.of_own ho1).1 (by omega) (by rw [hl1, bigv_length]; decide) hBs) ?_
  rintro _ V6 ⟨l5, a5, c5, rfl, hl5, hg5, ho5⟩
  have b7 := ob_low b3 f4 hg5 hwB (Nat.le_trans hwB hBs)
  have hBs := Nat.le_trans hBs hg5.1.size
  refine fw_pu rfl (fw_dt (fw_sq (fw_rg rfl ?_)))
  iterate 2 refine fw_pu rfl ?_
  refine fw_to 12 rfl rfl rfl (fun a h => opTo_str (l := l5) (ad := a5) (c := c5) _ _ rfl (h.ev rfl) ho5 (h.ev rfl) (by (try rw [hl5, List.length_append, hl1, bigv_length]); omega) (by omega) hBs) ?_
  rintro _ V9 ⟨l8, a8, c8, rfl, hl8, hg8, ho8⟩
  have b10 := ob_low b7 ho5 hg8 hwB (Nat.le_trans hwB hBs)
  have hBs := Nat.le_trans hBs hg8.1.size
  refine fw_pu rfl (fw_dt (fw_rt ?_))
  refine ⟨fun a h => ?_⟩
  exact ow_ret1 rfl h.df (h.g 4 rfl) ⟨_, _, _, rfl, by rw [hl8, hl5, hl1]; unfold encS; rw [List.append_assoc], grew_mid hbx hg5 hg8, ho8⟩
end
set_option maxRecDepth 100000 in
set_option maxHeartbeats 4000000 in
theorem rbodyX (m : Mq) (ac aw af : Option Addr) (nc nw nf cc cw cf : Nat) (w : World) (hL : m.Lists w (.slice ac nc cc) (.slice aw nw cw) (.slice af nf cf)) (hS : Small m) (hm : mayG m = true) :
    Calls Tryd.prog 62 #[.agg (Mq.row m (.slice ac nc cc) (.slice aw nw cw) (.slice af nf cf)).toArray] w fun e w' => ∃ l a c, e = .returned (.slice a l.length c) ∧ l = bdG m ∧ l.length ≤ 60000 ∧ OB w' w.heap.size a c l ∧ Below w.heap.size w w' := by
  obtain rfl : nc = m.cs.length := by have := slR_len hL.c; simpa using this
  obtain rfl : nw = m.ws.length := by have := slR_len hL.w; simpa using this
  obtain rfl : nf = m.fs.length := by have := slR_len hL.f; simpa using this
  have hb0 := Below.refl w.heap.size w
  have hS0 := hS.cl
  have hS1 := hS.wT
  have hS2 := hS.wP
  have hS3 := hS.us
  have hS4 := hS.pa
  have hS5 := hS.top
  have hS6 := hS.pay
  have hS7 := hS.wQ
  have hS8 := hS.q
  have hS9 := hS.k
  have hS10 := hS.cs
  have hS11 := hS.ws
  have hS12 := hS.fs
  refine fw_en 159 [(0, .agg (Mq.row m (.slice ac m.cs.length cc) (.slice aw m.ws.length cw) (.slice af m.fs.length cf)).toArray)] Tryd.func62 rfl Tryd.ntmps62 rfl ⟨rfl, trivial⟩ ?_
  refine fw_sq (fw_rg rfl (fw_bx rfl (cs := [.int .i64 m.k, .string m.cl, .bool m.clean, .int .i64 m.keep, .bool m.wI, .string m.wT, .string m.wP, .int .i64 m.wQ, .bool m.wR, .string m.us, .bool m.hu, .string m.pa, .bool m.hp, .bool m.pres, .int .i64 m.code, .slice ac m.cs.length cc, .bool m.dup, .int .i64 m.q, .bool m.re, .string m.top, .int .i64 m.id, .string m.pay, .slice aw m.ws.length cw, .slice af m.fs.length cf]) rfl ?_))
  intro q1 W2 g5 s3 r4
  have := Nat.le_trans hb0.size g5
  have b6 := hb0.trans (s3.mono hb0.size)
  refine fw_pu rfl (fw_dt (fw_sq (fw_rg rfl (fw_pu rfl (fw_dt ?_)))))
  refine fw_md (fun K W => ∃ (B : Nat) (lp : List UInt8) (ap : Option Addr) (cp : Nat), lp = preB m ∧ lp.length ≤ 11000 ∧ w.heap.size ≤ B ∧ B ≤ W.heap.size ∧ q1 < B ∧ K = [(1, .pointer (some ⟨q1, 0, none⟩)), (3, .slice ap lp.length cp)] ∧ Below w.heap.size w W ∧ RowAt W q1 (Mq.row m (.slice ac m.cs.length cc) (.slice aw m.ws.length cw) (.slice af m.fs.length cf)) ∧ OB W B ap cp lp) (fun K7 hK7 => ?_) ?_
  · skip
    refine fw_sq (fw_rg rfl (fw_pu rfl (fw_ld r4 rfl rfl (fw_dt (fw_bk (fw_sq (fw_rg rfl ?_)))))))
    iterate 2 refine fw_pu rfl ?_
    refine fw_dt ?_
    rcases Bool.eq_false_or_eq_true ((m.k == 1)) with hb_8 | hb_8
    · skip
      refine fw_cT rfl hb_8 (fw_sq (fw_rg rfl (fw_pu rfl (fw_ld r4 rfl rfl ?_))))
      refine fw_al (t := 25) (u := fun q => .pointer (some ⟨q, 0, none⟩)) 4 [.bool false, .string { data := #[] }, .string { data := #[] }, .int .i64 0, .bool false] rfl rfl rfl (fun a h => (run_allocOp (by simp [go_sem, Instr.alloc]))) ?_
      intro q9 W10 g13 s11 r12
      have := Nat.le_trans b6.size g13
      have := r4.lt g13
      have b14 := b6.trans (s11.mono b6.size)
      have r15 := r4.below s11
      refine fw_st r12 rfl rfl ?_
      intro W16 s17 r18
      have b19 := below_chg b14 s17 (by omega) b14.size
      have r20 := r15.chg s17 (by omega)
      refine fw_dt (fw_sq ?_)
      refine fw_hr (fun X => Below w.heap.size w X ∧ RowAt X q1 (Mq.row m (.slice ac m.cs.length cc) (.slice aw m.ws.length cw) (.slice af m.fs.length cf)) ∧ RowAt X q9 [.bool m.wI, .string m.wT, .string m.wP, .int .i64 m.wQ, .bool m.wR]) (by kernel_rfl) 28 rfl ?_
      intro W21 s22
      have b23 := b19.trans (s22.mono b19.size)
      have r24 := r20.below s22
      have r25 := r18.below s22
      refine ⟨⟨b23, r24, r25⟩, ?_⟩
      refine fw_tk 1 rfl rfl (by kernel_rfl) (fun _ _ _ _ _ h => h) ?_
      refine fw_tl 2 (fun _ h => h.2.1) rfl rfl rfl (by kernel_rfl) (fun _ _ _ _ _ h => h) ?_
      refine fw_tk 4 rfl rfl (by kernel_rfl) (fun _ _ _ _ _ h => h) ?_
      refine fw_tl 5 (fun _ h => h.2.2) rfl rfl rfl (by kernel_rfl) (fun _ _ _ _ _ h => h) ?_
      refine fw_tk 8 rfl rfl (by kernel_rfl) (fun _ _ _ _ _ h => h) ?_
      refine fw_tl 9 (fun _ h => h.2.2) rfl rfl rfl (by kernel_rfl) (fun _ _ _ _ _ h => h) ?_
      refine fw_tx 10 27 (B8 (b8I m.wQ)) rfl rfl rfl rfl (fun a h W hW => by obtain ⟨b23, r24, r25⟩ := hW; exact (run_convOp (h.ev rfl) (cvI8 _ _))) (by kernel_rfl) (fun _ _ _ _ _ h => h) ?_
      refine fw_tx 11 28 (B8 (UInt8.ofNat (UInt8.toNat (b8I m.wQ) * 2 ^ 3))) rfl rfl rfl rfl (fun a h W hW => by obtain ⟨b23, r24, r25⟩ := hW; exact (run_binOp (h.ev rfl) (h.ev rfl) (by simp [go_sem]) (u8shl (b8I m.wQ) 3 (by decide) _))) (by kernel_rfl) (fun _ _ _ _ _ h => h) ?_
      refine fw_tk 13 rfl rfl (by kernel_rfl) (fun _ _ _ _ _ h => h) ?_
      refine fw_tl 14 (fun _ h => h.2.2) rfl rfl rfl (by kernel_rfl) (fun _ _ _ _ _ h => h) ?_
      refine fw_tk 17 rfl rfl (by kernel_rfl) (fun _ _ _ _ _ h => h) ?_
      refine fw_tl 18 (fun _ h => h.2.1) rfl rfl rfl (by kernel_rfl) (fun _ _ _ _ _ h => h) ?_
      refine fw_tk 21 rfl rfl (by kernel_rfl) (fun _ _ _ _ _ h => h) ?_
      refine fw_tl 22 (fun _ h => h.2.1) rfl rfl rfl (by kernel_rfl) (fun _ _ _ _ _ h => h) ?_
      refine fw_o1 0 (by kernel_rfl) ?_
      obtain ⟨B, hB⟩ : ∃ x, x = W21.heap.size := ⟨_, rfl⟩
      have : q1 < B := by rw [hB]; exact r24.2.2
      have : q9 < B := by rw [hB]; exact r25.2.2
      have hwB : w.heap.size ≤ B := by rw [hB]; exact b23.size
      have hBs : B ≤ W21.heap.size := Nat.le_of_eq hB
      have ho26 := ob_nil W21 B
      refine fw_oc rfl Tryd.func87 rfl rfl rfl (txtPut (l := ([] : List UInt8)) (ad := none) (c := 0) ({ data := #[77, 81, 84, 84] } : ByteArray) ho26 (by decide) (by rw [nil_len]; omega) hBs) ?_
      rintro _ V28 ⟨l27, a27, c27, rfl, hl27, hg27, ho27⟩
      refine ⟨_, rfl, ?_⟩
      have r29 := row_grew r24 hg27 (ob_off ho26 (by omega))
      have r30 := row_grew r25 hg27 (ob_off ho26 (by omega))
      have b31 := ob_low b23 ho26 hg27 hwB (Nat.le_trans hwB hBs)
      have hBs := Nat.le_trans hBs hg27.1.size
      rw [mqtt_enc] at hl27
      have hn27 : l27.length ≤ 1003 := by rw [hl27, List.length_append]; (try rw [nil_len]); first | (rw [bigv_length]; omega) | (rw [encS_len]; omega) | (rw [one_len]; omega) | (rw [two_len]; omega) | (rw [str_len]; omega) | (rw [mqtt_len]; omega)
      refine ⟨⟨b31, r29, r30⟩, ?_⟩
      refine fw_o1 3 (by kernel_rfl) ?_
      refine fw_oc rfl Tryd.func61 rfl rfl rfl ((btG m.clean 2 V28)) ?_
      rintro _ _ ⟨rfl, rfl⟩
      refine ⟨_, rfl, ?_⟩
      refine ⟨⟨b31, r29, r30⟩, ?_⟩
      refine fw_o1 6 (by kernel_rfl) ?_
      refine fw_oc rfl Tryd.func61 rfl rfl rfl ((btG m.wI 4 V28)) ?_
      rintro _ _ ⟨rfl, rfl⟩
      refine ⟨_, rfl, ?_⟩
      refine ⟨⟨b31, r29, r30⟩, ?_⟩
      refine fw_tx 7 24 (B8 ((bt m.clean 2) ||| (bt m.wI 4))) rfl rfl rfl rfl (fun a h W hW => by obtain ⟨b31, r29, r30⟩ := hW; exact (run_binOp (h.ev rfl) (h.ev rfl) (by simp [go_sem]) (u8or (bt m.clean 2) (bt m.wI 4) _))) (by kernel_rfl) (fun _ _ _ _ _ h => h) ?_
      refine fw_tx 12 29 (B8 (((bt m.clean 2) ||| (bt m.wI 4)) ||| (UInt8.ofNat (UInt8.toNat (b8I m.wQ) * 2 ^ 3)))) rfl rfl rfl rfl (fun a h W hW => by obtain ⟨b31, r29, r30⟩ := hW; exact (run_binOp (h.ev rfl) (h.ev rfl) (by simp [go_sem]) (u8or ((bt m.clean 2) ||| (bt m.wI 4)) (UInt8.ofNat (UInt8.toNat (b8I m.wQ) * 2 ^ 3)) _))) (by kernel_rfl) (fun _ _ _ _ _ h => h) ?_
      refine fw_o1 15 (by kernel_rfl) ?_
      refine fw_oc rfl Tryd.func61 rfl rfl rfl ((btG m.wR 32 V28)) ?_
      rintro _ _ ⟨rfl, rfl⟩
      refine ⟨_, rfl, ?_⟩
      refine ⟨⟨b31, r29, r30⟩, ?_⟩
      refine fw_tx 16 33 (B8 ((((bt m.clean 2) ||| (bt m.wI 4)) ||| (UInt8.ofNat (UInt8.toNat (b8I m.wQ) * 2 ^ 3))) ||| (bt m.wR 32))) rfl rfl rfl rfl (fun a h W hW => by obtain ⟨b31, r29, r30⟩ := hW; exact (run_binOp (h.ev rfl) (h.ev rfl) (by simp [go_sem]) (u8or (((bt m.clean 2) ||| (bt m.wI 4)) ||| (UInt8.ofNat (UInt8.toNat (b8I m.wQ) * 2 ^ 3))) (bt m.wR 32) _))) (by kernel_rfl) (fun _ _ _ _ _ h => h) ?_
      refine fw_o1 19 (by kernel_rfl) ?_
      refine fw_oc rfl Tryd.func61 rfl rfl rfl ((btG m.hp 64 V28)) ?_
      rintro _ _ ⟨rfl, rfl⟩
      refine ⟨_, rfl, ?_⟩
      refine ⟨⟨b31, r29, r30⟩, ?_⟩
      refine fw_tx 20 37 (B8 (((((bt m.clean 2) ||| (bt m.wI 4)) ||| (UInt8.ofNat (UInt8.toNat (b8I m.wQ) * 2 ^ 3))) ||| (bt m.wR 32)) ||| (bt m.hp 64))) rfl rfl rfl rfl (fun a h W hW => by obtain ⟨b31, r29, r30⟩ := hW; exact (run_binOp (h.ev rfl) (h.ev rfl) (by simp [go_sem]) (u8or ((((bt m.clean 2) ||| (bt m.wI 4)) ||| (UInt8.ofNat (UInt8.toNat (b8I m.wQ) * 2 ^ 3))) ||| (bt m.wR 32)) (bt m.hp 64) _))) (by kernel_rfl) (fun _ _ _ _ _ h => h) ?_
      refine fw_o1 23 (by kernel_rfl) ?_
      refine fw_oc rfl Tryd.func61 rfl rfl rfl ((btG m.hu 128 V28)) ?_
      rintro _ _ ⟨rfl, rfl⟩
      refine ⟨_, rfl, ?_⟩
      refine ⟨⟨b31, r29, r30⟩, ?_⟩
      refine fw_tx 24 41 (B8 ((((((bt m.clean 2) ||| (bt m.wI 4)) ||| (UInt8.ofNat (UInt8.toNat (b8I m.wQ) * 2 ^ 3))) ||| (bt m.wR 32)) ||| (bt m.hp 64)) ||| (bt m.hu 128))) rfl rfl rfl rfl (fun a h W hW => by obtain ⟨b31, r29, r30⟩ := hW; exact (run_binOp (h.ev rfl) (h.ev rfl) (by simp [go_sem]) (u8or (((((bt m.clean 2) ||| (bt m.wI 4)) ||| (UInt8.ofNat (UInt8.toNat (b8I m.wQ) * 2 ^ 3))) ||| (bt m.wR 32)) ||| (bt m.hp 64)) (bt m.hu 128) _))) (by kernel_rfl) (fun _ _ _ _ _ h => h) ?_
      rw [cf8 m hS7]
      refine fw_o1 25 (by kernel_rfl) ?_
      refine fw_oa rfl (t := 5) (u := fun q => .slice (some ⟨q, 0, none⟩) 2 2) 42 [B8 4, B8 (b8I (cfG m))] rfl rfl rfl (fun a h => (bs8_2 _ ((h.ev rfl).trans b8c4) (h.ev rfl))) ?_
      intro q32 W33 g36 s34 r35
      have := Nat.le_trans b31.size g36
      have := r29.lt g36
      have := r30.lt g36
      have hapq32 := ob_new ho27 g36
      have b37 := b31.trans (s34.mono b31.size)
      have r38 := r29.below s34
      have r39 := r30.below s34
      have f40 := (below_own ho27 s34)
      have hBs := Nat.le_trans hBs s34.size
      refine ⟨⟨b37, r38, r39⟩, ?_⟩
      refine fw_o1 26 (by kernel_rfl) ?_
      refine fw_ot rfl 43 rfl rfl rfl (fun a h => opTo_byt (l := l27) (ad := a27) (c := c27) _ _ rfl (h.ev rfl) f40 (h.ev rfl) (slBB _ _ 4 (b8I (cfG m)) r35) (by omega) (by simp) hBs) ?_
      rintro _ V42 ⟨l41, a41, c41, rfl, hl41, hg41, ho41⟩
      have r43 := row_grew r38 hg41 (ob_off f40 (by omega))
      have r44 := row_grew r39 hg41 (ob_off f40 (by omega))
      have r45 := row_grew r35 hg41 hapq32
      replace hapq32 := grew_off hg41 hapq32 r35.2.2
      have b46 := ob_low b37 f40 hg41 hwB (Nat.le_trans hwB hBs)
      have hBs := Nat.le_trans hBs hg41.1.size
      have hn41 : l41.length ≤ 2006 := by rw [hl41, List.length_append]; (try rw [nil_len]); first | (rw [bigv_length]; omega) | (rw [encS_len]; omega) | (rw [one_len]; omega) | (rw [two_len]; omega) | (rw [str_len]; omega) | (rw [mqtt_len]; omega)
      refine ⟨⟨b46, r43, r44⟩, ?_⟩
      refine fw_tk 27 rfl rfl (by kernel_rfl) (fun _ _ _ _ _ h => h) ?_
      refine fw_ht (by kernel_rfl) ?_
      refine fw_sq (fw_rg rfl ?_)
      iterate 2 refine fw_pu rfl ?_
      refine fw_ld r43 rfl rfl (fw_ca Tryd.func88 rfl rfl rfl ((bigO m.keep V42)) ?_)
      rintro _ V48 ⟨l47, a47, c47, rfl, hl47, hb47, ho47⟩
      refine ⟨_, rfl, ?_⟩
      have b49 := b46.trans (hb47.mono b46.size)
      have r50 := r43.below hb47
      have r51 := r44.below hb47
      have r52 := r45.below hb47
      have f53 := (below_own ho41 hb47)
      have hBs := Nat.le_trans hBs hb47.size
      refine fw_to 48 rfl rfl rfl (fun a h => opTo_byt (l := l41) (ad := a41) (c := c41) _ _ rfl (h.ev rfl) f53 (h.ev rfl) (Sl.of_own ho47).1 (by omega) (by rw [hl47, bigv_length]; decide) hBs) ?_
      rintro _ V55 ⟨l54, a54, c54, rfl, hl54, hg54, ho54⟩
      have r56 := row_grew r50 hg54 (ob_off f53 (by omega))
      have r57 := row_grew r51 hg54 (ob_off f53 (by omega))
      have r58 := row_grew r52 hg54 hapq32
      replace hapq32 := grew_off hg54 hapq32 r52.2.2
      have b59 := ob_low b49 f53 hg54 hwB (Nat.le_trans hwB hBs)
      have hBs := Nat.le_trans hBs hg54.1.size
      have hn54 : l54.length ≤ 3009 := by rw [hl54, List.length_append]; (try rw [nil_len]); first | (rw [bigv_length]; omega) | (rw [encS_len]; omega) | (rw [one_len]; omega) | (rw [two_len]; omega) | (rw [str_len]; omega) | (rw [mqtt_len]; omega) | (rw [hl47, bigv_length]; omega)
      refine fw_pu rfl (fw_dt (fw_sq (fw_rg rfl ?_)))
      iterate 2 refine fw_pu rfl ?_
      refine fw_ld r56 rfl rfl ?_
      refine fw_ca Tryd.func87 rfl rfl rfl (txtPut (l := l54) (ad := a54) (c := c54) m.cl ho54 (by omega) (by omega) hBs) ?_
      rintro _ V61 ⟨l60, a60, c60, rfl, hl60, hg60, ho60⟩
      refine ⟨_, rfl, ?_⟩
      have r62 := row_grew r56 hg60 (ob_off ho54 (by omega))
      have r63 := row_grew r57 hg60 (ob_off ho54 (by omega))
      have r64 := row_grew r58 hg60 hapq32
      replace hapq32 := grew_off hg60 hapq32 r58.2.2
      have b65 := ob_low b59 ho54 hg60 hwB (Nat.le_trans hwB hBs)
      have hBs := Nat.le_trans hBs hg60.1.size
      have hn60 : l60.length ≤ 4012 := by rw [hl60, List.length_append]; (try rw [nil_len]); first | (rw [bigv_length]; omega) | (rw [encS_len]; omega) | (rw [one_len]; omega) | (rw [two_len]; omega) | (rw [str_len]; omega) | (rw [mqtt_len]; omega) | (rw [hl47, bigv_length]; omega)
      refine fw_pu rfl (fw_dt (fw_sq (fw_sq (fw_rg rfl (fw_pu rfl (fw_ld r63 rfl rfl (fw_dt ?_)))))))
      rcases Bool.eq_false_or_eq_true (m.wI) with hb_66 | hb_66
      · skip
        refine fw_cT rfl hb_66 ?_
        refine fw_hr (fun X => Below w.heap.size w X ∧ RowAt X q1 (Mq.row m (.slice ac m.cs.length cc) (.slice aw m.ws.length cw) (.slice af m.fs.length cf)) ∧ RowAt X q9 [.bool m.wI, .string m.wT, .string m.wP, .int .i64 m.wQ, .bool m.wR] ∧ RowAt X q32 [B8 4, B8 (b8I (cfG m))]) (by kernel_rfl) 8 rfl ?_
        intro W67 s68
        have b69 := b65.trans (s68.mono b65.size)
        have r70 := r62.below s68
        have r71 := r63.below s68
        have r72 := r64.below s68
        have f73 := (below_own ho60 s68)
        have hBs := Nat.le_trans hBs s68.size
        refine ⟨⟨b69, r70, r71, r72⟩, ?_⟩
        refine fw_tk 0 rfl rfl (by kernel_rfl) (fun _ _ _ _ _ h => h) ?_
        refine fw_tk 1 rfl rfl (by kernel_rfl) (fun _ _ _ _ _ h => h) ?_
        refine fw_tl 2 (fun _ h => h.2.2.1) rfl rfl rfl (by kernel_rfl) (fun _ _ _ _ _ h => h) ?_
        refine fw_tk 4 rfl rfl (by kernel_rfl) (fun _ _ _ _ _ h => h) ?_
        refine fw_tl 5 (fun _ h => h.2.2.1) rfl rfl rfl (by kernel_rfl) (fun _ _ _ _ _ h => h) ?_
        refine fw_o1 3 (by kernel_rfl) ?_
        refine fw_oc rfl Tryd.func87 rfl rfl rfl (txtPut (l := l60) (ad := a60) (c := c60) m.wT f73 (by omega) (by omega) hBs) ?_
        rintro _ V75 ⟨l74, a74, c74, rfl, hl74, hg74, ho74⟩
        refine ⟨_, rfl, ?_⟩
        have r76 := row_grew r70 hg74 (ob_off f73 (by omega))
        have r77 := row_grew r71 hg74 (ob_off f73 (by omega))
        have r78 := row_grew r72 hg74 hapq32
        replace hapq32 := grew_off hg74 hapq32 r72.2.2
        have b79 := ob_low b69 f73 hg74 hwB (Nat.le_trans hwB hBs)
        have hBs := Nat.le_trans hBs hg74.1.size
        have hn74 : l74.length ≤ 5015 := by rw [hl74, List.length_append]; (try rw [nil_len]); first | (rw [bigv_length]; omega) | (rw [encS_len]; omega) | (rw [one_len]; omega) | (rw [two_len]; omega) | (rw [str_len]; omega) | (rw [mqtt_len]; omega) | (rw [hl47, bigv_length]; omega)
        refine ⟨⟨b79, r76, r77, r78⟩, ?_⟩
        refine fw_o1 6 (by kernel_rfl) ?_
        refine fw_oc rfl Tryd.func87 rfl rfl rfl (txtPut (l := l74) (ad := a74) (c := c74) m.wP ho74 (by omega) (by omega) hBs) ?_
        rintro _ V81 ⟨l80, a80, c80, rfl, hl80, hg80, ho80⟩
        refine ⟨_, rfl, ?_⟩
        have r82 := row_grew r76 hg80 (ob_off ho74 (by omega))
        have r83 := row_grew r77 hg80 (ob_off ho74 (by omega))
        have r84 := row_grew r78 hg80 hapq32
        replace hapq32 := grew_off hg80 hapq32 r78.2.2
        have b85 := ob_low b79 ho74 hg80 hwB (Nat.le_trans hwB hBs)
        have hBs := Nat.le_trans hBs hg80.1.size
        have hn80 : l80.length ≤ 6018 := by rw [hl80, List.length_append]; (try rw [nil_len]); first | (rw [bigv_length]; omega) | (rw [encS_len]; omega) | (rw [one_len]; omega) | (rw [two_len]; omega) | (rw [str_len]; omega) | (rw [mqtt_len]; omega) | (rw [hl47, bigv_length]; omega)
        refine ⟨⟨b85, r82, r83, r84⟩, ?_⟩
        refine fw_tk 7 rfl rfl (by kernel_rfl) (fun _ _ _ _ _ h => h) ?_
        refine fw_ht (by kernel_rfl) ?_
        refine fw_sq (fw_sq (fw_rg rfl (fw_pu rfl (fw_ld r82 rfl rfl (fw_dt ?_)))))
        rcases Bool.eq_false_or_eq_true (m.hu) with hb_86 | hb_86
        · skip
          refine fw_cT rfl hb_86 (fw_rg rfl ?_)
          iterate 2 refine fw_pu rfl ?_
          refine fw_ld r82 rfl rfl ?_
          refine fw_ca Tryd.func87 rfl rfl rfl (txtPut (l := l80) (ad := a80) (c := c80) m.us ho80 (by omega) (by omega) hBs) ?_
          rintro _ V88 ⟨l87, a87, c87, rfl, hl87, hg87, ho87⟩
          refine ⟨_, rfl, ?_⟩
          have r89 := row_grew r82 hg87 (ob_off ho80 (by omega))
          have r90 := row_grew r83 hg87 (ob_off ho80 (by omega))
          have r91 := row_grew r84 hg87 hapq32
          replace hapq32 := grew_off hg87 hapq32 r84.2.2
          have b92 := ob_low b85 ho80 hg87 hwB (Nat.le_trans hwB hBs)
          have hBs := Nat.le_trans hBs hg87.1.size
          have hn87 : l87.length ≤ 7021 := by rw [hl87, List.length_append]; (try rw [nil_len]); first | (rw [bigv_length]; omega) | (rw [encS_len]; omega) | (rw [one_len]; omega) | (rw [two_len]; omega) | (rw [str_len]; omega) | (rw [mqtt_len]; omega) | (rw [hl47, bigv_length]; omega)
          refine fw_pu rfl (fw_dt (fw_sq (fw_rg rfl (fw_pu rfl (fw_ld r89 rfl rfl (fw_dt ?_))))))
          rcases Bool.eq_false_or_eq_true (m.hp) with hb_93 | hb_93
          · skip
            refine fw_cT rfl hb_93 (fw_rg rfl ?_)
            iterate 2 refine fw_pu rfl ?_
            refine fw_ld r89 rfl rfl ?_
            refine fw_ca Tryd.func87 rfl rfl rfl (txtPut (l := l87) (ad := a87) (c := c87) m.pa ho87 (by omega) (by omega) hBs) ?_
            rintro _ V95 ⟨l94, a94, c94, rfl, hl94, hg94, ho94⟩
            refine ⟨_, rfl, ?_⟩
            have r96 := row_grew r89 hg94 (ob_off ho87 (by omega))
            have r97 := row_grew r90 hg94 (ob_off ho87 (by omega))
            have r98 := row_grew r91 hg94 hapq32
            replace hapq32 := grew_off hg94 hapq32 r91.2.2
            have b99 := ob_low b92 ho87 hg94 hwB (Nat.le_trans hwB hBs)
            have hBs := Nat.le_trans hBs hg94.1.size
            have hn94 : l94.length ≤ 8024 := by rw [hl94, List.length_append]; (try rw [nil_len]); first | (rw [bigv_length]; omega) | (rw [encS_len]; omega) | (rw [one_len]; omega) | (rw [two_len]; omega) | (rw [str_len]; omega) | (rw [mqtt_len]; omega) | (rw [hl47, bigv_length]; omega)
            refine fw_pu rfl (fw_dn (fw_bn ?_))
            exact fw_th (fw_gf (hK7 _ _ ⟨B, l94, a94, c94, (by unfold preB; simp [cbG, hb_8, hb_66, hb_86, hb_93, hl27, hl41, hl54, hl47, hl60, hl74, hl80, hl87, hl94]), (by omega), hwB, hBs, (by omega), rfl, b99, r96, ho94⟩) ⟨rfl, (by first | rfl | (simp only [Look, cond, Nat.beq]; first | rfl | (congr 2; first | rfl | omega | (push_cast; omega)) | (simp; try omega))), trivial⟩)
          refine fw_cF rfl hb_93 (fw_sk (fw_bn ?_))
          exact fw_th (fw_gf (hK7 _ _ ⟨B, l87, a87, c87, (by unfold preB; simp [cbG, hb_8, hb_66, hb_86, hb_93, hl27, hl41, hl54, hl47, hl60, hl74, hl80, hl87]), (by omega), hwB, hBs, (by omega), rfl, b92, r89, ho87⟩) ⟨rfl, (by first | rfl | (simp only [Look, cond, Nat.beq]; first | rfl | (congr 2; first | rfl | omega | (push_cast; omega)) | (simp; try omega))), trivial⟩)
        refine fw_cF rfl hb_86 (fw_sk (fw_th (fw_sq (fw_rg rfl (fw_pu rfl (fw_ld r82 rfl rfl (fw_dt ?_)))))))
        rcases Bool.eq_false_or_eq_true (m.hp) with hb_100 | hb_100
        · skip
          refine fw_cT rfl hb_100 (fw_rg rfl ?_)
          iterate 2 refine fw_pu rfl ?_
          refine fw_ld r82 rfl rfl ?_
          refine fw_ca Tryd.func87 rfl rfl rfl (txtPut (l := l80) (ad := a80) (c := c80) m.pa ho80 (by omega) (by omega) hBs) ?_
          rintro _ V102 ⟨l101, a101, c101, rfl, hl101, hg101, ho101⟩
          refine ⟨_, rfl, ?_⟩
          have r103 := row_grew r82 hg101 (ob_off ho80 (by omega))
          have r104 := row_grew r83 hg101 (ob_off ho80 (by omega))
          have r105 := row_grew r84 hg101 hapq32
          replace hapq32 := grew_off hg101 hapq32 r84.2.2
          have b106 := ob_low b85 ho80 hg101 hwB (Nat.le_trans hwB hBs)
          have hBs := Nat.le_trans hBs hg101.1.size
          have hn101 : l101.length ≤ 7021 := by rw [hl101, List.length_append]; (try rw [nil_len]); first | (rw [bigv_length]; omega) | (rw [encS_len]; omega) | (rw [one_len]; omega) | (rw [two_len]; omega) | (rw [str_len]; omega) | (rw [mqtt_len]; omega) | (rw [hl47, bigv_length]; omega)
          refine fw_pu rfl (fw_dn (fw_bn ?_))
          exact fw_th (fw_gf (hK7 _ _ ⟨B, l101, a101, c101, (by unfold preB; simp [cbG, hb_8, hb_66, hb_86, hb_100, hl27, hl41, hl54, hl47, hl60, hl74, hl80, hl101]), (by omega), hwB, hBs, (by omega), rfl, b106, r103, ho101⟩) ⟨rfl, (by first | rfl | (simp only [Look, cond, Nat.beq]; first | rfl | (congr 2; first | rfl | omega | (push_cast; omega)) | (simp; try omega))), trivial⟩)
        refine fw_cF rfl hb_100 (fw_sk (fw_bn ?_))
        exact fw_th (fw_gf (hK7 _ _ ⟨B, l80, a80, c80, (by unfold preB; simp [cbG, hb_8, hb_66, hb_86, hb_100, hl27, hl41, hl54, hl47, hl60, hl74, hl80]), (by omega), hwB, hBs, (by omega), rfl, b85, r82, ho80⟩) ⟨rfl, (by first | rfl | (simp only [Look, cond, Nat.beq]; first | rfl | (congr 2; first | rfl | omega | (push_cast; omega)) | (simp; try omega))), trivial⟩)
      refine fw_cF rfl hb_66 (fw_sk (fw_th (fw_sq (fw_sq (fw_rg rfl (fw_pu rfl (fw_ld r62 rfl rfl (fw_dt ?_))))))))
      rcases Bool.eq_false_or_eq_true (m.hu) with hb_107 | hb_107
      · skip
        refine fw_cT rfl hb_107 (fw_rg rfl ?_)
        iterate 2 refine fw_pu rfl ?_
        refine fw_ld r62 rfl rfl ?_
        refine fw_ca Tryd.func87 rfl rfl rfl (txtPut (l := l60) (ad := a60) (c := c60) m.us ho60 (by omega) (by omega) hBs) ?_
        rintro _ V109 ⟨l108, a108, c108, rfl, hl108, hg108, ho108⟩
        refine ⟨_, rfl, ?_⟩
        have r110 := row_grew r62 hg108 (ob_off ho60 (by omega))
        have r111 := row_grew r63 hg108 (ob_off ho60 (by omega))
        have r112 := row_grew r64 hg108 hapq32
        replace hapq32 := grew_off hg108 hapq32 r64.2.2
        have b113 := ob_low b65 ho60 hg108 hwB (Nat.le_trans hwB hBs)
        have hBs := Nat.le_trans hBs hg108.1.size
        have hn108 : l108.length ≤ 5015 := by rw [hl108, List.length_append]; (try rw [nil_len]); first | (rw [bigv_length]; omega) | (rw [encS_len]; omega) | (rw [one_len]; omega) | (rw [two_len]; omega) | (rw [str_len]; omega) | (rw [mqtt_len]; omega) | (rw [hl47, bigv_length]; omega)
        refine fw_pu rfl (fw_dt (fw_sq (fw_rg rfl (fw_pu rfl (fw_ld r110 rfl rfl (fw_dt ?_))))))
        rcases Bool.eq_false_or_eq_true (m.hp) with hb_114 | hb_114
        · skip
          refine fw_cT rfl hb_114 (fw_rg rfl ?_)
          iterate 2 refine fw_pu rfl ?_
          refine fw_ld r110 rfl rfl ?_
          refine fw_ca Tryd.func87 rfl rfl rfl (txtPut (l := l108) (ad := a108) (c := c108) m.pa ho108 (by omega) (by omega) hBs) ?_
          rintro _ V116 ⟨l115, a115, c115, rfl, hl115, hg115, ho115⟩
          refine ⟨_, rfl, ?_⟩
          have r117 := row_grew r110 hg115 (ob_off ho108 (by omega))
          have r118 := row_grew r111 hg115 (ob_off ho108 (by omega))
          have r119 := row_grew r112 hg115 hapq32
          replace hapq32 := grew_off hg115 hapq32 r112.2.2
          have b120 := ob_low b113 ho108 hg115 hwB (Nat.le_trans hwB hBs)
          have hBs := Nat.le_trans hBs hg115.1.size
          have hn115 : l115.length ≤ 6018 := by rw [hl115, List.length_append]; (try rw [nil_len]); first | (rw [bigv_length]; omega) | (rw [encS_len]; omega) | (rw [one_len]; omega) | (rw [two_len]; omega) | (rw [str_len]; omega) | (rw [mqtt_len]; omega) | (rw [hl47, bigv_length]; omega)
          refine fw_pu rfl (fw_dn (fw_bn ?_))
          exact fw_th (fw_gf (hK7 _ _ ⟨B, l115, a115, c115, (by unfold preB; simp [cbG, hb_8, hb_66, hb_107, hb_114, hl27, hl41, hl54, hl47, hl60, hl108, hl115]), (by omega), hwB, hBs, (by omega), rfl, b120, r117, ho115⟩) ⟨rfl, (by first | rfl | (simp only [Look, cond, Nat.beq]; first | rfl | (congr 2; first | rfl | omega | (push_cast; omega)) | (simp; try omega))), trivial⟩)
        refine fw_cF rfl hb_114 (fw_sk (fw_bn ?_))
        exact fw_th (fw_gf (hK7 _ _ ⟨B, l108, a108, c108, (by unfold preB; simp [cbG, hb_8, hb_66, hb_107, hb_114, hl27, hl41, hl54, hl47, hl60, hl108]), (by omega), hwB, hBs, (by omega), rfl, b113, r110, ho108⟩) ⟨rfl, (by first | rfl | (simp only [Look, cond, Nat.beq]; first | rfl | (congr 2; first | rfl | omega | (push_cast; omega)) | (simp; try omega))), trivial⟩)
      refine fw_cF rfl hb_107 (fw_sk (fw_th (fw_sq (fw_rg rfl (fw_pu rfl (fw_ld r62 rfl rfl (fw_dt ?_)))))))
      rcases Bool.eq_false_or_eq_true (m.hp) with hb_121 | hb_121
      · skip
        refine fw_cT rfl hb_121 (fw_rg rfl ?_)
        iterate 2 refine fw_pu rfl ?_
        refine fw_ld r62 rfl rfl ?_
        refine fw_ca Tryd.func87 rfl rfl rfl (txtPut (l := l60) (ad := a60) (c := c60) m.pa ho60 (by omega) (by omega) hBs) ?_
        rintro _ V123 ⟨l122, a122, c122, rfl, hl122, hg122, ho122⟩
        refine ⟨_, rfl, ?_⟩
        have r124 := row_grew r62 hg122 (ob_off ho60 (by omega))
        have r125 := row_grew r63 hg122 (ob_off ho60 (by omega))
        have r126 := row_grew r64 hg122 hapq32
        replace hapq32 := grew_off hg122 hapq32 r64.2.2
        have b127 := ob_low b65 ho60 hg122 hwB (Nat.le_trans hwB hBs)
        have hBs := Nat.le_trans hBs hg122.1.size
        have hn122 : l122.length ≤ 5015 := by rw [hl122, List.length_append]; (try rw [nil_len]); first | (rw [bigv_length]; omega) | (rw [encS_len]; omega) | (rw [one_len]; omega) | (rw [two_len]; omega) | (rw [str_len]; omega) | (rw [mqtt_len]; omega) | (rw [hl47, bigv_length]; omega)
        refine fw_pu rfl (fw_dn (fw_bn ?_))
        exact fw_th (fw_gf (hK7 _ _ ⟨B, l122, a122, c122, (by unfold preB; simp [cbG, hb_8, hb_66, hb_107, hb_121, hl27, hl41, hl54, hl47, hl60, hl122]), (by omega), hwB, hBs, (by omega), rfl, b127, r124, ho122⟩) ⟨rfl, (by first | rfl | (simp only [Look, cond, Nat.beq]; first | rfl | (congr 2; first | rfl | omega | (push_cast; omega)) | (simp; try omega))), trivial⟩)
      refine fw_cF rfl hb_121 (fw_sk (fw_bn ?_))
      exact fw_th (fw_gf (hK7 _ _ ⟨B, l60, a60, c60, (by unfold preB; simp [cbG, hb_8, hb_66, hb_107, hb_121, hl27, hl41, hl54, hl47, hl60]), (by omega), hwB, hBs, (by omega), rfl, b65, r62, ho60⟩) ⟨rfl, (by first | rfl | (simp only [Look, cond, Nat.beq]; first | rfl | (congr 2; first | rfl | omega | (push_cast; omega)) | (simp; try omega))), trivial⟩)
    refine fw_cF rfl hb_8 (fw_sq (fw_rg rfl ?_))
    iterate 2 refine fw_pu rfl ?_
    refine fw_dt ?_
    rcases Bool.eq_false_or_eq_true ((m.k == 2)) with hb_128 | hb_128
    · skip
      refine fw_cT rfl hb_128 ?_
      refine fw_hr (fun X => Below w.heap.size w X ∧ RowAt X q1 (Mq.row m (.slice ac m.cs.length cc) (.slice aw m.ws.length cw) (.slice af m.fs.length cf))) (by kernel_rfl) 8 rfl ?_
      intro W129 s130
      have b131 := b6.trans (s130.mono b6.size)
      have r132 := r4.below s130
      refine ⟨⟨b131, r132⟩, ?_⟩
      refine fw_tk 0 rfl rfl (by kernel_rfl) (fun _ _ _ _ _ h => h) ?_
      refine fw_tl 1 (fun _ h => h.2) rfl rfl rfl (by kernel_rfl) (fun _ _ _ _ _ h => h) ?_
      refine fw_tk 3 rfl rfl (by kernel_rfl) (fun _ _ _ _ _ h => h) ?_
      refine fw_tl 4 (fun _ h => h.2) rfl rfl rfl (by kernel_rfl) (fun _ _ _ _ _ h => h) ?_
      refine fw_tx 5 81 (B8 (b8I m.code)) rfl rfl rfl rfl (fun a h W hW => by obtain ⟨b131, r132⟩ := hW; exact (run_convOp (h.ev rfl) (cvI8 _ _))) (by kernel_rfl) (fun _ _ _ _ _ h => h) ?_
      refine fw_o1 2 (by kernel_rfl) ?_
      refine fw_oc rfl Tryd.func61 rfl rfl rfl ((btG m.pres 1 W129)) ?_
      rintro _ _ ⟨rfl, rfl⟩
      refine ⟨_, rfl, ?_⟩
      refine ⟨⟨b131, r132⟩, ?_⟩
      refine fw_o1 6 (by kernel_rfl) ?_
      obtain ⟨B, hB⟩ : ∃ x, x = W129.heap.size := ⟨_, rfl⟩
      have : q1 < B := by rw [hB]; exact r132.2.2
      have hwB : w.heap.size ≤ B := by rw [hB]; exact b131.size
      have hBs : B ≤ W129.heap.size := Nat.le_of_eq hB
      have ho133 := ob_nil W129 B
      refine fw_ot rfl 82 rfl rfl rfl (fun a h => opTo_bs2 (u := (bt m.pres 1)) (v := (b8I m.code)) rfl (h.ev rfl) (h.ev rfl)) ?_
      rintro _ V134 ⟨l135, a135, c135, rfl, hl135, hbb135, hoo135⟩
      have ho135 : OB V134 B a135 c135 l135 := by rw [hB]; exact hoo135
      rw [pr8] at hl135
      have b136 := b131.trans (hbb135.mono b131.size)
      have r137 := r132.below hbb135
      have hBs := Nat.le_trans hBs hbb135.size
      have hn135 : l135.length ≤ 1003 := by rw [hl135, two_len]; decide
      refine ⟨⟨b136, r137⟩, ?_⟩
      refine fw_tk 7 rfl rfl (by kernel_rfl) (fun _ _ _ _ _ h => h) ?_
      refine fw_hz (by kernel_rfl) ?_
      refine fw_bn ?_
      exact fw_th (fw_gf (hK7 _ _ ⟨B, l135, a135, c135, (by unfold preB; simp [hb_8, hb_128, hl135]), (by omega), hwB, hBs, (by omega), rfl, b136, r137, ho135⟩) ⟨rfl, (by first | rfl | (simp only [Look, cond, Nat.beq]; first | rfl | (congr 2; first | rfl | omega | (push_cast; omega)) | (simp; try omega))), trivial⟩)
    refine fw_cF rfl hb_128 (fw_sq (fw_rg rfl ?_))
    iterate 2 refine fw_pu rfl ?_
    refine fw_dt ?_
    rcases Bool.eq_false_or_eq_true ((m.k == 3)) with hb_138 | hb_138
    · skip
      refine fw_cT rfl hb_138 (fw_sq (fw_rg rfl (fw_pu rfl (fw_ld r4 rfl rfl ?_))))
      obtain ⟨B, hB⟩ : ∃ x, x = W2.heap.size := ⟨_, rfl⟩
      have : q1 < B := by rw [hB]; exact r4.2.2
      have hwB : w.heap.size ≤ B := by rw [hB]; exact b6.size
      have hBs : B ≤ W2.heap.size := Nat.le_of_eq hB
      have ho139 := ob_nil W2 B
      refine fw_ca Tryd.func87 rfl rfl rfl (txtPut (l := ([] : List UInt8)) (ad := none) (c := 0) m.top ho139 (by omega) (by rw [nil_len]; omega) hBs) ?_
      rintro _ V141 ⟨l140, a140, c140, rfl, hl140, hg140, ho140⟩
      refine ⟨_, rfl, ?_⟩
      have r142 := row_grew r4 hg140 (ob_off ho139 (by omega))
      have b143 := ob_low b6 ho139 hg140 hwB (Nat.le_trans hwB hBs)
      have hBs := Nat.le_trans hBs hg140.1.size
      have hn140 : l140.length ≤ 1003 := by rw [hl140, List.length_append]; (try rw [nil_len]); first | (rw [bigv_length]; omega) | (rw [encS_len]; omega) | (rw [one_len]; omega) | (rw [two_len]; omega) | (rw [str_len]; omega) | (rw [mqtt_len]; omega)
      refine fw_pu rfl (fw_dt (fw_sq (fw_sq (fw_rg rfl (fw_pu rfl (fw_ld r142 rfl rfl (fw_pu rfl (fw_dt ?_))))))))
      rcases Bool.eq_false_or_eq_true ((decide (0 < m.q))) with hb_144 | hb_144
      · skip
        refine fw_cT rfl hb_144 (fw_rg rfl ?_)
        iterate 2 refine fw_pu rfl ?_
        refine fw_ld r142 rfl rfl (fw_ca Tryd.func88 rfl rfl rfl ((bigO m.id V141)) ?_)
        rintro _ V146 ⟨l145, a145, c145, rfl, hl145, hb145, ho145⟩
        refine ⟨_, rfl, ?_⟩
        have b147 := b143.trans (hb145.mono b143.size)
        have r148 := r142.below hb145
        have f149 := (below_own ho140 hb145)
        have hBs := Nat.le_trans hBs hb145.size
        refine fw_to 95 rfl rfl rfl (fun a h => opTo_byt (l := l140) (ad := a140) (c := c140) _ _ rfl (h.ev rfl) f149 (h.ev rfl) (Sl.of_own ho145).1 (by omega) (by rw [hl145, bigv_length]; decide) hBs) ?_
        rintro _ V151 ⟨l150, a150, c150, rfl, hl150, hg150, ho150⟩
        have r152 := row_grew r148 hg150 (ob_off f149 (by omega))
        have b153 := ob_low b147 f149 hg150 hwB (Nat.le_trans hwB hBs)
        have hBs := Nat.le_trans hBs hg150.1.size
        have hn150 : l150.length ≤ 2006 := by rw [hl150, List.length_append]; (try rw [nil_len]); first | (rw [bigv_length]; omega) | (rw [encS_len]; omega) | (rw [one_len]; omega) | (rw [two_len]; omega) | (rw [str_len]; omega) | (rw [mqtt_len]; omega) | (rw [hl145, bigv_length]; omega)
        refine fw_pu rfl (fw_dt (fw_rg rfl ?_))
        iterate 2 refine fw_pu rfl ?_
        refine fw_ld r152 rfl rfl ?_
        refine fw_to 99 rfl rfl rfl (fun a h => opTo_str (l := l150) (ad := a150) (c := c150) _ _ rfl (h.ev rfl) ho150 (h.ev rfl) (by omega) (by omega) hBs) ?_
        rintro _ V155 ⟨l154, a154, c154, rfl, hl154, hg154, ho154⟩
        have r156 := row_grew r152 hg154 (ob_off ho150 (by omega))
        have b157 := ob_low b153 ho150 hg154 hwB (Nat.le_trans hwB hBs)
        have hBs := Nat.le_trans hBs hg154.1.size
        have hn154 : l154.length ≤ 3009 := by rw [hl154, List.length_append]; (try rw [nil_len]); first | (rw [bigv_length]; omega) | (rw [encS_len]; omega) | (rw [one_len]; omega) | (rw [two_len]; omega) | (rw [str_len]; omega) | (rw [mqtt_len]; omega) | (rw [hl145, bigv_length]; omega)
        refine fw_pu rfl (fw_dn (fw_bn ?_))
        exact fw_th (fw_gf (hK7 _ _ ⟨B, l154, a154, c154, (by unfold preB; simp [hb_8, hb_128, hb_138, hb_144, hl140, hl150, hl145, hl154]), (by omega), hwB, hBs, (by omega), rfl, b157, r156, ho154⟩) ⟨rfl, (by first | rfl | (simp only [Look, cond, Nat.beq]; first | rfl | (congr 2; first | rfl | omega | (push_cast; omega)) | (simp; try omega))), trivial⟩)
      refine fw_cF rfl hb_144 (fw_sk (fw_th (fw_rg rfl ?_)))
      iterate 2 refine fw_pu rfl ?_
      refine fw_ld r142 rfl rfl ?_
      refine fw_to 99 rfl rfl rfl (fun a h => opTo_str (l := l140) (ad := a140) (c := c140) _ _ rfl (h.ev rfl) ho140 (h.ev rfl) (by omega) (by omega) hBs) ?_
      rintro _ V159 ⟨l158, a158, c158, rfl, hl158, hg158, ho158⟩
      have r160 := row_grew r142 hg158 (ob_off ho140 (by omega))
      have b161 := ob_low b143 ho140 hg158 hwB (Nat.le_trans hwB hBs)
      have hBs := Nat.le_trans hBs hg158.1.size
      have hn158 : l158.length ≤ 2006 := by rw [hl158, List.length_append]; (try rw [nil_len]); first | (rw [bigv_length]; omega) | (rw [encS_len]; omega) | (rw [one_len]; omega) | (rw [two_len]; omega) | (rw [str_len]; omega) | (rw [mqtt_len]; omega)
      refine fw_pu rfl (fw_dn (fw_bn ?_))
      exact fw_th (fw_gf (hK7 _ _ ⟨B, l158, a158, c158, (by unfold preB; simp [hb_8, hb_128, hb_138, hb_144, hl140, hl158]), (by omega), hwB, hBs, (by omega), rfl, b161, r160, ho158⟩) ⟨rfl, (by first | rfl | (simp only [Look, cond, Nat.beq]; first | rfl | (congr 2; first | rfl | omega | (push_cast; omega)) | (simp; try omega))), trivial⟩)
    refine fw_cF rfl hb_138 (fw_sq (fw_sq (fw_rg rfl ?_)))
    iterate 2 refine fw_pu rfl ?_
    refine fw_dt ?_
    rcases Bool.eq_false_or_eq_true ((m.k == 12)) with hb_162 | hb_162
    · skip
      refine fw_cT rfl hb_162 (fw_sk (fw_th (fw_cT rfl hb_162 (fw_sk (fw_bn ?_)))))
      obtain ⟨B, hB⟩ : ∃ x, x = W2.heap.size := ⟨_, rfl⟩
      have : q1 < B := by rw [hB]; exact r4.2.2
      have hwB : w.heap.size ≤ B := by rw [hB]; exact b6.size
      have hBs : B ≤ W2.heap.size := Nat.le_of_eq hB
      have ho163 := ob_nil W2 B
      exact fw_th (fw_gf (hK7 _ _ ⟨B, ([] : List UInt8), none, 0, (by unfold preB; simp [hb_8, hb_128, hb_138, hb_162]), (Nat.zero_le _), hwB, hBs, (by omega), rfl, b6, r4, ho163⟩) ⟨rfl, (by first | rfl | (simp only [Look, cond, Nat.beq]; first | rfl | (congr 2; first | rfl | omega | (push_cast; omega)) | (simp; try omega))), trivial⟩)
    refine fw_cF rfl hb_162 (fw_sq (fw_rg rfl ?_))
    iterate 2 refine fw_pu rfl ?_
    refine fw_dt ?_
    rcases Bool.eq_false_or_eq_true ((m.k == 13)) with hb_164 | hb_164
    · skip
      refine fw_cT rfl hb_164 (fw_sk (fw_th (fw_cT rfl hb_164 (fw_sk (fw_bn ?_)))))
      obtain ⟨B, hB⟩ : ∃ x, x = W2.heap.size := ⟨_, rfl⟩
      have : q1 < B := by rw [hB]; exact r4.2.2
      have hwB : w.heap.size ≤ B := by rw [hB]; exact b6.size
      have hBs : B ≤ W2.heap.size := Nat.le_of_eq hB
      have ho165 := ob_nil W2 B
      exact fw_th (fw_gf (hK7 _ _ ⟨B, ([] : List UInt8), none, 0, (by unfold preB; simp [hb_8, hb_128, hb_138, hb_162, hb_164]), (Nat.zero_le _), hwB, hBs, (by omega), rfl, b6, r4, ho165⟩) ⟨rfl, (by first | rfl | (simp only [Look, cond, Nat.beq]; first | rfl | (congr 2; first | rfl | omega | (push_cast; omega)) | (simp; try omega))), trivial⟩)
    refine fw_cF rfl hb_164 (fw_rg rfl ?_)
    iterate 2 refine fw_pu rfl ?_
    refine fw_dt ?_
    rcases Bool.eq_false_or_eq_true ((m.k == 14)) with hb_166 | hb_166
    · skip
      refine fw_cT rfl hb_166 (fw_sk (fw_bn ?_))
      obtain ⟨B, hB⟩ : ∃ x, x = W2.heap.size := ⟨_, rfl⟩
      have : q1 < B := by rw [hB]; exact r4.2.2
      have hwB : w.heap.size ≤ B := by rw [hB]; exact b6.size
      have hBs : B ≤ W2.heap.size := Nat.le_of_eq hB
      have ho167 := ob_nil W2 B
      exact fw_th (fw_gf (hK7 _ _ ⟨B, ([] : List UInt8), none, 0, (by unfold preB; simp [hb_8, hb_128, hb_138, hb_162, hb_164, hb_166]), (Nat.zero_le _), hwB, hBs, (by omega), rfl, b6, r4, ho167⟩) ⟨rfl, (by first | rfl | (simp only [Look, cond, Nat.beq]; first | rfl | (congr 2; first | rfl | omega | (push_cast; omega)) | (simp; try omega))), trivial⟩)
    refine fw_cF rfl hb_166 (fw_rg rfl (fw_pu rfl (fw_ld r4 rfl rfl ?_)))
    obtain ⟨B, hB⟩ : ∃ x, x = W2.heap.size := ⟨_, rfl⟩
    have : q1 < B := by rw [hB]; exact r4.2.2
    have hwB : w.heap.size ≤ B := by rw [hB]; exact b6.size
    have hBs : B ≤ W2.heap.size := Nat.le_of_eq hB
    have ho168 := ob_nil W2 B
    refine fw_ca Tryd.func88 rfl rfl rfl ((bigO m.id W2)) ?_
    rintro _ V170 ⟨l169, a169, c169, rfl, hl169, hb169, ho169⟩
    refine ⟨_, rfl, ?_⟩
    have hoX169 : OB V170 B a169 c169 l169 := by rw [hB]; exact ho169
    have hnX169 : l169.length ≤ 1003 := by rw [hl169, bigv_length]; decide
    have b171 := b6.trans (hb169.mono b6.size)
    have r172 := r4.below hb169
    have hBs := Nat.le_trans hBs hb169.size
    refine fw_pu rfl (fw_dn (fw_bn ?_))
    exact fw_th (fw_gf (hK7 _ _ ⟨B, l169, a169, c169, (by unfold preB; simp [hb_8, hb_128, hb_138, hb_162, hb_164, hb_166, hl169]), (by omega), hwB, hBs, (by omega), rfl, b171, r172, hoX169⟩) ⟨rfl, (by first | rfl | (simp only [Look, cond, Nat.beq]; first | rfl | (congr 2; first | rfl | omega | (push_cast; omega)) | (simp; try omega))), trivial⟩)
  rintro _ W173 ⟨B, lp, ap, cp, hlp, hnp, hwB, hBs, hqB, rfl, bW173, rW173_0, gW173_0⟩
  refine fw_sq (fw_sq (fw_rg rfl (fw_pu rfl (fw_dt (fw_bk ?_)))))
  refine fw_lp (fun N K W => ∃ (iw : Nat) (liw : List UInt8) (aiw : Option Addr) (ciw : Nat), N = m.ws.length - iw ∧ iw ≤ m.ws.length ∧ liw = lp ++ (m.ws.take iw).flatMap encW ∧ liw.length ≤ 11000 + iw * 2006 ∧ B ≤ W.heap.size ∧ K = [(1, .pointer (some ⟨q1, 0, none⟩)), (3, .slice aiw liw.length ciw), (5, .int .i64 ((iw : Nat) : Int))] ∧ Below w.heap.size w W ∧ RowAt W q1 (Mq.row m (.slice ac m.cs.length cc) (.slice aw m.ws.length cw) (.slice af m.fs.length cf)) ∧ OB W B aiw ciw liw) _ _ ⟨0, lp, ap, cp, rfl, Nat.zero_le _, (by simp), (by omega), hBs, rfl, bW173, rW173_0, gW173_0⟩ ⟨rfl, (by first | rfl | (simp only [Look, cond, Nat.beq]; first | rfl | (congr 2; first | rfl | omega | (push_cast; omega)) | (simp; try omega))), (by first | rfl | (simp only [Look, cond, Nat.beq]; first | rfl | (congr 2; first | rfl | omega | (push_cast; omega)) | (simp; try omega))), trivial⟩ ?_
  rintro N _ W175 ⟨iw, liw, aiw, ciw, rfl, hil, hliw, hlniw, hBs, rfl, bW175, rW175_0, gW175_0⟩
  intro K177 hK177
  refine fw_sq (fw_sq (fw_rg rfl ?_))
  iterate 2 refine fw_pu rfl ?_
  refine fw_ld rW175_0 rfl rfl ?_
  iterate 2 refine fw_pu rfl ?_
  refine fw_dt ?_
  rcases Bool.eq_false_or_eq_true ((decide (((iw : Nat) : Int) < ((m.ws.length : Nat) : Int)))) with hb_178 | hb_178
  · skip
    refine fw_cT rfl hb_178 (fw_sk (fw_th (fw_sq (fw_bk ?_))))
    have hiL : iw < m.ws.length := by have h := of_decide_eq_true hb_178; omega
    obtain ⟨x0, hx0⟩ : ∃ p, m.ws[iw]? = some p := ⟨_, List.getElem?_eq_getElem hiL⟩
    obtain ⟨bP, oP, haP, hbP, hcP⟩ := slR_at hL.w (i := iw) (q := rowWish x0) (by rw [List.getElem?_map, hx0]; rfl)
    have hsz := hS.wsf x0 (List.mem_of_getElem? hx0)
    refine fw_hr (fun X => Below w.heap.size w X ∧ RowAt X q1 (Mq.row m (.slice ac m.cs.length cc) (.slice aw m.ws.length cw) (.slice af m.fs.length cf))) (by kernel_rfl) 18 rfl ?_
    intro W179 s180
    have b181 := bW175.trans (s180.mono bW175.size)
    have r182 := rW175_0.below s180
    have f183 := (below_own gW175_0 s180)
    have hBs := Nat.le_trans hBs s180.size
    refine ⟨⟨b181, r182⟩, ?_⟩
    refine fw_tk 0 rfl rfl (by kernel_rfl) (fun _ _ _ _ _ h => h) ?_
    refine fw_tk 1 rfl rfl (by kernel_rfl) (fun _ _ _ _ _ h => h) ?_
    refine fw_tl 2 (fun _ h => h.2) rfl rfl rfl (by kernel_rfl) (fun _ _ _ _ _ h => h) ?_
    refine fw_tk 3 rfl rfl (by kernel_rfl) (fun _ _ _ _ _ h => h) ?_
    refine fw_tx 4 115 (.pointer (some ⟨bP, (oP + iw * 2), none⟩)) rfl rfl rfl rfl (fun a h W hW => by obtain ⟨b181, r182⟩ := hW; exact (run_indexOp (h.ev rfl) (h.ev rfl) (by rw [haP]; exact idxWs _ _ _ _ _ hiL _))) (by kernel_rfl) (fun _ _ _ _ _ h => h) ?_
    refine fw_tk 5 rfl rfl (by kernel_rfl) (fun _ _ _ _ _ h => h) ?_
    refine fw_tx 6 117 (.string x0.f) rfl rfl rfl rfl (fun a h W hW => by obtain ⟨b181, r182⟩ := hW; exact (run_loadOp (h.ev rfl) (ldS1 ((Below.cell b181 (p := ⟨bP, oP + iw * 2 + 0, none⟩) hbP).trans (hcP 0 _ rfl))))) (by kernel_rfl) (fun _ _ _ _ _ h => h) ?_
    refine fw_tk 8 rfl rfl (by kernel_rfl) (fun _ _ _ _ _ h => h) ?_
    refine fw_tl 9 (fun _ h => h.2) rfl rfl rfl (by kernel_rfl) (fun _ _ _ _ _ h => h) ?_
    refine fw_tk 10 rfl rfl (by kernel_rfl) (fun _ _ _ _ _ h => h) ?_
    refine fw_tx 11 122 (.pointer (some ⟨bP, (oP + iw * 2), none⟩)) rfl rfl rfl rfl (fun a h W hW => by obtain ⟨b181, r182⟩ := hW; exact (run_indexOp (h.ev rfl) (h.ev rfl) (by rw [haP]; exact idxWs _ _ _ _ _ hiL _))) (by kernel_rfl) (fun _ _ _ _ _ h => h) ?_
    refine fw_tk 12 rfl rfl (by kernel_rfl) (fun _ _ _ _ _ h => h) ?_
    refine fw_tx 13 124 (.int .i64 x0.q) rfl rfl rfl rfl (fun a h W hW => by obtain ⟨b181, r182⟩ := hW; exact (run_loadOp (h.ev rfl) (ldI1 ((Below.cell b181 (p := ⟨bP, oP + iw * 2 + 1, none⟩) hbP).trans (hcP 1 _ rfl))))) (by kernel_rfl) (fun _ _ _ _ _ h => h) ?_
    refine fw_tx 14 125 (B8 (b8I x0.q)) rfl rfl rfl rfl (fun a h W hW => by obtain ⟨b181, r182⟩ := hW; exact (run_convOp (h.ev rfl) (cvI8 _ _))) (by kernel_rfl) (fun _ _ _ _ _ h => h) ?_
    refine fw_o2 7 15 (by kernel_rfl) ?_ ?_
    · skip
      refine fw_oc rfl Tryd.func87 rfl rfl rfl (txtPut (l := liw) (ad := aiw) (c := ciw) x0.f f183 (by omega) (by omega) hBs) ?_
      rintro _ V185 ⟨l184, a184, c184, rfl, hl184, hg184, ho184⟩
      refine ⟨_, rfl, ?_⟩
      have r186 := row_grew r182 hg184 (ob_off f183 (by omega))
      have b187 := ob_low b181 f183 hg184 hwB (Nat.le_trans hwB hBs)
      have hBs := Nat.le_trans hBs hg184.1.size
      have hn184 : l184.length ≤ 12003 + iw * 2006 := by rw [hl184, List.length_append]; (try rw [nil_len]); first | (rw [bigv_length]; omega) | (rw [encS_len]; omega) | (rw [one_len]; omega) | (rw [two_len]; omega) | (rw [str_len]; omega) | (rw [mqtt_len]; omega)
      refine ⟨⟨b187, r186⟩, ?_⟩
      refine fw_o1 15 (by kernel_rfl) ?_
      refine fw_oa rfl (t := 5) (u := fun q => .slice (some ⟨q, 0, none⟩) 1 1) 126 [B8 (b8I x0.q)] rfl rfl rfl (fun a h => (bs8_1 _ (h.ev rfl))) ?_
      intro q188 W189 g192 s190 r191
      have := Nat.le_trans b187.size g192
      have := r186.lt g192
      have hapq188 := ob_new ho184 g192
      have b193 := b187.trans (s190.mono b187.size)
      have r194 := r186.below s190
      have f195 := (below_own ho184 s190)
      have hBs := Nat.le_trans hBs s190.size
      refine ⟨⟨b193, r194⟩, ?_⟩
      refine fw_o1 16 (by kernel_rfl) ?_
      refine fw_ot rfl 127 rfl rfl rfl (fun a h => opTo_byt (l := l184) (ad := a184) (c := c184) _ _ rfl (h.ev rfl) f195 (h.ev rfl) (slB _ _ (b8I x0.q) r191) (by omega) (by simp) hBs) ?_
      rintro _ V197 ⟨l196, a196, c196, rfl, hl196, hg196, ho196⟩
      have r198 := row_grew r194 hg196 (ob_off f195 (by omega))
      have r199 := row_grew r191 hg196 hapq188
      replace hapq188 := grew_off hg196 hapq188 r191.2.2
      have b200 := ob_low b193 f195 hg196 hwB (Nat.le_trans hwB hBs)
      have hBs := Nat.le_trans hBs hg196.1.size
      have hn196 : l196.length ≤ 13006 + iw * 2006 := by rw [hl196, List.length_append]; (try rw [nil_len]); first | (rw [bigv_length]; omega) | (rw [encS_len]; omega) | (rw [one_len]; omega) | (rw [two_len]; omega) | (rw [str_len]; omega) | (rw [mqtt_len]; omega)
      refine ⟨⟨b200, r198⟩, ?_⟩
      refine fw_tk 17 rfl rfl (by kernel_rfl) (fun _ _ _ _ _ h => h) ?_
      refine fw_hz (by kernel_rfl) ?_
      refine fw_bn (fw_th (fw_rg rfl (fw_pu rfl ?_)))
      refine fw_ex 110 (.int .i64 (((iw + 1) : Nat) : Int)) rfl rfl rfl (fun a h => (run_binOp (h.ev rfl) (h.ev rfl) (by simp [go_sem]) (addIw _ _ _ _ (by omega) (by omega) (by omega)))) ?_
      refine fw_pu rfl (fw_dn ?_)
      exact fw_th (fw_gf (hK177 _ _ _ (by omega) ⟨(iw + 1), l196, a196, c196, rfl, hiL, (by rw [hl196, hl184, hliw, take_fm hx0]; simp [encW]), (by omega), hBs, rfl, b200, r198, ho196⟩) ⟨rfl, (by first | rfl | (simp only [Look, cond, Nat.beq]; first | rfl | (congr 2; first | rfl | omega | (push_cast; omega)) | (simp; try omega))), (by first | rfl | (simp only [Look, cond, Nat.beq]; first | rfl | (congr 2; first | rfl | omega | (push_cast; omega)) | (simp; try omega))), trivial⟩)
    refine fw_oa rfl (t := 5) (u := fun q => .slice (some ⟨q, 0, none⟩) 1 1) 126 [B8 (b8I x0.q)] rfl rfl rfl (fun a h => (bs8_1 _ (h.ev rfl))) ?_
    intro q201 W202 g205 s203 r204
    have := Nat.le_trans b181.size g205
    have := r182.lt g205
    have hapq201 := ob_new f183 g205
    have b206 := b181.trans (s203.mono b181.size)
    have r207 := r182.below s203
    have f208 := (below_own f183 s203)
    have hBs := Nat.le_trans hBs s203.size
    refine ⟨⟨b206, r207⟩, ?_⟩
    refine fw_o1 7 (by kernel_rfl) ?_
    refine fw_oc rfl Tryd.func87 rfl rfl rfl (txtPut (l := liw) (ad := aiw) (c := ciw) x0.f f208 (by omega) (by omega) hBs) ?_
    rintro _ V210 ⟨l209, a209, c209, rfl, hl209, hg209, ho209⟩
    refine ⟨_, rfl, ?_⟩
    have r211 := row_grew r207 hg209 (ob_off f208 (by omega))
    have r212 := row_grew r204 hg209 hapq201
    replace hapq201 := grew_off hg209 hapq201 r204.2.2
    have b213 := ob_low b206 f208 hg209 hwB (Nat.le_trans hwB hBs)
    have hBs := Nat.le_trans hBs hg209.1.size
    have hn209 : l209.length ≤ 12003 + iw * 2006 := by rw [hl209, List.length_append]; (try rw [nil_len]); first | (rw [bigv_length]; omega) | (rw [encS_len]; omega) | (rw [one_len]; omega) | (rw [two_len]; omega) | (rw [str_len]; omega) | (rw [mqtt_len]; omega)
    refine ⟨⟨b213, r211⟩, ?_⟩
    refine fw_o1 16 (by kernel_rfl) ?_
    refine fw_ot rfl 127 rfl rfl rfl (fun a h => opTo_byt (l := l209) (ad := a209) (c := c209) _ _ rfl (h.ev rfl) ho209 (h.ev rfl) (slB _ _ (b8I x0.q) r212) (by omega) (by simp) hBs) ?_
    rintro _ V215 ⟨l214, a214, c214, rfl, hl214, hg214, ho214⟩
    have r216 := row_grew r211 hg214 (ob_off ho209 (by omega))
    have r217 := row_grew r212 hg214 hapq201
    replace hapq201 := grew_off hg214 hapq201 r212.2.2
    have b218 := ob_low b213 ho209 hg214 hwB (Nat.le_trans hwB hBs)
    have hBs := Nat.le_trans hBs hg214.1.size
    have hn214 : l214.length ≤ 13006 + iw * 2006 := by rw [hl214, List.length_append]; (try rw [nil_len]); first | (rw [bigv_length]; omega) | (rw [encS_len]; omega) | (rw [one_len]; omega) | (rw [two_len]; omega) | (rw [str_len]; omega) | (rw [mqtt_len]; omega)
    refine ⟨⟨b218, r216⟩, ?_⟩
    refine fw_tk 17 rfl rfl (by kernel_rfl) (fun _ _ _ _ _ h => h) ?_
    refine fw_hz (by kernel_rfl) ?_
    refine fw_bn (fw_th (fw_rg rfl (fw_pu rfl ?_)))
    refine fw_ex 110 (.int .i64 (((iw + 1) : Nat) : Int)) rfl rfl rfl (fun a h => (run_binOp (h.ev rfl) (h.ev rfl) (by simp [go_sem]) (addIw _ _ _ _ (by omega) (by omega) (by omega)))) ?_
    refine fw_pu rfl (fw_dn ?_)
    exact fw_th (fw_gf (hK177 _ _ _ (by omega) ⟨(iw + 1), l214, a214, c214, rfl, hiL, (by rw [hl214, hl209, hliw, take_fm hx0]; simp [encW]), (by omega), hBs, rfl, b218, r216, ho214⟩) ⟨rfl, (by first | rfl | (simp only [Look, cond, Nat.beq]; first | rfl | (congr 2; first | rfl | omega | (push_cast; omega)) | (simp; try omega))), (by first | rfl | (simp only [Look, cond, Nat.beq]; first | rfl | (congr 2; first | rfl | omega | (push_cast; omega)) | (simp; try omega))), trivial⟩)
  refine fw_cF rfl hb_178 (fw_xt (fw_te (fw_te (fw_be (fw_th (fw_sq (fw_sq ?_)))))))
  have hiiw : iw = m.ws.length := by have h := of_decide_eq_false hb_178; omega
  rw [hiiw, List.take_length] at hliw
  have hniwx : liw.length ≤ 27048 := by omega
  refine fw_rg rfl (fw_pu rfl (fw_dt (fw_bk ?_)))
  refine fw_lp (fun N K W => ∃ (ic : Nat) (lic : List UInt8) (aic : Option Addr) (cic : Nat), N = m.cs.length - ic ∧ ic ≤ m.cs.length ∧ lic = liw ++ (m.cs.take ic).map b8I ∧ lic.length ≤ 27048 + ic * 2006 ∧ B ≤ W.heap.size ∧ K = [(1, .pointer (some ⟨q1, 0, none⟩)), (3, .slice aic lic.length cic), (6, .int .i64 ((ic : Nat) : Int))] ∧ Below w.heap.size w W ∧ RowAt W q1 (Mq.row m (.slice ac m.cs.length cc) (.slice aw m.ws.length cw) (.slice af m.fs.length cf)) ∧ OB W B aic cic lic) _ _ ⟨0, liw, aiw, ciw, rfl, Nat.zero_le _, (by simp), (by omega), hBs, rfl, bW175, rW175_0, gW175_0⟩ ⟨rfl, (by first | rfl | (simp only [Look, cond, Nat.beq]; first | rfl | (congr 2; first | rfl | omega | (push_cast; omega)) | (simp; try omega))), (by first | rfl | (simp only [Look, cond, Nat.beq]; first | rfl | (congr 2; first | rfl | omega | (push_cast; omega)) | (simp; try omega))), trivial⟩ ?_
  rintro N _ W219 ⟨ic, lic, aic, cic, rfl, hil, hlic, hlnic, hBs, rfl, bW219, rW219_0, gW219_0⟩
  intro K221 hK221
  refine fw_sq (fw_sq (fw_rg rfl ?_))
  iterate 2 refine fw_pu rfl ?_
  refine fw_ld rW219_0 rfl rfl ?_
  iterate 2 refine fw_pu rfl ?_
  refine fw_dt ?_
  rcases Bool.eq_false_or_eq_true ((decide (((ic : Nat) : Int) < ((m.cs.length : Nat) : Int)))) with hb_222 | hb_222
  · skip
    refine fw_cT rfl hb_222 (fw_sk (fw_th (fw_sq (fw_bk ?_))))
    have hiL : ic < m.cs.length := by have h := of_decide_eq_true hb_222; omega
    obtain ⟨x0, hx0⟩ : ∃ p, m.cs[ic]? = some p := ⟨_, List.getElem?_eq_getElem hiL⟩
    obtain ⟨bP, oP, haP, hbP, hcP⟩ := slR_at hL.c (i := ic) (q := cn x0) (by rw [List.getElem?_map, hx0]; rfl)
    refine fw_rg rfl ?_
    iterate 2 refine fw_pu rfl ?_
    refine fw_ld rW219_0 rfl rfl (fw_pu rfl ?_)
    refine fw_ex 139 (.pointer (some ⟨bP, (oP + ic * 1), none⟩)) rfl rfl rfl (fun a h => (run_indexOp (h.ev rfl) (h.ev rfl) (by rw [haP]; exact idxIs _ _ _ _ _ hiL _))) ?_
    refine fw_ex 140 (.int .i64 x0) rfl rfl rfl (fun a h => (run_loadOp (h.ev rfl) (ldI1 ((Below.cell bW219 (p := ⟨bP, oP + ic * 1, none⟩) hbP).trans (hcP 0 _ rfl))))) ?_
    refine fw_ex 141 (B8 (b8I x0)) rfl rfl rfl (fun a h => (run_convOp (h.ev rfl) (cvI8 _ _))) ?_
    refine fw_al (t := 5) (u := fun q => .slice (some ⟨q, 0, none⟩) 1 1) 142 [B8 (b8I x0)] rfl rfl rfl (fun a h => (bs8_1 _ (h.ev rfl))) ?_
    intro q223 W224 g227 s225 r226
    have := Nat.le_trans bW219.size g227
    have := rW219_0.lt g227
    have hapq223 := ob_new gW219_0 g227
    have b228 := bW219.trans (s225.mono bW219.size)
    have r229 := rW219_0.below s225
    have f230 := (below_own gW219_0 s225)
    have hBs := Nat.le_trans hBs s225.size
    refine fw_to 143 rfl rfl rfl (fun a h => opTo_byt (l := lic) (ad := aic) (c := cic) _ _ rfl (h.ev rfl) f230 (h.ev rfl) (slB _ _ (b8I x0) r226) (by omega) (by simp) hBs) ?_
    rintro _ V232 ⟨l231, a231, c231, rfl, hl231, hg231, ho231⟩
    have r233 := row_grew r229 hg231 (ob_off f230 (by omega))
    have r234 := row_grew r226 hg231 hapq223
    replace hapq223 := grew_off hg231 hapq223 r226.2.2
    have b235 := ob_low b228 f230 hg231 hwB (Nat.le_trans hwB hBs)
    have hBs := Nat.le_trans hBs hg231.1.size
    have hn231 : l231.length ≤ 28051 + ic * 2006 := by rw [hl231, List.length_append]; (try rw [nil_len]); first | (rw [bigv_length]; omega) | (rw [encS_len]; omega) | (rw [one_len]; omega) | (rw [two_len]; omega) | (rw [str_len]; omega) | (rw [mqtt_len]; omega)
    refine fw_pu rfl (fw_dn (fw_bn (fw_th (fw_rg rfl (fw_pu rfl ?_)))))
    refine fw_ex 134 (.int .i64 (((ic + 1) : Nat) : Int)) rfl rfl rfl (fun a h => (run_binOp (h.ev rfl) (h.ev rfl) (by simp [go_sem]) (addIw _ _ _ _ (by omega) (by omega) (by omega)))) ?_
    refine fw_pu rfl (fw_dn ?_)
    exact fw_th (fw_gf (hK221 _ _ _ (by omega) ⟨(ic + 1), l231, a231, c231, rfl, hiL, (by rw [hl231, hlic, take_mp hx0]; simp [List.append_assoc]), (by omega), hBs, rfl, b235, r233, ho231⟩) ⟨rfl, (by first | rfl | (simp only [Look, cond, Nat.beq]; first | rfl | (congr 2; first | rfl | omega | (push_cast; omega)) | (simp; try omega))), (by first | rfl | (simp only [Look, cond, Nat.beq]; first | rfl | (congr 2; first | rfl | omega | (push_cast; omega)) | (simp; try omega))), trivial⟩)
  refine fw_cF rfl hb_222 (fw_xt (fw_te (fw_te (fw_be (fw_th (fw_sq (fw_sq ?_)))))))
  have hiic : ic = m.cs.length := by have h := of_decide_eq_false hb_222; omega
  rw [hiic, List.take_length] at hlic
  have hnicx : lic.length ≤ 43096 := by omega
  refine fw_rg rfl (fw_pu rfl (fw_dt (fw_bk ?_)))
  refine fw_lp (fun N K W => ∃ (jf : Nat) (ljf : List UInt8) (ajf : Option Addr) (cjf : Nat), N = m.fs.length - jf ∧ jf ≤ m.fs.length ∧ ljf = lic ++ (m.fs.take jf).flatMap encS ∧ ljf.length ≤ 43096 + jf * 2006 ∧ B ≤ W.heap.size ∧ K = [(1, .pointer (some ⟨q1, 0, none⟩)), (3, .slice ajf ljf.length cjf), (7, .int .i64 ((jf : Nat) : Int))] ∧ Below w.heap.size w W ∧ RowAt W q1 (Mq.row m (.slice ac m.cs.length cc) (.slice aw m.ws.length cw) (.slice af m.fs.length cf)) ∧ OB W B ajf cjf ljf) _ _ ⟨0, lic, aic, cic, rfl, Nat.zero_le _, (by simp), (by omega), hBs, rfl, bW219, rW219_0, gW219_0⟩ ⟨rfl, (by first | rfl | (simp only [Look, cond, Nat.beq]; first | rfl | (congr 2; first | rfl | omega | (push_cast; omega)) | (simp; try omega))), (by first | rfl | (simp only [Look, cond, Nat.beq]; first | rfl | (congr 2; first | rfl | omega | (push_cast; omega)) | (simp; try omega))), trivial⟩ ?_
  rintro N _ W236 ⟨jf, ljf, ajf, cjf, rfl, hil, hljf, hlnjf, hBs, rfl, bW236, rW236_0, gW236_0⟩
  intro K238 hK238
  refine fw_sq (fw_sq (fw_rg rfl ?_))
  iterate 2 refine fw_pu rfl ?_
  refine fw_ld rW236_0 rfl rfl ?_
  iterate 2 refine fw_pu rfl ?_
  refine fw_dt ?_
  rcases Bool.eq_false_or_eq_true ((decide (((jf : Nat) : Int) < ((m.fs.length : Nat) : Int)))) with hb_239 | hb_239
  · skip
    refine fw_cT rfl hb_239 (fw_sk (fw_th (fw_sq (fw_bk ?_))))
    have hiL : jf < m.fs.length := by have h := of_decide_eq_true hb_239; omega
    obtain ⟨x0, hx0⟩ : ∃ p, m.fs[jf]? = some p := ⟨_, List.getElem?_eq_getElem hiL⟩
    obtain ⟨bP, oP, haP, hbP, hcP⟩ := slR_at hL.f (i := jf) (q := cs1 x0) (by rw [List.getElem?_map, hx0]; rfl)
    have hsz := hS.fsf x0 (List.mem_of_getElem? hx0)
    refine fw_rg rfl ?_
    iterate 2 refine fw_pu rfl ?_
    refine fw_ld rW236_0 rfl rfl (fw_pu rfl ?_)
    refine fw_ex 155 (.pointer (some ⟨bP, (oP + jf * 1), none⟩)) rfl rfl rfl (fun a h => (run_indexOp (h.ev rfl) (h.ev rfl) (by rw [haP]; exact idxSs _ _ _ _ _ hiL _))) ?_
    refine fw_ex 156 (.string x0) rfl rfl rfl (fun a h => (run_loadOp (h.ev rfl) (ldS1 ((Below.cell bW236 (p := ⟨bP, oP + jf * 1, none⟩) hbP).trans (hcP 0 _ rfl))))) ?_
    refine fw_ca Tryd.func87 rfl rfl rfl (txtPut (l := ljf) (ad := ajf) (c := cjf) x0 gW236_0 (by omega) (by omega) hBs) ?_
    rintro _ V241 ⟨l240, a240, c240, rfl, hl240, hg240, ho240⟩
    refine ⟨_, rfl, ?_⟩
    have r242 := row_grew rW236_0 hg240 (ob_off gW236_0 (by omega))
    have b243 := ob_low bW236 gW236_0 hg240 hwB (Nat.le_trans hwB hBs)
    have hBs := Nat.le_trans hBs hg240.1.size
    have hn240 : l240.length ≤ 44099 + jf * 2006 := by rw [hl240, List.length_append]; (try rw [nil_len]); first | (rw [bigv_length]; omega) | (rw [encS_len]; omega) | (rw [one_len]; omega) | (rw [two_len]; omega) | (rw [str_len]; omega) | (rw [mqtt_len]; omega)
    refine fw_pu rfl (fw_dn (fw_bn (fw_th (fw_rg rfl (fw_pu rfl ?_)))))
    refine fw_ex 150 (.int .i64 (((jf + 1) : Nat) : Int)) rfl rfl rfl (fun a h => (run_binOp (h.ev rfl) (h.ev rfl) (by simp [go_sem]) (addIw _ _ _ _ (by omega) (by omega) (by omega)))) ?_
    refine fw_pu rfl (fw_dn ?_)
    exact fw_th (fw_gf (hK238 _ _ _ (by omega) ⟨(jf + 1), l240, a240, c240, rfl, hiL, (by rw [hl240, hljf, take_fm hx0]; simp [List.append_assoc]), (by omega), hBs, rfl, b243, r242, ho240⟩) ⟨rfl, (by first | rfl | (simp only [Look, cond, Nat.beq]; first | rfl | (congr 2; first | rfl | omega | (push_cast; omega)) | (simp; try omega))), (by first | rfl | (simp only [Look, cond, Nat.beq]; first | rfl | (congr 2; first | rfl | omega | (push_cast; omega)) | (simp; try omega))), trivial⟩)
  refine fw_cF rfl hb_239 (fw_xt (fw_te (fw_te (fw_be (fw_th (fw_sq ?_))))))
  have hijf : jf = m.fs.length := by have h := of_decide_eq_false hb_239; omega
  rw [hijf, List.take_length] at hljf
  have hnjfx : ljf.length ≤ 59144 := by omega
  refine fw_rg rfl ?_
  iterate 2 refine fw_pu rfl ?_
  refine fw_dt (fw_rt ?_)
  refine ⟨fun a h => ?_⟩
  exact ow_ret1 rfl h.df (h.g 2 rfl) ⟨_, _, _, rfl, by rw [hljf, hlic, hliw, hlp]; exact bd_pre hm, by omega, own_mono gW236_0 hwB, bW236⟩
theorem or128u (n : Nat) (h : n < 128) : b8I (n : Int) ||| 128 = UInt8.ofNat (n + 128) := by
  have h0 : ((List.range 128).all fun n => b8I ((n : Nat) : Int) ||| 128 == UInt8.ofNat (n + 128)) = true := by decide +kernel
  exact beq_iff_eq.1 (List.all_eq_true.1 h0 n (List.mem_range.2 h))
theorem u8or128 (n : Nat) (h : n < 128) (w : World) : (binOp .or 5 (B8 (b8I (n : Int))) (.int .u8 128)).run Tryd.prog w = .ok (B8 (UInt8.ofNat (n + 128))) w := by
  rw [show (Value.int .u8 128) = B8 128 from rfl, u8or, or128u n h]
theorem hd8_3 {m : Mq} (hk : (m.k == 3) = true) (hq : 0 ≤ m.q ∧ m.q ≤ 2) : (UInt8.ofNat (UInt8.toNat (b8I m.k) * 2 ^ 4) ||| ((bt m.dup 8 ||| UInt8.ofNat (UInt8.toNat (b8I m.q) * 2 ^ 1)) ||| bt m.re 1)) = hdG m := by
  have h := fl8_all m.dup m.re ⟨m.q.toNat, by omega⟩
  have e : ((⟨m.q.toNat, by omega⟩ : Fin 3).val : Int) = m.q := by simp; omega
  rw [e] at h
  unfold hdG flG
  rw [if_pos hk, beq_iff_eq.1 hk]
  exact h
theorem hd8_2 {m : Mq} (hk : 1 ≤ m.k ∧ m.k ≤ 14) (h3 : (m.k == 3) = false) (h : (m.k == 6 || m.k == 8 || m.k == 10) = true) : (UInt8.ofNat (UInt8.toNat (b8I m.k) * 2 ^ 4) ||| 2) = hdG m := by
  have g := (hd8_all ⟨m.k.toNat, by omega⟩).1
  have e : ((⟨m.k.toNat, by omega⟩ : Fin 15).val : Int) = m.k := by simp; omega
  rw [e] at g
  unfold hdG flG
  rw [if_neg (by rw [h3]; simp), if_pos h]
  exact g
theorem hd8_0 {m : Mq} (hk : 1 ≤ m.k ∧ m.k ≤ 14) (h3 : (m.k == 3) = false) (h : (m.k == 6 || m.k == 8 || m.k == 10) = false) : (UInt8.ofNat (UInt8.toNat (b8I m.k) * 2 ^ 4) ||| 0) = hdG m := by
  have g := (hd8_all ⟨m.k.toNat, by omega⟩).2
  have e : ((⟨m.k.toNat, by omega⟩ : Fin 15).val : Int) = m.k := by simp; omega
  rw [e] at g
  unfold hdG flG
  rw [if_neg (by rw [h3]; simp), if_neg (by rw [h]; simp)]
  exact g
set_option maxRecDepth 100000 in
set_option maxHeartbeats 4000000 in
theorem rbytesX (m : Mq) (ac aw af : Option Addr) (nc nw nf cc cw cf : Nat) (w : World) (hL : m.Lists w (.slice ac nc cc) (.slice aw nw cw) (.slice af nf cf)) (hS : Small m) (hm : mayG m = true) :
    Calls Tryd.prog 27 #[.agg (Mq.row m (.slice ac nc cc) (.slice aw nw cw) (.slice af nf cf)).toArray] w fun e w' => ∃ l a c, e = .returned (.slice a l.length c) ∧ l = enG m ∧ OB w' w.heap.size a c l ∧ Below w.heap.size w w' := by
  obtain rfl : nc = m.cs.length := by have := slR_len hL.c; simpa using this
  obtain rfl : nw = m.ws.length := by have := slR_len hL.w; simpa using this
  obtain rfl : nf = m.fs.length := by have := slR_len hL.f; simpa using this
  have hb0 := Below.refl w.heap.size w
  have hS0 := hS.cl
  have hS1 := hS.wT
  have hS2 := hS.wP
  have hS3 := hS.us
  have hS4 := hS.pa
  have hS5 := hS.top
  have hS6 := hS.pay
  have hS7 := hS.wQ
  have hS8 := hS.q
  have hS9 := hS.k
  have hS10 := hS.cs
  have hS11 := hS.ws
  have hS12 := hS.fs
  refine fw_en 57 [(0, .agg (Mq.row m (.slice ac m.cs.length cc) (.slice aw m.ws.length cw) (.slice af m.fs.length cf)).toArray)] Tryd.func27 rfl Tryd.ntmps27 rfl ⟨rfl, trivial⟩ ?_
  refine fw_sq (fw_rg rfl (fw_bx rfl (cs := [.int .i64 m.k, .string m.cl, .bool m.clean, .int .i64 m.keep, .bool m.wI, .string m.wT, .string m.wP, .int .i64 m.wQ, .bool m.wR, .string m.us, .bool m.hu, .string m.pa, .bool m.hp, .bool m.pres, .int .i64 m.code, .slice ac m.cs.length cc, .bool m.dup, .int .i64 m.q, .bool m.re, .string m.top, .int .i64 m.id, .string m.pay, .slice aw m.ws.length cw, .slice af m.fs.length cf]) rfl ?_))
  intro q1 W2 g5 s3 r4
  have := Nat.le_trans hb0.size g5
  have b6 := hb0.trans (s3.mono hb0.size)
  refine fw_pu rfl (fw_dt (fw_sq (fw_rg rfl (fw_pu rfl (fw_dt (fw_sq (fw_sq (fw_rg rfl (fw_pu rfl (fw_ld r4 rfl rfl (fw_dt (fw_bk (fw_sq ?_)))))))))))))
  refine fw_rg rfl ?_
  iterate 2 refine fw_pu rfl ?_
  refine fw_dt ?_
  rcases Bool.eq_false_or_eq_true ((m.k == 3)) with hb_7 | hb_7
  · skip
    refine fw_cT rfl hb_7 ?_
    refine fw_hr (fun X => Below w.heap.size w X ∧ RowAt X q1 (Mq.row m (.slice ac m.cs.length cc) (.slice aw m.ws.length cw) (.slice af m.fs.length cf))) (by kernel_rfl) 13 rfl ?_
    intro W8 s9
    have b10 := b6.trans (s9.mono b6.size)
    have r11 := r4.below s9
    refine ⟨⟨b10, r11⟩, ?_⟩
    refine fw_tk 0 rfl rfl (by kernel_rfl) (fun _ _ _ _ _ h => h) ?_
    refine fw_tl 1 (fun _ h => h.2) rfl rfl rfl (by kernel_rfl) (fun _ _ _ _ _ h => h) ?_
    refine fw_tk 3 rfl rfl (by kernel_rfl) (fun _ _ _ _ _ h => h) ?_
    refine fw_tl 4 (fun _ h => h.2) rfl rfl rfl (by kernel_rfl) (fun _ _ _ _ _ h => h) ?_
    refine fw_tx 5 16 (B8 (b8I m.q)) rfl rfl rfl rfl (fun a h W hW => by obtain ⟨b10, r11⟩ := hW; exact (run_convOp (h.ev rfl) (cvI8 _ _))) (by kernel_rfl) (fun _ _ _ _ _ h => h) ?_
    refine fw_tx 6 17 (B8 (UInt8.ofNat (UInt8.toNat (b8I m.q) * 2 ^ 1))) rfl rfl rfl rfl (fun a h W hW => by obtain ⟨b10, r11⟩ := hW; exact (run_binOp (h.ev rfl) (h.ev rfl) (by simp [go_sem]) (u8shl (b8I m.q) 1 (by decide) _))) (by kernel_rfl) (fun _ _ _ _ _ h => h) ?_
    refine fw_tk 8 rfl rfl (by kernel_rfl) (fun _ _ _ _ _ h => h) ?_
    refine fw_tl 9 (fun _ h => h.2) rfl rfl rfl (by kernel_rfl) (fun _ _ _ _ _ h => h) ?_
    refine fw_o1 2 (by kernel_rfl) ?_
    refine fw_oc rfl Tryd.func61 rfl rfl rfl ((btG m.dup 8 W8)) ?_
    rintro _ _ ⟨rfl, rfl⟩
    refine ⟨_, rfl, ?_⟩
    refine ⟨⟨b10, r11⟩, ?_⟩
    refine fw_tx 7 18 (B8 ((bt m.dup 8) ||| (UInt8.ofNat (UInt8.toNat (b8I m.q) * 2 ^ 1)))) rfl rfl rfl rfl (fun a h W hW => by obtain ⟨b10, r11⟩ := hW; exact (run_binOp (h.ev rfl) (h.ev rfl) (by simp [go_sem]) (u8or (bt m.dup 8) (UInt8.ofNat (UInt8.toNat (b8I m.q) * 2 ^ 1)) _))) (by kernel_rfl) (fun _ _ _ _ _ h => h) ?_
    refine fw_o1 10 (by kernel_rfl) ?_
    refine fw_oc rfl Tryd.func61 rfl rfl rfl ((btG m.re 1 W8)) ?_
    rintro _ _ ⟨rfl, rfl⟩
    refine ⟨_, rfl, ?_⟩
    refine ⟨⟨b10, r11⟩, ?_⟩
    refine fw_tx 11 22 (B8 (((bt m.dup 8) ||| (UInt8.ofNat (UInt8.toNat (b8I m.q) * 2 ^ 1))) ||| (bt m.re 1))) rfl rfl rfl rfl (fun a h W hW => by obtain ⟨b10, r11⟩ := hW; exact (run_binOp (h.ev rfl) (h.ev rfl) (by simp [go_sem]) (u8or ((bt m.dup 8) ||| (UInt8.ofNat (UInt8.toNat (b8I m.q) * 2 ^ 1))) (bt m.re 1) _))) (by kernel_rfl) (fun _ _ _ _ _ h => h) ?_
    refine fw_tk 12 rfl rfl (by kernel_rfl) (fun _ _ _ _ _ h => h) ?_
    refine fw_hz (by kernel_rfl) ?_
    refine fw_bn (fw_th (fw_sq (fw_rg rfl (fw_ld r11 rfl rfl (fw_ca Tryd.func62 rfl rfl rfl (rbodyX m ac aw af _ _ _ cc cw cf W8 (hL.below b10) hS hm) ?_)))))
    rintro _ VC ⟨lC, aC, cC, rfl, hlC, hnC, hoC, hbC⟩
    refine ⟨_, rfl, ?_⟩
    replace hoC := own_mono hoC b10.size
    have b12 := b10.trans (hbC.mono b10.size)
    have r13 := r11.below hbC
    refine fw_pu rfl (fw_dt (fw_sq (fw_rg rfl (fw_pu rfl (fw_ld r13 rfl rfl (fw_ex 31 (B8 (b8I m.k)) rfl rfl rfl (fun a h => (run_convOp (h.ev rfl) (cvI8 _ _))) ?_))))))
    refine fw_ex 32 (B8 (UInt8.ofNat (UInt8.toNat (b8I m.k) * 2 ^ 4))) rfl rfl rfl (fun a h => (run_binOp (h.ev rfl) (h.ev rfl) (by simp [go_sem]) (u8shl (b8I m.k) 4 (by decide) _))) ?_
    refine fw_pu rfl ?_
    refine fw_ex 34 (B8 ((UInt8.ofNat (UInt8.toNat (b8I m.k) * 2 ^ 4)) ||| (((bt m.dup 8) ||| (UInt8.ofNat (UInt8.toNat (b8I m.q) * 2 ^ 1))) ||| (bt m.re 1)))) rfl rfl rfl (fun a h => (run_binOp (h.ev rfl) (h.ev rfl) (by simp [go_sem]) (u8or (UInt8.ofNat (UInt8.toNat (b8I m.k) * 2 ^ 4)) (((bt m.dup 8) ||| (UInt8.ofNat (UInt8.toNat (b8I m.q) * 2 ^ 1))) ||| (bt m.re 1)) _))) ?_
    rw [hd8_3 hb_7 hS8]
    obtain ⟨B, hB⟩ : ∃ x, x = VC.heap.size := ⟨_, rfl⟩
    have hwB : w.heap.size ≤ B := by rw [hB]; exact b12.size
    have : q1 < B := by rw [hB]; exact r13.2.2
    have hloC : ∀ k, (Value.slice aC lC.length cC).ownBlock = some k → k < B := fun k hk => by rw [hB]; exact (blk_lt hoC hk).2
    refine fw_to 35 rfl rfl rfl (fun a h => opTo_bs1 rfl (h.ev rfl)) ?_
    rintro _ V14 ⟨l15, a15, c15, rfl, hl15, hbb15, ho15⟩
    have hBs : B ≤ V14.heap.size := by rw [hB]; exact hbb15.size
    rw [← hB] at ho15
    have b16 := b12.trans (hbb15.mono b12.size)
    have r17 := r13.below hbb15
    have f18 := (below_own hoC hbb15)
    have hn15 : l15.length ≤ 1 := by rw [hl15]; exact Nat.le_refl _
    refine fw_pu rfl (fw_dt (fw_sq (fw_rg rfl ?_)))
    iterate 3 refine fw_pu rfl ?_
    refine fw_dt (fw_sq (fw_bk ?_))
    refine fw_lp (fun N K W => ∃ (j : Nat) (lj : List UInt8) (aj : Option Addr) (cj : Nat), N = j + 1 ∧ j ≤ lC.length ∧ lj ++ lenG j = [hdG m] ++ lenG lC.length ∧ lj.length + j ≤ 1 + lC.length ∧ B ≤ W.heap.size ∧ K = [(4, .slice aC lC.length cC), (5, .slice aj lj.length cj), (6, .int .i64 ((j : Nat) : Int))] ∧ Below w.heap.size w W ∧ OB W w.heap.size aC cC lC ∧ OB W B aj cj lj) _ _ ⟨lC.length, l15, a15, c15, rfl, Nat.le_refl _, (by rw [hl15]), (by rw [hl15]; simp), hBs, rfl, b16, f18, ho15⟩ ⟨rfl, (by first | rfl | (simp only [Look, cond, Nat.beq]; first | rfl | (congr 2; first | rfl | omega | (push_cast; omega)) | (simp; try omega))), (by first | rfl | (simp only [Look, cond, Nat.beq]; first | rfl | (congr 2; first | rfl | omega | (push_cast; omega)) | (simp; try omega))), trivial⟩ ?_
    rintro N _ W19 ⟨j, lj, aj, cj, rfl, hjn, hlj, hln, hBs, rfl, bW19, fW19_0, gW19_0⟩
    intro K21 hK21
    refine fw_sq (fw_sq (fw_rg rfl ?_))
    iterate 2 refine fw_pu rfl ?_
    refine fw_dt ?_
    rcases Bool.eq_false_or_eq_true ((decide (128 ≤ ((j : Nat) : Int)))) with hb_22 | hb_22
    · skip
      refine fw_cT rfl hb_22 (fw_sk (fw_th (fw_bk (fw_sq ?_))))
      have hj := of_decide_eq_true hb_22
      have hj1 : 128 ≤ j := by omega
      have hst := lenG_step hj1 (by omega)
      have hjm : j % 128 < 128 := Nat.mod_lt _ (by decide)
      refine fw_rg rfl ?_
      iterate 2 refine fw_pu rfl ?_
      refine fw_ex 42 (.int .i64 (((j % 128) : Nat) : Int)) rfl rfl rfl (fun a h => (run_binOp (h.ev rfl) (h.ev rfl) (by simp [go_sem]) (remN _ _ (by omega)))) ?_
      refine fw_ex 43 (B8 (b8I (((j % 128) : Nat) : Int))) rfl rfl rfl (fun a h => (run_convOp (h.ev rfl) (cvI8 _ _))) ?_
      refine fw_ex 44 (B8 (UInt8.ofNat (j % 128 + 128))) rfl rfl rfl (fun a h => (run_binOp (h.ev rfl) (h.ev rfl) (by simp [go_sem]) (u8or128 _ hjm _))) ?_
      refine fw_al (t := 5) (u := fun q => .slice (some ⟨q, 0, none⟩) 1 1) 45 [B8 (UInt8.ofNat (j % 128 + 128))] rfl rfl rfl (fun a h => (bs8_1 _ (h.ev rfl))) ?_
      intro q23 W24 g27 s25 r26
      have := Nat.le_trans bW19.size g27
      have hapq23 := ob_new gW19_0 g27
      have b28 := bW19.trans (s25.mono bW19.size)
      have f29 := (below_own fW19_0 s25)
      have f30 := (below_own gW19_0 s25)
      have hBs := Nat.le_trans hBs s25.size
      refine fw_to 46 rfl rfl rfl (fun a h => opTo_byt (l := lj) (ad := aj) (c := cj) _ _ rfl (h.ev rfl) f30 (h.ev rfl) (slB _ _ (UInt8.ofNat (j % 128 + 128)) r26) (by omega) (by simp) hBs) ?_
      rintro _ V32 ⟨l31, a31, c31, rfl, hl31, hg31, ho31⟩
      have r33 := row_grew r26 hg31 hapq23
      replace hapq23 := grew_off hg31 hapq23 r26.2.2
      have b34 := ob_low b28 f30 hg31 hwB (Nat.le_trans hwB hBs)
      have hBs := Nat.le_trans hBs hg31.1.size
      have f35 := (ob_apart f29 hg31 f30 hloC)
      refine fw_pu rfl (fw_dt (fw_rg rfl (fw_pu rfl ?_)))
      refine fw_ex 48 (.int .i64 (((j / 128) : Nat) : Int)) rfl rfl rfl (fun a h => (run_binOp (h.ev rfl) (h.ev rfl) (by simp [go_sem]) (quoN _ _ (by omega)))) ?_
      refine fw_pu rfl (fw_dn (fw_bn ?_))
      exact fw_th (fw_gf (hK21 _ _ _ (by omega) ⟨(j / 128), l31, a31, c31, rfl, (by omega), (by rw [← hlj, hl31, hst, List.append_assoc]; rfl), (by rw [hl31, List.length_append]; simp only [List.length_cons, List.length_nil]; omega), hBs, rfl, b34, f35, ho31⟩) ⟨rfl, (by first | rfl | (simp only [Look, cond, Nat.beq]; first | rfl | (congr 2; first | rfl | omega | (push_cast; omega)) | (simp; try omega))), (by first | rfl | (simp only [Look, cond, Nat.beq]; first | rfl | (congr 2; first | rfl | omega | (push_cast; omega)) | (simp; try omega))), trivial⟩)
    refine fw_cF rfl hb_22 (fw_xt (fw_te (fw_te (fw_be (fw_th (fw_sq ?_))))))
    have hj := of_decide_eq_false hb_22
    have hst := lenG_small (n := j) (by omega)
    refine fw_rg rfl ?_
    iterate 2 refine fw_pu rfl ?_
    refine fw_ex 51 (B8 (b8I ((j : Nat) : Int))) rfl rfl rfl (fun a h => (run_convOp (h.ev rfl) (cvI8 _ _))) ?_
    refine fw_al (t := 5) (u := fun q => .slice (some ⟨q, 0, none⟩) 1 1) 52 [B8 (b8I ((j : Nat) : Int))] rfl rfl rfl (fun a h => (bs8_1 _ (h.ev rfl))) ?_
    intro q36 W37 g40 s38 r39
    have := Nat.le_trans bW19.size g40
    have hapq36 := ob_new gW19_0 g40
    have b41 := bW19.trans (s38.mono bW19.size)
    have f42 := (below_own fW19_0 s38)
    have f43 := (below_own gW19_0 s38)
    have hBs := Nat.le_trans hBs s38.size
    refine fw_to 53 rfl rfl rfl (fun a h => opTo_byt (l := lj) (ad := aj) (c := cj) _ _ rfl (h.ev rfl) f43 (h.ev rfl) (slB _ _ (b8I ((j : Nat) : Int)) r39) (by omega) (by simp) hBs) ?_
    rintro _ V45 ⟨l44, a44, c44, rfl, hl44, hg44, ho44⟩
    have r46 := row_grew r39 hg44 hapq36
    replace hapq36 := grew_off hg44 hapq36 r39.2.2
    have b47 := ob_low b41 f43 hg44 hwB (Nat.le_trans hwB hBs)
    have hBs := Nat.le_trans hBs hg44.1.size
    have f48 := (ob_apart f42 hg44 f43 hloC)
    have hn44 : l44.length ≤ 70000 := by rw [hl44, List.length_append, one_len]; omega
    refine fw_pu rfl (fw_dt (fw_sq (fw_rg rfl ?_)))
    iterate 2 refine fw_pu rfl ?_
    refine fw_to 56 rfl rfl rfl (fun a h => opTo_byt (l := l44) (ad := a44) (c := c44) _ _ rfl (h.ev rfl) ho44 (h.ev rfl) (Sl.of_own f48).1 (by omega) (by omega) hBs) ?_
    rintro _ V50 ⟨l49, a49, c49, rfl, hl49, hg49, ho49⟩
    have r51 := row_grew r46 hg49 hapq36
    replace hapq36 := grew_off hg49 hapq36 r46.2.2
    have b52 := ob_low b47 ho44 hg49 hwB (Nat.le_trans hwB hBs)
    have hBs := Nat.le_trans hBs hg49.1.size
    have f53 := (ob_apart f48 hg49 ho44 hloC)
    refine fw_pu rfl (fw_dt (fw_rt ?_))
    refine ⟨fun a h => ?_⟩
    exact ow_ret1 rfl h.df (h.g 2 rfl) ⟨_, _, _, rfl, by rw [hl49, hl44, b8I_ofNat, ← hst, hlj, hlC, en_eq]; simp, own_mono ho49 hwB, b52⟩
  refine fw_cF rfl hb_7 (fw_sq (fw_sq (fw_rg rfl ?_)))
  iterate 2 refine fw_pu rfl ?_
  refine fw_dt ?_
  rcases Bool.eq_false_or_eq_true ((m.k == 6)) with hb_54 | hb_54
  · skip
    refine fw_cT rfl hb_54 (fw_sk (fw_th (fw_cT rfl hb_54 (fw_rg rfl (fw_pu rfl (fw_dn (fw_bn (fw_th (fw_sq (fw_rg rfl (fw_ld r4 rfl rfl (fw_ca Tryd.func62 rfl rfl rfl (rbodyX m ac aw af _ _ _ cc cw cf W2 (hL.below b6) hS hm) ?_))))))))))))
    rintro _ VC ⟨lC, aC, cC, rfl, hlC, hnC, hoC, hbC⟩
    refine ⟨_, rfl, ?_⟩
    replace hoC := own_mono hoC b6.size
    have b55 := b6.trans (hbC.mono b6.size)
    have r56 := r4.below hbC
    refine fw_pu rfl (fw_dt (fw_sq (fw_rg rfl (fw_pu rfl (fw_ld r56 rfl rfl (fw_ex 31 (B8 (b8I m.k)) rfl rfl rfl (fun a h => (run_convOp (h.ev rfl) (cvI8 _ _))) ?_))))))
    refine fw_ex 32 (B8 (UInt8.ofNat (UInt8.toNat (b8I m.k) * 2 ^ 4))) rfl rfl rfl (fun a h => (run_binOp (h.ev rfl) (h.ev rfl) (by simp [go_sem]) (u8shl (b8I m.k) 4 (by decide) _))) ?_
    refine fw_pu rfl ?_
    refine fw_ex 34 (B8 ((UInt8.ofNat (UInt8.toNat (b8I m.k) * 2 ^ 4)) ||| 2)) rfl rfl rfl (fun a h => (run_binOp (h.ev rfl) (h.ev rfl) (by simp [go_sem]) (u8or (UInt8.ofNat (UInt8.toNat (b8I m.k) * 2 ^ 4)) 2 _))) ?_
    rw [hd8_2 hS9 hb_7 (by simp [hb_54])]
    obtain ⟨B, hB⟩ : ∃ x, x = VC.heap.size := ⟨_, rfl⟩
    have hwB : w.heap.size ≤ B := by rw [hB]; exact b55.size
    have : q1 < B := by rw [hB]; exact r56.2.2
    have hloC : ∀ k, (Value.slice aC lC.length cC).ownBlock = some k → k < B := fun k hk => by rw [hB]; exact (blk_lt hoC hk).2
    refine fw_to 35 rfl rfl rfl (fun a h => opTo_bs1 rfl (h.ev rfl)) ?_
    rintro _ V57 ⟨l58, a58, c58, rfl, hl58, hbb58, ho58⟩
    have hBs : B ≤ V57.heap.size := by rw [hB]; exact hbb58.size
    rw [← hB] at ho58
    have b59 := b55.trans (hbb58.mono b55.size)
    have r60 := r56.below hbb58
    have f61 := (below_own hoC hbb58)
    have hn58 : l58.length ≤ 1 := by rw [hl58]; exact Nat.le_refl _
    refine fw_pu rfl (fw_dt (fw_sq (fw_rg rfl ?_)))
    iterate 3 refine fw_pu rfl ?_
    refine fw_dt (fw_sq (fw_bk ?_))
    refine fw_lp (fun N K W => ∃ (j : Nat) (lj : List UInt8) (aj : Option Addr) (cj : Nat), N = j + 1 ∧ j ≤ lC.length ∧ lj ++ lenG j = [hdG m] ++ lenG lC.length ∧ lj.length + j ≤ 1 + lC.length ∧ B ≤ W.heap.size ∧ K = [(4, .slice aC lC.length cC), (5, .slice aj lj.length cj), (6, .int .i64 ((j : Nat) : Int))] ∧ Below w.heap.size w W ∧ OB W w.heap.size aC cC lC ∧ OB W B aj cj lj) _ _ ⟨lC.length, l58, a58, c58, rfl, Nat.le_refl _, (by rw [hl58]), (by rw [hl58]; simp), hBs, rfl, b59, f61, ho58⟩ ⟨rfl, (by first | rfl | (simp only [Look, cond, Nat.beq]; first | rfl | (congr 2; first | rfl | omega | (push_cast; omega)) | (simp; try omega))), (by first | rfl | (simp only [Look, cond, Nat.beq]; first | rfl | (congr 2; first | rfl | omega | (push_cast; omega)) | (simp; try omega))), trivial⟩ ?_
    rintro N _ W62 ⟨j, lj, aj, cj, rfl, hjn, hlj, hln, hBs, rfl, bW62, fW62_0, gW62_0⟩
    intro K64 hK64
    refine fw_sq (fw_sq (fw_rg rfl ?_))
    iterate 2 refine fw_pu rfl ?_
    refine fw_dt ?_
    rcases Bool.eq_false_or_eq_true ((decide (128 ≤ ((j : Nat) : Int)))) with hb_65 | hb_65
    · skip
      refine fw_cT rfl hb_65 (fw_sk (fw_th (fw_bk (fw_sq ?_))))
      have hj := of_decide_eq_true hb_65
      have hj1 : 128 ≤ j := by omega
      have hst := lenG_step hj1 (by omega)
      have hjm : j % 128 < 128 := Nat.mod_lt _ (by decide)
      refine fw_rg rfl ?_
      iterate 2 refine fw_pu rfl ?_
      refine fw_ex 42 (.int .i64 (((j % 128) : Nat) : Int)) rfl rfl rfl (fun a h => (run_binOp (h.ev rfl) (h.ev rfl) (by simp [go_sem]) (remN _ _ (by omega)))) ?_
      refine fw_ex 43 (B8 (b8I (((j % 128) : Nat) : Int))) rfl rfl rfl (fun a h => (run_convOp (h.ev rfl) (cvI8 _ _))) ?_
      refine fw_ex 44 (B8 (UInt8.ofNat (j % 128 + 128))) rfl rfl rfl (fun a h => (run_binOp (h.ev rfl) (h.ev rfl) (by simp [go_sem]) (u8or128 _ hjm _))) ?_
      refine fw_al (t := 5) (u := fun q => .slice (some ⟨q, 0, none⟩) 1 1) 45 [B8 (UInt8.ofNat (j % 128 + 128))] rfl rfl rfl (fun a h => (bs8_1 _ (h.ev rfl))) ?_
      intro q66 W67 g70 s68 r69
      have := Nat.le_trans bW62.size g70
      have hapq66 := ob_new gW62_0 g70
      have b71 := bW62.trans (s68.mono bW62.size)
      have f72 := (below_own fW62_0 s68)
      have f73 := (below_own gW62_0 s68)
      have hBs := Nat.le_trans hBs s68.size
      refine fw_to 46 rfl rfl rfl (fun a h => opTo_byt (l := lj) (ad := aj) (c := cj) _ _ rfl (h.ev rfl) f73 (h.ev rfl) (slB _ _ (UInt8.ofNat (j % 128 + 128)) r69) (by omega) (by simp) hBs) ?_
      rintro _ V75 ⟨l74, a74, c74, rfl, hl74, hg74, ho74⟩
      have r76 := row_grew r69 hg74 hapq66
      replace hapq66 := grew_off hg74 hapq66 r69.2.2
      have b77 := ob_low b71 f73 hg74 hwB (Nat.le_trans hwB hBs)
      have hBs := Nat.le_trans hBs hg74.1.size
      have f78 := (ob_apart f72 hg74 f73 hloC)
      refine fw_pu rfl (fw_dt (fw_rg rfl (fw_pu rfl ?_)))
      refine fw_ex 48 (.int .i64 (((j / 128) : Nat) : Int)) rfl rfl rfl (fun a h => (run_binOp (h.ev rfl) (h.ev rfl) (by simp [go_sem]) (quoN _ _ (by omega)))) ?_
      refine fw_pu rfl (fw_dn (fw_bn ?_))
      exact fw_th (fw_gf (hK64 _ _ _ (by omega) ⟨(j / 128), l74, a74, c74, rfl, (by omega), (by rw [← hlj, hl74, hst, List.append_assoc]; rfl), (by rw [hl74, List.length_append]; simp only [List.length_cons, List.length_nil]; omega), hBs, rfl, b77, f78, ho74⟩) ⟨rfl, (by first | rfl | (simp only [Look, cond, Nat.beq]; first | rfl | (congr 2; first | rfl | omega | (push_cast; omega)) | (simp; try omega))), (by first | rfl | (simp only [Look, cond, Nat.beq]; first | rfl | (congr 2; first | rfl | omega | (push_cast; omega)) | (simp; try omega))), trivial⟩)
    refine fw_cF rfl hb_65 (fw_xt (fw_te (fw_te (fw_be (fw_th (fw_sq ?_))))))
    have hj := of_decide_eq_false hb_65
    have hst := lenG_small (n := j) (by omega)
    refine fw_rg rfl ?_
    iterate 2 refine fw_pu rfl ?_
    refine fw_ex 51 (B8 (b8I ((j : Nat) : Int))) rfl rfl rfl (fun a h => (run_convOp (h.ev rfl) (cvI8 _ _))) ?_
    refine fw_al (t := 5) (u := fun q => .slice (some ⟨q, 0, none⟩) 1 1) 52 [B8 (b8I ((j : Nat) : Int))] rfl rfl rfl (fun a h => (bs8_1 _ (h.ev rfl))) ?_
    intro q79 W80 g83 s81 r82
    have := Nat.le_trans bW62.size g83
    have hapq79 := ob_new gW62_0 g83
    have b84 := bW62.trans (s81.mono bW62.size)
    have f85 := (below_own fW62_0 s81)
    have f86 := (below_own gW62_0 s81)
    have hBs := Nat.le_trans hBs s81.size
    refine fw_to 53 rfl rfl rfl (fun a h => opTo_byt (l := lj) (ad := aj) (c := cj) _ _ rfl (h.ev rfl) f86 (h.ev rfl) (slB _ _ (b8I ((j : Nat) : Int)) r82) (by omega) (by simp) hBs) ?_
    rintro _ V88 ⟨l87, a87, c87, rfl, hl87, hg87, ho87⟩
    have r89 := row_grew r82 hg87 hapq79
    replace hapq79 := grew_off hg87 hapq79 r82.2.2
    have b90 := ob_low b84 f86 hg87 hwB (Nat.le_trans hwB hBs)
    have hBs := Nat.le_trans hBs hg87.1.size
    have f91 := (ob_apart f85 hg87 f86 hloC)
    have hn87 : l87.length ≤ 70000 := by rw [hl87, List.length_append, one_len]; omega
    refine fw_pu rfl (fw_dt (fw_sq (fw_rg rfl ?_)))
    iterate 2 refine fw_pu rfl ?_
    refine fw_to 56 rfl rfl rfl (fun a h => opTo_byt (l := l87) (ad := a87) (c := c87) _ _ rfl (h.ev rfl) ho87 (h.ev rfl) (Sl.of_own f91).1 (by omega) (by omega) hBs) ?_
    rintro _ V93 ⟨l92, a92, c92, rfl, hl92, hg92, ho92⟩
    have r94 := row_grew r89 hg92 hapq79
    replace hapq79 := grew_off hg92 hapq79 r89.2.2
    have b95 := ob_low b90 ho87 hg92 hwB (Nat.le_trans hwB hBs)
    have hBs := Nat.le_trans hBs hg92.1.size
    have f96 := (ob_apart f91 hg92 ho87 hloC)
    refine fw_pu rfl (fw_dt (fw_rt ?_))
    refine ⟨fun a h => ?_⟩
    exact ow_ret1 rfl h.df (h.g 2 rfl) ⟨_, _, _, rfl, by rw [hl92, hl87, b8I_ofNat, ← hst, hlj, hlC, en_eq]; simp, own_mono ho92 hwB, b95⟩
  refine fw_cF rfl hb_54 (fw_sq (fw_rg rfl ?_))
  iterate 2 refine fw_pu rfl ?_
  refine fw_dt ?_
  rcases Bool.eq_false_or_eq_true ((m.k == 8)) with hb_97 | hb_97
  · skip
    refine fw_cT rfl hb_97 (fw_sk (fw_th (fw_cT rfl hb_97 (fw_rg rfl (fw_pu rfl (fw_dn (fw_bn (fw_th (fw_sq (fw_rg rfl (fw_ld r4 rfl rfl (fw_ca Tryd.func62 rfl rfl rfl (rbodyX m ac aw af _ _ _ cc cw cf W2 (hL.below b6) hS hm) ?_))))))))))))
    rintro _ VC ⟨lC, aC, cC, rfl, hlC, hnC, hoC, hbC⟩
    refine ⟨_, rfl, ?_⟩
    replace hoC := own_mono hoC b6.size
    have b98 := b6.trans (hbC.mono b6.size)
    have r99 := r4.below hbC
    refine fw_pu rfl (fw_dt (fw_sq (fw_rg rfl (fw_pu rfl (fw_ld r99 rfl rfl (fw_ex 31 (B8 (b8I m.k)) rfl rfl rfl (fun a h => (run_convOp (h.ev rfl) (cvI8 _ _))) ?_))))))
    refine fw_ex 32 (B8 (UInt8.ofNat (UInt8.toNat (b8I m.k) * 2 ^ 4))) rfl rfl rfl (fun a h => (run_binOp (h.ev rfl) (h.ev rfl) (by simp [go_sem]) (u8shl (b8I m.k) 4 (by decide) _))) ?_
    refine fw_pu rfl ?_
    refine fw_ex 34 (B8 ((UInt8.ofNat (UInt8.toNat (b8I m.k) * 2 ^ 4)) ||| 2)) rfl rfl rfl (fun a h => (run_binOp (h.ev rfl) (h.ev rfl) (by simp [go_sem]) (u8or (UInt8.ofNat (UInt8.toNat (b8I m.k) * 2 ^ 4)) 2 _))) ?_
    rw [hd8_2 hS9 hb_7 (by simp [hb_97])]
    obtain ⟨B, hB⟩ : ∃ x, x = VC.heap.size := ⟨_, rfl⟩
    have hwB : w.heap.size ≤ B := by rw [hB]; exact b98.size
    have : q1 < B := by rw [hB]; exact r99.2.2
    have hloC : ∀ k, (Value.slice aC lC.length cC).ownBlock = some k → k < B := fun k hk => by rw [hB]; exact (blk_lt hoC hk).2
    refine fw_to 35 rfl rfl rfl (fun a h => opTo_bs1 rfl (h.ev rfl)) ?_
    rintro _ V100 ⟨l101, a101, c101, rfl, hl101, hbb101, ho101⟩
    have hBs : B ≤ V100.heap.size := by rw [hB]; exact hbb101.size
    rw [← hB] at ho101
    have b102 := b98.trans (hbb101.mono b98.size)
    have r103 := r99.below hbb101
    have f104 := (below_own hoC hbb101)
    have hn101 : l101.length ≤ 1 := by rw [hl101]; exact Nat.le_refl _
    refine fw_pu rfl (fw_dt (fw_sq (fw_rg rfl ?_)))
    iterate 3 refine fw_pu rfl ?_
    refine fw_dt (fw_sq (fw_bk ?_))
    refine fw_lp (fun N K W => ∃ (j : Nat) (lj : List UInt8) (aj : Option Addr) (cj : Nat), N = j + 1 ∧ j ≤ lC.length ∧ lj ++ lenG j = [hdG m] ++ lenG lC.length ∧ lj.length + j ≤ 1 + lC.length ∧ B ≤ W.heap.size ∧ K = [(4, .slice aC lC.length cC), (5, .slice aj lj.length cj), (6, .int .i64 ((j : Nat) : Int))] ∧ Below w.heap.size w W ∧ OB W w.heap.size aC cC lC ∧ OB W B aj cj lj) _ _ ⟨lC.length, l101, a101, c101, rfl, Nat.le_refl _, (by rw [hl101]), (by rw [hl101]; simp), hBs, rfl, b102, f104, ho101⟩ ⟨rfl, (by first | rfl | (simp only [Look, cond, Nat.beq]; first | rfl | (congr 2; first | rfl | omega | (push_cast; omega)) | (simp; try omega))), (by first | rfl | (simp only [Look, cond, Nat.beq]; first | rfl | (congr 2; first | rfl | omega | (push_cast; omega)) | (simp; try omega))), trivial⟩ ?_
    rintro N _ W105 ⟨j, lj, aj, cj, rfl, hjn, hlj, hln, hBs, rfl, bW105, fW105_0, gW105_0⟩
    intro K107 hK107
    refine fw_sq (fw_sq (fw_rg rfl ?_))
    iterate 2 refine fw_pu rfl ?_
    refine fw_dt ?_
    rcases Bool.eq_false_or_eq_true ((decide (128 ≤ ((j : Nat) : Int)))) with hb_108 | hb_108
    · skip
      refine fw_cT rfl hb_108 (fw_sk (fw_th (fw_bk (fw_sq ?_))))
      have hj := of_decide_eq_true hb_108
      have hj1 : 128 ≤ j := by omega
      have hst := lenG_step hj1 (by omega)
      have hjm : j % 128 < 128 := Nat.mod_lt _ (by decide)
      refine fw_rg rfl ?_
      iterate 2 refine fw_pu rfl ?_
      refine fw_ex 42 (.int .i64 (((j % 128) : Nat) : Int)) rfl rfl rfl (fun a h => (run_binOp (h.ev rfl) (h.ev rfl) (by simp [go_sem]) (remN _ _ (by omega)))) ?_
      refine fw_ex 43 (B8 (b8I (((j % 128) : Nat) : Int))) rfl rfl rfl (fun a h => (run_convOp (h.ev rfl) (cvI8 _ _))) ?_
      refine fw_ex 44 (B8 (UInt8.ofNat (j % 128 + 128))) rfl rfl rfl (fun a h => (run_binOp (h.ev rfl) (h.ev rfl) (by simp [go_sem]) (u8or128 _ hjm _))) ?_
      refine fw_al (t := 5) (u := fun q => .slice (some ⟨q, 0, none⟩) 1 1) 45 [B8 (UInt8.ofNat (j % 128 + 128))] rfl rfl rfl (fun a h => (bs8_1 _ (h.ev rfl))) ?_
      intro q109 W110 g113 s111 r112
      have := Nat.le_trans bW105.size g113
      have hapq109 := ob_new gW105_0 g113
      have b114 := bW105.trans (s111.mono bW105.size)
      have f115 := (below_own fW105_0 s111)
      have f116 := (below_own gW105_0 s111)
      have hBs := Nat.le_trans hBs s111.size
      refine fw_to 46 rfl rfl rfl (fun a h => opTo_byt (l := lj) (ad := aj) (c := cj) _ _ rfl (h.ev rfl) f116 (h.ev rfl) (slB _ _ (UInt8.ofNat (j % 128 + 128)) r112) (by omega) (by simp) hBs) ?_
      rintro _ V118 ⟨l117, a117, c117, rfl, hl117, hg117, ho117⟩
      have r119 := row_grew r112 hg117 hapq109
      replace hapq109 := grew_off hg117 hapq109 r112.2.2
      have b120 := ob_low b114 f116 hg117 hwB (Nat.le_trans hwB hBs)
      have hBs := Nat.le_trans hBs hg117.1.size
      have f121 := (ob_apart f115 hg117 f116 hloC)
      refine fw_pu rfl (fw_dt (fw_rg rfl (fw_pu rfl ?_)))
      refine fw_ex 48 (.int .i64 (((j / 128) : Nat) : Int)) rfl rfl rfl (fun a h => (run_binOp (h.ev rfl) (h.ev rfl) (by simp [go_sem]) (quoN _ _ (by omega)))) ?_
      refine fw_pu rfl (fw_dn (fw_bn ?_))
      exact fw_th (fw_gf (hK107 _ _ _ (by omega) ⟨(j / 128), l117, a117, c117, rfl, (by omega), (by rw [← hlj, hl117, hst, List.append_assoc]; rfl), (by rw [hl117, List.length_append]; simp only [List.length_cons, List.length_nil]; omega), hBs, rfl, b120, f121, ho117⟩) ⟨rfl, (by first | rfl | (simp only [Look, cond, Nat.beq]; first | rfl | (congr 2; first | rfl | omega | (push_cast; omega)) | (simp; try omega))), (by first | rfl | (simp only [Look, cond, Nat.beq]; first | rfl | (congr 2; first | rfl | omega | (push_cast; omega)) | (simp; try omega))), trivial⟩)
    refine fw_cF rfl hb_108 (fw_xt (fw_te (fw_te (fw_be (fw_th (fw_sq ?_))))))
    have hj := of_decide_eq_false hb_108
    have hst := lenG_small (n := j) (by omega)
    refine fw_rg rfl ?_
    iterate 2 refine fw_pu rfl ?_
    refine fw_ex 51 (B8 (b8I ((j : Nat) : Int))) rfl rfl rfl (fun a h => (run_convOp (h.ev rfl) (cvI8 _ _))) ?_
    refine fw_al (t := 5) (u := fun q => .slice (some ⟨q, 0, none⟩) 1 1) 52 [B8 (b8I ((j : Nat) : Int))] rfl rfl rfl (fun a h => (bs8_1 _ (h.ev rfl))) ?_
    intro q122 W123 g126 s124 r125
    have := Nat.le_trans bW105.size g126
    have hapq122 := ob_new gW105_0 g126
    have b127 := bW105.trans (s124.mono bW105.size)
    have f128 := (below_own fW105_0 s124)
    have f129 := (below_own gW105_0 s124)
    have hBs := Nat.le_trans hBs s124.size
    refine fw_to 53 rfl rfl rfl (fun a h => opTo_byt (l := lj) (ad := aj) (c := cj) _ _ rfl (h.ev rfl) f129 (h.ev rfl) (slB _ _ (b8I ((j : Nat) : Int)) r125) (by omega) (by simp) hBs) ?_
    rintro _ V131 ⟨l130, a130, c130, rfl, hl130, hg130, ho130⟩
    have r132 := row_grew r125 hg130 hapq122
    replace hapq122 := grew_off hg130 hapq122 r125.2.2
    have b133 := ob_low b127 f129 hg130 hwB (Nat.le_trans hwB hBs)
    have hBs := Nat.le_trans hBs hg130.1.size
    have f134 := (ob_apart f128 hg130 f129 hloC)
    have hn130 : l130.length ≤ 70000 := by rw [hl130, List.length_append, one_len]; omega
    refine fw_pu rfl (fw_dt (fw_sq (fw_rg rfl ?_)))
    iterate 2 refine fw_pu rfl ?_
    refine fw_to 56 rfl rfl rfl (fun a h => opTo_byt (l := l130) (ad := a130) (c := c130) _ _ rfl (h.ev rfl) ho130 (h.ev rfl) (Sl.of_own f134).1 (by omega) (by omega) hBs) ?_
    rintro _ V136 ⟨l135, a135, c135, rfl, hl135, hg135, ho135⟩
    have r137 := row_grew r132 hg135 hapq122
    replace hapq122 := grew_off hg135 hapq122 r132.2.2
    have b138 := ob_low b133 ho130 hg135 hwB (Nat.le_trans hwB hBs)
    have hBs := Nat.le_trans hBs hg135.1.size
    have f139 := (ob_apart f134 hg135 ho130 hloC)
    refine fw_pu rfl (fw_dt (fw_rt ?_))
    refine ⟨fun a h => ?_⟩
    exact ow_ret1 rfl h.df (h.g 2 rfl) ⟨_, _, _, rfl, by rw [hl135, hl130, b8I_ofNat, ← hst, hlj, hlC, en_eq]; simp, own_mono ho135 hwB, b138⟩
  refine fw_cF rfl hb_97 (fw_rg rfl ?_)
  iterate 2 refine fw_pu rfl ?_
  refine fw_dt ?_
  rcases Bool.eq_false_or_eq_true ((m.k == 10)) with hb_140 | hb_140
  · skip
    refine fw_cT rfl hb_140 (fw_rg rfl (fw_pu rfl (fw_dn (fw_bn (fw_th (fw_sq (fw_rg rfl (fw_ld r4 rfl rfl (fw_ca Tryd.func62 rfl rfl rfl (rbodyX m ac aw af _ _ _ cc cw cf W2 (hL.below b6) hS hm) ?_)))))))))
    rintro _ VC ⟨lC, aC, cC, rfl, hlC, hnC, hoC, hbC⟩
    refine ⟨_, rfl, ?_⟩
    replace hoC := own_mono hoC b6.size
    have b141 := b6.trans (hbC.mono b6.size)
    have r142 := r4.below hbC
    refine fw_pu rfl (fw_dt (fw_sq (fw_rg rfl (fw_pu rfl (fw_ld r142 rfl rfl (fw_ex 31 (B8 (b8I m.k)) rfl rfl rfl (fun a h => (run_convOp (h.ev rfl) (cvI8 _ _))) ?_))))))
    refine fw_ex 32 (B8 (UInt8.ofNat (UInt8.toNat (b8I m.k) * 2 ^ 4))) rfl rfl rfl (fun a h => (run_binOp (h.ev rfl) (h.ev rfl) (by simp [go_sem]) (u8shl (b8I m.k) 4 (by decide) _))) ?_
    refine fw_pu rfl ?_
    refine fw_ex 34 (B8 ((UInt8.ofNat (UInt8.toNat (b8I m.k) * 2 ^ 4)) ||| 2)) rfl rfl rfl (fun a h => (run_binOp (h.ev rfl) (h.ev rfl) (by simp [go_sem]) (u8or (UInt8.ofNat (UInt8.toNat (b8I m.k) * 2 ^ 4)) 2 _))) ?_
    rw [hd8_2 hS9 hb_7 (by simp [hb_140])]
    obtain ⟨B, hB⟩ : ∃ x, x = VC.heap.size := ⟨_, rfl⟩
    have hwB : w.heap.size ≤ B := by rw [hB]; exact b141.size
    have : q1 < B := by rw [hB]; exact r142.2.2
    have hloC : ∀ k, (Value.slice aC lC.length cC).ownBlock = some k → k < B := fun k hk => by rw [hB]; exact (blk_lt hoC hk).2
    refine fw_to 35 rfl rfl rfl (fun a h => opTo_bs1 rfl (h.ev rfl)) ?_
    rintro _ V143 ⟨l144, a144, c144, rfl, hl144, hbb144, ho144⟩
    have hBs : B ≤ V143.heap.size := by rw [hB]; exact hbb144.size
    rw [← hB] at ho144
    have b145 := b141.trans (hbb144.mono b141.size)
    have r146 := r142.below hbb144
    have f147 := (below_own hoC hbb144)
    have hn144 : l144.length ≤ 1 := by rw [hl144]; exact Nat.le_refl _
    refine fw_pu rfl (fw_dt (fw_sq (fw_rg rfl ?_)))
    iterate 3 refine fw_pu rfl ?_
    refine fw_dt (fw_sq (fw_bk ?_))
    refine fw_lp (fun N K W => ∃ (j : Nat) (lj : List UInt8) (aj : Option Addr) (cj : Nat), N = j + 1 ∧ j ≤ lC.length ∧ lj ++ lenG j = [hdG m] ++ lenG lC.length ∧ lj.length + j ≤ 1 + lC.length ∧ B ≤ W.heap.size ∧ K = [(4, .slice aC lC.length cC), (5, .slice aj lj.length cj), (6, .int .i64 ((j : Nat) : Int))] ∧ Below w.heap.size w W ∧ OB W w.heap.size aC cC lC ∧ OB W B aj cj lj) _ _ ⟨lC.length, l144, a144, c144, rfl, Nat.le_refl _, (by rw [hl144]), (by rw [hl144]; simp), hBs, rfl, b145, f147, ho144⟩ ⟨rfl, (by first | rfl | (simp only [Look, cond, Nat.beq]; first | rfl | (congr 2; first | rfl | omega | (push_cast; omega)) | (simp; try omega))), (by first | rfl | (simp only [Look, cond, Nat.beq]; first | rfl | (congr 2; first | rfl | omega | (push_cast; omega)) | (simp; try omega))), trivial⟩ ?_
    rintro N _ W148 ⟨j, lj, aj, cj, rfl, hjn, hlj, hln, hBs, rfl, bW148, fW148_0, gW148_0⟩
    intro K150 hK150
    refine fw_sq (fw_sq (fw_rg rfl ?_))
    iterate 2 refine fw_pu rfl ?_
    refine fw_dt ?_
    rcases Bool.eq_false_or_eq_true ((decide (128 ≤ ((j : Nat) : Int)))) with hb_151 | hb_151
    · skip
      refine fw_cT rfl hb_151 (fw_sk (fw_th (fw_bk (fw_sq ?_))))
      have hj := of_decide_eq_true hb_151
      have hj1 : 128 ≤ j := by omega
      have hst := lenG_step hj1 (by omega)
      have hjm : j % 128 < 128 := Nat.mod_lt _ (by decide)
      refine fw_rg rfl ?_
      iterate 2 refine fw_pu rfl ?_
      refine fw_ex 42 (.int .i64 (((j % 128) : Nat) : Int)) rfl rfl rfl (fun a h => (run_binOp (h.ev rfl) (h.ev rfl) (by simp [go_sem]) (remN _ _ (by omega)))) ?_
      refine fw_ex 43 (B8 (b8I (((j % 128) : Nat) : Int))) rfl rfl rfl (fun a h => (run_convOp (h.ev rfl) (cvI8 _ _))) ?_
      refine fw_ex 44 (B8 (UInt8.ofNat (j % 128 + 128))) rfl rfl rfl (fun a h => (run_binOp (h.ev rfl) (h.ev rfl) (by simp [go_sem]) (u8or128 _ hjm _))) ?_
      refine fw_al (t := 5) (u := fun q => .slice (some ⟨q, 0, none⟩) 1 1) 45 [B8 (UInt8.ofNat (j % 128 + 128))] rfl rfl rfl (fun a h => (bs8_1 _ (h.ev rfl))) ?_
      intro q152 W153 g156 s154 r155
      have := Nat.le_trans bW148.size g156
      have hapq152 := ob_new gW148_0 g156
      have b157 := bW148.trans (s154.mono bW148.size)
      have f158 := (below_own fW148_0 s154)
      have f159 := (below_own gW148_0 s154)
      have hBs := Nat.le_trans hBs s154.size
      refine fw_to 46 rfl rfl rfl (fun a h => opTo_byt (l := lj) (ad := aj) (c := cj) _ _ rfl (h.ev rfl) f159 (h.ev rfl) (slB _ _ (UInt8.ofNat (j % 128 + 128)) r155) (by omega) (by simp) hBs) ?_
      rintro _ V161 ⟨l160, a160, c160, rfl, hl160, hg160, ho160⟩
      have r162 := row_grew r155 hg160 hapq152
      replace hapq152 := grew_off hg160 hapq152 r155.2.2
      have b163 := ob_low b157 f159 hg160 hwB (Nat.le_trans hwB hBs)
      have hBs := Nat.le_trans hBs hg160.1.size
      have f164 := (ob_apart f158 hg160 f159 hloC)
      refine fw_pu rfl (fw_dt (fw_rg rfl (fw_pu rfl ?_)))
      refine fw_ex 48 (.int .i64 (((j / 128) : Nat) : Int)) rfl rfl rfl (fun a h => (run_binOp (h.ev rfl) (h.ev rfl) (by simp [go_sem]) (quoN _ _ (by omega)))) ?_
      refine fw_pu rfl (fw_dn (fw_bn ?_))
      exact fw_th (fw_gf (hK150 _ _ _ (by omega) ⟨(j / 128), l160, a160, c160, rfl, (by omega), (by rw [← hlj, hl160, hst, List.append_assoc]; rfl), (by rw [hl160, List.length_append]; simp only [List.length_cons, List.length_nil]; omega), hBs, rfl, b163, f164, ho160⟩) ⟨rfl, (by first | rfl | (simp only [Look, cond, Nat.beq]; first | rfl | (congr 2; first | rfl | omega | (push_cast; omega)) | (simp; try omega))), (by first | rfl | (simp only [Look, cond, Nat.beq]; first | rfl | (congr 2; first | rfl | omega | (push_cast; omega)) | (simp; try omega))), trivial⟩)
    refine fw_cF rfl hb_151 (fw_xt (fw_te (fw_te (fw_be (fw_th (fw_sq ?_))))))
    have hj := of_decide_eq_false hb_151
    have hst := lenG_small (n := j) (by omega)
    refine fw_rg rfl ?_
    iterate 2 refine fw_pu rfl ?_
    refine fw_ex 51 (B8 (b8I ((j : Nat) : Int))) rfl rfl rfl (fun a h => (run_convOp (h.ev rfl) (cvI8 _ _))) ?_
    refine fw_al (t := 5) (u := fun q => .slice (some ⟨q, 0, none⟩) 1 1) 52 [B8 (b8I ((j : Nat) : Int))] rfl rfl rfl (fun a h => (bs8_1 _ (h.ev rfl))) ?_
    intro q165 W166 g169 s167 r168
    have := Nat.le_trans bW148.size g169
    have hapq165 := ob_new gW148_0 g169
    have b170 := bW148.trans (s167.mono bW148.size)
    have f171 := (below_own fW148_0 s167)
    have f172 := (below_own gW148_0 s167)
    have hBs := Nat.le_trans hBs s167.size
    refine fw_to 53 rfl rfl rfl (fun a h => opTo_byt (l := lj) (ad := aj) (c := cj) _ _ rfl (h.ev rfl) f172 (h.ev rfl) (slB _ _ (b8I ((j : Nat) : Int)) r168) (by omega) (by simp) hBs) ?_
    rintro _ V174 ⟨l173, a173, c173, rfl, hl173, hg173, ho173⟩
    have r175 := row_grew r168 hg173 hapq165
    replace hapq165 := grew_off hg173 hapq165 r168.2.2
    have b176 := ob_low b170 f172 hg173 hwB (Nat.le_trans hwB hBs)
    have hBs := Nat.le_trans hBs hg173.1.size
    have f177 := (ob_apart f171 hg173 f172 hloC)
    have hn173 : l173.length ≤ 70000 := by rw [hl173, List.length_append, one_len]; omega
    refine fw_pu rfl (fw_dt (fw_sq (fw_rg rfl ?_)))
    iterate 2 refine fw_pu rfl ?_
    refine fw_to 56 rfl rfl rfl (fun a h => opTo_byt (l := l173) (ad := a173) (c := c173) _ _ rfl (h.ev rfl) ho173 (h.ev rfl) (Sl.of_own f177).1 (by omega) (by omega) hBs) ?_
    rintro _ V179 ⟨l178, a178, c178, rfl, hl178, hg178, ho178⟩
    have r180 := row_grew r175 hg178 hapq165
    replace hapq165 := grew_off hg178 hapq165 r175.2.2
    have b181 := ob_low b176 ho173 hg178 hwB (Nat.le_trans hwB hBs)
    have hBs := Nat.le_trans hBs hg178.1.size
    have f182 := (ob_apart f177 hg178 ho173 hloC)
    refine fw_pu rfl (fw_dt (fw_rt ?_))
    refine ⟨fun a h => ?_⟩
    exact ow_ret1 rfl h.df (h.g 2 rfl) ⟨_, _, _, rfl, by rw [hl178, hl173, b8I_ofNat, ← hst, hlj, hlC, en_eq]; simp, own_mono ho178 hwB, b181⟩
  refine fw_cF rfl hb_140 (fw_sk (fw_bn (fw_th (fw_sq (fw_rg rfl (fw_ld r4 rfl rfl (fw_ca Tryd.func62 rfl rfl rfl (rbodyX m ac aw af _ _ _ cc cw cf W2 (hL.below b6) hS hm) ?_)))))))
  rintro _ VC ⟨lC, aC, cC, rfl, hlC, hnC, hoC, hbC⟩
  refine ⟨_, rfl, ?_⟩
  replace hoC := own_mono hoC b6.size
  have b183 := b6.trans (hbC.mono b6.size)
  have r184 := r4.below hbC
  refine fw_pu rfl (fw_dt (fw_sq (fw_rg rfl (fw_pu rfl (fw_ld r184 rfl rfl (fw_ex 31 (B8 (b8I m.k)) rfl rfl rfl (fun a h => (run_convOp (h.ev rfl) (cvI8 _ _))) ?_))))))
  refine fw_ex 32 (B8 (UInt8.ofNat (UInt8.toNat (b8I m.k) * 2 ^ 4))) rfl rfl rfl (fun a h => (run_binOp (h.ev rfl) (h.ev rfl) (by simp [go_sem]) (u8shl (b8I m.k) 4 (by decide) _))) ?_
  refine fw_pu rfl ?_
  refine fw_ex 34 (B8 ((UInt8.ofNat (UInt8.toNat (b8I m.k) * 2 ^ 4)) ||| 0)) rfl rfl rfl (fun a h => (run_binOp (h.ev rfl) (h.ev rfl) (by simp [go_sem]) (u8or (UInt8.ofNat (UInt8.toNat (b8I m.k) * 2 ^ 4)) 0 _))) ?_
  rw [hd8_0 hS9 hb_7 (by simp [hb_54, hb_97, hb_140])]
  obtain ⟨B, hB⟩ : ∃ x, x = VC.heap.size := ⟨_, rfl⟩
  have hwB : w.heap.size ≤ B := by rw [hB]; exact b183.size
  have : q1 < B := by rw [hB]; exact r184.2.2
  have hloC : ∀ k, (Value.slice aC lC.length cC).ownBlock = some k → k < B := fun k hk => by rw [hB]; exact (blk_lt hoC hk).2
  refine fw_to 35 rfl rfl rfl (fun a h => opTo_bs1 rfl (h.ev rfl)) ?_
  rintro _ V185 ⟨l186, a186, c186, rfl, hl186, hbb186, ho186⟩
  have hBs : B ≤ V185.heap.size := by rw [hB]; exact hbb186.size
  rw [← hB] at ho186
  have b187 := b183.trans (hbb186.mono b183.size)
  have r188 := r184.below hbb186
  have f189 := (below_own hoC hbb186)
  have hn186 : l186.length ≤ 1 := by rw [hl186]; exact Nat.le_refl _
  refine fw_pu rfl (fw_dt (fw_sq (fw_rg rfl ?_)))
  iterate 3 refine fw_pu rfl ?_
  refine fw_dt (fw_sq (fw_bk ?_))
  refine fw_lp (fun N K W => ∃ (j : Nat) (lj : List UInt8) (aj : Option Addr) (cj : Nat), N = j + 1 ∧ j ≤ lC.length ∧ lj ++ lenG j = [hdG m] ++ lenG lC.length ∧ lj.length + j ≤ 1 + lC.length ∧ B ≤ W.heap.size ∧ K = [(4, .slice aC lC.length cC), (5, .slice aj lj.length cj), (6, .int .i64 ((j : Nat) : Int))] ∧ Below w.heap.size w W ∧ OB W w.heap.size aC cC lC ∧ OB W B aj cj lj) _ _ ⟨lC.length, l186, a186, c186, rfl, Nat.le_refl _, (by rw [hl186]), (by rw [hl186]; simp), hBs, rfl, b187, f189, ho186⟩ ⟨rfl, (by first | rfl | (simp only [Look, cond, Nat.beq]; first | rfl | (congr 2; first | rfl | omega | (push_cast; omega)) | (simp; try omega))), (by first | rfl | (simp only [Look, cond, Nat.beq]; first | rfl | (congr 2; first | rfl | omega | (push_cast; omega)) | (simp; try omega))), trivial⟩ ?_
  rintro N _ W190 ⟨j, lj, aj, cj, rfl, hjn, hlj, hln, hBs, rfl, bW190, fW190_0, gW190_0⟩
  intro K192 hK192
  refine fw_sq (fw_sq (fw_rg rfl ?_))
  iterate 2 refine fw_pu rfl ?_
  refine fw_dt ?_
  rcases Bool.eq_false_or_eq_true ((decide (128 ≤ ((j : Nat) : Int)))) with hb_193 | hb_193
  · skip
    refine fw_cT rfl hb_193 (fw_sk (fw_th (fw_bk (fw_sq ?_))))
    have hj := of_decide_eq_true hb_193
    have hj1 : 128 ≤ j := by omega
    have hst := lenG_step hj1 (by omega)
    have hjm : j % 128 < 128 := Nat.mod_lt _ (by decide)
    refine fw_rg rfl ?_
    iterate 2 refine fw_pu rfl ?_
    refine fw_ex 42 (.int .i64 (((j % 128) : Nat) : Int)) rfl rfl rfl (fun a h => (run_binOp (h.ev rfl) (h.ev rfl) (by simp [go_sem]) (remN _ _ (by omega)))) ?_
    refine fw_ex 43 (B8 (b8I (((j % 128) : Nat) : Int))) rfl rfl rfl (fun a h => (run_convOp (h.ev rfl) (cvI8 _ _))) ?_
    refine fw_ex 44 (B8 (UInt8.ofNat (j % 128 + 128))) rfl rfl rfl (fun a h => (run_binOp (h.ev rfl) (h.ev rfl) (by simp [go_sem]) (u8or128 _ hjm _))) ?_
    refine fw_al (t := 5) (u := fun q => .slice (some ⟨q, 0, none⟩) 1 1) 45 [B8 (UInt8.ofNat (j % 128 + 128))] rfl rfl rfl (fun a h => (bs8_1 _ (h.ev rfl))) ?_
    intro q194 W195 g198 s196 r197
    have := Nat.le_trans bW190.size g198
    have hapq194 := ob_new gW190_0 g198
    have b199 := bW190.trans (s196.mono bW190.size)
    have f200 := (below_own fW190_0 s196)
    have f201 := (below_own gW190_0 s196)
    have hBs := Nat.le_trans hBs s196.size
    refine fw_to 46 rfl rfl rfl (fun a h => opTo_byt (l := lj) (ad := aj) (c := cj) _ _ rfl (h.ev rfl) f201 (h.ev rfl) (slB _ _ (UInt8.ofNat (j % 128 + 128)) r197) (by omega) (by simp) hBs) ?_
    rintro _ V203 ⟨l202, a202, c202, rfl, hl202, hg202, ho202⟩
    have r204 := row_grew r197 hg202 hapq194
    replace hapq194 := grew_off hg202 hapq194 r197.2.2
    have b205 := ob_low b199 f201 hg202 hwB (Nat.le_trans hwB hBs)
    have hBs := Nat.le_trans hBs hg202.1.size
    have f206 := (ob_apart f200 hg202 f201 hloC)
    refine fw_pu rfl (fw_dt (fw_rg rfl (fw_pu rfl ?_)))
    refine fw_ex 48 (.int .i64 (((j / 128) : Nat) : Int)) rfl rfl rfl (fun a h => (run_binOp (h.ev rfl) (h.ev rfl) (by simp [go_sem]) (quoN _ _ (by omega)))) ?_
    refine fw_pu rfl (fw_dn (fw_bn ?_))
    exact fw_th (fw_gf (hK192 _ _ _ (by omega) ⟨(j / 128), l202, a202, c202, rfl, (by omega), (by rw [← hlj, hl202, hst, List.append_assoc]; rfl), (by rw [hl202, List.length_append]; simp only [List.length_cons, List.length_nil]; omega), hBs, rfl, b205, f206, ho202⟩) ⟨rfl, (by first | rfl | (simp only [Look, cond, Nat.beq]; first | rfl | (congr 2; first | rfl | omega | (push_cast; omega)) | (simp; try omega))), (by first | rfl | (simp only [Look, cond, Nat.beq]; first | rfl | (congr 2; first | rfl | omega | (push_cast; omega)) | (simp; try omega))), trivial⟩)
  refine fw_cF rfl hb_193 (fw_xt (fw_te (fw_te (fw_be (fw_th (fw_sq ?_))))))
  have hj := of_decide_eq_false hb_193
  have hst := lenG_small (n := j) (by omega)
  refine fw_rg rfl ?_
  iterate 2 refine fw_pu rfl ?_
  refine fw_ex 51 (B8 (b8I ((j : Nat) : Int))) rfl rfl rfl (fun a h => (run_convOp (h.ev rfl) (cvI8 _ _))) ?_
  refine fw_al (t := 5) (u := fun q => .slice (some ⟨q, 0, none⟩) 1 1) 52 [B8 (b8I ((j : Nat) : Int))] rfl rfl rfl (fun a h => (bs8_1 _ (h.ev rfl))) ?_
  intro q207 W208 g211 s209 r210
  have := Nat.le_trans bW190.size g211
  have hapq207 := ob_new gW190_0 g211
  have b212 := bW190.trans (s209.mono bW190.size)
  have f213 := (below_own fW190_0 s209)
  have f214 := (below_own gW190_0 s209)
  have hBs := Nat.le_trans hBs s209.size
  refine fw_to 53 rfl rfl rfl (fun a h => opTo_byt (l := lj) (ad := aj) (c := cj) _ _ rfl (h.ev rfl) f214 (h.ev rfl) (slB _ _ (b8I ((j : Nat) : Int)) r210) (by omega) (by simp) hBs) ?_
  rintro _ V216 ⟨l215, a215, c215, rfl, hl215, hg215, ho215⟩
  have r217 := row_grew r210 hg215 hapq207
  replace hapq207 := grew_off hg215 hapq207 r210.2.2
  have b218 := ob_low b212 f214 hg215 hwB (Nat.le_trans hwB hBs)
  have hBs := Nat.le_trans hBs hg215.1.size
  have f219 := (ob_apart f213 hg215 f214 hloC)
  have hn215 : l215.length ≤ 70000 := by rw [hl215, List.length_append, one_len]; omega
  refine fw_pu rfl (fw_dt (fw_sq (fw_rg rfl ?_)))
  iterate 2 refine fw_pu rfl ?_
  refine fw_to 56 rfl rfl rfl (fun a h => opTo_byt (l := l215) (ad := a215) (c := c215) _ _ rfl (h.ev rfl) ho215 (h.ev rfl) (Sl.of_own f219).1 (by omega) (by omega) hBs) ?_
  rintro _ V221 ⟨l220, a220, c220, rfl, hl220, hg220, ho220⟩
  have r222 := row_grew r217 hg220 hapq207
  replace hapq207 := grew_off hg220 hapq207 r217.2.2
  have b223 := ob_low b218 ho215 hg220 hwB (Nat.le_trans hwB hBs)
  have hBs := Nat.le_trans hBs hg220.1.size
  have f224 := (ob_apart f219 hg220 ho215 hloC)
  refine fw_pu rfl (fw_dt (fw_rt ?_))
  refine ⟨fun a h => ?_⟩
  exact ow_ret1 rfl h.df (h.g 2 rfl) ⟨_, _, _, rfl, by rw [hl220, hl215, b8I_ofNat, ← hst, hlj, hlC, en_eq]; simp, own_mono ho220 hwB, b223⟩
end
end Go.Proofs.YtpgnlhfokffioaaDoor
namespace Go.Proofs.YtpgnlhfokffioaaDoor
section
open Go.RowKit Go.Lib
theorem made_list (z v : Value) (n : Nat) (h : z.cells = #[v]) : (madeCells z.cells n).toList = List.replicate n v := by
  rw [h]
  unfold madeCells
  apply List.ext_getElem
  · simp
  · intro i h1 h2
    simp [Nat.mod_one]
theorem opTo_make {o : Oper} {a : Act} {w : World} (T e : TypeId) (x : Operand) (n : Nat) (z : Value) (i0 : TypeInfo) (ho : o.op = .makeSlice T x x) (hu : Tryd.prog.underlying T = some (.slice e)) (hi : Tryd.prog.info? e = some i0) (hz0 : i0.zero = some z) (hz1 : i0.size = 1) (hz2 : i0.bytes ≤ 8) (hzc : z.cells = #[z]) (hx : a.eval x = .int .i64 (n : Int)) (hn : n ≤ 100000) :
    opTo Tryd.prog o a w fun v w' => v = .slice (some ⟨w.heap.size, 0, none⟩) n n ∧ w'.ownsRow w.heap.size e 1 v n (List.replicate n z) ∧ Below w.heap.size w w' := by
  obtain ⟨w', hr, h1, h2⟩ := run_makeSlice_full (P := Tryd.prog) (w := w) w.heap.size T e i0 z 1 hu hi hz0 hz1 .i64 .i64 n (by omega) (Nat.le_trans (Nat.mul_le_mul hz2 hn) (by decide)) (by unfold maxLen; omega) (Nat.le_refl _)
  refine .inl ⟨_, w', ?_, rfl, ?_, below_grown (Below.refl _ w) h2 (fun k hk => (nomatch hk)) (Nat.le_refl _)⟩
  · unfold execOp
    simp only [ho, hx, hr, Sem.run_bind, Result.andThen_ok, Sem.run_pure]
  · rw [Nat.mul_one, made_list z z n hzc] at h1; exact h1
theorem run_slice3 (b o L cap i : Nat) (w : World) (h1 : i ≤ L) (h2 : L ≤ cap) : (Instr.sliceAt 31 (.slice (some ⟨b, o, none⟩) L cap) (some (.int .i64 i)) none none).run Tryd.prog w = .ok (.slice (adrAt b o cap i) (L - i) (cap - i)) w := by
  have g1 : (i : Int) ≤ (L : Int) := by omega
  unfold adrAt
  by_cases g4 : cap - i = 0
  · have hi : i = cap := by omega
    have hL : L = cap := by omega
    subst hi hL
    simp [go_sem, Instr.sliceAt, *]
  · rw [if_neg g4]
    simp [go_sem, Instr.sliceAt, *]
    try omega
def tlA (a : Option Addr) (c N : Nat) : Option Addr := match a with
  | none => none
  | some x => if c - N = 0 then some x else some ⟨x.block, x.off + N, none⟩
section
variable {W0 w : World} {a : Option Addr} {c n N : Nat} {l : List UInt8}
theorem sln_cases (h : SlN W0 (.slice a n c) l) : n = l.length ∧ n ≤ c ∧ c ≤ 9223372036854775807 ∧ ((a = none ∧ n = 0 ∧ c = 0) ∨ ∃ b o, a = some ⟨b, o, none⟩) := by
  obtain ⟨h1, h2, h3⟩ := sl_cap h.1
  refine ⟨h1, h2, h3, ?_⟩
  rcases h.2 with e | ⟨b, o, n', c', e⟩
  · injection e with e1 e2 e3; exact .inl ⟨e1, e2, e3⟩
  · injection e with e1 e2 e3; exact .inr ⟨b, o, e1⟩
theorem slHead (h : SlN W0 (.slice a n c) l) (hN : N ≤ l.length) (w : World) : (Instr.sliceAt 31 (.slice a n c) none (some (.int .i64 (N : Int))) none).run Tryd.prog w = .ok (.slice a N c) w := by
  obtain ⟨h1, h2, h3, ⟨rfl, h4, h5⟩ | ⟨b, o, rfl⟩⟩ := sln_cases h
  · obtain rfl : N = 0 := by omega
    subst h4 h5
    simp [go_sem, Instr.sliceAt]
  · exact run_slice1 b o n c N w (by omega) h3
theorem slHead_sl (h : SlN W0 (.slice a n c) l) (hN : N ≤ l.length) : Sl W0 (.slice a N c) (l.take N) := by
  obtain ⟨h1, h2, h3, ⟨rfl, h4, h5⟩ | ⟨b, o, rfl⟩⟩ := sln_cases h
  · obtain rfl : N = 0 := by omega
    subst h5
    rw [List.take_zero]; exact Sl.none_left W0 _
  · subst h1; exact h.1.prefix N hN
theorem slTail (h : SlN W0 (.slice a n c) l) (hN : N ≤ l.length) (w : World) : (Instr.sliceAt 31 (.slice a n c) (some (.int .i64 (N : Int))) none none).run Tryd.prog w = .ok (.slice (tlA a c N) (l.drop N).length (c - N)) w := by
  obtain ⟨h1, h2, h3, ⟨rfl, h4, h5⟩ | ⟨b, o, rfl⟩⟩ := sln_cases h
  · obtain rfl : N = 0 := by omega
    obtain rfl : l = [] := List.eq_nil_of_length_eq_zero (by omega)
    subst h4 h5
    simp [go_sem, Instr.sliceAt, tlA]
  · rw [List.length_drop, ← h1]; exact run_slice3 b o n c N w (by omega) h2
theorem slTail_sl (h : SlN W0 (.slice a n c) l) (hN : N ≤ l.length) : SlN W0 (.slice (tlA a c N) (l.drop N).length (c - N)) (l.drop N) := by
  obtain ⟨h1, h2, h3, ⟨rfl, h4, h5⟩ | ⟨b, o, rfl⟩⟩ := sln_cases h
  · obtain rfl : N = 0 := by omega
    obtain rfl : l = [] := List.eq_nil_of_length_eq_zero (by omega)
    subst h4 h5
    exact ⟨Sl.none_left W0 _, .inl rfl⟩
  · have g := (Sl.split (h1 ▸ h.1) N hN).2
    rw [List.length_drop]
    unfold tlA
    refine ⟨g, .inr ?_⟩
    dsimp only
    split <;> exact ⟨_, _, _, _, rfl⟩
end
theorem sln_lt {W0 : World} {n c : Nat} {a : Option Addr} {l : List UInt8} {x : Addr} (h : SlN W0 (.slice a n c) l) (hl : l ≠ []) (hx : a = some x) : x.block < W0.heap.size := by
  obtain ⟨ao, cap, hv, -, -, -, h4⟩ := h.1
  injection hv with e1
  obtain ⟨b, off, hb, hlt, -⟩ := h4 hl
  have e2 := (e1.trans hb).symm.trans hx
  injection e2 with e2
  rw [← e2]; exact hlt
theorem run_sliceOp0 {t : TypeId} {P : Program} {ρ : Operand → Value} {d : Option Tmp} {ty : TypeId} {pos : String} {af : Array Edge} {g : Option (Nat × Bool)} {w : World} {v : Value} {x z : Operand} {u1 u3 : Value} (hx : ρ x = u1) (hz : ρ z = u3) (h : (Instr.sliceAt t u1 (some u3) none none).run P w = .ok v w) : (execOp ρ ⟨d, .slice t x (some z) none none, ty, pos, af, g⟩).run P w = .ok (.value v) w := by
  simp only [execOp, hx, hz, Option.map_some, Option.map_none, Sem.run_bind, h, Result.andThen_ok, Sem.run_pure]
theorem gr_below {W W' : World} {r : Option Nat} (hb : Below W.heap.size W W') : W.grownBy W' r := ⟨hb.os, hb.tape, hb.output, hb.size, fun k hk _ => hb.block k hk⟩
abbrev Rk1 (W0 : World) (g : Nat) (w : World) (v : Value) (k : List UInt8) (bb : Bool) (e : Ending) (w' : World) : Prop := ∃ l' a' c' b', e = .returned v ∧ l' = k ∧ b' = bb ∧ w.grownBy w' (some g) ∧ RowAt w' g [.slice a' l'.length c', .bool b'] ∧ SlN W0 (.slice a' l'.length c') l'
theorem zeros_map (n : Nat) : List.replicate n (.int .u8 0 : Value) = (List.replicate n (0 : UInt8)).map B8 := by rw [List.map_replicate]; rfl
set_option maxRecDepth 100000 in
set_option maxHeartbeats 4000000 in
theorem rkTake {W0 w : World} {g c : Nat} {a : Option Addr} {b : Bool} {l : List UInt8} (h0 : Below W0.heap.size W0 w) (N : Nat) (hN : N ≤ 70000) (hg : W0.heap.size ≤ g) (rr : RowAt w g [.slice a l.length c, .bool b]) (hs : SlN W0 (.slice a l.length c) l) :
    Calls Tryd.prog 71 #[.pointer (some ⟨g, 0, none⟩), .int .i64 ((N : Nat) : Int)] w fun e w' => ∃ av cv l' a' c' b', e = .returned (.slice av N cv) ∧ l' = tkR N l ∧ b' = tX N b l ∧ w.grownBy w' (some g) ∧ RowAt w' g [.slice a' l'.length c', .bool b'] ∧ SlN W0 (.slice a' l'.length c') l' ∧ Sl w' (.slice av N cv) (tkP N l) ∧ (0 < N → ∀ x, av = some x → x.block < W0.heap.size ∨ w.heap.size ≤ x.block) := by
  have hb0 := Below.refl W0.heap.size w
  have hBw := h0.size
  have hgf := gr_refl w (some g)
  refine fw_en 37 [(0, .pointer (some ⟨g, 0, none⟩)), (1, .int .i64 ((N : Nat) : Int))] Tryd.func71 rfl Tryd.ntmps71 rfl ⟨rfl, rfl, trivial⟩ ?_
  refine fw_sq (fw_rg rfl (fw_pu rfl (fw_dt (fw_sq (fw_sq (fw_rg rfl ?_))))))
  iterate 4 refine fw_pu rfl ?_
  refine fw_ld rr rfl rfl ?_
  iterate 2 refine fw_pu rfl ?_
  refine fw_dt ?_
  rcases Bool.eq_false_or_eq_true ((decide (((l.length : Nat) : Int) < ((N : Nat) : Int)))) with hb_1 | hb_1
  · skip
    refine fw_cT rfl hb_1 (fw_sq (fw_rg rfl ?_))
    iterate 3 refine fw_pu rfl ?_
    refine fw_st rr rfl rfl ?_
    intro W2 s3 r4
    have b5 := below_chg hb0 s3 (by omega) (Nat.le_trans hBw hb0.size)
    have f6 := (gr_trans hgf s3)
    refine fw_dt (fw_sq (fw_rg rfl ?_))
    iterate 3 refine fw_pu rfl ?_
    refine fw_st r4 rfl rfl ?_
    intro W7 s8 r9
    have b10 := below_chg b5 s8 (by omega) (Nat.le_trans hBw b5.size)
    have f11 := (gr_trans f6 s8)
    refine fw_dt (fw_sq (fw_rg rfl (fw_pu rfl ?_)))
    obtain ⟨i0, hi0, hz0, hz1, hz2⟩ := info_parts infoU8
    have hWB := (Nat.le_trans hBw b10.size)
    have hwV := f11.size
    refine fw_to 20 rfl rfl rfl (fun a h => opTo_make 31 5 _ N (.int .u8 0) i0 rfl Tryd.underlying31 hi0 hz0 hz1 (by rw [hz2]; decide) rfl (h.ev rfl) (by omega)) ?_
    rintro _ V12 ⟨rfl, hoy, hby⟩
    have b13 := b10.trans (hby.mono (Nat.le_trans hBw b10.size))
    have r14 := r9.below hby
    have f15 := (gr_trans f11 (gr_below hby))
    refine fw_pu rfl (fw_dt (fw_rt (fw_tr ?_)))
    refine ⟨fun a h => ?_⟩
    have hfar : ¬ N ≤ l.length := by have h := of_decide_eq_true hb_1; omega
    exact ow_ret1 rfl h.df (h.g 4 rfl) ⟨_, _, [], none, 0, true, rfl, by unfold tkR; rw [if_neg hfar], by unfold tX; rw [decide_eq_true (by omega)]; simp, f15, r14, ⟨Sl.none_left W0 _, .inl rfl⟩, by unfold tkP; rw [if_neg hfar]; rw [zeros_map] at hoy; have g2 := (Sl.of_own (l := List.replicate N 0) hoy).1; exact g2, fun _ x hx => .inr (by injection hx with hx; rw [← hx]; exact hwV)⟩
  refine fw_cF rfl hb_1 (fw_sk (fw_th (fw_sq ?_)))
  have hNl : N ≤ l.length := by have h := of_decide_eq_false hb_1; omega
  refine fw_rg rfl ?_
  iterate 3 refine fw_pu rfl ?_
  refine fw_ld rr rfl rfl (fw_pu rfl (fw_ex 26 (.slice a N c) rfl rfl rfl (fun a h => (run_sliceOp1 (h.ev rfl) (h.ev rfl) (slHead hs hNl _))) (fw_pu rfl (fw_dt (fw_sq (fw_rg rfl ?_))))))
  iterate 4 refine fw_pu rfl ?_
  refine fw_ld rr rfl rfl (fw_pu rfl (fw_ex 33 (.slice (tlA a c N) (l.drop N).length (c - N)) rfl rfl rfl (fun a h => (run_sliceOp0 (h.ev rfl) (h.ev rfl) (slTail hs hNl _))) ?_))
  iterate 2 refine fw_pu rfl ?_
  refine fw_st rr rfl rfl ?_
  intro W16 s17 r18
  have b19 := below_chg hb0 s17 (by omega) (Nat.le_trans hBw hb0.size)
  have f20 := (gr_trans hgf s17)
  refine fw_dt (fw_sq (fw_rg rfl ?_))
  iterate 2 refine fw_pu rfl ?_
  refine fw_dt (fw_rt ?_)
  refine ⟨fun a h => ?_⟩
  exact ow_ret1 rfl h.df (h.g 4 rfl) ⟨_, _, l.drop N, _, _, b, rfl, by unfold tkR; rw [if_pos hNl], by unfold tX; rw [decide_eq_false (by omega)]; simp, f20, r18, slTail_sl hs hNl, by unfold tkP; rw [if_pos hNl]; exact (slHead_sl hs hNl).below (h0.trans b19), fun hN0 x hx => .inl (sln_lt hs (by rintro rfl; simp at hNl; omega) hx)⟩
theorem tkP_len (n : Nat) (l : List UInt8) : (tkP n l).length = n := by
  unfold tkP; split
  · rw [List.length_take]; omega
  · rw [List.length_replicate]
theorem ofvP_bd (l : List UInt8) : 0 ≤ ofv (tkP 2 l) ∧ ofv (tkP 2 l) ≤ 65535 := by
  obtain ⟨h1, h2⟩ := ofv_bd (tkP 2 l)
  rw [tkP_len] at h2
  have h3 : (256 : Int) ^ 2 = 65536 := by decide
  omega
theorem ofvQ_bd (l : List UInt8) : 0 ≤ ofv (tkP 1 l) ∧ ofv (tkP 1 l) ≤ 255 := by
  obtain ⟨h1, h2⟩ := ofv_bd (tkP 1 l)
  rw [tkP_len] at h2
  have h3 : (256 : Int) ^ 1 = 256 := by decide
  omega
set_option maxRecDepth 100000 in
set_option maxHeartbeats 4000000 in
theorem rkNum {W0 w : World} {g c : Nat} {a : Option Addr} {b : Bool} {l : List UInt8} (h0 : Below W0.heap.size W0 w) (hg : W0.heap.size ≤ g) (rr : RowAt w g [.slice a l.length c, .bool b]) (hs : SlN W0 (.slice a l.length c) l) :
    Calls Tryd.prog 72 #[.pointer (some ⟨g, 0, none⟩)] w fun e w' => Rk1 W0 g w (.int .i64 (ofv (tkP 2 l))) (tkR 2 l) (tX 2 b l) e w' := by
  have hb0 := Below.refl W0.heap.size w
  have hBw := h0.size
  have hgf := gr_refl w (some g)
  refine fw_en 6 [(0, .pointer (some ⟨g, 0, none⟩))] Tryd.func72 rfl Tryd.ntmps72 rfl ⟨rfl, trivial⟩ ?_
  refine fw_sq (fw_rg rfl (fw_pu rfl (fw_dt (fw_sq (fw_rg rfl (fw_pu rfl ?_))))))
  refine fw_ca Tryd.func71 rfl rfl rfl ((rkTake (h0.trans hb0) 2 (by decide) hg rr hs)) ?_
  rintro _ V2 ⟨av1, cv1, l1, a1, c1, b1, rfl, hl1, hx1, sn1, rr1, hs1, hv1, hz1⟩
  refine ⟨_, rfl, ?_⟩
  have b3 := below_chg hb0 sn1 (by omega) (Nat.le_trans hBw hb0.size)
  have f4 := (gr_trans hgf sn1)
  refine fw_ca Tryd.func93 rfl rfl rfl ((of_any _ (tkP 2 l) V2 (by rw [tkP_len]; decide) hv1)) ?_
  rintro _ _ ⟨rfl, rfl⟩
  refine ⟨(.int .i64 (ofv (tkP 2 l))), rfl, ?_⟩
  refine fw_pu rfl (fw_dt (fw_rt ?_))
  refine ⟨fun a h => ?_⟩
  exact ow_ret1 rfl h.df (h.g 2 rfl) ⟨_, _, _, _, rfl, hl1, hx1, f4, rr1, hs1⟩
set_option maxRecDepth 100000 in
set_option maxHeartbeats 4000000 in
theorem rkTxt {W0 w : World} {g c : Nat} {a : Option Addr} {b : Bool} {l : List UInt8} (h0 : Below W0.heap.size W0 w) (hg : W0.heap.size ≤ g) (rr : RowAt w g [.slice a l.length c, .bool b]) (hs : SlN W0 (.slice a l.length c) l) :
    Calls Tryd.prog 73 #[.pointer (some ⟨g, 0, none⟩)] w fun e w' => Rk1 W0 g w (.string (rS l)) (rR l) (rX b l) e w' := by
  have hb0 := Below.refl W0.heap.size w
  have hBw := h0.size
  have hgf := gr_refl w (some g)
  refine fw_en 8 [(0, .pointer (some ⟨g, 0, none⟩))] Tryd.func73 rfl Tryd.ntmps73 rfl ⟨rfl, trivial⟩ ?_
  refine fw_sq (fw_rg rfl (fw_pu rfl (fw_dt (fw_sq (fw_rg rfl ?_)))))
  iterate 2 refine fw_pu rfl ?_
  refine fw_ca Tryd.func72 rfl rfl rfl ((rkNum (h0.trans hb0) hg rr hs)) ?_
  rintro _ V2 ⟨l1, a1, c1, b1, rfl, hl1, hx1, sn1, rr1, hs1⟩
  refine ⟨(.int .i64 (ofv (tkP 2 l))), rfl, ?_⟩
  have b3 := below_chg hb0 sn1 (by omega) (Nat.le_trans hBw hb0.size)
  have f4 := (gr_trans hgf sn1)
  refine fw_ca Tryd.func71 rfl rfl rfl ((by have h := rkTake (h0.trans b3) (ofv (tkP 2 l)).toNat (by have := ofvP_bd l; omega) hg rr1 hs1; rw [Int.toNat_of_nonneg (ofvP_bd l).1] at h; exact h)) ?_
  rintro _ V6 ⟨av5, cv5, l5, a5, c5, b5, rfl, hl5, hx5, sn5, rr5, hs5, hv5, hz5⟩
  refine ⟨_, rfl, ?_⟩
  have b7 := below_chg b3 sn5 (by omega) (Nat.le_trans hBw b3.size)
  have f8 := (gr_trans f4 sn5)
  refine fw_ex 7 (.string (⟨(tkP (ofv (tkP 2 l)).toNat l1).toArray⟩ : ByteArray)) rfl rfl rfl (fun a h => (run_convOp (h.ev rfl) (sl_str hv5))) ?_
  refine fw_pu rfl (fw_dt (fw_rt ?_))
  refine ⟨fun a h => ?_⟩
  exact ow_ret1 rfl h.df (h.g 2 rfl) ⟨_, _, _, _, by unfold rS; rw [← hl1], by rw [hl5, hl1]; rfl, by rw [hx5, hx1, hl1]; rfl, f8, rr5, hs5⟩
end
end Go.Proofs.YtpgnlhfokffioaaDoor
