/-
  A disk: a new one; what is made.
-/
import Derived.Test.YtcglmkcefenjcaaDkJ
namespace Go.Proofs.Ytcglmkcefenjcaa
open Go.RowKit Go.Lib
theorem infoBoolD : (Try.prog.info? 4).map (fun i => (i.zero, i.size, i.bytes)) = some (some (.bool false), 1, 1) := by kernel_rfl
theorem made_list (z v : Value) (n : Nat) (h : z.cells = #[v]) : (madeCells z.cells n).toList = List.replicate n v := by
  rw [h]
  unfold madeCells
  apply List.ext_getElem
  · simp
  · intro i h1 h2
    simp [Nat.mod_one]
theorem opTo_make {o : Oper} {a : Act} {w : World} (T e : TypeId) (x : Operand) (n : Nat) (z : Value) (i0 : TypeInfo) (ho : o.op = .makeSlice T x x) (hu : Try.prog.underlying T = some (.slice e)) (hi : Try.prog.info? e = some i0) (hz0 : i0.zero = some z) (hz1 : i0.size = 1) (hz2 : i0.bytes ≤ 8) (hzc : z.cells = #[z]) (hx : a.eval x = .int .i64 (n : Int)) (hn : n ≤ 100000) :
    opTo Try.prog o a w fun v w' => v = .slice (some ⟨w.heap.size, 0, none⟩) n n ∧ w'.ownsRow w.heap.size e 1 v n (List.replicate n z) ∧ Below w.heap.size w w' := by
  obtain ⟨w', hr, h1, h2⟩ := run_makeSlice_full (P := Try.prog) (w := w) w.heap.size T e i0 z 1 hu hi hz0 hz1 .i64 .i64 n (by omega) (Nat.le_trans (Nat.mul_le_mul hz2 hn) (by decide)) (by unfold maxLen; omega) (Nat.le_refl _)
  refine .inl ⟨_, w', ?_, rfl, ?_, below_grown (Below.refl _ w) h2 (fun k hk => (nomatch hk)) (Nat.le_refl _)⟩
  · unfold execOp
    simp only [ho, hx, hr, Sem.run_bind, Result.andThen_ok, Sem.run_pure]
  · rw [Nat.mul_one, made_list z z n hzc] at h1; exact h1
def newD (b : List UInt8) : ED := ⟨b, b, List.replicate (b.length / 64) false, [], [], 0, false, false, 0⟩
def newOK (b : List UInt8) : Bool := b.length % 64 == 0 && (1 ≤ b.length / 64 && b.length / 64 ≤ 4096)
theorem quoL (n : Nat) (w : World) (h : n ≤ 1000000) : (binOp .quo 3 (.int .i64 (n : Int)) (.int .i64 64)).run Try.prog w = .ok (.int .i64 ((n / 64 : Nat) : Int)) w := by
  have := wrap_i64 ((n / 64 : Nat) : Int) (by omega) (by omega)
  simp [go_sem, Int.tdiv_eq_ediv_of_nonneg (show (0 : Int) ≤ n by omega)]
  push_cast at this; exact this
theorem remL (n : Nat) (w : World) (h : n ≤ 1000000) : (binOp .rem 3 (.int .i64 (n : Int)) (.int .i64 64)).run Try.prog w = .ok (.int .i64 ((n % 64 : Nat) : Int)) w := by
  have := wrap_i64 ((n % 64 : Nat) : Int) (by omega) (by omega)
  simp [go_sem, Int.tmod_eq_emod_of_nonneg (show (0 : Int) ≤ n by omega)]
theorem Owns.addNil {B : Nat} {H : List Nat} {R : List OR} {W : World} (h : Owns B H R W) (e sz : Nat) : Owns B H (R ++ [⟨e, sz, .slice none 0 0, 0, []⟩]) W :=
  ⟨fun x hx => by
    rcases List.mem_append.1 hx with hx | hx
    · exact h.at_ x hx
    · rw [List.mem_singleton.1 hx]; exact World.ownsRow_nil _ _ _ _, List.pairwise_append.2 ⟨h.two, List.pairwise_singleton _ _, fun a _ b hb k _ hk => by rw [List.mem_singleton.1 hb] at hk; cases hk⟩, fun k hk => ⟨(h.held k hk).1, fun x hx e => by
    rcases List.mem_append.1 hx with hx | hx
    · exact (h.held k hk).2 x hx e
    · rw [List.mem_singleton.1 hx] at e; cases e⟩⟩
theorem new_asm {B q n : Nat} {b : List UInt8} {a1 a2 ay : Option Addr} {c1 c2 : Nat} {W : World} (h : Owns B [q] [⟨5, 1, .slice a1 b.length c1, b.length, b.map B8⟩, ⟨5, 1, .slice a2 b.length c2, b.length, b.map B8⟩, ⟨4, 1, .slice ay n n, n, List.replicate n (.bool false)⟩] W) (hn : n = b.length / 64) (hq : B ≤ q)
    (hr : RowAt W q [.slice a1 b.length c1, .slice a2 b.length c2, .slice ay n n, .slice none 0 0, .slice none 0 0, .int .i64 0, .bool false, .bool false, .int .i64 0]) : Dk B [] q (newD b) W := by
  have h2 := (h.addNil 3 1).addNil 136 4
  have e : newD b = (⟨b, b, List.replicate n false, [], [], 0, false, false, 0⟩ : ED) := by rw [hn]; rfl
  rw [e]
  refine Dk.mkL (PL := []) hr rfl rfl (by simp) rfl rfl rfl hq ?_
  have e2 : Rs (.slice a1 b.length c1) (.slice a2 b.length c2) (.slice ay n n) (.slice none 0 0) (.slice none 0 0) (⟨b, b, List.replicate n false, [], [], 0, false, false, 0⟩ : ED) [] = (([⟨5, 1, .slice a1 b.length c1, b.length, b.map B8⟩, ⟨5, 1, .slice a2 b.length c2, b.length, b.map B8⟩, ⟨4, 1, .slice ay n n, n, List.replicate n (.bool false)⟩] : List OR) ++ [⟨3, 1, .slice none 0 0, 0, []⟩]) ++ [⟨136, 4, .slice none 0 0, 0, []⟩] := by
    simp [Rs]
  rw [e2]; exact h2
set_option maxRecDepth 100000 in
set_option maxHeartbeats 4000000 in
theorem new_any {b : List UInt8} {va : Option Addr} {vc : Nat} {w : World} (hSl : Sl w (.slice va b.length vc) b) (hbl : b.length ≤ 1000000) :
    Calls Try.prog 30 #[.slice va b.length vc] w fun e w' => (newOK b = false ∧ e = .returned (.tuple #[.pointer none, .int .i64 1]) ∧ w = w') ∨ (newOK b = true ∧ ∃ q, e = .returned (.tuple #[.pointer (some ⟨q, 0, none⟩), .int .i64 0]) ∧ w.heap.size ≤ q ∧ Dk w.heap.size [] q (newD b) w' ∧ Below w.heap.size w w') := by
  have hb0 := Below.refl w.heap.size w
  have ho : Owns w.heap.size [] [] w := Owns.nil (fun k hk => (nomatch hk))
  refine fw_en 28 [(0, .slice va b.length vc)] Try.func30 rfl Try.ntmps30 rfl ⟨rfl, trivial⟩ ?_
  refine fw_sq ?_
  refine fw_rg rfl ?_
  iterate 2 refine fw_pu rfl ?_
  refine fw_dt ?_
  refine fw_sq ?_
  refine fw_rg rfl ?_
  iterate 2 refine fw_pu rfl ?_
  refine fw_ex 7 (.int .i64 (((b.length / 64) : Nat) : Int)) rfl rfl rfl (fun a h => (run_binOp (h.ev rfl) (h.ev rfl) (by simp [go_sem]) (quoL _ _ hbl))) ?_
  refine fw_pu rfl ?_
  refine fw_dt ?_
  refine fw_sq ?_
  refine fw_sq ?_
  refine fw_rg rfl ?_
  iterate 2 refine fw_pu rfl ?_
  refine fw_ex 10 (.int .i64 (((b.length % 64) : Nat) : Int)) rfl rfl rfl (fun a h => (run_binOp (h.ev rfl) (h.ev rfl) (by simp [go_sem]) (remL _ _ hbl))) ?_
  iterate 2 refine fw_pu rfl ?_
  rcases Bool.eq_false_or_eq_true (((((b.length % 64) : Nat) : Int) == 0)) with hb_1 | hb_1
  · skip
    refine fw_kn 12 rfl (not_of hb_1) ?_
    iterate 4 refine fw_pu rfl ?_
    rcases Bool.eq_false_or_eq_true ((decide ((((b.length / 64) : Nat) : Int) < 1))) with hb_2 | hb_2
    · skip
      refine fw_kn 16 rfl hb_2 ?_
      iterate 3 refine fw_pu rfl ?_
      refine fw_dt ?_
      refine fw_cT rfl rfl ?_
      refine fw_sq ?_
      refine fw_rg rfl ?_
      iterate 2 refine fw_pu rfl ?_
      refine fw_dt ?_
      refine fw_rt ?_
      refine fw_tr ?_
      refine ⟨fun a h => ?_⟩
      exact ow_ret2 rfl h.df (h.g 2 rfl) (h.g 3 rfl) (.inl ⟨by unfold newOK; simp at hb_2 ⊢; omega, rfl, rfl⟩)
    refine fw_kn 16 rfl hb_2 ?_
    iterate 3 refine fw_pu rfl ?_
    refine fw_dt ?_
    rcases Bool.eq_false_or_eq_true ((decide (4096 < (((b.length / 64) : Nat) : Int)))) with hb_3 | hb_3
    · skip
      refine fw_cT rfl hb_3 ?_
      refine fw_sq ?_
      refine fw_rg rfl ?_
      iterate 2 refine fw_pu rfl ?_
      refine fw_dt ?_
      refine fw_rt ?_
      refine fw_tr ?_
      refine ⟨fun a h => ?_⟩
      exact ow_ret2 rfl h.df (h.g 2 rfl) (h.g 3 rfl) (.inl ⟨by unfold newOK; simp at hb_3 ⊢; omega, rfl, rfl⟩)
    refine fw_cF rfl hb_3 ?_
    refine fw_sk ?_
    refine fw_th ?_
    refine fw_sq ?_
    refine fw_hr (fun X => Below w.heap.size w X) (by kernel_rfl) 10 rfl ?_
    intro W4 s5
    have b6 := hb0.trans (s5.mono hb0.size)
    have f7 := (Owns.below ho s5)
    refine ⟨b6, ?_⟩
    refine fw_tk 0 rfl rfl (by kernel_rfl) (fun _ _ _ _ _ h => h) ?_
    refine fw_tk 2 rfl rfl (by kernel_rfl) (fun _ _ _ _ _ h => h) ?_
    refine fw_tk 4 rfl rfl (by kernel_rfl) (fun _ _ _ _ _ h => h) ?_
    refine fw_o2 1 5 (by kernel_rfl) ?_ ?_
    · skip
      have hWB9 : w.heap.size ≤ W4.heap.size := b6.size
      refine fw_ov (fun v X => ∃ a2 c2, v = .slice a2 b.length c2 ∧ Below W4.heap.size W4 X ∧ X.ownsRow W4.heap.size 5 1 (.slice a2 b.length c2) b.length (b.map B8)) rfl Try.func73 rfl rfl rfl ((clone_any _ b W4 hbl (hSl.below b6)).mono fun e X ⟨v, he, h1, h2⟩ => by obtain ⟨a2, c2, rfl⟩ := own_slice h2; exact ⟨_, he, a2, c2, rfl, h1, h2⟩) ?_
      rintro _ V8 ⟨a9, c9, rfl, hb9, hd9⟩
      have hoN9 := Owns.add (r' := ⟨5, 1, .slice a9 b.length c9, b.length, b.map B8⟩) f7 hb9 hd9 hWB9
      have b10 := (b6.trans (hb9.mono hWB9))
      have f11 := hoN9
      refine ⟨b10, ?_⟩
      refine fw_o2 3 5 (by kernel_rfl) ?_ ?_
      · skip
        have hWB13 : w.heap.size ≤ V8.heap.size := b10.size
        refine fw_ov (fun v X => ∃ a2 c2, v = .slice a2 b.length c2 ∧ Below V8.heap.size V8 X ∧ X.ownsRow V8.heap.size 5 1 (.slice a2 b.length c2) b.length (b.map B8)) rfl Try.func73 rfl rfl rfl ((clone_any _ b V8 hbl (hSl.below b10)).mono fun e X ⟨v, he, h1, h2⟩ => by obtain ⟨a2, c2, rfl⟩ := own_slice h2; exact ⟨_, he, a2, c2, rfl, h1, h2⟩) ?_
        rintro _ V12 ⟨a13, c13, rfl, hb13, hd13⟩
        have hoN13 := Owns.add (r' := ⟨5, 1, .slice a13 b.length c13, b.length, b.map B8⟩) f11 hb13 hd13 hWB13
        have b14 := (b10.trans (hb13.mono hWB13))
        have f15 := hoN13
        refine ⟨b14, ?_⟩
        refine fw_o1 5 (by kernel_rfl) ?_
        have hWB17 : w.heap.size ≤ V12.heap.size := b14.size
        obtain ⟨i17, hi17, hz017, hz117, hz217⟩ := info_parts infoBoolD
        refine fw_ot rfl 25 rfl rfl rfl (fun a h => (opTo_make 125 4 _ (b.length / 64) (.bool false) i17 rfl Try.underlying125 hi17 hz017 hz117 (by rw [hz217]; decide) rfl (h.ev rfl) (by omega))) ?_
        rintro _ V16 ⟨rfl, hoy, hby⟩
        have hoN17 := Owns.add (r' := ⟨4, 1, .slice (some ⟨V12.heap.size, 0, none⟩) (b.length / 64) (b.length / 64), (b.length / 64), List.replicate (b.length / 64) (.bool false)⟩) f15 hby hoy hWB17
        have b18 := b14.trans (hby.mono hWB17)
        refine ⟨b18, ?_⟩
        refine fw_tx 6 26 (.agg #[.slice a9 b.length c9, .slice a13 b.length c13, .slice (some ⟨V12.heap.size, 0, none⟩) (b.length / 64) (b.length / 64), .slice none 0 0, .slice none 0 0, .int .i64 0, .bool false, .bool false, .int .i64 0]) rfl rfl rfl rfl (fun a h W hW => by have b18 := hW; exact (run_buildOp (bp3 (h.ev rfl) (h.ev rfl) (h.ev rfl)) (by first | kernel_rfl | rfl))) (by kernel_rfl) (fun _ _ _ _ _ h => h) ?_
        refine fw_o1 7 (by kernel_rfl) ?_
        refine fw_ob rfl rfl (cs := [.slice a9 b.length c9, .slice a13 b.length c13, .slice (some ⟨V12.heap.size, 0, none⟩) (b.length / 64) (b.length / 64), .slice none 0 0, .slice none 0 0, .int .i64 0, .bool false, .bool false, .int .i64 0]) rfl ?_
        intro q19 W20 g23 s21 r22
        have := Nat.le_trans b18.size g23
        have hqB : w.heap.size ≤ q19 := Nat.le_trans b18.size g23
        have b24 := b18.trans (s21.mono b18.size)
        have f25 := (Owns.hold hoN17 s21 g23 r22.2.2)
        refine ⟨b24, ?_⟩
        refine fw_tk 8 rfl rfl (by kernel_rfl) (fun _ _ _ _ _ h => h) ?_
        refine fw_tk 9 rfl rfl (by kernel_rfl) (fun _ _ _ _ _ h => h) ?_
        refine fw_ht (by kernel_rfl) ?_
        refine fw_rt ?_
        refine ⟨fun a h => ?_⟩
        exact ow_ret2 rfl h.df (h.g 2 rfl) (h.g 3 rfl) (.inr ⟨by unfold newOK; simp at hb_1 hb_2 hb_3 ⊢; omega, _, rfl, hqB, new_asm (Owns.perm f25 (List.Perm.refl _)) rfl hqB r22, b24⟩)
      have hWB27 : w.heap.size ≤ V8.heap.size := b10.size
      obtain ⟨i27, hi27, hz027, hz127, hz227⟩ := info_parts infoBoolD
      refine fw_ot rfl 25 rfl rfl rfl (fun a h => (opTo_make 125 4 _ (b.length / 64) (.bool false) i27 rfl Try.underlying125 hi27 hz027 hz127 (by rw [hz227]; decide) rfl (h.ev rfl) (by omega))) ?_
      rintro _ V26 ⟨rfl, hoy, hby⟩
      have hoN27 := Owns.add (r' := ⟨4, 1, .slice (some ⟨V8.heap.size, 0, none⟩) (b.length / 64) (b.length / 64), (b.length / 64), List.replicate (b.length / 64) (.bool false)⟩) f11 hby hoy hWB27
      have b28 := b10.trans (hby.mono hWB27)
      refine ⟨b28, ?_⟩
      refine fw_o1 3 (by kernel_rfl) ?_
      have hWB30 : w.heap.size ≤ V26.heap.size := b28.size
      refine fw_ov (fun v X => ∃ a2 c2, v = .slice a2 b.length c2 ∧ Below V26.heap.size V26 X ∧ X.ownsRow V26.heap.size 5 1 (.slice a2 b.length c2) b.length (b.map B8)) rfl Try.func73 rfl rfl rfl ((clone_any _ b V26 hbl (hSl.below b28)).mono fun e X ⟨v, he, h1, h2⟩ => by obtain ⟨a2, c2, rfl⟩ := own_slice h2; exact ⟨_, he, a2, c2, rfl, h1, h2⟩) ?_
      rintro _ V29 ⟨a30, c30, rfl, hb30, hd30⟩
      have hoN30 := Owns.add (r' := ⟨5, 1, .slice a30 b.length c30, b.length, b.map B8⟩) hoN27 hb30 hd30 hWB30
      have b31 := (b28.trans (hb30.mono hWB30))
      have f32 := hoN30
      refine ⟨b31, ?_⟩
      refine fw_tx 6 26 (.agg #[.slice a9 b.length c9, .slice a30 b.length c30, .slice (some ⟨V8.heap.size, 0, none⟩) (b.length / 64) (b.length / 64), .slice none 0 0, .slice none 0 0, .int .i64 0, .bool false, .bool false, .int .i64 0]) rfl rfl rfl rfl (fun a h W hW => by have b31 := hW; exact (run_buildOp (bp3 (h.ev rfl) (h.ev rfl) (h.ev rfl)) (by first | kernel_rfl | rfl))) (by kernel_rfl) (fun _ _ _ _ _ h => h) ?_
      refine fw_o1 7 (by kernel_rfl) ?_
      refine fw_ob rfl rfl (cs := [.slice a9 b.length c9, .slice a30 b.length c30, .slice (some ⟨V8.heap.size, 0, none⟩) (b.length / 64) (b.length / 64), .slice none 0 0, .slice none 0 0, .int .i64 0, .bool false, .bool false, .int .i64 0]) rfl ?_
      intro q33 W34 g37 s35 r36
      have := Nat.le_trans b31.size g37
      have hqB : w.heap.size ≤ q33 := Nat.le_trans b31.size g37
      have b38 := b31.trans (s35.mono b31.size)
      have f39 := (Owns.hold f32 s35 g37 r36.2.2)
      refine ⟨b38, ?_⟩
      refine fw_tk 8 rfl rfl (by kernel_rfl) (fun _ _ _ _ _ h => h) ?_
      refine fw_tk 9 rfl rfl (by kernel_rfl) (fun _ _ _ _ _ h => h) ?_
      refine fw_ht (by kernel_rfl) ?_
      refine fw_rt ?_
      refine ⟨fun a h => ?_⟩
      exact ow_ret2 rfl h.df (h.g 2 rfl) (h.g 3 rfl) (.inr ⟨by unfold newOK; simp at hb_1 hb_2 hb_3 ⊢; omega, _, rfl, hqB, new_asm (Owns.perm f39 (List.Perm.cons _ (List.Perm.swap _ _ _))) rfl hqB r36, b38⟩)
    have hWB41 : w.heap.size ≤ W4.heap.size := b6.size
    obtain ⟨i41, hi41, hz041, hz141, hz241⟩ := info_parts infoBoolD
    refine fw_ot rfl 25 rfl rfl rfl (fun a h => (opTo_make 125 4 _ (b.length / 64) (.bool false) i41 rfl Try.underlying125 hi41 hz041 hz141 (by rw [hz241]; decide) rfl (h.ev rfl) (by omega))) ?_
    rintro _ V40 ⟨rfl, hoy, hby⟩
    have hoN41 := Owns.add (r' := ⟨4, 1, .slice (some ⟨W4.heap.size, 0, none⟩) (b.length / 64) (b.length / 64), (b.length / 64), List.replicate (b.length / 64) (.bool false)⟩) f7 hby hoy hWB41
    have b42 := b6.trans (hby.mono hWB41)
    refine ⟨b42, ?_⟩
    refine fw_o1 1 (by kernel_rfl) ?_
    have hWB44 : w.heap.size ≤ V40.heap.size := b42.size
    refine fw_ov (fun v X => ∃ a2 c2, v = .slice a2 b.length c2 ∧ Below V40.heap.size V40 X ∧ X.ownsRow V40.heap.size 5 1 (.slice a2 b.length c2) b.length (b.map B8)) rfl Try.func73 rfl rfl rfl ((clone_any _ b V40 hbl (hSl.below b42)).mono fun e X ⟨v, he, h1, h2⟩ => by obtain ⟨a2, c2, rfl⟩ := own_slice h2; exact ⟨_, he, a2, c2, rfl, h1, h2⟩) ?_
    rintro _ V43 ⟨a44, c44, rfl, hb44, hd44⟩
    have hoN44 := Owns.add (r' := ⟨5, 1, .slice a44 b.length c44, b.length, b.map B8⟩) hoN41 hb44 hd44 hWB44
    have b45 := (b42.trans (hb44.mono hWB44))
    have f46 := hoN44
    refine ⟨b45, ?_⟩
    refine fw_o1 3 (by kernel_rfl) ?_
    have hWB48 : w.heap.size ≤ V43.heap.size := b45.size
    refine fw_ov (fun v X => ∃ a2 c2, v = .slice a2 b.length c2 ∧ Below V43.heap.size V43 X ∧ X.ownsRow V43.heap.size 5 1 (.slice a2 b.length c2) b.length (b.map B8)) rfl Try.func73 rfl rfl rfl ((clone_any _ b V43 hbl (hSl.below b45)).mono fun e X ⟨v, he, h1, h2⟩ => by obtain ⟨a2, c2, rfl⟩ := own_slice h2; exact ⟨_, he, a2, c2, rfl, h1, h2⟩) ?_
    rintro _ V47 ⟨a48, c48, rfl, hb48, hd48⟩
    have hoN48 := Owns.add (r' := ⟨5, 1, .slice a48 b.length c48, b.length, b.map B8⟩) f46 hb48 hd48 hWB48
    have b49 := (b45.trans (hb48.mono hWB48))
    have f50 := hoN48
    refine ⟨b49, ?_⟩
    refine fw_tx 6 26 (.agg #[.slice a44 b.length c44, .slice a48 b.length c48, .slice (some ⟨W4.heap.size, 0, none⟩) (b.length / 64) (b.length / 64), .slice none 0 0, .slice none 0 0, .int .i64 0, .bool false, .bool false, .int .i64 0]) rfl rfl rfl rfl (fun a h W hW => by have b49 := hW; exact (run_buildOp (bp3 (h.ev rfl) (h.ev rfl) (h.ev rfl)) (by first | kernel_rfl | rfl))) (by kernel_rfl) (fun _ _ _ _ _ h => h) ?_
    refine fw_o1 7 (by kernel_rfl) ?_
    refine fw_ob rfl rfl (cs := [.slice a44 b.length c44, .slice a48 b.length c48, .slice (some ⟨W4.heap.size, 0, none⟩) (b.length / 64) (b.length / 64), .slice none 0 0, .slice none 0 0, .int .i64 0, .bool false, .bool false, .int .i64 0]) rfl ?_
    intro q51 W52 g55 s53 r54
    have := Nat.le_trans b49.size g55
    have hqB : w.heap.size ≤ q51 := Nat.le_trans b49.size g55
    have b56 := b49.trans (s53.mono b49.size)
    have f57 := (Owns.hold f50 s53 g55 r54.2.2)
    refine ⟨b56, ?_⟩
    refine fw_tk 8 rfl rfl (by kernel_rfl) (fun _ _ _ _ _ h => h) ?_
    refine fw_tk 9 rfl rfl (by kernel_rfl) (fun _ _ _ _ _ h => h) ?_
    refine fw_ht (by kernel_rfl) ?_
    refine fw_rt ?_
    refine ⟨fun a h => ?_⟩
    exact ow_ret2 rfl h.df (h.g 2 rfl) (h.g 3 rfl) (.inr ⟨by unfold newOK; simp at hb_1 hb_2 hb_3 ⊢; omega, _, rfl, hqB, new_asm (Owns.perm f57 ((List.Perm.swap _ _ _).trans (List.Perm.cons _ (List.Perm.swap _ _ _)))) rfl hqB r54, b56⟩)
  refine fw_kn 12 rfl (not_of hb_1) ?_
  iterate 7 refine fw_pu rfl ?_
  refine fw_dt ?_
  refine fw_cT rfl rfl ?_
  refine fw_sq ?_
  refine fw_rg rfl ?_
  iterate 2 refine fw_pu rfl ?_
  refine fw_dt ?_
  refine fw_rt ?_
  refine fw_tr ?_
  refine ⟨fun a h => ?_⟩
  exact ow_ret2 rfl h.df (h.g 2 rfl) (h.g 3 rfl) (.inl ⟨by unfold newOK; simp at hb_1 ⊢; omega, rfl, rfl⟩)
end Go.Proofs.Ytcglmkcefenjcaa
