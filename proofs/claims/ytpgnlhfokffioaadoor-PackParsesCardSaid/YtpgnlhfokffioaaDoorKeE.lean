/-
  Packets: what the laws lean on.
-/
import Derived.Test.YtpgnlhfokffioaaDoorKeD
namespace Go.Proofs.YtpgnlhfokffioaaDoor
section
open Go.RowKit Go.Lib
theorem ow_retCellT {P : Program} {fn : Func} {a : Act} {w : World} {R : Ending → World → Prop} {t t2 : Nat} {ty : TypeId} {ad : Addr} {v v2 : Value} (hr : fn.results = #[.cell t ty, .tmp t2]) (hd : a.defers = []) (hv : a.tmps[t]? = some (.pointer (some ad))) (hl : (loadVar ty ad).run P w = .ok v w) (h2 : a.tmps[t2]? = some v2) (hR : R (.returned (.tuple #[v, v2])) w) : bodyPost P fn R .ret a w :=
  bodyPost_ret (v := .tuple #[v, v2]) (by simp [results, hr, Array.getD_eq_getD_getElem?, hv, asAddr, hl, h2]) hd hR
theorem rlW_nil (n : Nat) (b : Bool) : rlW n [] b = ([], b) := by cases n <;> rfl
theorem rlC_nil (n : Nat) (b : Bool) : rlC n [] b = ([], b) := by cases n <;> rfl
theorem rlF_nil (n : Nat) (b : Bool) : rlF n [] b = ([], b) := by cases n <;> rfl
theorem shr8 (x : Int) (n : Nat) (_h : 0 ≤ x ∧ x ≤ 255) (w : World) (hn : n = 1 ∨ n = 3 ∨ n = 4) : (binOp .shr 5 (.int .u8 x) (.int .u64 n)).run Tryd.prog w = .ok (.int .u8 (x / 2 ^ n)) w := by
  rcases hn with rfl | rfl | rfl <;> simp [go_sem]
theorem and8_all : ((List.range 256).all fun n => ([1, 2, 3, 4, 8, 32, 64, 128] : List Int).all fun k => bits .and .u8 ((n : Nat) : Int) k == bits .and .i64 ((n : Nat) : Int) k) = true := by decide +kernel
theorem and8 (x k : Int) (h : 0 ≤ x ∧ x ≤ 255) (hk : k ∈ ([1, 2, 3, 4, 8, 32, 64, 128] : List Int)) (w : World) : (binOp .and 5 (.int .u8 x) (.int .u8 k)).run Tryd.prog w = .ok (.int .u8 (bits .and .i64 x k)) w := by
  have h1 := List.all_eq_true.1 (List.all_eq_true.1 and8_all x.toNat (List.mem_range.2 (by omega))) k hk
  rw [Int.toNat_of_nonneg h.1, beq_iff_eq] at h1
  rw [← h1]
  simp [go_sem]
theorem and83 (x : Int) (h : 0 ≤ x ∧ x ≤ 255) (w : World) : (binOp .and 5 (.int .u8 x) (.int .u8 3)).run Tryd.prog w = .ok (.int .u8 (x % 4)) w := by rw [and8 x 3 h (by decide), and3F x h]
theorem neq8 (x y : Int) (w : World) : (binOp .neq 5 (.int .u8 (bits .and .i64 x y)) (.int .u8 0)).run Tryd.prog w = .ok (.bool (fG x y)) w := by simp [go_sem, bne, fG]
theorem eq8 (x y : Int) (w : World) : (binOp .eql 5 (.int .u8 x) (.int .u8 y)).run Tryd.prog w = .ok (.bool (x == y)) w := by simp [go_sem]
theorem cv8 (x : Int) (h : 0 ≤ x ∧ x ≤ 255) (w : World) : (convert 5 3 (.int .u8 x)).run Tryd.prog w = .ok (.int .i64 x) w := by
  have := wrap_i64 x (by omega) (by omega)
  simp [go_sem, convert, this]
theorem ld8 {W : World} {b o : Nat} {x : Int} (h : W.cell? ⟨b, o, none⟩ = some (.int .u8 x)) : (Instr.loadAt 5 (.pointer (some ⟨b, o, none⟩))).run Tryd.prog W = .ok (.int .u8 x) W := by simp [go_sem, Instr.loadAt, h]
def CellAt (W : World) (b o : Nat) (v : Value) : Prop := b < W.heap.size ∧ W.cell? ⟨b, o, none⟩ = some v
theorem CellAt.below {W W' : World} {b o : Nat} {v : Value} (h : CellAt W b o v) (hb : Below W.heap.size W W') : CellAt W' b o v := ⟨Nat.lt_of_lt_of_le h.1 hb.size, (Below.cell hb (p := ⟨b, o, none⟩) h.1).trans h.2⟩
theorem CellAt.chg {W W' : World} {b o q : Nat} {v : Value} (h : CellAt W b o v) (s : W.grownBy W' (some q)) (hn : b ≠ q) : CellAt W' b o v := by
  refine ⟨Nat.lt_of_lt_of_le h.1 s.size, ?_⟩
  rw [← h.2]
  unfold World.cell?
  rw [s.block b h.1 (fun e => hn (by injection e))]
theorem one_of {l : List UInt8} (h : l.length = 1) : ∃ x, l = [x] := by
  match l, h with
  | [x], _ => exact ⟨x, rfl⟩
theorem two_of {l : List UInt8} (h : l.length = 2) : ∃ x y, l = [x, y] := by
  match l, h with
  | [x, y], _ => exact ⟨x, y, rfl⟩
theorem tk1_at {W : World} {a : Option Addr} {c : Nat} {l : List UInt8} (h : Sl W (.slice a 1 c) (tkP 1 l)) : ∃ b o, a = some ⟨b, o, none⟩ ∧ CellAt W b (o + 0) (.int .u8 (ofv (tkP 1 l))) := by
  obtain ⟨x, hx⟩ := one_of (tkP_len 1 l)
  obtain ⟨b, o, h1, h2, h3⟩ := sl_at (i := 0) (x := x) h (by rw [hx]; rfl)
  exact ⟨b, o, h1, h2, by rw [h3, hx]; simp [ofv]⟩
theorem tk2_at {W : World} {a : Option Addr} {c : Nat} {l : List UInt8} (h : Sl W (.slice a 2 c) (tkP 2 l)) : ∃ b o, a = some ⟨b, o, none⟩ ∧ CellAt W b (o + 0) (.int .u8 (ofv ((tkP 2 l).take 1))) ∧ CellAt W b (o + 1) (.int .u8 (ofv ((tkP 2 l).drop 1))) := by
  obtain ⟨x, y, hx⟩ := two_of (tkP_len 2 l)
  obtain ⟨b, o, h1, h2, h3⟩ := sl_at (i := 0) (x := x) h (by rw [hx]; rfl)
  obtain ⟨b', o', h1', h2', h3'⟩ := sl_at (i := 1) (x := y) h (by rw [hx]; rfl)
  rw [h1] at h1'
  injection h1' with h1'
  injection h1' with e1 e2
  subst e1 e2
  exact ⟨b, o, h1, ⟨h2, by rw [h3, hx]; simp [ofv]⟩, ⟨h2, by rw [h3', hx]; simp [ofv]⟩⟩
theorem ofv_lt1 {l : List UInt8} (h : l.length = 1) : 0 ≤ ofv l ∧ ofv l ≤ 255 := by
  obtain ⟨h1, h2⟩ := ofv_bd l
  rw [h] at h2
  have h3 : (256 : Int) ^ 1 = 256 := by decide
  omega
set_option maxRecDepth 100000 in
set_option maxHeartbeats 4000000 in
theorem readX {w : World} {c : Nat} {a : Option Addr} {l : List UInt8} (f : Int) (hf : 0 ≤ f ∧ f ≤ 255) (hs : SlN w (.slice a l.length c) l) :
    Calls Tryd.prog 40 #[.int .u8 f, .slice a l.length c] w fun e w' => ∃ ac cc aw cw af cf, e = .returned (.tuple #[(rcG f l).1.val (.slice ac (rcG f l).1.cs.length cc) (.slice aw (rcG f l).1.ws.length cw) (.slice af (rcG f l).1.fs.length cf), .bool (!(rcG f l).2)]) ∧ OL3 w' w.heap.size ac cc aw cw af cf (rcG f l).1 ∧ Below w.heap.size w w' := by
  have hb0 := Below.refl w.heap.size w
  refine fw_en 185 [(0, .int .u8 f), (1, .slice a l.length c)] Tryd.func40 rfl Tryd.ntmps40 rfl ⟨rfl, rfl, trivial⟩ ?_
  refine fw_sq (fw_rg rfl ?_)
  refine fw_al (t := 30) (u := fun q => .pointer (some ⟨q, 0, none⟩)) 4 [.int .i64 0, .string { data := #[] }, .bool false, .int .i64 0, .bool false, .string { data := #[] }, .string { data := #[] }, .int .i64 0, .bool false, .string { data := #[] }, .bool false, .string { data := #[] }, .bool false, .bool false, .int .i64 0, .slice none 0 0, .bool false, .int .i64 0, .bool false, .string { data := #[] }, .int .i64 0, .string { data := #[] }, .slice none 0 0, .slice none 0 0] rfl rfl rfl (fun a h => (run_allocOp (by simp [go_sem, Instr.alloc]))) ?_
  intro q1 W2 g5 s3 r4
  have := Nat.le_trans hb0.size g5
  have b6 := hb0.trans (s3.mono hb0.size)
  refine fw_pu rfl (fw_dt (fw_sq (fw_rg rfl (fw_pu rfl ?_))))
  refine fw_ex 13 (.agg #[.slice a l.length c, .bool false]) rfl rfl rfl (fun a h => (run_buildOp (bp1 (h.ev rfl)) (by first | kernel_rfl | rfl))) ?_
  refine fw_bx rfl (cs := [.slice a l.length c, .bool false]) rfl ?_
  intro q7 W8 g11 s9 r10
  have := Nat.le_trans b6.size g11
  have := r4.lt g11
  have b12 := b6.trans (s9.mono b6.size)
  have r13 := r4.below s9
  refine fw_pu rfl (fw_dt (fw_sq (fw_rg rfl (fw_pu rfl ?_))))
  refine fw_ex 16 (.int .u8 (f / 16)) rfl rfl rfl (fun a h => (run_binOp (h.ev rfl) (h.ev rfl) (by simp [go_sem]) (shr8 _ 4 (by omega) _ (by decide)))) ?_
  refine fw_ex 17 (.int .i64 (f / 16)) rfl rfl rfl (fun a h => (run_convOp (h.ev rfl) (cv8 _ (by omega) _))) ?_
  refine fw_ex 18 (.agg #[.int .i64 (f / 16), .string { data := #[] }, .bool false, .int .i64 0, .bool false, .string { data := #[] }, .string { data := #[] }, .int .i64 0, .bool false, .string { data := #[] }, .bool false, .string { data := #[] }, .bool false, .bool false, .int .i64 0, .slice none 0 0, .bool false, .int .i64 0, .bool false, .string { data := #[] }, .int .i64 0, .string { data := #[] }, .slice none 0 0, .slice none 0 0]) rfl rfl rfl (fun a h => (run_buildOp (bp1 (h.ev rfl)) (by first | kernel_rfl | rfl))) ?_
  refine fw_al (t := 30) (u := fun q => .pointer (some ⟨q, 0, none⟩)) 7 [.int .i64 0, .string { data := #[] }, .bool false, .int .i64 0, .bool false, .string { data := #[] }, .string { data := #[] }, .int .i64 0, .bool false, .string { data := #[] }, .bool false, .string { data := #[] }, .bool false, .bool false, .int .i64 0, .slice none 0 0, .bool false, .int .i64 0, .bool false, .string { data := #[] }, .int .i64 0, .string { data := #[] }, .slice none 0 0, .slice none 0 0] rfl rfl rfl (fun a h => (run_allocOp (by simp [go_sem, Instr.alloc]))) ?_
  intro q14 W15 g18 s16 r17
  have := Nat.le_trans b12.size g18
  have := r13.lt g18
  have := r10.lt g18
  have b19 := b12.trans (s16.mono b12.size)
  have r20 := r13.below s16
  have r21 := r10.below s16
  refine fw_st r17 rfl rfl ?_
  intro W22 s23 r24
  have b25 := below_chg b19 s23 (by omega) b19.size
  have r26 := r20.chg s23 (by omega)
  have r27 := r21.chg s23 (by omega)
  refine fw_dt (fw_sq (fw_sq (fw_rg rfl (fw_pu rfl (fw_ld r24 rfl rfl (fw_dt (fw_bk (fw_sq (fw_rg rfl ?_)))))))))
  iterate 2 refine fw_pu rfl ?_
  refine fw_dt ?_
  rcases Bool.eq_false_or_eq_true (((f / 16) == 1)) with hb_28 | hb_28
  · skip
    refine fw_cT rfl hb_28 (fw_sq (fw_rg rfl (fw_pu rfl ?_)))
    refine fw_ca Tryd.func71 rfl rfl rfl ((rkTake b25 7 (by decide) (by omega) r27 hs)) ?_
    rintro _ V30 ⟨av29, cv29, l29, a29, c29, b29, rfl, hl29, hx29, sn29, rr29, hs29, hv29, hz29⟩
    refine ⟨_, rfl, ?_⟩
    have b31 := below_chg b25 sn29 (by omega) b25.size
    have r32 := r26.chg sn29 (by omega)
    have r33 := r24.chg sn29 (by omega)
    refine fw_dt (fw_sq (fw_rg rfl (fw_pu rfl ?_)))
    refine fw_ca Tryd.func71 rfl rfl rfl ((rkTake b31 1 (by decide) (by omega) rr29 hs29)) ?_
    rintro _ V35 ⟨av34, cv34, l34, a34, c34, b34, rfl, hl34, hx34, sn34, rr34, hs34, hv34, hz34⟩
    refine ⟨_, rfl, ?_⟩
    have b36 := below_chg b31 sn34 (by omega) b31.size
    have r37 := r32.chg sn34 (by omega)
    have r38 := r33.chg sn34 (by omega)
    obtain ⟨bA34, oA34, haA34, hcA34⟩ := tk1_at hv34
    obtain ⟨fb34, hfb34⟩ : ∃ y, y = ofv (tkP 1 l29) := ⟨_, rfl⟩
    rw [← hfb34] at hcA34
    have hfbd34 : 0 ≤ fb34 ∧ fb34 ≤ 255 := by rw [hfb34]; exact ofvQ_bd _
    refine fw_ex 81 (.pointer (some ⟨bA34, (oA34 + 0), none⟩)) rfl rfl rfl (fun a h => (run_indexOp (h.ev rfl) (h.ev rfl) (by rw [haA34]; exact idxU8 _ _ _ _ 0 (by decide) _))) ?_
    refine fw_ex 82 (.int .u8 fb34) rfl rfl rfl (fun a h => (run_loadOp (h.ev rfl) (ld8 hcA34.2))) (fw_pu rfl (fw_dt (fw_sq (fw_rg rfl (fw_pu rfl ?_)))))
    refine fw_ca Tryd.func72 rfl rfl rfl ((rkNum b36 (by omega) rr34 hs34)) ?_
    rintro _ V40 ⟨l39, a39, c39, b39, rfl, hl39, hx39, sn39, rr39, hs39⟩
    refine ⟨(.int .i64 (ofv (tkP 2 l34))), rfl, ?_⟩
    have b41 := below_chg b36 sn39 (by omega) b36.size
    have r42 := r37.chg sn39 (by omega)
    have r43 := r38.chg sn39 (by omega)
    refine fw_pu rfl (fw_st r43 rfl rfl ?_)
    intro W44 s45 r46
    have b47 := below_chg b41 s45 (by omega) b41.size
    have r48 := r42.chg s45 (by omega)
    have r49 := rr39.chg s45 (by omega)
    refine fw_dt (fw_sq (fw_rg rfl (fw_pu rfl ?_)))
    refine fw_ex 87 (.int .u8 (bits .and .i64 fb34 2)) rfl rfl rfl (fun a h => (run_binOp (h.ev rfl) (h.ev rfl) (by simp [go_sem]) (and8 _ _ (by omega) (by decide) _))) ?_
    refine fw_ex 88 (.bool (fG fb34 2)) rfl rfl rfl (fun a h => (run_binOp (h.ev rfl) (h.ev rfl) (by simp [go_sem]) (neq8 _ _ _))) ?_
    refine fw_pu rfl ?_
    refine fw_ex 90 (.int .u8 (bits .and .i64 fb34 64)) rfl rfl rfl (fun a h => (run_binOp (h.ev rfl) (h.ev rfl) (by simp [go_sem]) (and8 _ _ (by omega) (by decide) _))) ?_
    refine fw_ex 91 (.bool (fG fb34 64)) rfl rfl rfl (fun a h => (run_binOp (h.ev rfl) (h.ev rfl) (by simp [go_sem]) (neq8 _ _ _))) ?_
    refine fw_pu rfl ?_
    refine fw_ex 93 (.int .u8 (bits .and .i64 fb34 128)) rfl rfl rfl (fun a h => (run_binOp (h.ev rfl) (h.ev rfl) (by simp [go_sem]) (and8 _ _ (by omega) (by decide) _))) ?_
    refine fw_ex 94 (.bool (fG fb34 128)) rfl rfl rfl (fun a h => (run_binOp (h.ev rfl) (h.ev rfl) (by simp [go_sem]) (neq8 _ _ _))) ?_
    refine fw_pu rfl (fw_st r46 rfl rfl ?_)
    intro W50 s51 r52
    have b53 := below_chg b47 s51 (by omega) b47.size
    have r54 := r48.chg s51 (by omega)
    have r55 := r49.chg s51 (by omega)
    refine fw_pu rfl (fw_st r52 rfl rfl ?_)
    intro W56 s57 r58
    have b59 := below_chg b53 s57 (by omega) b53.size
    have r60 := r54.chg s57 (by omega)
    have r61 := r55.chg s57 (by omega)
    refine fw_pu rfl (fw_st r58 rfl rfl ?_)
    intro W62 s63 r64
    have b65 := below_chg b59 s63 (by omega) b59.size
    have r66 := r60.chg s63 (by omega)
    have r67 := r61.chg s63 (by omega)
    refine fw_dt (fw_sq (fw_rg rfl (fw_pu rfl ?_)))
    refine fw_ca Tryd.func73 rfl rfl rfl ((rkTxt b65 (by omega) r67 hs39)) ?_
    rintro _ V69 ⟨l68, a68, c68, b68, rfl, hl68, hx68, sn68, rr68, hs68⟩
    refine ⟨_, rfl, ?_⟩
    have b70 := below_chg b65 sn68 (by omega) b65.size
    have r71 := r66.chg sn68 (by omega)
    have r72 := r64.chg sn68 (by omega)
    refine fw_pu rfl (fw_st r72 rfl rfl ?_)
    intro W73 s74 r75
    have b76 := below_chg b70 s74 (by omega) b70.size
    have r77 := r71.chg s74 (by omega)
    have r78 := rr68.chg s74 (by omega)
    refine fw_dt (fw_sq (fw_sq (fw_rg rfl (fw_pu rfl ?_))))
    refine fw_ex 102 (.int .u8 (bits .and .i64 fb34 4)) rfl rfl rfl (fun a h => (run_binOp (h.ev rfl) (h.ev rfl) (by simp [go_sem]) (and8 _ _ (by omega) (by decide) _))) ?_
    refine fw_ex 103 (.bool (fG fb34 4)) rfl rfl rfl (fun a h => (run_binOp (h.ev rfl) (h.ev rfl) (by simp [go_sem]) (neq8 _ _ _))) ?_
    refine fw_dt ?_
    rcases Bool.eq_false_or_eq_true ((fG fb34 4)) with hb_79 | hb_79
    · skip
      refine fw_cT rfl hb_79 (fw_sq (fw_rg rfl (fw_pu rfl ?_)))
      refine fw_ex 105 (.int .u8 (fb34 / 8)) rfl rfl rfl (fun a h => (run_binOp (h.ev rfl) (h.ev rfl) (by simp [go_sem]) (shr8 _ 3 (by omega) _ (by decide)))) ?_
      refine fw_ex 106 (.int .u8 ((fb34 / 8) % 4)) rfl rfl rfl (fun a h => (run_binOp (h.ev rfl) (h.ev rfl) (by simp [go_sem]) (and83 _ (by omega) _))) ?_
      refine fw_ex 107 (.int .i64 ((fb34 / 8) % 4)) rfl rfl rfl (fun a h => (run_convOp (h.ev rfl) (cv8 _ (by omega) _))) ?_
      refine fw_pu rfl ?_
      refine fw_ex 109 (.int .u8 (bits .and .i64 fb34 32)) rfl rfl rfl (fun a h => (run_binOp (h.ev rfl) (h.ev rfl) (by simp [go_sem]) (and8 _ _ (by omega) (by decide) _))) ?_
      refine fw_ex 110 (.bool (fG fb34 32)) rfl rfl rfl (fun a h => (run_binOp (h.ev rfl) (h.ev rfl) (by simp [go_sem]) (neq8 _ _ _))) ?_
      refine fw_ex 111 (.agg #[.bool true, .string { data := #[] }, .string { data := #[] }, .int .i64 ((fb34 / 8) % 4), .bool (fG fb34 32)]) rfl rfl rfl (fun a h => (run_buildOp (bp3 (h.ev rfl) (h.ev rfl) (h.ev rfl)) (by first | kernel_rfl | rfl))) ?_
      refine fw_pu rfl (fw_st r75 rfl rfl ?_)
      intro W80 s81 r82
      have b83 := below_chg b76 s81 (by omega) b76.size
      have r84 := r77.chg s81 (by omega)
      have r85 := r78.chg s81 (by omega)
      refine fw_dt (fw_sq (fw_rg rfl (fw_pu rfl ?_)))
      refine fw_ca Tryd.func73 rfl rfl rfl ((rkTxt b83 (by omega) r85 hs68)) ?_
      rintro _ V87 ⟨l86, a86, c86, b86, rfl, hl86, hx86, sn86, rr86, hs86⟩
      refine ⟨_, rfl, ?_⟩
      have b88 := below_chg b83 sn86 (by omega) b83.size
      have r89 := r84.chg sn86 (by omega)
      have r90 := r82.chg sn86 (by omega)
      iterate 2 refine fw_pu rfl ?_
      refine fw_st r90 rfl rfl ?_
      intro W91 s92 r93
      have b94 := below_chg b88 s92 (by omega) b88.size
      have r95 := r89.chg s92 (by omega)
      have r96 := rr86.chg s92 (by omega)
      refine fw_dt (fw_rg rfl (fw_pu rfl ?_))
      refine fw_ca Tryd.func73 rfl rfl rfl ((rkTxt b94 (by omega) r96 hs86)) ?_
      rintro _ V98 ⟨l97, a97, c97, b97, rfl, hl97, hx97, sn97, rr97, hs97⟩
      refine ⟨_, rfl, ?_⟩
      have b99 := below_chg b94 sn97 (by omega) b94.size
      have r100 := r95.chg sn97 (by omega)
      have r101 := r93.chg sn97 (by omega)
      iterate 2 refine fw_pu rfl ?_
      refine fw_st r101 rfl rfl ?_
      intro W102 s103 r104
      have b105 := below_chg b99 s103 (by omega) b99.size
      have r106 := r100.chg s103 (by omega)
      have r107 := rr97.chg s103 (by omega)
      refine fw_dt (fw_sq (fw_sq (fw_rg rfl (fw_pu rfl (fw_ld r104 rfl rfl (fw_dt ?_))))))
      rcases Bool.eq_false_or_eq_true ((fG fb34 128)) with hb_108 | hb_108
      · skip
        refine fw_cT rfl hb_108 (fw_rg rfl (fw_pu rfl ?_))
        refine fw_ca Tryd.func73 rfl rfl rfl ((rkTxt b105 (by omega) r107 hs97)) ?_
        rintro _ V110 ⟨l109, a109, c109, b109, rfl, hl109, hx109, sn109, rr109, hs109⟩
        refine ⟨_, rfl, ?_⟩
        have b111 := below_chg b105 sn109 (by omega) b105.size
        have r112 := r106.chg sn109 (by omega)
        have r113 := r104.chg sn109 (by omega)
        refine fw_pu rfl (fw_st r113 rfl rfl ?_)
        intro W114 s115 r116
        have b117 := below_chg b111 s115 (by omega) b111.size
        have r118 := r112.chg s115 (by omega)
        have r119 := rr109.chg s115 (by omega)
        refine fw_dt (fw_sq (fw_rg rfl (fw_pu rfl (fw_ld r116 rfl rfl (fw_dt ?_)))))
        rcases Bool.eq_false_or_eq_true ((fG fb34 64)) with hb_120 | hb_120
        · skip
          refine fw_cT rfl hb_120 (fw_rg rfl (fw_pu rfl ?_))
          refine fw_ca Tryd.func73 rfl rfl rfl ((rkTxt b117 (by omega) r119 hs109)) ?_
          rintro _ V122 ⟨l121, a121, c121, b121, rfl, hl121, hx121, sn121, rr121, hs121⟩
          refine ⟨_, rfl, ?_⟩
          have b123 := below_chg b117 sn121 (by omega) b117.size
          have r124 := r118.chg sn121 (by omega)
          have r125 := r116.chg sn121 (by omega)
          refine fw_pu rfl (fw_st r125 rfl rfl ?_)
          intro W126 s127 r128
          have b129 := below_chg b123 s127 (by omega) b123.size
          have r130 := r124.chg s127 (by omega)
          have r131 := rr121.chg s127 (by omega)
          refine fw_dn (fw_bn (fw_th (fw_sq ?_)))
          refine fw_hr (fun X => Below w.heap.size w X ∧ RowAt X q7 [.slice a121 l121.length c121, .bool b121] ∧ RowAt X q14 [.int .i64 (f / 16), .string (rS l39), .bool (fG fb34 2), .int .i64 (ofv (tkP 2 l34)), .bool true, .string (rS l68), .string (rS l86), .int .i64 ((fb34 / 8) % 4), .bool (fG fb34 32), .string (rS l97), .bool (fG fb34 128), .string (rS l109), .bool (fG fb34 64), .bool false, .int .i64 0, .slice none 0 0, .bool false, .int .i64 0, .bool false, .string { data := #[] }, .int .i64 0, .string { data := #[] }, .slice none 0 0, .slice none 0 0]) (by kernel_rfl) 8 rfl ?_
          intro W132 s133
          have b134 := b129.trans (s133.mono b129.size)
          have r135 := r130.below s133
          have r136 := r131.below s133
          have r137 := r128.below s133
          refine ⟨⟨b134, r136, r137⟩, ?_⟩
          refine fw_tl 0 (fun _ h => h.2.2) rfl rfl rfl (by kernel_rfl) (fun _ _ _ _ _ h => h) ?_
          refine fw_tk 1 rfl rfl (by kernel_rfl) (fun _ _ _ _ _ h => h) ?_
          refine fw_tk 2 rfl rfl (by kernel_rfl) (fun _ _ _ _ _ h => h) ?_
          refine fw_tk 3 rfl rfl (by kernel_rfl) (fun _ _ _ _ _ h => h) ?_
          refine fw_tl 4 (fun _ h => h.2.1) rfl rfl rfl (by kernel_rfl) (fun _ _ _ _ _ h => h) ?_
          refine fw_tk 5 rfl rfl (by kernel_rfl) (fun _ _ _ _ _ h => h) ?_
          refine fw_o1 6 (by kernel_rfl) ?_
          refine fw_os rfl r135 rfl rfl ?_
          intro W138 s139 r140
          have b141 := below_chg b134 s139 (by omega) b134.size
          have r142 := r136.chg s139 (by omega)
          have r143 := r137.chg s139 (by omega)
          refine ⟨⟨b141, r142, r143⟩, ?_⟩
          refine fw_tk 7 rfl rfl (by kernel_rfl) (fun _ _ _ _ _ h => h) ?_
          refine fw_ht (by kernel_rfl) ?_
          refine fw_rt ?_
          refine ⟨fun a h => ?_⟩
          have e : rcG f l = (({ k := (f / 16), cl := (rS l39), clean := (fG fb34 2), keep := (ofv (tkP 2 l34)), wI := true, wT := (rS l68), wP := (rS l86), wQ := ((fb34 / 8) % 4), wR := (fG fb34 32), us := (rS l97), hu := (fG fb34 128), pa := (rS l109), hp := (fG fb34 64), pres := false, code := 0, cs := [], dup := false, q := 0, re := false, top := { data := #[] }, id := 0, pay := { data := #[] }, ws := [], fs := [] } : Mq), b121) := by simp only [rcG, rcn, rc1, rc2, rc3, rc4, hb_28, hb_79, hb_108, hb_120, ← hl29, ← hx29, ← hl34, ← hx34, ← hfb34, ← hl39, ← hx39, ← hl68, ← hx68, ← hl86, ← hx86, ← hl97, ← hx97, ← hl109, ← hx109, ← hx121, if_true, zM]; try rw [beq_iff_eq.1 hb_28]
          exact ow_retCellT rfl h.df (h.g 4 rfl) (ldMq r140) (h.g 5 rfl) ⟨none, 0, none, 0, none, 0, by rw [e]; first | done | rfl, by rw [e]; exact (⟨olC_nil _ _, olW_nil _ _, olF_nil _ _⟩ : OL3 W138 w.heap.size none 0 none 0 none 0 ({ k := (f / 16), cl := (rS l39), clean := (fG fb34 2), keep := (ofv (tkP 2 l34)), wI := true, wT := (rS l68), wP := (rS l86), wQ := ((fb34 / 8) % 4), wR := (fG fb34 32), us := (rS l97), hu := (fG fb34 128), pa := (rS l109), hp := (fG fb34 64), pres := false, code := 0, cs := [], dup := false, q := 0, re := false, top := { data := #[] }, id := 0, pay := { data := #[] }, ws := [], fs := [] } : Mq)), b141⟩
        refine fw_cF rfl hb_120 (fw_sk (fw_bn (fw_th (fw_sq ?_))))
        refine fw_hr (fun X => Below w.heap.size w X ∧ RowAt X q7 [.slice a109 l109.length c109, .bool b109] ∧ RowAt X q14 [.int .i64 (f / 16), .string (rS l39), .bool (fG fb34 2), .int .i64 (ofv (tkP 2 l34)), .bool true, .string (rS l68), .string (rS l86), .int .i64 ((fb34 / 8) % 4), .bool (fG fb34 32), .string (rS l97), .bool (fG fb34 128), .string { data := #[] }, .bool (fG fb34 64), .bool false, .int .i64 0, .slice none 0 0, .bool false, .int .i64 0, .bool false, .string { data := #[] }, .int .i64 0, .string { data := #[] }, .slice none 0 0, .slice none 0 0]) (by kernel_rfl) 8 rfl ?_
        intro W144 s145
        have b146 := b117.trans (s145.mono b117.size)
        have r147 := r118.below s145
        have r148 := r119.below s145
        have r149 := r116.below s145
        refine ⟨⟨b146, r148, r149⟩, ?_⟩
        refine fw_tl 0 (fun _ h => h.2.2) rfl rfl rfl (by kernel_rfl) (fun _ _ _ _ _ h => h) ?_
        refine fw_tk 1 rfl rfl (by kernel_rfl) (fun _ _ _ _ _ h => h) ?_
        refine fw_tk 2 rfl rfl (by kernel_rfl) (fun _ _ _ _ _ h => h) ?_
        refine fw_tk 3 rfl rfl (by kernel_rfl) (fun _ _ _ _ _ h => h) ?_
        refine fw_tl 4 (fun _ h => h.2.1) rfl rfl rfl (by kernel_rfl) (fun _ _ _ _ _ h => h) ?_
        refine fw_tk 5 rfl rfl (by kernel_rfl) (fun _ _ _ _ _ h => h) ?_
        refine fw_o1 6 (by kernel_rfl) ?_
        refine fw_os rfl r147 rfl rfl ?_
        intro W150 s151 r152
        have b153 := below_chg b146 s151 (by omega) b146.size
        have r154 := r148.chg s151 (by omega)
        have r155 := r149.chg s151 (by omega)
        refine ⟨⟨b153, r154, r155⟩, ?_⟩
        refine fw_tk 7 rfl rfl (by kernel_rfl) (fun _ _ _ _ _ h => h) ?_
        refine fw_ht (by kernel_rfl) ?_
        refine fw_rt ?_
        refine ⟨fun a h => ?_⟩
        have e : rcG f l = (({ k := (f / 16), cl := (rS l39), clean := (fG fb34 2), keep := (ofv (tkP 2 l34)), wI := true, wT := (rS l68), wP := (rS l86), wQ := ((fb34 / 8) % 4), wR := (fG fb34 32), us := (rS l97), hu := (fG fb34 128), pa := { data := #[] }, hp := (fG fb34 64), pres := false, code := 0, cs := [], dup := false, q := 0, re := false, top := { data := #[] }, id := 0, pay := { data := #[] }, ws := [], fs := [] } : Mq), b109) := by simp only [rcG, rcn, rc1, rc2, rc3, rc4, hb_28, hb_79, hb_108, hb_120, ← hl29, ← hx29, ← hl34, ← hx34, ← hfb34, ← hl39, ← hx39, ← hl68, ← hx68, ← hl86, ← hx86, ← hl97, ← hx97, ← hl109, ← hx109, if_true, if_false, Bool.false_eq_true, zM]; try rw [beq_iff_eq.1 hb_28]
        exact ow_retCellT rfl h.df (h.g 4 rfl) (ldMq r152) (h.g 5 rfl) ⟨none, 0, none, 0, none, 0, by rw [e]; first | done | rfl, by rw [e]; exact (⟨olC_nil _ _, olW_nil _ _, olF_nil _ _⟩ : OL3 W150 w.heap.size none 0 none 0 none 0 ({ k := (f / 16), cl := (rS l39), clean := (fG fb34 2), keep := (ofv (tkP 2 l34)), wI := true, wT := (rS l68), wP := (rS l86), wQ := ((fb34 / 8) % 4), wR := (fG fb34 32), us := (rS l97), hu := (fG fb34 128), pa := { data := #[] }, hp := (fG fb34 64), pres := false, code := 0, cs := [], dup := false, q := 0, re := false, top := { data := #[] }, id := 0, pay := { data := #[] }, ws := [], fs := [] } : Mq)), b153⟩
      refine fw_cF rfl hb_108 (fw_sk (fw_th (fw_sq (fw_rg rfl (fw_pu rfl (fw_ld r104 rfl rfl (fw_dt ?_)))))))
      rcases Bool.eq_false_or_eq_true ((fG fb34 64)) with hb_156 | hb_156
      · skip
        refine fw_cT rfl hb_156 (fw_rg rfl (fw_pu rfl ?_))
        refine fw_ca Tryd.func73 rfl rfl rfl ((rkTxt b105 (by omega) r107 hs97)) ?_
        rintro _ V158 ⟨l157, a157, c157, b157, rfl, hl157, hx157, sn157, rr157, hs157⟩
        refine ⟨_, rfl, ?_⟩
        have b159 := below_chg b105 sn157 (by omega) b105.size
        have r160 := r106.chg sn157 (by omega)
        have r161 := r104.chg sn157 (by omega)
        refine fw_pu rfl (fw_st r161 rfl rfl ?_)
        intro W162 s163 r164
        have b165 := below_chg b159 s163 (by omega) b159.size
        have r166 := r160.chg s163 (by omega)
        have r167 := rr157.chg s163 (by omega)
        refine fw_dn (fw_bn (fw_th (fw_sq ?_)))
        refine fw_hr (fun X => Below w.heap.size w X ∧ RowAt X q7 [.slice a157 l157.length c157, .bool b157] ∧ RowAt X q14 [.int .i64 (f / 16), .string (rS l39), .bool (fG fb34 2), .int .i64 (ofv (tkP 2 l34)), .bool true, .string (rS l68), .string (rS l86), .int .i64 ((fb34 / 8) % 4), .bool (fG fb34 32), .string { data := #[] }, .bool (fG fb34 128), .string (rS l97), .bool (fG fb34 64), .bool false, .int .i64 0, .slice none 0 0, .bool false, .int .i64 0, .bool false, .string { data := #[] }, .int .i64 0, .string { data := #[] }, .slice none 0 0, .slice none 0 0]) (by kernel_rfl) 8 rfl ?_
        intro W168 s169
        have b170 := b165.trans (s169.mono b165.size)
        have r171 := r166.below s169
        have r172 := r167.below s169
        have r173 := r164.below s169
        refine ⟨⟨b170, r172, r173⟩, ?_⟩
        refine fw_tl 0 (fun _ h => h.2.2) rfl rfl rfl (by kernel_rfl) (fun _ _ _ _ _ h => h) ?_
        refine fw_tk 1 rfl rfl (by kernel_rfl) (fun _ _ _ _ _ h => h) ?_
        refine fw_tk 2 rfl rfl (by kernel_rfl) (fun _ _ _ _ _ h => h) ?_
        refine fw_tk 3 rfl rfl (by kernel_rfl) (fun _ _ _ _ _ h => h) ?_
        refine fw_tl 4 (fun _ h => h.2.1) rfl rfl rfl (by kernel_rfl) (fun _ _ _ _ _ h => h) ?_
        refine fw_tk 5 rfl rfl (by kernel_rfl) (fun _ _ _ _ _ h => h) ?_
        refine fw_o1 6 (by kernel_rfl) ?_
        refine fw_os rfl r171 rfl rfl ?_
        intro W174 s175 r176
        have b177 := below_chg b170 s175 (by omega) b170.size
        have r178 := r172.chg s175 (by omega)
        have r179 := r173.chg s175 (by omega)
        refine ⟨⟨b177, r178, r179⟩, ?_⟩
        refine fw_tk 7 rfl rfl (by kernel_rfl) (fun _ _ _ _ _ h => h) ?_
        refine fw_ht (by kernel_rfl) ?_
        refine fw_rt ?_
        refine ⟨fun a h => ?_⟩
        have e : rcG f l = (({ k := (f / 16), cl := (rS l39), clean := (fG fb34 2), keep := (ofv (tkP 2 l34)), wI := true, wT := (rS l68), wP := (rS l86), wQ := ((fb34 / 8) % 4), wR := (fG fb34 32), us := { data := #[] }, hu := (fG fb34 128), pa := (rS l97), hp := (fG fb34 64), pres := false, code := 0, cs := [], dup := false, q := 0, re := false, top := { data := #[] }, id := 0, pay := { data := #[] }, ws := [], fs := [] } : Mq), b157) := by simp only [rcG, rcn, rc1, rc2, rc3, rc4, hb_28, hb_79, hb_108, hb_156, ← hl29, ← hx29, ← hl34, ← hx34, ← hfb34, ← hl39, ← hx39, ← hl68, ← hx68, ← hl86, ← hx86, ← hl97, ← hx97, ← hl157, ← hx157, if_true, if_false, Bool.false_eq_true, zM]; try rw [beq_iff_eq.1 hb_28]
        exact ow_retCellT rfl h.df (h.g 4 rfl) (ldMq r176) (h.g 5 rfl) ⟨none, 0, none, 0, none, 0, by rw [e]; first | done | rfl, by rw [e]; exact (⟨olC_nil _ _, olW_nil _ _, olF_nil _ _⟩ : OL3 W174 w.heap.size none 0 none 0 none 0 ({ k := (f / 16), cl := (rS l39), clean := (fG fb34 2), keep := (ofv (tkP 2 l34)), wI := true, wT := (rS l68), wP := (rS l86), wQ := ((fb34 / 8) % 4), wR := (fG fb34 32), us := { data := #[] }, hu := (fG fb34 128), pa := (rS l97), hp := (fG fb34 64), pres := false, code := 0, cs := [], dup := false, q := 0, re := false, top := { data := #[] }, id := 0, pay := { data := #[] }, ws := [], fs := [] } : Mq)), b177⟩
      refine fw_cF rfl hb_156 (fw_sk (fw_bn (fw_th (fw_sq ?_))))
      refine fw_hr (fun X => Below w.heap.size w X ∧ RowAt X q7 [.slice a97 l97.length c97, .bool b97] ∧ RowAt X q14 [.int .i64 (f / 16), .string (rS l39), .bool (fG fb34 2), .int .i64 (ofv (tkP 2 l34)), .bool true, .string (rS l68), .string (rS l86), .int .i64 ((fb34 / 8) % 4), .bool (fG fb34 32), .string { data := #[] }, .bool (fG fb34 128), .string { data := #[] }, .bool (fG fb34 64), .bool false, .int .i64 0, .slice none 0 0, .bool false, .int .i64 0, .bool false, .string { data := #[] }, .int .i64 0, .string { data := #[] }, .slice none 0 0, .slice none 0 0]) (by kernel_rfl) 8 rfl ?_
      intro W180 s181
      have b182 := b105.trans (s181.mono b105.size)
      have r183 := r106.below s181
      have r184 := r107.below s181
      have r185 := r104.below s181
      refine ⟨⟨b182, r184, r185⟩, ?_⟩
      refine fw_tl 0 (fun _ h => h.2.2) rfl rfl rfl (by kernel_rfl) (fun _ _ _ _ _ h => h) ?_
      refine fw_tk 1 rfl rfl (by kernel_rfl) (fun _ _ _ _ _ h => h) ?_
      refine fw_tk 2 rfl rfl (by kernel_rfl) (fun _ _ _ _ _ h => h) ?_
      refine fw_tk 3 rfl rfl (by kernel_rfl) (fun _ _ _ _ _ h => h) ?_
      refine fw_tl 4 (fun _ h => h.2.1) rfl rfl rfl (by kernel_rfl) (fun _ _ _ _ _ h => h) ?_
      refine fw_tk 5 rfl rfl (by kernel_rfl) (fun _ _ _ _ _ h => h) ?_
      refine fw_o1 6 (by kernel_rfl) ?_
      refine fw_os rfl r183 rfl rfl ?_
      intro W186 s187 r188
      have b189 := below_chg b182 s187 (by omega) b182.size
      have r190 := r184.chg s187 (by omega)
      have r191 := r185.chg s187 (by omega)
      refine ⟨⟨b189, r190, r191⟩, ?_⟩
      refine fw_tk 7 rfl rfl (by kernel_rfl) (fun _ _ _ _ _ h => h) ?_
      refine fw_ht (by kernel_rfl) ?_
      refine fw_rt ?_
      refine ⟨fun a h => ?_⟩
      have e : rcG f l = (({ k := (f / 16), cl := (rS l39), clean := (fG fb34 2), keep := (ofv (tkP 2 l34)), wI := true, wT := (rS l68), wP := (rS l86), wQ := ((fb34 / 8) % 4), wR := (fG fb34 32), us := { data := #[] }, hu := (fG fb34 128), pa := { data := #[] }, hp := (fG fb34 64), pres := false, code := 0, cs := [], dup := false, q := 0, re := false, top := { data := #[] }, id := 0, pay := { data := #[] }, ws := [], fs := [] } : Mq), b97) := by simp only [rcG, rcn, rc1, rc2, rc3, rc4, hb_28, hb_79, hb_108, hb_156, ← hl29, ← hx29, ← hl34, ← hx34, ← hfb34, ← hl39, ← hx39, ← hl68, ← hx68, ← hl86, ← hx86, ← hl97, ← hx97, if_true, if_false, Bool.false_eq_true, zM]; try rw [beq_iff_eq.1 hb_28]
      exact ow_retCellT rfl h.df (h.g 4 rfl) (ldMq r188) (h.g 5 rfl) ⟨none, 0, none, 0, none, 0, by rw [e]; first | done | rfl, by rw [e]; exact (⟨olC_nil _ _, olW_nil _ _, olF_nil _ _⟩ : OL3 W186 w.heap.size none 0 none 0 none 0 ({ k := (f / 16), cl := (rS l39), clean := (fG fb34 2), keep := (ofv (tkP 2 l34)), wI := true, wT := (rS l68), wP := (rS l86), wQ := ((fb34 / 8) % 4), wR := (fG fb34 32), us := { data := #[] }, hu := (fG fb34 128), pa := { data := #[] }, hp := (fG fb34 64), pres := false, code := 0, cs := [], dup := false, q := 0, re := false, top := { data := #[] }, id := 0, pay := { data := #[] }, ws := [], fs := [] } : Mq)), b189⟩
    refine fw_cF rfl hb_79 (fw_sk (fw_th (fw_sq (fw_sq (fw_rg rfl (fw_pu rfl (fw_ld r75 rfl rfl (fw_dt ?_))))))))
    rcases Bool.eq_false_or_eq_true ((fG fb34 128)) with hb_192 | hb_192
    · skip
      refine fw_cT rfl hb_192 (fw_rg rfl (fw_pu rfl ?_))
      refine fw_ca Tryd.func73 rfl rfl rfl ((rkTxt b76 (by omega) r78 hs68)) ?_
      rintro _ V194 ⟨l193, a193, c193, b193, rfl, hl193, hx193, sn193, rr193, hs193⟩
      refine ⟨_, rfl, ?_⟩
      have b195 := below_chg b76 sn193 (by omega) b76.size
      have r196 := r77.chg sn193 (by omega)
      have r197 := r75.chg sn193 (by omega)
      refine fw_pu rfl (fw_st r197 rfl rfl ?_)
      intro W198 s199 r200
      have b201 := below_chg b195 s199 (by omega) b195.size
      have r202 := r196.chg s199 (by omega)
      have r203 := rr193.chg s199 (by omega)
      refine fw_dt (fw_sq (fw_rg rfl (fw_pu rfl (fw_ld r200 rfl rfl (fw_dt ?_)))))
      rcases Bool.eq_false_or_eq_true ((fG fb34 64)) with hb_204 | hb_204
      · skip
        refine fw_cT rfl hb_204 (fw_rg rfl (fw_pu rfl ?_))
        refine fw_ca Tryd.func73 rfl rfl rfl ((rkTxt b201 (by omega) r203 hs193)) ?_
        rintro _ V206 ⟨l205, a205, c205, b205, rfl, hl205, hx205, sn205, rr205, hs205⟩
        refine ⟨_, rfl, ?_⟩
        have b207 := below_chg b201 sn205 (by omega) b201.size
        have r208 := r202.chg sn205 (by omega)
        have r209 := r200.chg sn205 (by omega)
        refine fw_pu rfl (fw_st r209 rfl rfl ?_)
        intro W210 s211 r212
        have b213 := below_chg b207 s211 (by omega) b207.size
        have r214 := r208.chg s211 (by omega)
        have r215 := rr205.chg s211 (by omega)
        refine fw_dn (fw_bn (fw_th (fw_sq ?_)))
        refine fw_hr (fun X => Below w.heap.size w X ∧ RowAt X q7 [.slice a205 l205.length c205, .bool b205] ∧ RowAt X q14 [.int .i64 (f / 16), .string (rS l39), .bool (fG fb34 2), .int .i64 (ofv (tkP 2 l34)), .bool false, .string { data := #[] }, .string { data := #[] }, .int .i64 0, .bool false, .string (rS l68), .bool (fG fb34 128), .string (rS l193), .bool (fG fb34 64), .bool false, .int .i64 0, .slice none 0 0, .bool false, .int .i64 0, .bool false, .string { data := #[] }, .int .i64 0, .string { data := #[] }, .slice none 0 0, .slice none 0 0]) (by kernel_rfl) 8 rfl ?_
        intro W216 s217
        have b218 := b213.trans (s217.mono b213.size)
        have r219 := r214.below s217
        have r220 := r215.below s217
        have r221 := r212.below s217
        refine ⟨⟨b218, r220, r221⟩, ?_⟩
        refine fw_tl 0 (fun _ h => h.2.2) rfl rfl rfl (by kernel_rfl) (fun _ _ _ _ _ h => h) ?_
        refine fw_tk 1 rfl rfl (by kernel_rfl) (fun _ _ _ _ _ h => h) ?_
        refine fw_tk 2 rfl rfl (by kernel_rfl) (fun _ _ _ _ _ h => h) ?_
        refine fw_tk 3 rfl rfl (by kernel_rfl) (fun _ _ _ _ _ h => h) ?_
        refine fw_tl 4 (fun _ h => h.2.1) rfl rfl rfl (by kernel_rfl) (fun _ _ _ _ _ h => h) ?_
        refine fw_tk 5 rfl rfl (by kernel_rfl) (fun _ _ _ _ _ h => h) ?_
        refine fw_o1 6 (by kernel_rfl) ?_
        refine fw_os rfl r219 rfl rfl ?_
        intro W222 s223 r224
        have b225 := below_chg b218 s223 (by omega) b218.size
        have r226 := r220.chg s223 (by omega)
        have r227 := r221.chg s223 (by omega)
        refine ⟨⟨b225, r226, r227⟩, ?_⟩
        refine fw_tk 7 rfl rfl (by kernel_rfl) (fun _ _ _ _ _ h => h) ?_
        refine fw_ht (by kernel_rfl) ?_
        refine fw_rt ?_
        refine ⟨fun a h => ?_⟩
        have e : rcG f l = (({ k := (f / 16), cl := (rS l39), clean := (fG fb34 2), keep := (ofv (tkP 2 l34)), wI := false, wT := { data := #[] }, wP := { data := #[] }, wQ := 0, wR := false, us := (rS l68), hu := (fG fb34 128), pa := (rS l193), hp := (fG fb34 64), pres := false, code := 0, cs := [], dup := false, q := 0, re := false, top := { data := #[] }, id := 0, pay := { data := #[] }, ws := [], fs := [] } : Mq), b205) := by simp only [rcG, rcn, rc1, rc2, rc3, rc4, hb_28, hb_79, hb_192, hb_204, ← hl29, ← hx29, ← hl34, ← hx34, ← hfb34, ← hl39, ← hx39, ← hl68, ← hx68, ← hl193, ← hx193, ← hl205, ← hx205, if_true, if_false, Bool.false_eq_true, zM]; try rw [beq_iff_eq.1 hb_28]
        exact ow_retCellT rfl h.df (h.g 4 rfl) (ldMq r224) (h.g 5 rfl) ⟨none, 0, none, 0, none, 0, by rw [e]; first | done | rfl, by rw [e]; exact (⟨olC_nil _ _, olW_nil _ _, olF_nil _ _⟩ : OL3 W222 w.heap.size none 0 none 0 none 0 ({ k := (f / 16), cl := (rS l39), clean := (fG fb34 2), keep := (ofv (tkP 2 l34)), wI := false, wT := { data := #[] }, wP := { data := #[] }, wQ := 0, wR := false, us := (rS l68), hu := (fG fb34 128), pa := (rS l193), hp := (fG fb34 64), pres := false, code := 0, cs := [], dup := false, q := 0, re := false, top := { data := #[] }, id := 0, pay := { data := #[] }, ws := [], fs := [] } : Mq)), b225⟩
      refine fw_cF rfl hb_204 (fw_sk (fw_bn (fw_th (fw_sq ?_))))
      refine fw_hr (fun X => Below w.heap.size w X ∧ RowAt X q7 [.slice a193 l193.length c193, .bool b193] ∧ RowAt X q14 [.int .i64 (f / 16), .string (rS l39), .bool (fG fb34 2), .int .i64 (ofv (tkP 2 l34)), .bool false, .string { data := #[] }, .string { data := #[] }, .int .i64 0, .bool false, .string (rS l68), .bool (fG fb34 128), .string { data := #[] }, .bool (fG fb34 64), .bool false, .int .i64 0, .slice none 0 0, .bool false, .int .i64 0, .bool false, .string { data := #[] }, .int .i64 0, .string { data := #[] }, .slice none 0 0, .slice none 0 0]) (by kernel_rfl) 8 rfl ?_
      intro W228 s229
      have b230 := b201.trans (s229.mono b201.size)
      have r231 := r202.below s229
      have r232 := r203.below s229
      have r233 := r200.below s229
      refine ⟨⟨b230, r232, r233⟩, ?_⟩
      refine fw_tl 0 (fun _ h => h.2.2) rfl rfl rfl (by kernel_rfl) (fun _ _ _ _ _ h => h) ?_
      refine fw_tk 1 rfl rfl (by kernel_rfl) (fun _ _ _ _ _ h => h) ?_
      refine fw_tk 2 rfl rfl (by kernel_rfl) (fun _ _ _ _ _ h => h) ?_
      refine fw_tk 3 rfl rfl (by kernel_rfl) (fun _ _ _ _ _ h => h) ?_
      refine fw_tl 4 (fun _ h => h.2.1) rfl rfl rfl (by kernel_rfl) (fun _ _ _ _ _ h => h) ?_
      refine fw_tk 5 rfl rfl (by kernel_rfl) (fun _ _ _ _ _ h => h) ?_
      refine fw_o1 6 (by kernel_rfl) ?_
      refine fw_os rfl r231 rfl rfl ?_
      intro W234 s235 r236
      have b237 := below_chg b230 s235 (by omega) b230.size
      have r238 := r232.chg s235 (by omega)
      have r239 := r233.chg s235 (by omega)
      refine ⟨⟨b237, r238, r239⟩, ?_⟩
      refine fw_tk 7 rfl rfl (by kernel_rfl) (fun _ _ _ _ _ h => h) ?_
      refine fw_ht (by kernel_rfl) ?_
      refine fw_rt ?_
      refine ⟨fun a h => ?_⟩
      have e : rcG f l = (({ k := (f / 16), cl := (rS l39), clean := (fG fb34 2), keep := (ofv (tkP 2 l34)), wI := false, wT := { data := #[] }, wP := { data := #[] }, wQ := 0, wR := false, us := (rS l68), hu := (fG fb34 128), pa := { data := #[] }, hp := (fG fb34 64), pres := false, code := 0, cs := [], dup := false, q := 0, re := false, top := { data := #[] }, id := 0, pay := { data := #[] }, ws := [], fs := [] } : Mq), b193) := by simp only [rcG, rcn, rc1, rc2, rc3, rc4, hb_28, hb_79, hb_192, hb_204, ← hl29, ← hx29, ← hl34, ← hx34, ← hfb34, ← hl39, ← hx39, ← hl68, ← hx68, ← hl193, ← hx193, if_true, if_false, Bool.false_eq_true, zM]; try rw [beq_iff_eq.1 hb_28]
      exact ow_retCellT rfl h.df (h.g 4 rfl) (ldMq r236) (h.g 5 rfl) ⟨none, 0, none, 0, none, 0, by rw [e]; first | done | rfl, by rw [e]; exact (⟨olC_nil _ _, olW_nil _ _, olF_nil _ _⟩ : OL3 W234 w.heap.size none 0 none 0 none 0 ({ k := (f / 16), cl := (rS l39), clean := (fG fb34 2), keep := (ofv (tkP 2 l34)), wI := false, wT := { data := #[] }, wP := { data := #[] }, wQ := 0, wR := false, us := (rS l68), hu := (fG fb34 128), pa := { data := #[] }, hp := (fG fb34 64), pres := false, code := 0, cs := [], dup := false, q := 0, re := false, top := { data := #[] }, id := 0, pay := { data := #[] }, ws := [], fs := [] } : Mq)), b237⟩
    refine fw_cF rfl hb_192 (fw_sk (fw_th (fw_sq (fw_rg rfl (fw_pu rfl (fw_ld r75 rfl rfl (fw_dt ?_)))))))
    rcases Bool.eq_false_or_eq_true ((fG fb34 64)) with hb_240 | hb_240
    · skip
      refine fw_cT rfl hb_240 (fw_rg rfl (fw_pu rfl ?_))
      refine fw_ca Tryd.func73 rfl rfl rfl ((rkTxt b76 (by omega) r78 hs68)) ?_
      rintro _ V242 ⟨l241, a241, c241, b241, rfl, hl241, hx241, sn241, rr241, hs241⟩
      refine ⟨_, rfl, ?_⟩
      have b243 := below_chg b76 sn241 (by omega) b76.size
      have r244 := r77.chg sn241 (by omega)
      have r245 := r75.chg sn241 (by omega)
      refine fw_pu rfl (fw_st r245 rfl rfl ?_)
      intro W246 s247 r248
      have b249 := below_chg b243 s247 (by omega) b243.size
      have r250 := r244.chg s247 (by omega)
      have r251 := rr241.chg s247 (by omega)
      refine fw_dn (fw_bn (fw_th (fw_sq ?_)))
      refine fw_hr (fun X => Below w.heap.size w X ∧ RowAt X q7 [.slice a241 l241.length c241, .bool b241] ∧ RowAt X q14 [.int .i64 (f / 16), .string (rS l39), .bool (fG fb34 2), .int .i64 (ofv (tkP 2 l34)), .bool false, .string { data := #[] }, .string { data := #[] }, .int .i64 0, .bool false, .string { data := #[] }, .bool (fG fb34 128), .string (rS l68), .bool (fG fb34 64), .bool false, .int .i64 0, .slice none 0 0, .bool false, .int .i64 0, .bool false, .string { data := #[] }, .int .i64 0, .string { data := #[] }, .slice none 0 0, .slice none 0 0]) (by kernel_rfl) 8 rfl ?_
      intro W252 s253
      have b254 := b249.trans (s253.mono b249.size)
      have r255 := r250.below s253
      have r256 := r251.below s253
      have r257 := r248.below s253
      refine ⟨⟨b254, r256, r257⟩, ?_⟩
      refine fw_tl 0 (fun _ h => h.2.2) rfl rfl rfl (by kernel_rfl) (fun _ _ _ _ _ h => h) ?_
      refine fw_tk 1 rfl rfl (by kernel_rfl) (fun _ _ _ _ _ h => h) ?_
      refine fw_tk 2 rfl rfl (by kernel_rfl) (fun _ _ _ _ _ h => h) ?_
      refine fw_tk 3 rfl rfl (by kernel_rfl) (fun _ _ _ _ _ h => h) ?_
      refine fw_tl 4 (fun _ h => h.2.1) rfl rfl rfl (by kernel_rfl) (fun _ _ _ _ _ h => h) ?_
      refine fw_tk 5 rfl rfl (by kernel_rfl) (fun _ _ _ _ _ h => h) ?_
      refine fw_o1 6 (by kernel_rfl) ?_
      refine fw_os rfl r255 rfl rfl ?_
      intro W258 s259 r260
      have b261 := below_chg b254 s259 (by omega) b254.size
      have r262 := r256.chg s259 (by omega)
      have r263 := r257.chg s259 (by omega)
      refine ⟨⟨b261, r262, r263⟩, ?_⟩
      refine fw_tk 7 rfl rfl (by kernel_rfl) (fun _ _ _ _ _ h => h) ?_
      refine fw_ht (by kernel_rfl) ?_
      refine fw_rt ?_
      refine ⟨fun a h => ?_⟩
      have e : rcG f l = (({ k := (f / 16), cl := (rS l39), clean := (fG fb34 2), keep := (ofv (tkP 2 l34)), wI := false, wT := { data := #[] }, wP := { data := #[] }, wQ := 0, wR := false, us := { data := #[] }, hu := (fG fb34 128), pa := (rS l68), hp := (fG fb34 64), pres := false, code := 0, cs := [], dup := false, q := 0, re := false, top := { data := #[] }, id := 0, pay := { data := #[] }, ws := [], fs := [] } : Mq), b241) := by simp only [rcG, rcn, rc1, rc2, rc3, rc4, hb_28, hb_79, hb_192, hb_240, ← hl29, ← hx29, ← hl34, ← hx34, ← hfb34, ← hl39, ← hx39, ← hl68, ← hx68, ← hl241, ← hx241, if_true, if_false, Bool.false_eq_true, zM]; try rw [beq_iff_eq.1 hb_28]
      exact ow_retCellT rfl h.df (h.g 4 rfl) (ldMq r260) (h.g 5 rfl) ⟨none, 0, none, 0, none, 0, by rw [e]; first | done | rfl, by rw [e]; exact (⟨olC_nil _ _, olW_nil _ _, olF_nil _ _⟩ : OL3 W258 w.heap.size none 0 none 0 none 0 ({ k := (f / 16), cl := (rS l39), clean := (fG fb34 2), keep := (ofv (tkP 2 l34)), wI := false, wT := { data := #[] }, wP := { data := #[] }, wQ := 0, wR := false, us := { data := #[] }, hu := (fG fb34 128), pa := (rS l68), hp := (fG fb34 64), pres := false, code := 0, cs := [], dup := false, q := 0, re := false, top := { data := #[] }, id := 0, pay := { data := #[] }, ws := [], fs := [] } : Mq)), b261⟩
    refine fw_cF rfl hb_240 (fw_sk (fw_bn (fw_th (fw_sq ?_))))
    refine fw_hr (fun X => Below w.heap.size w X ∧ RowAt X q7 [.slice a68 l68.length c68, .bool b68] ∧ RowAt X q14 [.int .i64 (f / 16), .string (rS l39), .bool (fG fb34 2), .int .i64 (ofv (tkP 2 l34)), .bool false, .string { data := #[] }, .string { data := #[] }, .int .i64 0, .bool false, .string { data := #[] }, .bool (fG fb34 128), .string { data := #[] }, .bool (fG fb34 64), .bool false, .int .i64 0, .slice none 0 0, .bool false, .int .i64 0, .bool false, .string { data := #[] }, .int .i64 0, .string { data := #[] }, .slice none 0 0, .slice none 0 0]) (by kernel_rfl) 8 rfl ?_
    intro W264 s265
    have b266 := b76.trans (s265.mono b76.size)
    have r267 := r77.below s265
    have r268 := r78.below s265
    have r269 := r75.below s265
    refine ⟨⟨b266, r268, r269⟩, ?_⟩
    refine fw_tl 0 (fun _ h => h.2.2) rfl rfl rfl (by kernel_rfl) (fun _ _ _ _ _ h => h) ?_
    refine fw_tk 1 rfl rfl (by kernel_rfl) (fun _ _ _ _ _ h => h) ?_
    refine fw_tk 2 rfl rfl (by kernel_rfl) (fun _ _ _ _ _ h => h) ?_
    refine fw_tk 3 rfl rfl (by kernel_rfl) (fun _ _ _ _ _ h => h) ?_
    refine fw_tl 4 (fun _ h => h.2.1) rfl rfl rfl (by kernel_rfl) (fun _ _ _ _ _ h => h) ?_
    refine fw_tk 5 rfl rfl (by kernel_rfl) (fun _ _ _ _ _ h => h) ?_
    refine fw_o1 6 (by kernel_rfl) ?_
    refine fw_os rfl r267 rfl rfl ?_
    intro W270 s271 r272
    have b273 := below_chg b266 s271 (by omega) b266.size
    have r274 := r268.chg s271 (by omega)
    have r275 := r269.chg s271 (by omega)
    refine ⟨⟨b273, r274, r275⟩, ?_⟩
    refine fw_tk 7 rfl rfl (by kernel_rfl) (fun _ _ _ _ _ h => h) ?_
    refine fw_ht (by kernel_rfl) ?_
    refine fw_rt ?_
    refine ⟨fun a h => ?_⟩
    have e : rcG f l = (({ k := (f / 16), cl := (rS l39), clean := (fG fb34 2), keep := (ofv (tkP 2 l34)), wI := false, wT := { data := #[] }, wP := { data := #[] }, wQ := 0, wR := false, us := { data := #[] }, hu := (fG fb34 128), pa := { data := #[] }, hp := (fG fb34 64), pres := false, code := 0, cs := [], dup := false, q := 0, re := false, top := { data := #[] }, id := 0, pay := { data := #[] }, ws := [], fs := [] } : Mq), b68) := by simp only [rcG, rcn, rc1, rc2, rc3, rc4, hb_28, hb_79, hb_192, hb_240, ← hl29, ← hx29, ← hl34, ← hx34, ← hfb34, ← hl39, ← hx39, ← hl68, ← hx68, if_true, if_false, Bool.false_eq_true, zM]; try rw [beq_iff_eq.1 hb_28]
    exact ow_retCellT rfl h.df (h.g 4 rfl) (ldMq r272) (h.g 5 rfl) ⟨none, 0, none, 0, none, 0, by rw [e]; first | done | rfl, by rw [e]; exact (⟨olC_nil _ _, olW_nil _ _, olF_nil _ _⟩ : OL3 W270 w.heap.size none 0 none 0 none 0 ({ k := (f / 16), cl := (rS l39), clean := (fG fb34 2), keep := (ofv (tkP 2 l34)), wI := false, wT := { data := #[] }, wP := { data := #[] }, wQ := 0, wR := false, us := { data := #[] }, hu := (fG fb34 128), pa := { data := #[] }, hp := (fG fb34 64), pres := false, code := 0, cs := [], dup := false, q := 0, re := false, top := { data := #[] }, id := 0, pay := { data := #[] }, ws := [], fs := [] } : Mq)), b273⟩
  refine fw_cF rfl hb_28 (fw_sq (fw_rg rfl ?_))
  iterate 2 refine fw_pu rfl ?_
  refine fw_dt ?_
  rcases Bool.eq_false_or_eq_true (((f / 16) == 2)) with hb_276 | hb_276
  · skip
    refine fw_cT rfl hb_276 (fw_sq (fw_rg rfl (fw_pu rfl ?_)))
    refine fw_ca Tryd.func71 rfl rfl rfl ((rkTake b25 2 (by decide) (by omega) r27 hs)) ?_
    rintro _ V278 ⟨av277, cv277, l277, a277, c277, b277, rfl, hl277, hx277, sn277, rr277, hs277, hv277, hz277⟩
    refine ⟨_, rfl, ?_⟩
    have b279 := below_chg b25 sn277 (by omega) b25.size
    have r280 := r26.chg sn277 (by omega)
    have r281 := r24.chg sn277 (by omega)
    obtain ⟨bA277, oA277, haA277, hcA277, hcB277⟩ := tk2_at hv277
    have hob0277 : 0 ≤ ofv ((tkP 2 l).take 1) ∧ ofv ((tkP 2 l).take 1) ≤ 255 := ofv_lt1 (by simp [tkP_len])
    have hob1277 : 0 ≤ ofv ((tkP 2 l).drop 1) ∧ ofv ((tkP 2 l).drop 1) ≤ 255 := ofv_lt1 (by simp [tkP_len])
    have hneq277 : bA277 ≠ q14 := by have h1 := hz277 (by decide) _ haA277; have h2 := r24.2.2; dsimp only at h1; rcases h1 with h1 | h1 <;> omega
    have hne277 : (q14 : Nat) = q14 → bA277 ≠ q14 := fun _ => hneq277
    refine fw_pu rfl (fw_dt ?_)
    refine fw_hr (fun X => Below w.heap.size w X ∧ RowAt X q1 [.int .i64 0, .string { data := #[] }, .bool false, .int .i64 0, .bool false, .string { data := #[] }, .string { data := #[] }, .int .i64 0, .bool false, .string { data := #[] }, .bool false, .string { data := #[] }, .bool false, .bool false, .int .i64 0, .slice none 0 0, .bool false, .int .i64 0, .bool false, .string { data := #[] }, .int .i64 0, .string { data := #[] }, .slice none 0 0, .slice none 0 0] ∧ RowAt X q7 [.slice a277 l277.length c277, .bool b277] ∧ CellAt X bA277 (oA277 + 0) (.int .u8 (ofv ((tkP 2 l).take 1))) ∧ CellAt X bA277 (oA277 + 1) (.int .u8 (ofv ((tkP 2 l).drop 1)))) (by kernel_rfl) 12 rfl ?_
    intro W282 s283
    have b284 := b279.trans (s283.mono b279.size)
    have r285 := r280.below s283
    have r286 := rr277.below s283
    have r287 := r281.below s283
    have f288 := (hcA277.below s283)
    have f289 := (hcB277.below s283)
    refine ⟨⟨b284, r285, r286, f288, f289⟩, ?_⟩
    refine fw_tk 0 rfl rfl (by kernel_rfl) (fun _ _ _ _ _ h => h) ?_
    refine fw_tx 1 136 (.pointer (some ⟨bA277, (oA277 + 0), none⟩)) rfl rfl rfl rfl (fun a h W hW => by obtain ⟨b284, r285, r286, f288, f289⟩ := hW; exact (run_indexOp (h.ev rfl) (h.ev rfl) (by rw [haA277]; exact idxU8 _ _ _ _ 0 (by decide) _))) (by kernel_rfl) (fun _ _ _ _ _ h => h) ?_
    refine fw_tx 2 137 (.int .u8 (ofv ((tkP 2 l).take 1))) rfl rfl rfl rfl (fun a h W hW => by obtain ⟨b284, r285, r286, f288, f289⟩ := hW; exact (run_loadOp (h.ev rfl) (ld8 f288.2))) (by kernel_rfl) (fun _ _ _ _ _ h => h) ?_
    refine fw_tx 3 138 (.bool ((ofv ((tkP 2 l).take 1)) == 1)) rfl rfl rfl rfl (fun a h W hW => by obtain ⟨b284, r285, r286, f288, f289⟩ := hW; exact (run_binOp (h.ev rfl) (h.ev rfl) (by simp [go_sem]) (eq8 _ _ _))) (by kernel_rfl) (fun _ _ _ _ _ h => h) ?_
    refine fw_tk 4 rfl rfl (by kernel_rfl) (fun _ _ _ _ _ h => h) ?_
    refine fw_tx 5 140 (.pointer (some ⟨bA277, (oA277 + 1), none⟩)) rfl rfl rfl rfl (fun a h W hW => by obtain ⟨b284, r285, r286, f288, f289⟩ := hW; exact (run_indexOp (h.ev rfl) (h.ev rfl) (by rw [haA277]; exact idxU8 _ _ _ _ 1 (by decide) _))) (by kernel_rfl) (fun _ _ _ _ _ h => h) ?_
    refine fw_tx 6 141 (.int .u8 (ofv ((tkP 2 l).drop 1))) rfl rfl rfl rfl (fun a h W hW => by obtain ⟨b284, r285, r286, f288, f289⟩ := hW; exact (run_loadOp (h.ev rfl) (ld8 f289.2))) (by kernel_rfl) (fun _ _ _ _ _ h => h) ?_
    refine fw_tx 7 142 (.int .i64 (ofv ((tkP 2 l).drop 1))) rfl rfl rfl rfl (fun a h W hW => by obtain ⟨b284, r285, r286, f288, f289⟩ := hW; exact (run_convOp (h.ev rfl) (cv8 _ (by omega) _))) (by kernel_rfl) (fun _ _ _ _ _ h => h) ?_
    refine fw_tk 8 rfl rfl (by kernel_rfl) (fun _ _ _ _ _ h => h) ?_
    refine fw_o1 9 (by kernel_rfl) ?_
    refine fw_os rfl r287 rfl rfl ?_
    intro W290 s291 r292
    have b293 := below_chg b284 s291 (by omega) b284.size
    have r294 := r285.chg s291 (by omega)
    have r295 := r286.chg s291 (by omega)
    have f296 := (f288.chg s291 (hne277 rfl))
    have f297 := (f289.chg s291 (hne277 rfl))
    refine ⟨⟨b293, r294, r295, f296, f297⟩, ?_⟩
    refine fw_tk 10 rfl rfl (by kernel_rfl) (fun _ _ _ _ _ h => h) ?_
    refine fw_o1 11 (by kernel_rfl) ?_
    refine fw_os rfl r292 rfl rfl ?_
    intro W298 s299 r300
    have b301 := below_chg b293 s299 (by omega) b293.size
    have r302 := r294.chg s299 (by omega)
    have r303 := r295.chg s299 (by omega)
    have f304 := (f296.chg s299 (hne277 rfl))
    have f305 := (f297.chg s299 (hne277 rfl))
    refine ⟨⟨b301, r302, r303, f304, f305⟩, ?_⟩
    refine fw_hz (by kernel_rfl) ?_
    refine fw_bn (fw_th (fw_sq ?_))
    refine fw_hr (fun X => Below w.heap.size w X ∧ RowAt X q7 [.slice a277 l277.length c277, .bool b277] ∧ RowAt X q14 [.int .i64 (f / 16), .string { data := #[] }, .bool false, .int .i64 0, .bool false, .string { data := #[] }, .string { data := #[] }, .int .i64 0, .bool false, .string { data := #[] }, .bool false, .string { data := #[] }, .bool false, .bool ((ofv ((tkP 2 l).take 1)) == 1), .int .i64 (ofv ((tkP 2 l).drop 1)), .slice none 0 0, .bool false, .int .i64 0, .bool false, .string { data := #[] }, .int .i64 0, .string { data := #[] }, .slice none 0 0, .slice none 0 0]) (by kernel_rfl) 8 rfl ?_
    intro W306 s307
    have b308 := b301.trans (s307.mono b301.size)
    have r309 := r302.below s307
    have r310 := r303.below s307
    have r311 := r300.below s307
    have f312 := (f304.below s307)
    have f313 := (f305.below s307)
    refine ⟨⟨b308, r310, r311⟩, ?_⟩
    refine fw_tl 0 (fun _ h => h.2.2) rfl rfl rfl (by kernel_rfl) (fun _ _ _ _ _ h => h) ?_
    refine fw_tk 1 rfl rfl (by kernel_rfl) (fun _ _ _ _ _ h => h) ?_
    refine fw_tk 2 rfl rfl (by kernel_rfl) (fun _ _ _ _ _ h => h) ?_
    refine fw_tk 3 rfl rfl (by kernel_rfl) (fun _ _ _ _ _ h => h) ?_
    refine fw_tl 4 (fun _ h => h.2.1) rfl rfl rfl (by kernel_rfl) (fun _ _ _ _ _ h => h) ?_
    refine fw_tk 5 rfl rfl (by kernel_rfl) (fun _ _ _ _ _ h => h) ?_
    refine fw_o1 6 (by kernel_rfl) ?_
    refine fw_os rfl r309 rfl rfl ?_
    intro W314 s315 r316
    have b317 := below_chg b308 s315 (by omega) b308.size
    have r318 := r310.chg s315 (by omega)
    have r319 := r311.chg s315 (by omega)
    refine ⟨⟨b317, r318, r319⟩, ?_⟩
    refine fw_tk 7 rfl rfl (by kernel_rfl) (fun _ _ _ _ _ h => h) ?_
    refine fw_ht (by kernel_rfl) ?_
    refine fw_rt ?_
    refine ⟨fun a h => ?_⟩
    have e : rcG f l = (({ k := (f / 16), cl := { data := #[] }, clean := false, keep := 0, wI := false, wT := { data := #[] }, wP := { data := #[] }, wQ := 0, wR := false, us := { data := #[] }, hu := false, pa := { data := #[] }, hp := false, pres := ((ofv ((tkP 2 l).take 1)) == 1), code := (ofv ((tkP 2 l).drop 1)), cs := [], dup := false, q := 0, re := false, top := { data := #[] }, id := 0, pay := { data := #[] }, ws := [], fs := [] } : Mq), b277) := by simp only [rcG, hb_28, hb_276, ← hl277, ← hx277, if_true, if_false, Bool.false_eq_true, zM]; try rw [beq_iff_eq.1 hb_276]
    exact ow_retCellT rfl h.df (h.g 4 rfl) (ldMq r316) (h.g 5 rfl) ⟨none, 0, none, 0, none, 0, by rw [e]; first | done | rfl, by rw [e]; exact (⟨olC_nil _ _, olW_nil _ _, olF_nil _ _⟩ : OL3 W314 w.heap.size none 0 none 0 none 0 ({ k := (f / 16), cl := { data := #[] }, clean := false, keep := 0, wI := false, wT := { data := #[] }, wP := { data := #[] }, wQ := 0, wR := false, us := { data := #[] }, hu := false, pa := { data := #[] }, hp := false, pres := ((ofv ((tkP 2 l).take 1)) == 1), code := (ofv ((tkP 2 l).drop 1)), cs := [], dup := false, q := 0, re := false, top := { data := #[] }, id := 0, pay := { data := #[] }, ws := [], fs := [] } : Mq)), b317⟩
  refine fw_cF rfl hb_276 (fw_sq (fw_rg rfl ?_))
  iterate 2 refine fw_pu rfl ?_
  refine fw_dt ?_
  rcases Bool.eq_false_or_eq_true (((f / 16) == 3)) with hb_320 | hb_320
  · skip
    refine fw_cT rfl hb_320 (fw_sq (fw_rg rfl (fw_pu rfl ?_)))
    refine fw_ex 148 (.int .u8 (bits .and .i64 f 8)) rfl rfl rfl (fun a h => (run_binOp (h.ev rfl) (h.ev rfl) (by simp [go_sem]) (and8 _ _ (by omega) (by decide) _))) ?_
    refine fw_ex 149 (.bool (fG f 8)) rfl rfl rfl (fun a h => (run_binOp (h.ev rfl) (h.ev rfl) (by simp [go_sem]) (neq8 _ _ _))) ?_
    refine fw_pu rfl ?_
    refine fw_ex 151 (.int .u8 (f / 2)) rfl rfl rfl (fun a h => (run_binOp (h.ev rfl) (h.ev rfl) (by simp [go_sem]) (shr8 _ 1 (by omega) _ (by decide)))) ?_
    refine fw_ex 152 (.int .u8 ((f / 2) % 4)) rfl rfl rfl (fun a h => (run_binOp (h.ev rfl) (h.ev rfl) (by simp [go_sem]) (and83 _ (by omega) _))) ?_
    refine fw_ex 153 (.int .i64 ((f / 2) % 4)) rfl rfl rfl (fun a h => (run_convOp (h.ev rfl) (cv8 _ (by omega) _))) ?_
    refine fw_pu rfl ?_
    refine fw_ex 155 (.int .u8 (bits .and .i64 f 1)) rfl rfl rfl (fun a h => (run_binOp (h.ev rfl) (h.ev rfl) (by simp [go_sem]) (and8 _ _ (by omega) (by decide) _))) ?_
    refine fw_ex 156 (.bool (fG f 1)) rfl rfl rfl (fun a h => (run_binOp (h.ev rfl) (h.ev rfl) (by simp [go_sem]) (neq8 _ _ _))) ?_
    refine fw_pu rfl (fw_st r24 rfl rfl ?_)
    intro W321 s322 r323
    have b324 := below_chg b25 s322 (by omega) b25.size
    have r325 := r26.chg s322 (by omega)
    have r326 := r27.chg s322 (by omega)
    refine fw_pu rfl (fw_st r323 rfl rfl ?_)
    intro W327 s328 r329
    have b330 := below_chg b324 s328 (by omega) b324.size
    have r331 := r325.chg s328 (by omega)
    have r332 := r326.chg s328 (by omega)
    refine fw_pu rfl (fw_st r329 rfl rfl ?_)
    intro W333 s334 r335
    have b336 := below_chg b330 s334 (by omega) b330.size
    have r337 := r331.chg s334 (by omega)
    have r338 := r332.chg s334 (by omega)
    refine fw_dt (fw_sq (fw_rg rfl (fw_pu rfl ?_)))
    refine fw_ca Tryd.func73 rfl rfl rfl ((rkTxt b336 (by omega) r338 hs)) ?_
    rintro _ V340 ⟨l339, a339, c339, b339, rfl, hl339, hx339, sn339, rr339, hs339⟩
    refine ⟨_, rfl, ?_⟩
    have b341 := below_chg b336 sn339 (by omega) b336.size
    have r342 := r337.chg sn339 (by omega)
    have r343 := r335.chg sn339 (by omega)
    refine fw_pu rfl (fw_st r343 rfl rfl ?_)
    intro W344 s345 r346
    have b347 := below_chg b341 s345 (by omega) b341.size
    have r348 := r342.chg s345 (by omega)
    have r349 := rr339.chg s345 (by omega)
    refine fw_dt (fw_sq (fw_sq (fw_rg rfl (fw_pu rfl (fw_ld r346 rfl rfl (fw_pu rfl (fw_dt ?_)))))))
    rcases Bool.eq_false_or_eq_true ((decide (0 < ((f / 2) % 4)))) with hb_350 | hb_350
    · skip
      refine fw_cT rfl hb_350 (fw_rg rfl (fw_pu rfl ?_))
      refine fw_ca Tryd.func72 rfl rfl rfl ((rkNum b347 (by omega) r349 hs339)) ?_
      rintro _ V352 ⟨l351, a351, c351, b351, rfl, hl351, hx351, sn351, rr351, hs351⟩
      refine ⟨(.int .i64 (ofv (tkP 2 l339))), rfl, ?_⟩
      have b353 := below_chg b347 sn351 (by omega) b347.size
      have r354 := r348.chg sn351 (by omega)
      have r355 := r346.chg sn351 (by omega)
      refine fw_pu rfl (fw_st r355 rfl rfl ?_)
      intro W356 s357 r358
      have b359 := below_chg b353 s357 (by omega) b353.size
      have r360 := r354.chg s357 (by omega)
      have r361 := rr351.chg s357 (by omega)
      refine fw_dt (fw_rg rfl ?_)
      iterate 3 refine fw_pu rfl ?_
      refine fw_ld r361 rfl rfl ?_
      refine fw_ex 173 (.string (⟨l351.toArray⟩ : ByteArray)) rfl rfl rfl (fun a h => (run_convOp (h.ev rfl) (sl_str (sl_cur b359 hs351.1)))) ?_
      refine fw_pu rfl (fw_st r358 rfl rfl ?_)
      intro W362 s363 r364
      have b365 := below_chg b359 s363 (by omega) b359.size
      have r366 := r360.chg s363 (by omega)
      have r367 := r361.chg s363 (by omega)
      refine fw_dn (fw_bn (fw_th (fw_sq ?_)))
      refine fw_hr (fun X => Below w.heap.size w X ∧ RowAt X q7 [.slice a351 l351.length c351, .bool b351] ∧ RowAt X q14 [.int .i64 (f / 16), .string { data := #[] }, .bool false, .int .i64 0, .bool false, .string { data := #[] }, .string { data := #[] }, .int .i64 0, .bool false, .string { data := #[] }, .bool false, .string { data := #[] }, .bool false, .bool false, .int .i64 0, .slice none 0 0, .bool (fG f 8), .int .i64 ((f / 2) % 4), .bool (fG f 1), .string (rS l), .int .i64 (ofv (tkP 2 l339)), .string (⟨l351.toArray⟩ : ByteArray), .slice none 0 0, .slice none 0 0]) (by kernel_rfl) 8 rfl ?_
      intro W368 s369
      have b370 := b365.trans (s369.mono b365.size)
      have r371 := r366.below s369
      have r372 := r367.below s369
      have r373 := r364.below s369
      refine ⟨⟨b370, r372, r373⟩, ?_⟩
      refine fw_tl 0 (fun _ h => h.2.2) rfl rfl rfl (by kernel_rfl) (fun _ _ _ _ _ h => h) ?_
      refine fw_tk 1 rfl rfl (by kernel_rfl) (fun _ _ _ _ _ h => h) ?_
      refine fw_tk 2 rfl rfl (by kernel_rfl) (fun _ _ _ _ _ h => h) ?_
      refine fw_tk 3 rfl rfl (by kernel_rfl) (fun _ _ _ _ _ h => h) ?_
      refine fw_tl 4 (fun _ h => h.2.1) rfl rfl rfl (by kernel_rfl) (fun _ _ _ _ _ h => h) ?_
      refine fw_tk 5 rfl rfl (by kernel_rfl) (fun _ _ _ _ _ h => h) ?_
      refine fw_o1 6 (by kernel_rfl) ?_
      refine fw_os rfl r371 rfl rfl ?_
      intro W374 s375 r376
      have b377 := below_chg b370 s375 (by omega) b370.size
      have r378 := r372.chg s375 (by omega)
      have r379 := r373.chg s375 (by omega)
      refine ⟨⟨b377, r378, r379⟩, ?_⟩
      refine fw_tk 7 rfl rfl (by kernel_rfl) (fun _ _ _ _ _ h => h) ?_
      refine fw_ht (by kernel_rfl) ?_
      refine fw_rt ?_
      refine ⟨fun a h => ?_⟩
      have e : rcG f l = (({ k := (f / 16), cl := { data := #[] }, clean := false, keep := 0, wI := false, wT := { data := #[] }, wP := { data := #[] }, wQ := 0, wR := false, us := { data := #[] }, hu := false, pa := { data := #[] }, hp := false, pres := false, code := 0, cs := [], dup := (fG f 8), q := ((f / 2) % 4), re := (fG f 1), top := (rS l), id := (ofv (tkP 2 l339)), pay := (⟨l351.toArray⟩ : ByteArray), ws := [], fs := [] } : Mq), b351) := by simp only [rcG, rpb, hb_28, hb_276, hb_320, hb_350, ← hl339, ← hx339, ← hl351, ← hx351, if_true, if_false, Bool.false_eq_true, zM]; try rw [beq_iff_eq.1 hb_320]
      exact ow_retCellT rfl h.df (h.g 4 rfl) (ldMq r376) (h.g 5 rfl) ⟨none, 0, none, 0, none, 0, by rw [e]; first | done | rfl, by rw [e]; exact (⟨olC_nil _ _, olW_nil _ _, olF_nil _ _⟩ : OL3 W374 w.heap.size none 0 none 0 none 0 ({ k := (f / 16), cl := { data := #[] }, clean := false, keep := 0, wI := false, wT := { data := #[] }, wP := { data := #[] }, wQ := 0, wR := false, us := { data := #[] }, hu := false, pa := { data := #[] }, hp := false, pres := false, code := 0, cs := [], dup := (fG f 8), q := ((f / 2) % 4), re := (fG f 1), top := (rS l), id := (ofv (tkP 2 l339)), pay := (⟨l351.toArray⟩ : ByteArray), ws := [], fs := [] } : Mq)), b377⟩
    refine fw_cF rfl hb_350 (fw_sk (fw_th (fw_rg rfl ?_)))
    iterate 3 refine fw_pu rfl ?_
    refine fw_ld r349 rfl rfl ?_
    refine fw_ex 173 (.string (⟨l339.toArray⟩ : ByteArray)) rfl rfl rfl (fun a h => (run_convOp (h.ev rfl) (sl_str (sl_cur b347 hs339.1)))) ?_
    refine fw_pu rfl (fw_st r346 rfl rfl ?_)
    intro W380 s381 r382
    have b383 := below_chg b347 s381 (by omega) b347.size
    have r384 := r348.chg s381 (by omega)
    have r385 := r349.chg s381 (by omega)
    refine fw_dn (fw_bn (fw_th (fw_sq ?_)))
    refine fw_hr (fun X => Below w.heap.size w X ∧ RowAt X q7 [.slice a339 l339.length c339, .bool b339] ∧ RowAt X q14 [.int .i64 (f / 16), .string { data := #[] }, .bool false, .int .i64 0, .bool false, .string { data := #[] }, .string { data := #[] }, .int .i64 0, .bool false, .string { data := #[] }, .bool false, .string { data := #[] }, .bool false, .bool false, .int .i64 0, .slice none 0 0, .bool (fG f 8), .int .i64 ((f / 2) % 4), .bool (fG f 1), .string (rS l), .int .i64 0, .string (⟨l339.toArray⟩ : ByteArray), .slice none 0 0, .slice none 0 0]) (by kernel_rfl) 8 rfl ?_
    intro W386 s387
    have b388 := b383.trans (s387.mono b383.size)
    have r389 := r384.below s387
    have r390 := r385.below s387
    have r391 := r382.below s387
    refine ⟨⟨b388, r390, r391⟩, ?_⟩
    refine fw_tl 0 (fun _ h => h.2.2) rfl rfl rfl (by kernel_rfl) (fun _ _ _ _ _ h => h) ?_
    refine fw_tk 1 rfl rfl (by kernel_rfl) (fun _ _ _ _ _ h => h) ?_
    refine fw_tk 2 rfl rfl (by kernel_rfl) (fun _ _ _ _ _ h => h) ?_
    refine fw_tk 3 rfl rfl (by kernel_rfl) (fun _ _ _ _ _ h => h) ?_
    refine fw_tl 4 (fun _ h => h.2.1) rfl rfl rfl (by kernel_rfl) (fun _ _ _ _ _ h => h) ?_
    refine fw_tk 5 rfl rfl (by kernel_rfl) (fun _ _ _ _ _ h => h) ?_
    refine fw_o1 6 (by kernel_rfl) ?_
    refine fw_os rfl r389 rfl rfl ?_
    intro W392 s393 r394
    have b395 := below_chg b388 s393 (by omega) b388.size
    have r396 := r390.chg s393 (by omega)
    have r397 := r391.chg s393 (by omega)
    refine ⟨⟨b395, r396, r397⟩, ?_⟩
    refine fw_tk 7 rfl rfl (by kernel_rfl) (fun _ _ _ _ _ h => h) ?_
    refine fw_ht (by kernel_rfl) ?_
    refine fw_rt ?_
    refine ⟨fun a h => ?_⟩
    have e : rcG f l = (({ k := (f / 16), cl := { data := #[] }, clean := false, keep := 0, wI := false, wT := { data := #[] }, wP := { data := #[] }, wQ := 0, wR := false, us := { data := #[] }, hu := false, pa := { data := #[] }, hp := false, pres := false, code := 0, cs := [], dup := (fG f 8), q := ((f / 2) % 4), re := (fG f 1), top := (rS l), id := 0, pay := (⟨l339.toArray⟩ : ByteArray), ws := [], fs := [] } : Mq), b339) := by simp only [rcG, rpb, hb_28, hb_276, hb_320, hb_350, ← hl339, ← hx339, if_true, if_false, Bool.false_eq_true, zM]; try rw [beq_iff_eq.1 hb_320]
    exact ow_retCellT rfl h.df (h.g 4 rfl) (ldMq r394) (h.g 5 rfl) ⟨none, 0, none, 0, none, 0, by rw [e]; first | done | rfl, by rw [e]; exact (⟨olC_nil _ _, olW_nil _ _, olF_nil _ _⟩ : OL3 W392 w.heap.size none 0 none 0 none 0 ({ k := (f / 16), cl := { data := #[] }, clean := false, keep := 0, wI := false, wT := { data := #[] }, wP := { data := #[] }, wQ := 0, wR := false, us := { data := #[] }, hu := false, pa := { data := #[] }, hp := false, pres := false, code := 0, cs := [], dup := (fG f 8), q := ((f / 2) % 4), re := (fG f 1), top := (rS l), id := 0, pay := (⟨l339.toArray⟩ : ByteArray), ws := [], fs := [] } : Mq)), b395⟩
  refine fw_cF rfl hb_320 (fw_sq (fw_sq (fw_rg rfl ?_)))
  iterate 2 refine fw_pu rfl ?_
  refine fw_dt ?_
  rcases Bool.eq_false_or_eq_true (((f / 16) == 12)) with hb_398 | hb_398
  · skip
    refine fw_cT rfl hb_398 (fw_sk (fw_th (fw_cT rfl hb_398 (fw_sk (fw_bn (fw_th (fw_sq ?_)))))))
    refine fw_hr (fun X => Below w.heap.size w X ∧ RowAt X q7 [.slice a l.length c, .bool false] ∧ RowAt X q14 [.int .i64 (f / 16), .string { data := #[] }, .bool false, .int .i64 0, .bool false, .string { data := #[] }, .string { data := #[] }, .int .i64 0, .bool false, .string { data := #[] }, .bool false, .string { data := #[] }, .bool false, .bool false, .int .i64 0, .slice none 0 0, .bool false, .int .i64 0, .bool false, .string { data := #[] }, .int .i64 0, .string { data := #[] }, .slice none 0 0, .slice none 0 0]) (by kernel_rfl) 8 rfl ?_
    intro W399 s400
    have b401 := b25.trans (s400.mono b25.size)
    have r402 := r26.below s400
    have r403 := r27.below s400
    have r404 := r24.below s400
    refine ⟨⟨b401, r403, r404⟩, ?_⟩
    refine fw_tl 0 (fun _ h => h.2.2) rfl rfl rfl (by kernel_rfl) (fun _ _ _ _ _ h => h) ?_
    refine fw_tk 1 rfl rfl (by kernel_rfl) (fun _ _ _ _ _ h => h) ?_
    refine fw_tk 2 rfl rfl (by kernel_rfl) (fun _ _ _ _ _ h => h) ?_
    refine fw_tk 3 rfl rfl (by kernel_rfl) (fun _ _ _ _ _ h => h) ?_
    refine fw_tl 4 (fun _ h => h.2.1) rfl rfl rfl (by kernel_rfl) (fun _ _ _ _ _ h => h) ?_
    refine fw_tk 5 rfl rfl (by kernel_rfl) (fun _ _ _ _ _ h => h) ?_
    refine fw_o1 6 (by kernel_rfl) ?_
    refine fw_os rfl r402 rfl rfl ?_
    intro W405 s406 r407
    have b408 := below_chg b401 s406 (by omega) b401.size
    have r409 := r403.chg s406 (by omega)
    have r410 := r404.chg s406 (by omega)
    refine ⟨⟨b408, r409, r410⟩, ?_⟩
    refine fw_tk 7 rfl rfl (by kernel_rfl) (fun _ _ _ _ _ h => h) ?_
    refine fw_ht (by kernel_rfl) ?_
    refine fw_rt ?_
    refine ⟨fun a h => ?_⟩
    have e : rcG f l = (({ k := (f / 16), cl := { data := #[] }, clean := false, keep := 0, wI := false, wT := { data := #[] }, wP := { data := #[] }, wQ := 0, wR := false, us := { data := #[] }, hu := false, pa := { data := #[] }, hp := false, pres := false, code := 0, cs := [], dup := false, q := 0, re := false, top := { data := #[] }, id := 0, pay := { data := #[] }, ws := [], fs := [] } : Mq), false) := by simp only [rcG, hb_28, hb_276, hb_320, hb_398, Bool.true_or, if_true, if_false, Bool.false_eq_true, zM]; try rfl
    exact ow_retCellT rfl h.df (h.g 4 rfl) (ldMq r407) (h.g 5 rfl) ⟨none, 0, none, 0, none, 0, by rw [e]; first | done | rfl, by rw [e]; exact (⟨olC_nil _ _, olW_nil _ _, olF_nil _ _⟩ : OL3 W405 w.heap.size none 0 none 0 none 0 ({ k := (f / 16), cl := { data := #[] }, clean := false, keep := 0, wI := false, wT := { data := #[] }, wP := { data := #[] }, wQ := 0, wR := false, us := { data := #[] }, hu := false, pa := { data := #[] }, hp := false, pres := false, code := 0, cs := [], dup := false, q := 0, re := false, top := { data := #[] }, id := 0, pay := { data := #[] }, ws := [], fs := [] } : Mq)), b408⟩
  refine fw_cF rfl hb_398 (fw_sq (fw_rg rfl ?_))
  iterate 2 refine fw_pu rfl ?_
  refine fw_dt ?_
  rcases Bool.eq_false_or_eq_true (((f / 16) == 13)) with hb_411 | hb_411
  · skip
    refine fw_cT rfl hb_411 (fw_sk (fw_th (fw_cT rfl hb_411 (fw_sk (fw_bn (fw_th (fw_sq ?_)))))))
    refine fw_hr (fun X => Below w.heap.size w X ∧ RowAt X q7 [.slice a l.length c, .bool false] ∧ RowAt X q14 [.int .i64 (f / 16), .string { data := #[] }, .bool false, .int .i64 0, .bool false, .string { data := #[] }, .string { data := #[] }, .int .i64 0, .bool false, .string { data := #[] }, .bool false, .string { data := #[] }, .bool false, .bool false, .int .i64 0, .slice none 0 0, .bool false, .int .i64 0, .bool false, .string { data := #[] }, .int .i64 0, .string { data := #[] }, .slice none 0 0, .slice none 0 0]) (by kernel_rfl) 8 rfl ?_
    intro W412 s413
    have b414 := b25.trans (s413.mono b25.size)
    have r415 := r26.below s413
    have r416 := r27.below s413
    have r417 := r24.below s413
    refine ⟨⟨b414, r416, r417⟩, ?_⟩
    refine fw_tl 0 (fun _ h => h.2.2) rfl rfl rfl (by kernel_rfl) (fun _ _ _ _ _ h => h) ?_
    refine fw_tk 1 rfl rfl (by kernel_rfl) (fun _ _ _ _ _ h => h) ?_
    refine fw_tk 2 rfl rfl (by kernel_rfl) (fun _ _ _ _ _ h => h) ?_
    refine fw_tk 3 rfl rfl (by kernel_rfl) (fun _ _ _ _ _ h => h) ?_
    refine fw_tl 4 (fun _ h => h.2.1) rfl rfl rfl (by kernel_rfl) (fun _ _ _ _ _ h => h) ?_
    refine fw_tk 5 rfl rfl (by kernel_rfl) (fun _ _ _ _ _ h => h) ?_
    refine fw_o1 6 (by kernel_rfl) ?_
    refine fw_os rfl r415 rfl rfl ?_
    intro W418 s419 r420
    have b421 := below_chg b414 s419 (by omega) b414.size
    have r422 := r416.chg s419 (by omega)
    have r423 := r417.chg s419 (by omega)
    refine ⟨⟨b421, r422, r423⟩, ?_⟩
    refine fw_tk 7 rfl rfl (by kernel_rfl) (fun _ _ _ _ _ h => h) ?_
    refine fw_ht (by kernel_rfl) ?_
    refine fw_rt ?_
    refine ⟨fun a h => ?_⟩
    have e : rcG f l = (({ k := (f / 16), cl := { data := #[] }, clean := false, keep := 0, wI := false, wT := { data := #[] }, wP := { data := #[] }, wQ := 0, wR := false, us := { data := #[] }, hu := false, pa := { data := #[] }, hp := false, pres := false, code := 0, cs := [], dup := false, q := 0, re := false, top := { data := #[] }, id := 0, pay := { data := #[] }, ws := [], fs := [] } : Mq), false) := by simp only [rcG, hb_28, hb_276, hb_320, hb_398, hb_411, Bool.true_or, Bool.or_true, if_true, if_false, Bool.false_eq_true, zM]; try rfl
    exact ow_retCellT rfl h.df (h.g 4 rfl) (ldMq r420) (h.g 5 rfl) ⟨none, 0, none, 0, none, 0, by rw [e]; first | done | rfl, by rw [e]; exact (⟨olC_nil _ _, olW_nil _ _, olF_nil _ _⟩ : OL3 W418 w.heap.size none 0 none 0 none 0 ({ k := (f / 16), cl := { data := #[] }, clean := false, keep := 0, wI := false, wT := { data := #[] }, wP := { data := #[] }, wQ := 0, wR := false, us := { data := #[] }, hu := false, pa := { data := #[] }, hp := false, pres := false, code := 0, cs := [], dup := false, q := 0, re := false, top := { data := #[] }, id := 0, pay := { data := #[] }, ws := [], fs := [] } : Mq)), b421⟩
  refine fw_cF rfl hb_411 (fw_rg rfl ?_)
  iterate 2 refine fw_pu rfl ?_
  refine fw_dt ?_
  rcases Bool.eq_false_or_eq_true (((f / 16) == 14)) with hb_424 | hb_424
  · skip
    refine fw_cT rfl hb_424 (fw_sk (fw_bn (fw_th (fw_sq ?_))))
    refine fw_hr (fun X => Below w.heap.size w X ∧ RowAt X q7 [.slice a l.length c, .bool false] ∧ RowAt X q14 [.int .i64 (f / 16), .string { data := #[] }, .bool false, .int .i64 0, .bool false, .string { data := #[] }, .string { data := #[] }, .int .i64 0, .bool false, .string { data := #[] }, .bool false, .string { data := #[] }, .bool false, .bool false, .int .i64 0, .slice none 0 0, .bool false, .int .i64 0, .bool false, .string { data := #[] }, .int .i64 0, .string { data := #[] }, .slice none 0 0, .slice none 0 0]) (by kernel_rfl) 8 rfl ?_
    intro W425 s426
    have b427 := b25.trans (s426.mono b25.size)
    have r428 := r26.below s426
    have r429 := r27.below s426
    have r430 := r24.below s426
    refine ⟨⟨b427, r429, r430⟩, ?_⟩
    refine fw_tl 0 (fun _ h => h.2.2) rfl rfl rfl (by kernel_rfl) (fun _ _ _ _ _ h => h) ?_
    refine fw_tk 1 rfl rfl (by kernel_rfl) (fun _ _ _ _ _ h => h) ?_
    refine fw_tk 2 rfl rfl (by kernel_rfl) (fun _ _ _ _ _ h => h) ?_
    refine fw_tk 3 rfl rfl (by kernel_rfl) (fun _ _ _ _ _ h => h) ?_
    refine fw_tl 4 (fun _ h => h.2.1) rfl rfl rfl (by kernel_rfl) (fun _ _ _ _ _ h => h) ?_
    refine fw_tk 5 rfl rfl (by kernel_rfl) (fun _ _ _ _ _ h => h) ?_
    refine fw_o1 6 (by kernel_rfl) ?_
    refine fw_os rfl r428 rfl rfl ?_
    intro W431 s432 r433
    have b434 := below_chg b427 s432 (by omega) b427.size
    have r435 := r429.chg s432 (by omega)
    have r436 := r430.chg s432 (by omega)
    refine ⟨⟨b434, r435, r436⟩, ?_⟩
    refine fw_tk 7 rfl rfl (by kernel_rfl) (fun _ _ _ _ _ h => h) ?_
    refine fw_ht (by kernel_rfl) ?_
    refine fw_rt ?_
    refine ⟨fun a h => ?_⟩
    have e : rcG f l = (({ k := (f / 16), cl := { data := #[] }, clean := false, keep := 0, wI := false, wT := { data := #[] }, wP := { data := #[] }, wQ := 0, wR := false, us := { data := #[] }, hu := false, pa := { data := #[] }, hp := false, pres := false, code := 0, cs := [], dup := false, q := 0, re := false, top := { data := #[] }, id := 0, pay := { data := #[] }, ws := [], fs := [] } : Mq), false) := by simp only [rcG, hb_28, hb_276, hb_320, hb_398, hb_411, hb_424, Bool.or_true, Bool.or_self, if_true, if_false, Bool.false_eq_true, zM]; try rfl
    exact ow_retCellT rfl h.df (h.g 4 rfl) (ldMq r433) (h.g 5 rfl) ⟨none, 0, none, 0, none, 0, by rw [e]; first | done | rfl, by rw [e]; exact (⟨olC_nil _ _, olW_nil _ _, olF_nil _ _⟩ : OL3 W431 w.heap.size none 0 none 0 none 0 ({ k := (f / 16), cl := { data := #[] }, clean := false, keep := 0, wI := false, wT := { data := #[] }, wP := { data := #[] }, wQ := 0, wR := false, us := { data := #[] }, hu := false, pa := { data := #[] }, hp := false, pres := false, code := 0, cs := [], dup := false, q := 0, re := false, top := { data := #[] }, id := 0, pay := { data := #[] }, ws := [], fs := [] } : Mq)), b434⟩
  refine fw_cF rfl hb_424 (fw_sq ?_)
  rcases Bool.eq_false_or_eq_true (((f / 16) == 8)) with hb_437 | hb_437
  · skip
    refine fw_rg rfl (fw_pu rfl ?_)
    refine fw_ca Tryd.func72 rfl rfl rfl ((rkNum b25 (by omega) r27 hs)) ?_
    rintro _ V439 ⟨l438, a438, c438, b438, rfl, hl438, hx438, sn438, rr438, hs438⟩
    refine ⟨(.int .i64 (ofv (tkP 2 l))), rfl, ?_⟩
    have b440 := below_chg b25 sn438 (by omega) b25.size
    have r441 := r26.chg sn438 (by omega)
    have r442 := r24.chg sn438 (by omega)
    refine fw_pu rfl (fw_st r442 rfl rfl ?_)
    intro W443 s444 r445
    have b446 := below_chg b440 s444 (by omega) b440.size
    have r447 := r441.chg s444 (by omega)
    have r448 := rr438.chg s444 (by omega)
    refine fw_dt (fw_sq ?_)
    obtain ⟨B, hB⟩ : ∃ x, x = W443.heap.size := ⟨_, rfl⟩
    have hlt_q1 : q1 < B := by rw [hB]; exact r447.2.2
    have hlt_q7 : q7 < B := by rw [hB]; exact r448.2.2
    have hlt_q14 : q14 < B := by rw [hB]; exact r445.2.2
    have hwB : w.heap.size ≤ B := by rw [hB]; exact b446.size
    have hBs : B ≤ W443.heap.size := Nat.le_of_eq hB
    have ho := olW_nil W443 B
    refine fw_rg rfl (fw_pu rfl (fw_dt (fw_bk ?_)))
    refine fw_lp (fun N K W => ∃ (i : Nat) (li : List UInt8) (ai : Option Addr) (ci : Nat) (bi : Bool) (L : List EWish) (aL : Option Addr) (cL : Nat), N = 9 - i ∧ i ≤ 8 ∧ L.length ≤ i ∧ (L ++ (rlW (8 - i) li bi).1, (rlW (8 - i) li bi).2) = rlW 8 l438 b438 ∧ SlN w (.slice ai li.length ci) li ∧ K = [(4, .pointer (some ⟨q1, 0, none⟩)), (6, .pointer (some ⟨q7, 0, none⟩)), (7, .pointer (some ⟨q14, 0, none⟩)), (10, .int .i64 ((i : Nat) : Int))] ∧ Below w.heap.size w W ∧ RowAt W q1 [.int .i64 0, .string { data := #[] }, .bool false, .int .i64 0, .bool false, .string { data := #[] }, .string { data := #[] }, .int .i64 0, .bool false, .string { data := #[] }, .bool false, .string { data := #[] }, .bool false, .bool false, .int .i64 0, .slice none 0 0, .bool false, .int .i64 0, .bool false, .string { data := #[] }, .int .i64 0, .string { data := #[] }, .slice none 0 0, .slice none 0 0] ∧ RowAt W q7 [.slice ai li.length ci, .bool bi] ∧ RowAt W q14 [.int .i64 (f / 16), .string { data := #[] }, .bool false, .int .i64 0, .bool false, .string { data := #[] }, .string { data := #[] }, .int .i64 0, .bool false, .string { data := #[] }, .bool false, .string { data := #[] }, .bool false, .bool false, .int .i64 0, .slice none 0 0, .bool false, .int .i64 0, .bool false, .string { data := #[] }, .int .i64 (ofv (tkP 2 l)), .string { data := #[] }, .slice aL L.length cL, .slice none 0 0] ∧ OLW W B aL cL L ∧ B ≤ W.heap.size) _ _ ⟨0, l438, a438, c438, b438, [], none, 0, rfl, (by omega), Nat.le_refl _, rfl, hs438, rfl, b446, r447, r448, r445, ho, hBs⟩ ⟨rfl, rfl, rfl, (by first | rfl | (simp only [Look, cond, Nat.beq]; first | rfl | (congr 2; first | rfl | omega | (push_cast; omega)) | (simp; try omega))), trivial⟩ ?_
    rintro N _ W449 ⟨i, li, ai, ci, bi, L, aL, cL, rfl, hi8, hLi, hinv, hsi, rfl, bW449, rW449_0, rW449_1, rW449_2, gW449_0, gW449_1⟩
    intro K451 hK451
    refine fw_sq (fw_sq (fw_rg rfl ?_))
    iterate 3 refine fw_pu rfl ?_
    rcases Bool.eq_false_or_eq_true ((decide (((i : Nat) : Int) < 8))) with hb_452 | hb_452
    · skip
      refine fw_kn 26 rfl hb_452 ?_
      iterate 3 refine fw_pu rfl ?_
      refine fw_ld rW449_1 rfl rfl ?_
      iterate 3 refine fw_pu rfl ?_
      refine fw_dt ?_
      rcases Bool.eq_false_or_eq_true ((decide (0 < ((li.length : Nat) : Int)))) with hb_453 | hb_453
      · skip
        refine fw_cT rfl hb_453 (fw_sk (fw_th (fw_sq (fw_bk (fw_sq (fw_rg rfl (fw_pu rfl (fw_ld rW449_2 rfl rfl (fw_dt (fw_bk (fw_sq (fw_rg rfl ?_))))))))))))
        iterate 2 refine fw_pu rfl ?_
        refine fw_dt (fw_cT rfl hb_437 (fw_sq (fw_rg rfl (fw_pu rfl ?_))))
        refine fw_ca Tryd.func73 rfl rfl rfl ((rkTxt bW449 (by omega) rW449_1 hsi)) ?_
        rintro _ V455 ⟨l454, a454, c454, b454, rfl, hl454, hx454, sn454, rr454, hs454⟩
        refine ⟨_, rfl, ?_⟩
        have b456 := below_chg bW449 sn454 (by omega) bW449.size
        have r457 := rW449_0.chg sn454 (by omega)
        have r458 := rW449_2.chg sn454 (by omega)
        have f459 := (olW_chg gW449_0 sn454 (olW_off gW449_0 (by omega)))
        have f460 := (Nat.le_trans gW449_1 sn454.size)
        refine fw_pu rfl (fw_dt ?_)
        refine fw_hr (fun X => Below w.heap.size w X) (by kernel_rfl) 13 rfl ?_
        intro W461 s462
        have b463 := b456.trans (s462.mono b456.size)
        have r464 := r457.below s462
        have r465 := rr454.below s462
        have r466 := r458.below s462
        have f467 := (below_own f459 s462)
        have f468 := (Nat.le_trans f460 s462.size)
        refine ⟨b463, ?_⟩
        refine fw_tk 0 rfl rfl (by kernel_rfl) (fun _ _ _ _ _ h => h) ?_
        refine fw_tk 2 rfl rfl (by kernel_rfl) (fun _ _ _ _ _ h => h) ?_
        refine fw_tk 3 rfl rfl (by kernel_rfl) (fun _ _ _ _ _ h => h) ?_
        refine fw_o2 1 4 (by kernel_rfl) ?_ ?_
        · skip
          refine fw_ol rfl r466 rfl rfl ?_
          refine fw_o1 4 (by kernel_rfl) ?_
          refine fw_oc rfl Tryd.func71 rfl rfl rfl ((rkTake b463 1 (by decide) (by omega) r465 hs454)) ?_
          rintro _ V470 ⟨av469, cv469, l469, a469, c469, b469, rfl, hl469, hx469, sn469, rr469, hs469, hv469, hz469⟩
          refine ⟨_, rfl, ?_⟩
          have b471 := below_chg b463 sn469 (by omega) b463.size
          have r472 := r464.chg sn469 (by omega)
          have r473 := r466.chg sn469 (by omega)
          have f474 := (olW_chg f467 sn469 (olW_off f467 (by omega)))
          have f475 := (Nat.le_trans f468 sn469.size)
          obtain ⟨bA469, oA469, haA469, hcA469⟩ := tk1_at hv469
          obtain ⟨fb469, hfb469⟩ : ∃ y, y = ofv (tkP 1 l454) := ⟨_, rfl⟩
          rw [← hfb469] at hcA469
          have hfbd469 : 0 ≤ fb469 ∧ fb469 ≤ 255 := by rw [hfb469]; exact ofvQ_bd _
          refine ⟨b471, ?_⟩
          refine fw_tx 5 47 (.pointer (some ⟨bA469, (oA469 + 0), none⟩)) rfl rfl rfl rfl (fun a h W hW => by have b471 := hW; exact (run_indexOp (h.ev rfl) (h.ev rfl) (by rw [haA469]; exact idxU8 _ _ _ _ 0 (by decide) _))) (by kernel_rfl) (fun _ _ _ _ _ h => h) ?_
          refine fw_o1 6 (by kernel_rfl) ?_
          refine fw_ox rfl 48 (.int .u8 fb469) rfl rfl rfl (fun a h => (run_loadOp (h.ev rfl) (ld8 hcA469.2))) ?_
          refine fw_tx 7 49 (.int .i64 fb469) rfl rfl rfl rfl (fun a h W hW => by have b471 := hW; exact (run_convOp (h.ev rfl) (cv8 _ (by omega) _))) (by kernel_rfl) (fun _ _ _ _ _ h => h) ?_
          refine fw_tx 8 50 (.agg #[.string (rS li), .int .i64 fb469]) rfl rfl rfl rfl (fun a h W hW => by have b471 := hW; exact (run_buildOp (bp2 (h.ev rfl) (h.ev rfl)) (by first | kernel_rfl | rfl))) (by kernel_rfl) (fun _ _ _ _ _ h => h) ?_
          refine fw_o1 9 (by kernel_rfl) ?_
          refine fw_oa rfl (t := 93) (u := fun q => .slice (some ⟨q, 0, none⟩) 1 1) 51 [.string (rS li), .int .i64 fb469] rfl rfl rfl (fun a h => (run_buildWish1 (h.ev rfl))) ?_
          intro q476 W477 g480 s478 r479
          have := Nat.le_trans b471.size g480
          have := r472.lt g480
          have := rr469.lt g480
          have := r473.lt g480
          have b481 := b471.trans (s478.mono b471.size)
          have r482 := r472.below s478
          have r483 := rr469.below s478
          have r484 := r473.below s478
          have f485 := (below_own f474 s478)
          have f486 := (Nat.le_trans f475 s478.size)
          have f487 := (hcA469.below s478)
          refine ⟨b481, ?_⟩
          refine fw_o1 10 (by kernel_rfl) ?_
          refine fw_ot rfl 52 rfl rfl rfl (fun a h => olW_app (e := (⟨(rS li), fb469⟩ : EWish)) _ _ rfl (h.ev rfl) f485 (h.ev rfl) r479 (by omega) f486) ?_
          rintro _ V488 ⟨L489, a489, c489, rfl, hL489, hg489, ho489⟩
          have r490 := olW_row r482 hg489 (olW_off f485 (by omega))
          have r491 := olW_row r483 hg489 (olW_off f485 (by omega))
          have r492 := olW_row r484 hg489 (olW_off f485 (by omega))
          have b493 := olW_low b481 f485 hg489 hwB b481.size
          have f494 := Nat.le_trans f486 hg489.1.size
          refine ⟨b493, ?_⟩
          refine fw_tk 11 rfl rfl (by kernel_rfl) (fun _ _ _ _ _ h => h) ?_
          refine fw_o1 12 (by kernel_rfl) ?_
          refine fw_os rfl r492 rfl rfl ?_
          intro W495 s496 r497
          have b498 := below_chg b493 s496 (by omega) b493.size
          have r499 := r490.chg s496 (by omega)
          have r500 := r491.chg s496 (by omega)
          have f501 := (olW_chg ho489 s496 (olW_off ho489 (by omega)))
          have f502 := (Nat.le_trans f494 s496.size)
          refine ⟨b498, ?_⟩
          refine fw_hz (by kernel_rfl) ?_
          refine fw_bn (fw_bn (fw_th (fw_rg rfl (fw_pu rfl ?_))))
          refine fw_ex 35 (.int .i64 (((i + 1) : Nat) : Int)) rfl rfl rfl (fun a h => (run_binOp (h.ev rfl) (h.ev rfl) (by simp [go_sem]) (addIw _ _ _ _ (by omega) (by omega) (by omega)))) ?_
          refine fw_pu rfl (fw_dn ?_)
          have hne : li ≠ [] := dec_len hb_453
          have hi9 := of_decide_eq_true hb_452
          have hinv2 : (L489 ++ (rlW (8 - (i + 1)) l469 b469).1, (rlW (8 - (i + 1)) l469 b469).2) = rlW 8 l438 b438 := by rw [← hinv, show 8 - i = (8 - (i + 1)) + 1 by omega, rlW_ne _ _ hne, hL489, hfb469, hx469, hl469, hx454, hl454]; simp
          exact fw_th (fw_gf (hK451 _ _ _ (by omega) ⟨(i + 1), l469, a469, c469, b469, L489, a489, c489, rfl, (by omega), (by rw [hL489, List.length_append]; exact Nat.add_le_add_right hLi 1), hinv2, hs469, rfl, b498, r499, r500, r497, f501, f502⟩) ⟨rfl, rfl, rfl, (by first | rfl | (simp only [Look, cond, Nat.beq]; first | rfl | (congr 2; first | rfl | omega | (push_cast; omega)) | (simp; try omega))), trivial⟩)
        refine fw_oc rfl Tryd.func71 rfl rfl rfl ((rkTake b463 1 (by decide) (by omega) r465 hs454)) ?_
        rintro _ V504 ⟨av503, cv503, l503, a503, c503, b503, rfl, hl503, hx503, sn503, rr503, hs503, hv503, hz503⟩
        refine ⟨_, rfl, ?_⟩
        have b505 := below_chg b463 sn503 (by omega) b463.size
        have r506 := r464.chg sn503 (by omega)
        have r507 := r466.chg sn503 (by omega)
        have f508 := (olW_chg f467 sn503 (olW_off f467 (by omega)))
        have f509 := (Nat.le_trans f468 sn503.size)
        obtain ⟨bA503, oA503, haA503, hcA503⟩ := tk1_at hv503
        obtain ⟨fb503, hfb503⟩ : ∃ y, y = ofv (tkP 1 l454) := ⟨_, rfl⟩
        rw [← hfb503] at hcA503
        have hfbd503 : 0 ≤ fb503 ∧ fb503 ≤ 255 := by rw [hfb503]; exact ofvQ_bd _
        refine ⟨b505, ?_⟩
        refine fw_tx 5 47 (.pointer (some ⟨bA503, (oA503 + 0), none⟩)) rfl rfl rfl rfl (fun a h W hW => by have b505 := hW; exact (run_indexOp (h.ev rfl) (h.ev rfl) (by rw [haA503]; exact idxU8 _ _ _ _ 0 (by decide) _))) (by kernel_rfl) (fun _ _ _ _ _ h => h) ?_
        refine fw_o2 1 6 (by kernel_rfl) ?_ ?_
        · skip
          refine fw_ol rfl r507 rfl rfl ?_
          refine fw_o1 6 (by kernel_rfl) ?_
          refine fw_ox rfl 48 (.int .u8 fb503) rfl rfl rfl (fun a h => (run_loadOp (h.ev rfl) (ld8 hcA503.2))) ?_
          refine fw_tx 7 49 (.int .i64 fb503) rfl rfl rfl rfl (fun a h W hW => by have b505 := hW; exact (run_convOp (h.ev rfl) (cv8 _ (by omega) _))) (by kernel_rfl) (fun _ _ _ _ _ h => h) ?_
          refine fw_tx 8 50 (.agg #[.string (rS li), .int .i64 fb503]) rfl rfl rfl rfl (fun a h W hW => by have b505 := hW; exact (run_buildOp (bp2 (h.ev rfl) (h.ev rfl)) (by first | kernel_rfl | rfl))) (by kernel_rfl) (fun _ _ _ _ _ h => h) ?_
          refine fw_o1 9 (by kernel_rfl) ?_
          refine fw_oa rfl (t := 93) (u := fun q => .slice (some ⟨q, 0, none⟩) 1 1) 51 [.string (rS li), .int .i64 fb503] rfl rfl rfl (fun a h => (run_buildWish1 (h.ev rfl))) ?_
          intro q510 W511 g514 s512 r513
          have := Nat.le_trans b505.size g514
          have := r506.lt g514
          have := rr503.lt g514
          have := r507.lt g514
          have b515 := b505.trans (s512.mono b505.size)
          have r516 := r506.below s512
          have r517 := rr503.below s512
          have r518 := r507.below s512
          have f519 := (below_own f508 s512)
          have f520 := (Nat.le_trans f509 s512.size)
          have f521 := (hcA503.below s512)
          refine ⟨b515, ?_⟩
          refine fw_o1 10 (by kernel_rfl) ?_
          refine fw_ot rfl 52 rfl rfl rfl (fun a h => olW_app (e := (⟨(rS li), fb503⟩ : EWish)) _ _ rfl (h.ev rfl) f519 (h.ev rfl) r513 (by omega) f520) ?_
          rintro _ V522 ⟨L523, a523, c523, rfl, hL523, hg523, ho523⟩
          have r524 := olW_row r516 hg523 (olW_off f519 (by omega))
          have r525 := olW_row r517 hg523 (olW_off f519 (by omega))
          have r526 := olW_row r518 hg523 (olW_off f519 (by omega))
          have b527 := olW_low b515 f519 hg523 hwB b515.size
          have f528 := Nat.le_trans f520 hg523.1.size
          refine ⟨b527, ?_⟩
          refine fw_tk 11 rfl rfl (by kernel_rfl) (fun _ _ _ _ _ h => h) ?_
          refine fw_o1 12 (by kernel_rfl) ?_
          refine fw_os rfl r526 rfl rfl ?_
          intro W529 s530 r531
          have b532 := below_chg b527 s530 (by omega) b527.size
          have r533 := r524.chg s530 (by omega)
          have r534 := r525.chg s530 (by omega)
          have f535 := (olW_chg ho523 s530 (olW_off ho523 (by omega)))
          have f536 := (Nat.le_trans f528 s530.size)
          refine ⟨b532, ?_⟩
          refine fw_hz (by kernel_rfl) ?_
          refine fw_bn (fw_bn (fw_th (fw_rg rfl (fw_pu rfl ?_))))
          refine fw_ex 35 (.int .i64 (((i + 1) : Nat) : Int)) rfl rfl rfl (fun a h => (run_binOp (h.ev rfl) (h.ev rfl) (by simp [go_sem]) (addIw _ _ _ _ (by omega) (by omega) (by omega)))) ?_
          refine fw_pu rfl (fw_dn ?_)
          have hne : li ≠ [] := dec_len hb_453
          have hi9 := of_decide_eq_true hb_452
          have hinv2 : (L523 ++ (rlW (8 - (i + 1)) l503 b503).1, (rlW (8 - (i + 1)) l503 b503).2) = rlW 8 l438 b438 := by rw [← hinv, show 8 - i = (8 - (i + 1)) + 1 by omega, rlW_ne _ _ hne, hL523, hfb503, hx503, hl503, hx454, hl454]; simp
          exact fw_th (fw_gf (hK451 _ _ _ (by omega) ⟨(i + 1), l503, a503, c503, b503, L523, a523, c523, rfl, (by omega), (by rw [hL523, List.length_append]; exact Nat.add_le_add_right hLi 1), hinv2, hs503, rfl, b532, r533, r534, r531, f535, f536⟩) ⟨rfl, rfl, rfl, (by first | rfl | (simp only [Look, cond, Nat.beq]; first | rfl | (congr 2; first | rfl | omega | (push_cast; omega)) | (simp; try omega))), trivial⟩)
        refine fw_ox rfl 48 (.int .u8 fb503) rfl rfl rfl (fun a h => (run_loadOp (h.ev rfl) (ld8 hcA503.2))) ?_
        refine fw_tx 7 49 (.int .i64 fb503) rfl rfl rfl rfl (fun a h W hW => by have b505 := hW; exact (run_convOp (h.ev rfl) (cv8 _ (by omega) _))) (by kernel_rfl) (fun _ _ _ _ _ h => h) ?_
        refine fw_tx 8 50 (.agg #[.string (rS li), .int .i64 fb503]) rfl rfl rfl rfl (fun a h W hW => by have b505 := hW; exact (run_buildOp (bp2 (h.ev rfl) (h.ev rfl)) (by first | kernel_rfl | rfl))) (by kernel_rfl) (fun _ _ _ _ _ h => h) ?_
        refine fw_o2 1 9 (by kernel_rfl) ?_ ?_
        · skip
          refine fw_ol rfl r507 rfl rfl ?_
          refine fw_o1 9 (by kernel_rfl) ?_
          refine fw_oa rfl (t := 93) (u := fun q => .slice (some ⟨q, 0, none⟩) 1 1) 51 [.string (rS li), .int .i64 fb503] rfl rfl rfl (fun a h => (run_buildWish1 (h.ev rfl))) ?_
          intro q537 W538 g541 s539 r540
          have := Nat.le_trans b505.size g541
          have := r506.lt g541
          have := rr503.lt g541
          have := r507.lt g541
          have b542 := b505.trans (s539.mono b505.size)
          have r543 := r506.below s539
          have r544 := rr503.below s539
          have r545 := r507.below s539
          have f546 := (below_own f508 s539)
          have f547 := (Nat.le_trans f509 s539.size)
          have f548 := (hcA503.below s539)
          refine ⟨b542, ?_⟩
          refine fw_o1 10 (by kernel_rfl) ?_
          refine fw_ot rfl 52 rfl rfl rfl (fun a h => olW_app (e := (⟨(rS li), fb503⟩ : EWish)) _ _ rfl (h.ev rfl) f546 (h.ev rfl) r540 (by omega) f547) ?_
          rintro _ V549 ⟨L550, a550, c550, rfl, hL550, hg550, ho550⟩
          have r551 := olW_row r543 hg550 (olW_off f546 (by omega))
          have r552 := olW_row r544 hg550 (olW_off f546 (by omega))
          have r553 := olW_row r545 hg550 (olW_off f546 (by omega))
          have b554 := olW_low b542 f546 hg550 hwB b542.size
          have f555 := Nat.le_trans f547 hg550.1.size
          refine ⟨b554, ?_⟩
          refine fw_tk 11 rfl rfl (by kernel_rfl) (fun _ _ _ _ _ h => h) ?_
          refine fw_o1 12 (by kernel_rfl) ?_
          refine fw_os rfl r553 rfl rfl ?_
          intro W556 s557 r558
          have b559 := below_chg b554 s557 (by omega) b554.size
          have r560 := r551.chg s557 (by omega)
          have r561 := r552.chg s557 (by omega)
          have f562 := (olW_chg ho550 s557 (olW_off ho550 (by omega)))
          have f563 := (Nat.le_trans f555 s557.size)
          refine ⟨b559, ?_⟩
          refine fw_hz (by kernel_rfl) ?_
          refine fw_bn (fw_bn (fw_th (fw_rg rfl (fw_pu rfl ?_))))
          refine fw_ex 35 (.int .i64 (((i + 1) : Nat) : Int)) rfl rfl rfl (fun a h => (run_binOp (h.ev rfl) (h.ev rfl) (by simp [go_sem]) (addIw _ _ _ _ (by omega) (by omega) (by omega)))) ?_
          refine fw_pu rfl (fw_dn ?_)
          have hne : li ≠ [] := dec_len hb_453
          have hi9 := of_decide_eq_true hb_452
          have hinv2 : (L550 ++ (rlW (8 - (i + 1)) l503 b503).1, (rlW (8 - (i + 1)) l503 b503).2) = rlW 8 l438 b438 := by rw [← hinv, show 8 - i = (8 - (i + 1)) + 1 by omega, rlW_ne _ _ hne, hL550, hfb503, hx503, hl503, hx454, hl454]; simp
          exact fw_th (fw_gf (hK451 _ _ _ (by omega) ⟨(i + 1), l503, a503, c503, b503, L550, a550, c550, rfl, (by omega), (by rw [hL550, List.length_append]; exact Nat.add_le_add_right hLi 1), hinv2, hs503, rfl, b559, r560, r561, r558, f562, f563⟩) ⟨rfl, rfl, rfl, (by first | rfl | (simp only [Look, cond, Nat.beq]; first | rfl | (congr 2; first | rfl | omega | (push_cast; omega)) | (simp; try omega))), trivial⟩)
        refine fw_oa rfl (t := 93) (u := fun q => .slice (some ⟨q, 0, none⟩) 1 1) 51 [.string (rS li), .int .i64 fb503] rfl rfl rfl (fun a h => (run_buildWish1 (h.ev rfl))) ?_
        intro q564 W565 g568 s566 r567
        have := Nat.le_trans b505.size g568
        have := r506.lt g568
        have := rr503.lt g568
        have := r507.lt g568
        have b569 := b505.trans (s566.mono b505.size)
        have r570 := r506.below s566
        have r571 := rr503.below s566
        have r572 := r507.below s566
        have f573 := (below_own f508 s566)
        have f574 := (Nat.le_trans f509 s566.size)
        have f575 := (hcA503.below s566)
        refine ⟨b569, ?_⟩
        refine fw_o1 1 (by kernel_rfl) ?_
        refine fw_ol rfl r572 rfl rfl ?_
        refine fw_o1 10 (by kernel_rfl) ?_
        refine fw_ot rfl 52 rfl rfl rfl (fun a h => olW_app (e := (⟨(rS li), fb503⟩ : EWish)) _ _ rfl (h.ev rfl) f573 (h.ev rfl) r567 (by omega) f574) ?_
        rintro _ V576 ⟨L577, a577, c577, rfl, hL577, hg577, ho577⟩
        have r578 := olW_row r570 hg577 (olW_off f573 (by omega))
        have r579 := olW_row r571 hg577 (olW_off f573 (by omega))
        have r580 := olW_row r572 hg577 (olW_off f573 (by omega))
        have b581 := olW_low b569 f573 hg577 hwB b569.size
        have f582 := Nat.le_trans f574 hg577.1.size
        refine ⟨b581, ?_⟩
        refine fw_tk 11 rfl rfl (by kernel_rfl) (fun _ _ _ _ _ h => h) ?_
        refine fw_o1 12 (by kernel_rfl) ?_
        refine fw_os rfl r580 rfl rfl ?_
        intro W583 s584 r585
        have b586 := below_chg b581 s584 (by omega) b581.size
        have r587 := r578.chg s584 (by omega)
        have r588 := r579.chg s584 (by omega)
        have f589 := (olW_chg ho577 s584 (olW_off ho577 (by omega)))
        have f590 := (Nat.le_trans f582 s584.size)
        refine ⟨b586, ?_⟩
        refine fw_hz (by kernel_rfl) ?_
        refine fw_bn (fw_bn (fw_th (fw_rg rfl (fw_pu rfl ?_))))
        refine fw_ex 35 (.int .i64 (((i + 1) : Nat) : Int)) rfl rfl rfl (fun a h => (run_binOp (h.ev rfl) (h.ev rfl) (by simp [go_sem]) (addIw _ _ _ _ (by omega) (by omega) (by omega)))) ?_
        refine fw_pu rfl (fw_dn ?_)
        have hne : li ≠ [] := dec_len hb_453
        have hi9 := of_decide_eq_true hb_452
        have hinv2 : (L577 ++ (rlW (8 - (i + 1)) l503 b503).1, (rlW (8 - (i + 1)) l503 b503).2) = rlW 8 l438 b438 := by rw [← hinv, show 8 - i = (8 - (i + 1)) + 1 by omega, rlW_ne _ _ hne, hL577, hfb503, hx503, hl503, hx454, hl454]; simp
        exact fw_th (fw_gf (hK451 _ _ _ (by omega) ⟨(i + 1), l503, a503, c503, b503, L577, a577, c577, rfl, (by omega), (by rw [hL577, List.length_append]; exact Nat.add_le_add_right hLi 1), hinv2, hs503, rfl, b586, r587, r588, r585, f589, f590⟩) ⟨rfl, rfl, rfl, (by first | rfl | (simp only [Look, cond, Nat.beq]; first | rfl | (congr 2; first | rfl | omega | (push_cast; omega)) | (simp; try omega))), trivial⟩)
      refine fw_cF rfl hb_453 (fw_xt (fw_te (fw_te (fw_be (fw_bn (fw_th (fw_sq ?_)))))))
      refine fw_hr (fun X => Below w.heap.size w X ∧ RowAt X q7 [.slice ai li.length ci, .bool bi] ∧ RowAt X q14 [.int .i64 (f / 16), .string { data := #[] }, .bool false, .int .i64 0, .bool false, .string { data := #[] }, .string { data := #[] }, .int .i64 0, .bool false, .string { data := #[] }, .bool false, .string { data := #[] }, .bool false, .bool false, .int .i64 0, .slice none 0 0, .bool false, .int .i64 0, .bool false, .string { data := #[] }, .int .i64 (ofv (tkP 2 l)), .string { data := #[] }, .slice aL L.length cL, .slice none 0 0]) (by kernel_rfl) 8 rfl ?_
      intro W591 s592
      have b593 := bW449.trans (s592.mono bW449.size)
      have r594 := rW449_0.below s592
      have r595 := rW449_1.below s592
      have r596 := rW449_2.below s592
      have f597 := (below_own gW449_0 s592)
      have f598 := (Nat.le_trans gW449_1 s592.size)
      refine ⟨⟨b593, r595, r596⟩, ?_⟩
      refine fw_tl 0 (fun _ h => h.2.2) rfl rfl rfl (by kernel_rfl) (fun _ _ _ _ _ h => h) ?_
      refine fw_tk 1 rfl rfl (by kernel_rfl) (fun _ _ _ _ _ h => h) ?_
      refine fw_tk 2 rfl rfl (by kernel_rfl) (fun _ _ _ _ _ h => h) ?_
      refine fw_tk 3 rfl rfl (by kernel_rfl) (fun _ _ _ _ _ h => h) ?_
      refine fw_tl 4 (fun _ h => h.2.1) rfl rfl rfl (by kernel_rfl) (fun _ _ _ _ _ h => h) ?_
      refine fw_tk 5 rfl rfl (by kernel_rfl) (fun _ _ _ _ _ h => h) ?_
      refine fw_o1 6 (by kernel_rfl) ?_
      refine fw_os rfl r594 rfl rfl ?_
      intro W599 s600 r601
      have b602 := below_chg b593 s600 (by omega) b593.size
      have r603 := r595.chg s600 (by omega)
      have r604 := r596.chg s600 (by omega)
      have f605 := (olW_chg f597 s600 (olW_off f597 (by omega)))
      have f606 := (Nat.le_trans f598 s600.size)
      refine ⟨⟨b602, r603, r604⟩, ?_⟩
      refine fw_tk 7 rfl rfl (by kernel_rfl) (fun _ _ _ _ _ h => h) ?_
      refine fw_ht (by kernel_rfl) ?_
      refine fw_rt ?_
      refine ⟨fun a h => ?_⟩
      have hfin : rlW 8 l438 b438 = (L, bi) := by rw [← hinv, dec_len0 hb_453, rlW_nil, List.append_nil]
      have e : rcG f l = (({ k := (f / 16), cl := { data := #[] }, clean := false, keep := 0, wI := false, wT := { data := #[] }, wP := { data := #[] }, wQ := 0, wR := false, us := { data := #[] }, hu := false, pa := { data := #[] }, hp := false, pres := false, code := 0, cs := [], dup := false, q := 0, re := false, top := { data := #[] }, id := (ofv (tkP 2 l)), pay := { data := #[] }, ws := L, fs := [] } : Mq), bi) := by simp only [rcG, hb_28, hb_276, hb_320, hb_398, hb_411, hb_424, hb_437, ← hl438, ← hx438, hfin, Bool.or_self, if_true, if_false, Bool.false_eq_true, zM]; try rw [beq_iff_eq.1 hb_437]
      exact ow_retCellT rfl h.df (h.g 4 rfl) (ldMq r601) (h.g 5 rfl) ⟨none, 0, aL, cL, none, 0, by rw [e]; first | done | rfl, by rw [e]; exact (⟨olC_nil _ _, own_mono f605 hwB, olF_nil _ _⟩ : OL3 W599 w.heap.size none 0 aL cL none 0 ({ k := (f / 16), cl := { data := #[] }, clean := false, keep := 0, wI := false, wT := { data := #[] }, wP := { data := #[] }, wQ := 0, wR := false, us := { data := #[] }, hu := false, pa := { data := #[] }, hp := false, pres := false, code := 0, cs := [], dup := false, q := 0, re := false, top := { data := #[] }, id := (ofv (tkP 2 l)), pay := { data := #[] }, ws := L, fs := [] } : Mq)), b602⟩
    refine fw_kn 26 rfl hb_452 ?_
    iterate 7 refine fw_pu rfl ?_
    refine fw_dt (fw_cF rfl rfl (fw_xt (fw_te (fw_te (fw_be (fw_bn (fw_th (fw_sq ?_))))))))
    refine fw_hr (fun X => Below w.heap.size w X ∧ RowAt X q7 [.slice ai li.length ci, .bool bi] ∧ RowAt X q14 [.int .i64 (f / 16), .string { data := #[] }, .bool false, .int .i64 0, .bool false, .string { data := #[] }, .string { data := #[] }, .int .i64 0, .bool false, .string { data := #[] }, .bool false, .string { data := #[] }, .bool false, .bool false, .int .i64 0, .slice none 0 0, .bool false, .int .i64 0, .bool false, .string { data := #[] }, .int .i64 (ofv (tkP 2 l)), .string { data := #[] }, .slice aL L.length cL, .slice none 0 0]) (by kernel_rfl) 8 rfl ?_
    intro W607 s608
    have b609 := bW449.trans (s608.mono bW449.size)
    have r610 := rW449_0.below s608
    have r611 := rW449_1.below s608
    have r612 := rW449_2.below s608
    have f613 := (below_own gW449_0 s608)
    have f614 := (Nat.le_trans gW449_1 s608.size)
    refine ⟨⟨b609, r611, r612⟩, ?_⟩
    refine fw_tl 0 (fun _ h => h.2.2) rfl rfl rfl (by kernel_rfl) (fun _ _ _ _ _ h => h) ?_
    refine fw_tk 1 rfl rfl (by kernel_rfl) (fun _ _ _ _ _ h => h) ?_
    refine fw_tk 2 rfl rfl (by kernel_rfl) (fun _ _ _ _ _ h => h) ?_
    refine fw_tk 3 rfl rfl (by kernel_rfl) (fun _ _ _ _ _ h => h) ?_
    refine fw_tl 4 (fun _ h => h.2.1) rfl rfl rfl (by kernel_rfl) (fun _ _ _ _ _ h => h) ?_
    refine fw_tk 5 rfl rfl (by kernel_rfl) (fun _ _ _ _ _ h => h) ?_
    refine fw_o1 6 (by kernel_rfl) ?_
    refine fw_os rfl r610 rfl rfl ?_
    intro W615 s616 r617
    have b618 := below_chg b609 s616 (by omega) b609.size
    have r619 := r611.chg s616 (by omega)
    have r620 := r612.chg s616 (by omega)
    have f621 := (olW_chg f613 s616 (olW_off f613 (by omega)))
    have f622 := (Nat.le_trans f614 s616.size)
    refine ⟨⟨b618, r619, r620⟩, ?_⟩
    refine fw_tk 7 rfl rfl (by kernel_rfl) (fun _ _ _ _ _ h => h) ?_
    refine fw_ht (by kernel_rfl) ?_
    refine fw_rt ?_
    refine ⟨fun a h => ?_⟩
    have hfin : rlW 8 l438 b438 = (L, bi) := by rw [← hinv, show 8 - i = 0 by have h := of_decide_eq_false hb_452; omega]; show (L ++ [], bi) = _; rw [List.append_nil]
    have e : rcG f l = (({ k := (f / 16), cl := { data := #[] }, clean := false, keep := 0, wI := false, wT := { data := #[] }, wP := { data := #[] }, wQ := 0, wR := false, us := { data := #[] }, hu := false, pa := { data := #[] }, hp := false, pres := false, code := 0, cs := [], dup := false, q := 0, re := false, top := { data := #[] }, id := (ofv (tkP 2 l)), pay := { data := #[] }, ws := L, fs := [] } : Mq), bi) := by simp only [rcG, hb_28, hb_276, hb_320, hb_398, hb_411, hb_424, hb_437, ← hl438, ← hx438, hfin, Bool.or_self, if_true, if_false, Bool.false_eq_true, zM]; try rw [beq_iff_eq.1 hb_437]
    exact ow_retCellT rfl h.df (h.g 4 rfl) (ldMq r617) (h.g 5 rfl) ⟨none, 0, aL, cL, none, 0, by rw [e]; first | done | rfl, by rw [e]; exact (⟨olC_nil _ _, own_mono f621 hwB, olF_nil _ _⟩ : OL3 W615 w.heap.size none 0 aL cL none 0 ({ k := (f / 16), cl := { data := #[] }, clean := false, keep := 0, wI := false, wT := { data := #[] }, wP := { data := #[] }, wQ := 0, wR := false, us := { data := #[] }, hu := false, pa := { data := #[] }, hp := false, pres := false, code := 0, cs := [], dup := false, q := 0, re := false, top := { data := #[] }, id := (ofv (tkP 2 l)), pay := { data := #[] }, ws := L, fs := [] } : Mq)), b618⟩
  rcases Bool.eq_false_or_eq_true (((f / 16) == 9)) with hb_623 | hb_623
  · skip
    refine fw_rg rfl (fw_pu rfl ?_)
    refine fw_ca Tryd.func72 rfl rfl rfl ((rkNum b25 (by omega) r27 hs)) ?_
    rintro _ V625 ⟨l624, a624, c624, b624, rfl, hl624, hx624, sn624, rr624, hs624⟩
    refine ⟨(.int .i64 (ofv (tkP 2 l))), rfl, ?_⟩
    have b626 := below_chg b25 sn624 (by omega) b25.size
    have r627 := r26.chg sn624 (by omega)
    have r628 := r24.chg sn624 (by omega)
    refine fw_pu rfl (fw_st r628 rfl rfl ?_)
    intro W629 s630 r631
    have b632 := below_chg b626 s630 (by omega) b626.size
    have r633 := r627.chg s630 (by omega)
    have r634 := rr624.chg s630 (by omega)
    refine fw_dt (fw_sq ?_)
    obtain ⟨B, hB⟩ : ∃ x, x = W629.heap.size := ⟨_, rfl⟩
    have hlt_q1 : q1 < B := by rw [hB]; exact r633.2.2
    have hlt_q7 : q7 < B := by rw [hB]; exact r634.2.2
    have hlt_q14 : q14 < B := by rw [hB]; exact r631.2.2
    have hwB : w.heap.size ≤ B := by rw [hB]; exact b632.size
    have hBs : B ≤ W629.heap.size := Nat.le_of_eq hB
    have ho := olC_nil W629 B
    refine fw_rg rfl (fw_pu rfl (fw_dt (fw_bk ?_)))
    refine fw_lp (fun N K W => ∃ (i : Nat) (li : List UInt8) (ai : Option Addr) (ci : Nat) (bi : Bool) (L : List Int) (aL : Option Addr) (cL : Nat), N = 9 - i ∧ i ≤ 8 ∧ L.length ≤ i ∧ (L ++ (rlC (8 - i) li bi).1, (rlC (8 - i) li bi).2) = rlC 8 l624 b624 ∧ SlN w (.slice ai li.length ci) li ∧ K = [(4, .pointer (some ⟨q1, 0, none⟩)), (6, .pointer (some ⟨q7, 0, none⟩)), (7, .pointer (some ⟨q14, 0, none⟩)), (10, .int .i64 ((i : Nat) : Int))] ∧ Below w.heap.size w W ∧ RowAt W q1 [.int .i64 0, .string { data := #[] }, .bool false, .int .i64 0, .bool false, .string { data := #[] }, .string { data := #[] }, .int .i64 0, .bool false, .string { data := #[] }, .bool false, .string { data := #[] }, .bool false, .bool false, .int .i64 0, .slice none 0 0, .bool false, .int .i64 0, .bool false, .string { data := #[] }, .int .i64 0, .string { data := #[] }, .slice none 0 0, .slice none 0 0] ∧ RowAt W q7 [.slice ai li.length ci, .bool bi] ∧ RowAt W q14 [.int .i64 (f / 16), .string { data := #[] }, .bool false, .int .i64 0, .bool false, .string { data := #[] }, .string { data := #[] }, .int .i64 0, .bool false, .string { data := #[] }, .bool false, .string { data := #[] }, .bool false, .bool false, .int .i64 0, .slice aL L.length cL, .bool false, .int .i64 0, .bool false, .string { data := #[] }, .int .i64 (ofv (tkP 2 l)), .string { data := #[] }, .slice none 0 0, .slice none 0 0] ∧ OLC W B aL cL L ∧ B ≤ W.heap.size) _ _ ⟨0, l624, a624, c624, b624, [], none, 0, rfl, (by omega), Nat.le_refl _, rfl, hs624, rfl, b632, r633, r634, r631, ho, hBs⟩ ⟨rfl, rfl, rfl, (by first | rfl | (simp only [Look, cond, Nat.beq]; first | rfl | (congr 2; first | rfl | omega | (push_cast; omega)) | (simp; try omega))), trivial⟩ ?_
    rintro N _ W635 ⟨i, li, ai, ci, bi, L, aL, cL, rfl, hi8, hLi, hinv, hsi, rfl, bW635, rW635_0, rW635_1, rW635_2, gW635_0, gW635_1⟩
    intro K637 hK637
    refine fw_sq (fw_sq (fw_rg rfl ?_))
    iterate 3 refine fw_pu rfl ?_
    rcases Bool.eq_false_or_eq_true ((decide (((i : Nat) : Int) < 8))) with hb_638 | hb_638
    · skip
      refine fw_kn 26 rfl hb_638 ?_
      iterate 3 refine fw_pu rfl ?_
      refine fw_ld rW635_1 rfl rfl ?_
      iterate 3 refine fw_pu rfl ?_
      refine fw_dt ?_
      rcases Bool.eq_false_or_eq_true ((decide (0 < ((li.length : Nat) : Int)))) with hb_639 | hb_639
      · skip
        refine fw_cT rfl hb_639 (fw_sk (fw_th (fw_sq (fw_bk (fw_sq (fw_rg rfl (fw_pu rfl (fw_ld rW635_2 rfl rfl (fw_dt (fw_bk (fw_sq (fw_rg rfl ?_))))))))))))
        iterate 2 refine fw_pu rfl ?_
        refine fw_dt (fw_cF rfl hb_437 (fw_sq (fw_rg rfl ?_)))
        iterate 2 refine fw_pu rfl ?_
        refine fw_dt (fw_cT rfl hb_623 ?_)
        refine fw_hr (fun X => Below w.heap.size w X) (by kernel_rfl) 11 rfl ?_
        intro W640 s641
        have b642 := bW635.trans (s641.mono bW635.size)
        have r643 := rW635_0.below s641
        have r644 := rW635_1.below s641
        have r645 := rW635_2.below s641
        have f646 := (below_own gW635_0 s641)
        have f647 := (Nat.le_trans gW635_1 s641.size)
        refine ⟨b642, ?_⟩
        refine fw_tk 0 rfl rfl (by kernel_rfl) (fun _ _ _ _ _ h => h) ?_
        refine fw_tk 2 rfl rfl (by kernel_rfl) (fun _ _ _ _ _ h => h) ?_
        refine fw_o2 1 3 (by kernel_rfl) ?_ ?_
        · skip
          refine fw_ol rfl r645 rfl rfl ?_
          refine fw_o1 3 (by kernel_rfl) ?_
          refine fw_oc rfl Tryd.func71 rfl rfl rfl ((rkTake b642 1 (by decide) (by omega) r644 hsi)) ?_
          rintro _ V649 ⟨av648, cv648, l648, a648, c648, b648, rfl, hl648, hx648, sn648, rr648, hs648, hv648, hz648⟩
          refine ⟨_, rfl, ?_⟩
          have b650 := below_chg b642 sn648 (by omega) b642.size
          have r651 := r643.chg sn648 (by omega)
          have r652 := r645.chg sn648 (by omega)
          have f653 := (olC_chg f646 sn648 (olC_off f646 (by omega)))
          have f654 := (Nat.le_trans f647 sn648.size)
          obtain ⟨bA648, oA648, haA648, hcA648⟩ := tk1_at hv648
          obtain ⟨fb648, hfb648⟩ : ∃ y, y = ofv (tkP 1 li) := ⟨_, rfl⟩
          rw [← hfb648] at hcA648
          have hfbd648 : 0 ≤ fb648 ∧ fb648 ≤ 255 := by rw [hfb648]; exact ofvQ_bd _
          refine ⟨b650, ?_⟩
          refine fw_tx 4 60 (.pointer (some ⟨bA648, (oA648 + 0), none⟩)) rfl rfl rfl rfl (fun a h W hW => by have b650 := hW; exact (run_indexOp (h.ev rfl) (h.ev rfl) (by rw [haA648]; exact idxU8 _ _ _ _ 0 (by decide) _))) (by kernel_rfl) (fun _ _ _ _ _ h => h) ?_
          refine fw_o1 5 (by kernel_rfl) ?_
          refine fw_ox rfl 61 (.int .u8 fb648) rfl rfl rfl (fun a h => (run_loadOp (h.ev rfl) (ld8 hcA648.2))) ?_
          refine fw_tx 6 62 (.int .i64 fb648) rfl rfl rfl rfl (fun a h W hW => by have b650 := hW; exact (run_convOp (h.ev rfl) (cv8 _ (by omega) _))) (by kernel_rfl) (fun _ _ _ _ _ h => h) ?_
          refine fw_o1 7 (by kernel_rfl) ?_
          refine fw_oa rfl (t := 3) (u := fun q => .slice (some ⟨q, 0, none⟩) 1 1) 63 [.int .i64 fb648] rfl rfl rfl (fun a h => (run_buildInt1 (h.ev rfl))) ?_
          intro q655 W656 g659 s657 r658
          have := Nat.le_trans b650.size g659
          have := r651.lt g659
          have := rr648.lt g659
          have := r652.lt g659
          have b660 := b650.trans (s657.mono b650.size)
          have r661 := r651.below s657
          have r662 := rr648.below s657
          have r663 := r652.below s657
          have f664 := (below_own f653 s657)
          have f665 := (Nat.le_trans f654 s657.size)
          have f666 := (hcA648.below s657)
          refine ⟨b660, ?_⟩
          refine fw_o1 8 (by kernel_rfl) ?_
          refine fw_ot rfl 64 rfl rfl rfl (fun a h => olC_app (e := fb648) _ _ rfl (h.ev rfl) f664 (h.ev rfl) r658 (by omega) f665) ?_
          rintro _ V667 ⟨L668, a668, c668, rfl, hL668, hg668, ho668⟩
          have r669 := olC_row r661 hg668 (olC_off f664 (by omega))
          have r670 := olC_row r662 hg668 (olC_off f664 (by omega))
          have r671 := olC_row r663 hg668 (olC_off f664 (by omega))
          have b672 := olC_low b660 f664 hg668 hwB b660.size
          have f673 := Nat.le_trans f665 hg668.1.size
          refine ⟨b672, ?_⟩
          refine fw_tk 9 rfl rfl (by kernel_rfl) (fun _ _ _ _ _ h => h) ?_
          refine fw_o1 10 (by kernel_rfl) ?_
          refine fw_os rfl r671 rfl rfl ?_
          intro W674 s675 r676
          have b677 := below_chg b672 s675 (by omega) b672.size
          have r678 := r669.chg s675 (by omega)
          have r679 := r670.chg s675 (by omega)
          have f680 := (olC_chg ho668 s675 (olC_off ho668 (by omega)))
          have f681 := (Nat.le_trans f673 s675.size)
          refine ⟨b677, ?_⟩
          refine fw_hz (by kernel_rfl) ?_
          refine fw_bn (fw_bn (fw_th (fw_rg rfl (fw_pu rfl ?_))))
          refine fw_ex 35 (.int .i64 (((i + 1) : Nat) : Int)) rfl rfl rfl (fun a h => (run_binOp (h.ev rfl) (h.ev rfl) (by simp [go_sem]) (addIw _ _ _ _ (by omega) (by omega) (by omega)))) ?_
          refine fw_pu rfl (fw_dn ?_)
          have hne : li ≠ [] := dec_len hb_639
          have hi9 := of_decide_eq_true hb_638
          have hinv2 : (L668 ++ (rlC (8 - (i + 1)) l648 b648).1, (rlC (8 - (i + 1)) l648 b648).2) = rlC 8 l624 b624 := by rw [← hinv, show 8 - i = (8 - (i + 1)) + 1 by omega, rlC_ne _ _ hne, hL668, hfb648, hx648, hl648]; simp
          exact fw_th (fw_gf (hK637 _ _ _ (by omega) ⟨(i + 1), l648, a648, c648, b648, L668, a668, c668, rfl, (by omega), (by rw [hL668, List.length_append]; exact Nat.add_le_add_right hLi 1), hinv2, hs648, rfl, b677, r678, r679, r676, f680, f681⟩) ⟨rfl, rfl, rfl, (by first | rfl | (simp only [Look, cond, Nat.beq]; first | rfl | (congr 2; first | rfl | omega | (push_cast; omega)) | (simp; try omega))), trivial⟩)
        refine fw_oc rfl Tryd.func71 rfl rfl rfl ((rkTake b642 1 (by decide) (by omega) r644 hsi)) ?_
        rintro _ V683 ⟨av682, cv682, l682, a682, c682, b682, rfl, hl682, hx682, sn682, rr682, hs682, hv682, hz682⟩
        refine ⟨_, rfl, ?_⟩
        have b684 := below_chg b642 sn682 (by omega) b642.size
        have r685 := r643.chg sn682 (by omega)
        have r686 := r645.chg sn682 (by omega)
        have f687 := (olC_chg f646 sn682 (olC_off f646 (by omega)))
        have f688 := (Nat.le_trans f647 sn682.size)
        obtain ⟨bA682, oA682, haA682, hcA682⟩ := tk1_at hv682
        obtain ⟨fb682, hfb682⟩ : ∃ y, y = ofv (tkP 1 li) := ⟨_, rfl⟩
        rw [← hfb682] at hcA682
        have hfbd682 : 0 ≤ fb682 ∧ fb682 ≤ 255 := by rw [hfb682]; exact ofvQ_bd _
        refine ⟨b684, ?_⟩
        refine fw_tx 4 60 (.pointer (some ⟨bA682, (oA682 + 0), none⟩)) rfl rfl rfl rfl (fun a h W hW => by have b684 := hW; exact (run_indexOp (h.ev rfl) (h.ev rfl) (by rw [haA682]; exact idxU8 _ _ _ _ 0 (by decide) _))) (by kernel_rfl) (fun _ _ _ _ _ h => h) ?_
        refine fw_o2 1 5 (by kernel_rfl) ?_ ?_
        · skip
          refine fw_ol rfl r686 rfl rfl ?_
          refine fw_o1 5 (by kernel_rfl) ?_
          refine fw_ox rfl 61 (.int .u8 fb682) rfl rfl rfl (fun a h => (run_loadOp (h.ev rfl) (ld8 hcA682.2))) ?_
          refine fw_tx 6 62 (.int .i64 fb682) rfl rfl rfl rfl (fun a h W hW => by have b684 := hW; exact (run_convOp (h.ev rfl) (cv8 _ (by omega) _))) (by kernel_rfl) (fun _ _ _ _ _ h => h) ?_
          refine fw_o1 7 (by kernel_rfl) ?_
          refine fw_oa rfl (t := 3) (u := fun q => .slice (some ⟨q, 0, none⟩) 1 1) 63 [.int .i64 fb682] rfl rfl rfl (fun a h => (run_buildInt1 (h.ev rfl))) ?_
          intro q689 W690 g693 s691 r692
          have := Nat.le_trans b684.size g693
          have := r685.lt g693
          have := rr682.lt g693
          have := r686.lt g693
          have b694 := b684.trans (s691.mono b684.size)
          have r695 := r685.below s691
          have r696 := rr682.below s691
          have r697 := r686.below s691
          have f698 := (below_own f687 s691)
          have f699 := (Nat.le_trans f688 s691.size)
          have f700 := (hcA682.below s691)
          refine ⟨b694, ?_⟩
          refine fw_o1 8 (by kernel_rfl) ?_
          refine fw_ot rfl 64 rfl rfl rfl (fun a h => olC_app (e := fb682) _ _ rfl (h.ev rfl) f698 (h.ev rfl) r692 (by omega) f699) ?_
          rintro _ V701 ⟨L702, a702, c702, rfl, hL702, hg702, ho702⟩
          have r703 := olC_row r695 hg702 (olC_off f698 (by omega))
          have r704 := olC_row r696 hg702 (olC_off f698 (by omega))
          have r705 := olC_row r697 hg702 (olC_off f698 (by omega))
          have b706 := olC_low b694 f698 hg702 hwB b694.size
          have f707 := Nat.le_trans f699 hg702.1.size
          refine ⟨b706, ?_⟩
          refine fw_tk 9 rfl rfl (by kernel_rfl) (fun _ _ _ _ _ h => h) ?_
          refine fw_o1 10 (by kernel_rfl) ?_
          refine fw_os rfl r705 rfl rfl ?_
          intro W708 s709 r710
          have b711 := below_chg b706 s709 (by omega) b706.size
          have r712 := r703.chg s709 (by omega)
          have r713 := r704.chg s709 (by omega)
          have f714 := (olC_chg ho702 s709 (olC_off ho702 (by omega)))
          have f715 := (Nat.le_trans f707 s709.size)
          refine ⟨b711, ?_⟩
          refine fw_hz (by kernel_rfl) ?_
          refine fw_bn (fw_bn (fw_th (fw_rg rfl (fw_pu rfl ?_))))
          refine fw_ex 35 (.int .i64 (((i + 1) : Nat) : Int)) rfl rfl rfl (fun a h => (run_binOp (h.ev rfl) (h.ev rfl) (by simp [go_sem]) (addIw _ _ _ _ (by omega) (by omega) (by omega)))) ?_
          refine fw_pu rfl (fw_dn ?_)
          have hne : li ≠ [] := dec_len hb_639
          have hi9 := of_decide_eq_true hb_638
          have hinv2 : (L702 ++ (rlC (8 - (i + 1)) l682 b682).1, (rlC (8 - (i + 1)) l682 b682).2) = rlC 8 l624 b624 := by rw [← hinv, show 8 - i = (8 - (i + 1)) + 1 by omega, rlC_ne _ _ hne, hL702, hfb682, hx682, hl682]; simp
          exact fw_th (fw_gf (hK637 _ _ _ (by omega) ⟨(i + 1), l682, a682, c682, b682, L702, a702, c702, rfl, (by omega), (by rw [hL702, List.length_append]; exact Nat.add_le_add_right hLi 1), hinv2, hs682, rfl, b711, r712, r713, r710, f714, f715⟩) ⟨rfl, rfl, rfl, (by first | rfl | (simp only [Look, cond, Nat.beq]; first | rfl | (congr 2; first | rfl | omega | (push_cast; omega)) | (simp; try omega))), trivial⟩)
        refine fw_ox rfl 61 (.int .u8 fb682) rfl rfl rfl (fun a h => (run_loadOp (h.ev rfl) (ld8 hcA682.2))) ?_
        refine fw_tx 6 62 (.int .i64 fb682) rfl rfl rfl rfl (fun a h W hW => by have b684 := hW; exact (run_convOp (h.ev rfl) (cv8 _ (by omega) _))) (by kernel_rfl) (fun _ _ _ _ _ h => h) ?_
        refine fw_o2 1 7 (by kernel_rfl) ?_ ?_
        · skip
          refine fw_ol rfl r686 rfl rfl ?_
          refine fw_o1 7 (by kernel_rfl) ?_
          refine fw_oa rfl (t := 3) (u := fun q => .slice (some ⟨q, 0, none⟩) 1 1) 63 [.int .i64 fb682] rfl rfl rfl (fun a h => (run_buildInt1 (h.ev rfl))) ?_
          intro q716 W717 g720 s718 r719
          have := Nat.le_trans b684.size g720
          have := r685.lt g720
          have := rr682.lt g720
          have := r686.lt g720
          have b721 := b684.trans (s718.mono b684.size)
          have r722 := r685.below s718
          have r723 := rr682.below s718
          have r724 := r686.below s718
          have f725 := (below_own f687 s718)
          have f726 := (Nat.le_trans f688 s718.size)
          have f727 := (hcA682.below s718)
          refine ⟨b721, ?_⟩
          refine fw_o1 8 (by kernel_rfl) ?_
          refine fw_ot rfl 64 rfl rfl rfl (fun a h => olC_app (e := fb682) _ _ rfl (h.ev rfl) f725 (h.ev rfl) r719 (by omega) f726) ?_
          rintro _ V728 ⟨L729, a729, c729, rfl, hL729, hg729, ho729⟩
          have r730 := olC_row r722 hg729 (olC_off f725 (by omega))
          have r731 := olC_row r723 hg729 (olC_off f725 (by omega))
          have r732 := olC_row r724 hg729 (olC_off f725 (by omega))
          have b733 := olC_low b721 f725 hg729 hwB b721.size
          have f734 := Nat.le_trans f726 hg729.1.size
          refine ⟨b733, ?_⟩
          refine fw_tk 9 rfl rfl (by kernel_rfl) (fun _ _ _ _ _ h => h) ?_
          refine fw_o1 10 (by kernel_rfl) ?_
          refine fw_os rfl r732 rfl rfl ?_
          intro W735 s736 r737
          have b738 := below_chg b733 s736 (by omega) b733.size
          have r739 := r730.chg s736 (by omega)
          have r740 := r731.chg s736 (by omega)
          have f741 := (olC_chg ho729 s736 (olC_off ho729 (by omega)))
          have f742 := (Nat.le_trans f734 s736.size)
          refine ⟨b738, ?_⟩
          refine fw_hz (by kernel_rfl) ?_
          refine fw_bn (fw_bn (fw_th (fw_rg rfl (fw_pu rfl ?_))))
          refine fw_ex 35 (.int .i64 (((i + 1) : Nat) : Int)) rfl rfl rfl (fun a h => (run_binOp (h.ev rfl) (h.ev rfl) (by simp [go_sem]) (addIw _ _ _ _ (by omega) (by omega) (by omega)))) ?_
          refine fw_pu rfl (fw_dn ?_)
          have hne : li ≠ [] := dec_len hb_639
          have hi9 := of_decide_eq_true hb_638
          have hinv2 : (L729 ++ (rlC (8 - (i + 1)) l682 b682).1, (rlC (8 - (i + 1)) l682 b682).2) = rlC 8 l624 b624 := by rw [← hinv, show 8 - i = (8 - (i + 1)) + 1 by omega, rlC_ne _ _ hne, hL729, hfb682, hx682, hl682]; simp
          exact fw_th (fw_gf (hK637 _ _ _ (by omega) ⟨(i + 1), l682, a682, c682, b682, L729, a729, c729, rfl, (by omega), (by rw [hL729, List.length_append]; exact Nat.add_le_add_right hLi 1), hinv2, hs682, rfl, b738, r739, r740, r737, f741, f742⟩) ⟨rfl, rfl, rfl, (by first | rfl | (simp only [Look, cond, Nat.beq]; first | rfl | (congr 2; first | rfl | omega | (push_cast; omega)) | (simp; try omega))), trivial⟩)
        refine fw_oa rfl (t := 3) (u := fun q => .slice (some ⟨q, 0, none⟩) 1 1) 63 [.int .i64 fb682] rfl rfl rfl (fun a h => (run_buildInt1 (h.ev rfl))) ?_
        intro q743 W744 g747 s745 r746
        have := Nat.le_trans b684.size g747
        have := r685.lt g747
        have := rr682.lt g747
        have := r686.lt g747
        have b748 := b684.trans (s745.mono b684.size)
        have r749 := r685.below s745
        have r750 := rr682.below s745
        have r751 := r686.below s745
        have f752 := (below_own f687 s745)
        have f753 := (Nat.le_trans f688 s745.size)
        have f754 := (hcA682.below s745)
        refine ⟨b748, ?_⟩
        refine fw_o1 1 (by kernel_rfl) ?_
        refine fw_ol rfl r751 rfl rfl ?_
        refine fw_o1 8 (by kernel_rfl) ?_
        refine fw_ot rfl 64 rfl rfl rfl (fun a h => olC_app (e := fb682) _ _ rfl (h.ev rfl) f752 (h.ev rfl) r746 (by omega) f753) ?_
        rintro _ V755 ⟨L756, a756, c756, rfl, hL756, hg756, ho756⟩
        have r757 := olC_row r749 hg756 (olC_off f752 (by omega))
        have r758 := olC_row r750 hg756 (olC_off f752 (by omega))
        have r759 := olC_row r751 hg756 (olC_off f752 (by omega))
        have b760 := olC_low b748 f752 hg756 hwB b748.size
        have f761 := Nat.le_trans f753 hg756.1.size
        refine ⟨b760, ?_⟩
        refine fw_tk 9 rfl rfl (by kernel_rfl) (fun _ _ _ _ _ h => h) ?_
        refine fw_o1 10 (by kernel_rfl) ?_
        refine fw_os rfl r759 rfl rfl ?_
        intro W762 s763 r764
        have b765 := below_chg b760 s763 (by omega) b760.size
        have r766 := r757.chg s763 (by omega)
        have r767 := r758.chg s763 (by omega)
        have f768 := (olC_chg ho756 s763 (olC_off ho756 (by omega)))
        have f769 := (Nat.le_trans f761 s763.size)
        refine ⟨b765, ?_⟩
        refine fw_hz (by kernel_rfl) ?_
        refine fw_bn (fw_bn (fw_th (fw_rg rfl (fw_pu rfl ?_))))
        refine fw_ex 35 (.int .i64 (((i + 1) : Nat) : Int)) rfl rfl rfl (fun a h => (run_binOp (h.ev rfl) (h.ev rfl) (by simp [go_sem]) (addIw _ _ _ _ (by omega) (by omega) (by omega)))) ?_
        refine fw_pu rfl (fw_dn ?_)
        have hne : li ≠ [] := dec_len hb_639
        have hi9 := of_decide_eq_true hb_638
        have hinv2 : (L756 ++ (rlC (8 - (i + 1)) l682 b682).1, (rlC (8 - (i + 1)) l682 b682).2) = rlC 8 l624 b624 := by rw [← hinv, show 8 - i = (8 - (i + 1)) + 1 by omega, rlC_ne _ _ hne, hL756, hfb682, hx682, hl682]; simp
        exact fw_th (fw_gf (hK637 _ _ _ (by omega) ⟨(i + 1), l682, a682, c682, b682, L756, a756, c756, rfl, (by omega), (by rw [hL756, List.length_append]; exact Nat.add_le_add_right hLi 1), hinv2, hs682, rfl, b765, r766, r767, r764, f768, f769⟩) ⟨rfl, rfl, rfl, (by first | rfl | (simp only [Look, cond, Nat.beq]; first | rfl | (congr 2; first | rfl | omega | (push_cast; omega)) | (simp; try omega))), trivial⟩)
      refine fw_cF rfl hb_639 (fw_xt (fw_te (fw_te (fw_be (fw_bn (fw_th (fw_sq ?_)))))))
      refine fw_hr (fun X => Below w.heap.size w X ∧ RowAt X q7 [.slice ai li.length ci, .bool bi] ∧ RowAt X q14 [.int .i64 (f / 16), .string { data := #[] }, .bool false, .int .i64 0, .bool false, .string { data := #[] }, .string { data := #[] }, .int .i64 0, .bool false, .string { data := #[] }, .bool false, .string { data := #[] }, .bool false, .bool false, .int .i64 0, .slice aL L.length cL, .bool false, .int .i64 0, .bool false, .string { data := #[] }, .int .i64 (ofv (tkP 2 l)), .string { data := #[] }, .slice none 0 0, .slice none 0 0]) (by kernel_rfl) 8 rfl ?_
      intro W770 s771
      have b772 := bW635.trans (s771.mono bW635.size)
      have r773 := rW635_0.below s771
      have r774 := rW635_1.below s771
      have r775 := rW635_2.below s771
      have f776 := (below_own gW635_0 s771)
      have f777 := (Nat.le_trans gW635_1 s771.size)
      refine ⟨⟨b772, r774, r775⟩, ?_⟩
      refine fw_tl 0 (fun _ h => h.2.2) rfl rfl rfl (by kernel_rfl) (fun _ _ _ _ _ h => h) ?_
      refine fw_tk 1 rfl rfl (by kernel_rfl) (fun _ _ _ _ _ h => h) ?_
      refine fw_tk 2 rfl rfl (by kernel_rfl) (fun _ _ _ _ _ h => h) ?_
      refine fw_tk 3 rfl rfl (by kernel_rfl) (fun _ _ _ _ _ h => h) ?_
      refine fw_tl 4 (fun _ h => h.2.1) rfl rfl rfl (by kernel_rfl) (fun _ _ _ _ _ h => h) ?_
      refine fw_tk 5 rfl rfl (by kernel_rfl) (fun _ _ _ _ _ h => h) ?_
      refine fw_o1 6 (by kernel_rfl) ?_
      refine fw_os rfl r773 rfl rfl ?_
      intro W778 s779 r780
      have b781 := below_chg b772 s779 (by omega) b772.size
      have r782 := r774.chg s779 (by omega)
      have r783 := r775.chg s779 (by omega)
      have f784 := (olC_chg f776 s779 (olC_off f776 (by omega)))
      have f785 := (Nat.le_trans f777 s779.size)
      refine ⟨⟨b781, r782, r783⟩, ?_⟩
      refine fw_tk 7 rfl rfl (by kernel_rfl) (fun _ _ _ _ _ h => h) ?_
      refine fw_ht (by kernel_rfl) ?_
      refine fw_rt ?_
      refine ⟨fun a h => ?_⟩
      have hfin : rlC 8 l624 b624 = (L, bi) := by rw [← hinv, dec_len0 hb_639, rlC_nil, List.append_nil]
      have e : rcG f l = (({ k := (f / 16), cl := { data := #[] }, clean := false, keep := 0, wI := false, wT := { data := #[] }, wP := { data := #[] }, wQ := 0, wR := false, us := { data := #[] }, hu := false, pa := { data := #[] }, hp := false, pres := false, code := 0, cs := L, dup := false, q := 0, re := false, top := { data := #[] }, id := (ofv (tkP 2 l)), pay := { data := #[] }, ws := [], fs := [] } : Mq), bi) := by simp only [rcG, hb_28, hb_276, hb_320, hb_398, hb_411, hb_424, hb_437, hb_623, ← hl624, ← hx624, hfin, Bool.or_self, if_true, if_false, Bool.false_eq_true, zM]; try rw [beq_iff_eq.1 hb_623]
      exact ow_retCellT rfl h.df (h.g 4 rfl) (ldMq r780) (h.g 5 rfl) ⟨aL, cL, none, 0, none, 0, by rw [e]; first | done | rfl, by rw [e]; exact (⟨own_mono f784 hwB, olW_nil _ _, olF_nil _ _⟩ : OL3 W778 w.heap.size aL cL none 0 none 0 ({ k := (f / 16), cl := { data := #[] }, clean := false, keep := 0, wI := false, wT := { data := #[] }, wP := { data := #[] }, wQ := 0, wR := false, us := { data := #[] }, hu := false, pa := { data := #[] }, hp := false, pres := false, code := 0, cs := L, dup := false, q := 0, re := false, top := { data := #[] }, id := (ofv (tkP 2 l)), pay := { data := #[] }, ws := [], fs := [] } : Mq)), b781⟩
    refine fw_kn 26 rfl hb_638 ?_
    iterate 7 refine fw_pu rfl ?_
    refine fw_dt (fw_cF rfl rfl (fw_xt (fw_te (fw_te (fw_be (fw_bn (fw_th (fw_sq ?_))))))))
    refine fw_hr (fun X => Below w.heap.size w X ∧ RowAt X q7 [.slice ai li.length ci, .bool bi] ∧ RowAt X q14 [.int .i64 (f / 16), .string { data := #[] }, .bool false, .int .i64 0, .bool false, .string { data := #[] }, .string { data := #[] }, .int .i64 0, .bool false, .string { data := #[] }, .bool false, .string { data := #[] }, .bool false, .bool false, .int .i64 0, .slice aL L.length cL, .bool false, .int .i64 0, .bool false, .string { data := #[] }, .int .i64 (ofv (tkP 2 l)), .string { data := #[] }, .slice none 0 0, .slice none 0 0]) (by kernel_rfl) 8 rfl ?_
    intro W786 s787
    have b788 := bW635.trans (s787.mono bW635.size)
    have r789 := rW635_0.below s787
    have r790 := rW635_1.below s787
    have r791 := rW635_2.below s787
    have f792 := (below_own gW635_0 s787)
    have f793 := (Nat.le_trans gW635_1 s787.size)
    refine ⟨⟨b788, r790, r791⟩, ?_⟩
    refine fw_tl 0 (fun _ h => h.2.2) rfl rfl rfl (by kernel_rfl) (fun _ _ _ _ _ h => h) ?_
    refine fw_tk 1 rfl rfl (by kernel_rfl) (fun _ _ _ _ _ h => h) ?_
    refine fw_tk 2 rfl rfl (by kernel_rfl) (fun _ _ _ _ _ h => h) ?_
    refine fw_tk 3 rfl rfl (by kernel_rfl) (fun _ _ _ _ _ h => h) ?_
    refine fw_tl 4 (fun _ h => h.2.1) rfl rfl rfl (by kernel_rfl) (fun _ _ _ _ _ h => h) ?_
    refine fw_tk 5 rfl rfl (by kernel_rfl) (fun _ _ _ _ _ h => h) ?_
    refine fw_o1 6 (by kernel_rfl) ?_
    refine fw_os rfl r789 rfl rfl ?_
    intro W794 s795 r796
    have b797 := below_chg b788 s795 (by omega) b788.size
    have r798 := r790.chg s795 (by omega)
    have r799 := r791.chg s795 (by omega)
    have f800 := (olC_chg f792 s795 (olC_off f792 (by omega)))
    have f801 := (Nat.le_trans f793 s795.size)
    refine ⟨⟨b797, r798, r799⟩, ?_⟩
    refine fw_tk 7 rfl rfl (by kernel_rfl) (fun _ _ _ _ _ h => h) ?_
    refine fw_ht (by kernel_rfl) ?_
    refine fw_rt ?_
    refine ⟨fun a h => ?_⟩
    have hfin : rlC 8 l624 b624 = (L, bi) := by rw [← hinv, show 8 - i = 0 by have h := of_decide_eq_false hb_638; omega]; show (L ++ [], bi) = _; rw [List.append_nil]
    have e : rcG f l = (({ k := (f / 16), cl := { data := #[] }, clean := false, keep := 0, wI := false, wT := { data := #[] }, wP := { data := #[] }, wQ := 0, wR := false, us := { data := #[] }, hu := false, pa := { data := #[] }, hp := false, pres := false, code := 0, cs := L, dup := false, q := 0, re := false, top := { data := #[] }, id := (ofv (tkP 2 l)), pay := { data := #[] }, ws := [], fs := [] } : Mq), bi) := by simp only [rcG, hb_28, hb_276, hb_320, hb_398, hb_411, hb_424, hb_437, hb_623, ← hl624, ← hx624, hfin, Bool.or_self, if_true, if_false, Bool.false_eq_true, zM]; try rw [beq_iff_eq.1 hb_623]
    exact ow_retCellT rfl h.df (h.g 4 rfl) (ldMq r796) (h.g 5 rfl) ⟨aL, cL, none, 0, none, 0, by rw [e]; first | done | rfl, by rw [e]; exact (⟨own_mono f800 hwB, olW_nil _ _, olF_nil _ _⟩ : OL3 W794 w.heap.size aL cL none 0 none 0 ({ k := (f / 16), cl := { data := #[] }, clean := false, keep := 0, wI := false, wT := { data := #[] }, wP := { data := #[] }, wQ := 0, wR := false, us := { data := #[] }, hu := false, pa := { data := #[] }, hp := false, pres := false, code := 0, cs := L, dup := false, q := 0, re := false, top := { data := #[] }, id := (ofv (tkP 2 l)), pay := { data := #[] }, ws := [], fs := [] } : Mq)), b797⟩
  rcases Bool.eq_false_or_eq_true (((f / 16) == 10)) with hb_802 | hb_802
  · skip
    refine fw_rg rfl (fw_pu rfl ?_)
    refine fw_ca Tryd.func72 rfl rfl rfl ((rkNum b25 (by omega) r27 hs)) ?_
    rintro _ V804 ⟨l803, a803, c803, b803, rfl, hl803, hx803, sn803, rr803, hs803⟩
    refine ⟨(.int .i64 (ofv (tkP 2 l))), rfl, ?_⟩
    have b805 := below_chg b25 sn803 (by omega) b25.size
    have r806 := r26.chg sn803 (by omega)
    have r807 := r24.chg sn803 (by omega)
    refine fw_pu rfl (fw_st r807 rfl rfl ?_)
    intro W808 s809 r810
    have b811 := below_chg b805 s809 (by omega) b805.size
    have r812 := r806.chg s809 (by omega)
    have r813 := rr803.chg s809 (by omega)
    refine fw_dt (fw_sq ?_)
    obtain ⟨B, hB⟩ : ∃ x, x = W808.heap.size := ⟨_, rfl⟩
    have hlt_q1 : q1 < B := by rw [hB]; exact r812.2.2
    have hlt_q7 : q7 < B := by rw [hB]; exact r813.2.2
    have hlt_q14 : q14 < B := by rw [hB]; exact r810.2.2
    have hwB : w.heap.size ≤ B := by rw [hB]; exact b811.size
    have hBs : B ≤ W808.heap.size := Nat.le_of_eq hB
    have ho := olF_nil W808 B
    refine fw_rg rfl (fw_pu rfl (fw_dt (fw_bk ?_)))
    refine fw_lp (fun N K W => ∃ (i : Nat) (li : List UInt8) (ai : Option Addr) (ci : Nat) (bi : Bool) (L : List ByteArray) (aL : Option Addr) (cL : Nat), N = 9 - i ∧ i ≤ 8 ∧ L.length ≤ i ∧ (L ++ (rlF (8 - i) li bi).1, (rlF (8 - i) li bi).2) = rlF 8 l803 b803 ∧ SlN w (.slice ai li.length ci) li ∧ K = [(4, .pointer (some ⟨q1, 0, none⟩)), (6, .pointer (some ⟨q7, 0, none⟩)), (7, .pointer (some ⟨q14, 0, none⟩)), (10, .int .i64 ((i : Nat) : Int))] ∧ Below w.heap.size w W ∧ RowAt W q1 [.int .i64 0, .string { data := #[] }, .bool false, .int .i64 0, .bool false, .string { data := #[] }, .string { data := #[] }, .int .i64 0, .bool false, .string { data := #[] }, .bool false, .string { data := #[] }, .bool false, .bool false, .int .i64 0, .slice none 0 0, .bool false, .int .i64 0, .bool false, .string { data := #[] }, .int .i64 0, .string { data := #[] }, .slice none 0 0, .slice none 0 0] ∧ RowAt W q7 [.slice ai li.length ci, .bool bi] ∧ RowAt W q14 [.int .i64 (f / 16), .string { data := #[] }, .bool false, .int .i64 0, .bool false, .string { data := #[] }, .string { data := #[] }, .int .i64 0, .bool false, .string { data := #[] }, .bool false, .string { data := #[] }, .bool false, .bool false, .int .i64 0, .slice none 0 0, .bool false, .int .i64 0, .bool false, .string { data := #[] }, .int .i64 (ofv (tkP 2 l)), .string { data := #[] }, .slice none 0 0, .slice aL L.length cL] ∧ OLF W B aL cL L ∧ B ≤ W.heap.size) _ _ ⟨0, l803, a803, c803, b803, [], none, 0, rfl, (by omega), Nat.le_refl _, rfl, hs803, rfl, b811, r812, r813, r810, ho, hBs⟩ ⟨rfl, rfl, rfl, (by first | rfl | (simp only [Look, cond, Nat.beq]; first | rfl | (congr 2; first | rfl | omega | (push_cast; omega)) | (simp; try omega))), trivial⟩ ?_
    rintro N _ W814 ⟨i, li, ai, ci, bi, L, aL, cL, rfl, hi8, hLi, hinv, hsi, rfl, bW814, rW814_0, rW814_1, rW814_2, gW814_0, gW814_1⟩
    intro K816 hK816
    refine fw_sq (fw_sq (fw_rg rfl ?_))
    iterate 3 refine fw_pu rfl ?_
    rcases Bool.eq_false_or_eq_true ((decide (((i : Nat) : Int) < 8))) with hb_817 | hb_817
    · skip
      refine fw_kn 26 rfl hb_817 ?_
      iterate 3 refine fw_pu rfl ?_
      refine fw_ld rW814_1 rfl rfl ?_
      iterate 3 refine fw_pu rfl ?_
      refine fw_dt ?_
      rcases Bool.eq_false_or_eq_true ((decide (0 < ((li.length : Nat) : Int)))) with hb_818 | hb_818
      · skip
        refine fw_cT rfl hb_818 (fw_sk (fw_th (fw_sq (fw_bk (fw_sq (fw_rg rfl (fw_pu rfl (fw_ld rW814_2 rfl rfl (fw_dt (fw_bk (fw_sq (fw_rg rfl ?_))))))))))))
        iterate 2 refine fw_pu rfl ?_
        refine fw_dt (fw_cF rfl hb_437 (fw_sq (fw_rg rfl ?_)))
        iterate 2 refine fw_pu rfl ?_
        refine fw_dt (fw_cF rfl hb_623 (fw_sq (fw_rg rfl ?_)))
        iterate 2 refine fw_pu rfl ?_
        refine fw_dt (fw_cT rfl hb_802 ?_)
        refine fw_hr (fun X => Below w.heap.size w X) (by kernel_rfl) 8 rfl ?_
        intro W819 s820
        have b821 := bW814.trans (s820.mono bW814.size)
        have r822 := rW814_0.below s820
        have r823 := rW814_1.below s820
        have r824 := rW814_2.below s820
        have f825 := (below_own gW814_0 s820)
        have f826 := (Nat.le_trans gW814_1 s820.size)
        refine ⟨b821, ?_⟩
        refine fw_tk 0 rfl rfl (by kernel_rfl) (fun _ _ _ _ _ h => h) ?_
        refine fw_tk 2 rfl rfl (by kernel_rfl) (fun _ _ _ _ _ h => h) ?_
        refine fw_o2 1 3 (by kernel_rfl) ?_ ?_
        · skip
          refine fw_ol rfl r824 rfl rfl ?_
          refine fw_o1 3 (by kernel_rfl) ?_
          refine fw_oc rfl Tryd.func73 rfl rfl rfl ((rkTxt b821 (by omega) r823 hsi)) ?_
          rintro _ V828 ⟨l827, a827, c827, b827, rfl, hl827, hx827, sn827, rr827, hs827⟩
          refine ⟨_, rfl, ?_⟩
          have b829 := below_chg b821 sn827 (by omega) b821.size
          have r830 := r822.chg sn827 (by omega)
          have r831 := r824.chg sn827 (by omega)
          have f832 := (olF_chg f825 sn827 (olF_off f825 (by omega)))
          have f833 := (Nat.le_trans f826 sn827.size)
          refine ⟨b829, ?_⟩
          refine fw_o1 4 (by kernel_rfl) ?_
          refine fw_oa rfl (t := 9) (u := fun q => .slice (some ⟨q, 0, none⟩) 1 1) 72 [.string (rS li)] rfl rfl rfl (fun a h => (run_buildStr1 (h.ev rfl))) ?_
          intro q834 W835 g838 s836 r837
          have := Nat.le_trans b829.size g838
          have := r830.lt g838
          have := rr827.lt g838
          have := r831.lt g838
          have b839 := b829.trans (s836.mono b829.size)
          have r840 := r830.below s836
          have r841 := rr827.below s836
          have r842 := r831.below s836
          have f843 := (below_own f832 s836)
          have f844 := (Nat.le_trans f833 s836.size)
          refine ⟨b839, ?_⟩
          refine fw_o1 5 (by kernel_rfl) ?_
          refine fw_ot rfl 73 rfl rfl rfl (fun a h => olF_app (e := (rS li)) _ _ rfl (h.ev rfl) f843 (h.ev rfl) r837 (by omega) f844) ?_
          rintro _ V845 ⟨L846, a846, c846, rfl, hL846, hg846, ho846⟩
          have r847 := olF_row r840 hg846 (olF_off f843 (by omega))
          have r848 := olF_row r841 hg846 (olF_off f843 (by omega))
          have r849 := olF_row r842 hg846 (olF_off f843 (by omega))
          have b850 := olF_low b839 f843 hg846 hwB b839.size
          have f851 := Nat.le_trans f844 hg846.1.size
          refine ⟨b850, ?_⟩
          refine fw_tk 6 rfl rfl (by kernel_rfl) (fun _ _ _ _ _ h => h) ?_
          refine fw_o1 7 (by kernel_rfl) ?_
          refine fw_os rfl r849 rfl rfl ?_
          intro W852 s853 r854
          have b855 := below_chg b850 s853 (by omega) b850.size
          have r856 := r847.chg s853 (by omega)
          have r857 := r848.chg s853 (by omega)
          have f858 := (olF_chg ho846 s853 (olF_off ho846 (by omega)))
          have f859 := (Nat.le_trans f851 s853.size)
          refine ⟨b855, ?_⟩
          refine fw_hz (by kernel_rfl) ?_
          refine fw_bn (fw_bn (fw_th (fw_rg rfl (fw_pu rfl ?_))))
          refine fw_ex 35 (.int .i64 (((i + 1) : Nat) : Int)) rfl rfl rfl (fun a h => (run_binOp (h.ev rfl) (h.ev rfl) (by simp [go_sem]) (addIw _ _ _ _ (by omega) (by omega) (by omega)))) ?_
          refine fw_pu rfl (fw_dn ?_)
          have hne : li ≠ [] := dec_len hb_818
          have hi9 := of_decide_eq_true hb_817
          have hinv2 : (L846 ++ (rlF (8 - (i + 1)) l827 b827).1, (rlF (8 - (i + 1)) l827 b827).2) = rlF 8 l803 b803 := by rw [← hinv, show 8 - i = (8 - (i + 1)) + 1 by omega, rlF_ne _ _ hne, hL846, hx827, hl827]; simp
          exact fw_th (fw_gf (hK816 _ _ _ (by omega) ⟨(i + 1), l827, a827, c827, b827, L846, a846, c846, rfl, (by omega), (by rw [hL846, List.length_append]; exact Nat.add_le_add_right hLi 1), hinv2, hs827, rfl, b855, r856, r857, r854, f858, f859⟩) ⟨rfl, rfl, rfl, (by first | rfl | (simp only [Look, cond, Nat.beq]; first | rfl | (congr 2; first | rfl | omega | (push_cast; omega)) | (simp; try omega))), trivial⟩)
        refine fw_oc rfl Tryd.func73 rfl rfl rfl ((rkTxt b821 (by omega) r823 hsi)) ?_
        rintro _ V861 ⟨l860, a860, c860, b860, rfl, hl860, hx860, sn860, rr860, hs860⟩
        refine ⟨_, rfl, ?_⟩
        have b862 := below_chg b821 sn860 (by omega) b821.size
        have r863 := r822.chg sn860 (by omega)
        have r864 := r824.chg sn860 (by omega)
        have f865 := (olF_chg f825 sn860 (olF_off f825 (by omega)))
        have f866 := (Nat.le_trans f826 sn860.size)
        refine ⟨b862, ?_⟩
        refine fw_o2 1 4 (by kernel_rfl) ?_ ?_
        · skip
          refine fw_ol rfl r864 rfl rfl ?_
          refine fw_o1 4 (by kernel_rfl) ?_
          refine fw_oa rfl (t := 9) (u := fun q => .slice (some ⟨q, 0, none⟩) 1 1) 72 [.string (rS li)] rfl rfl rfl (fun a h => (run_buildStr1 (h.ev rfl))) ?_
          intro q867 W868 g871 s869 r870
          have := Nat.le_trans b862.size g871
          have := r863.lt g871
          have := rr860.lt g871
          have := r864.lt g871
          have b872 := b862.trans (s869.mono b862.size)
          have r873 := r863.below s869
          have r874 := rr860.below s869
          have r875 := r864.below s869
          have f876 := (below_own f865 s869)
          have f877 := (Nat.le_trans f866 s869.size)
          refine ⟨b872, ?_⟩
          refine fw_o1 5 (by kernel_rfl) ?_
          refine fw_ot rfl 73 rfl rfl rfl (fun a h => olF_app (e := (rS li)) _ _ rfl (h.ev rfl) f876 (h.ev rfl) r870 (by omega) f877) ?_
          rintro _ V878 ⟨L879, a879, c879, rfl, hL879, hg879, ho879⟩
          have r880 := olF_row r873 hg879 (olF_off f876 (by omega))
          have r881 := olF_row r874 hg879 (olF_off f876 (by omega))
          have r882 := olF_row r875 hg879 (olF_off f876 (by omega))
          have b883 := olF_low b872 f876 hg879 hwB b872.size
          have f884 := Nat.le_trans f877 hg879.1.size
          refine ⟨b883, ?_⟩
          refine fw_tk 6 rfl rfl (by kernel_rfl) (fun _ _ _ _ _ h => h) ?_
          refine fw_o1 7 (by kernel_rfl) ?_
          refine fw_os rfl r882 rfl rfl ?_
          intro W885 s886 r887
          have b888 := below_chg b883 s886 (by omega) b883.size
          have r889 := r880.chg s886 (by omega)
          have r890 := r881.chg s886 (by omega)
          have f891 := (olF_chg ho879 s886 (olF_off ho879 (by omega)))
          have f892 := (Nat.le_trans f884 s886.size)
          refine ⟨b888, ?_⟩
          refine fw_hz (by kernel_rfl) ?_
          refine fw_bn (fw_bn (fw_th (fw_rg rfl (fw_pu rfl ?_))))
          refine fw_ex 35 (.int .i64 (((i + 1) : Nat) : Int)) rfl rfl rfl (fun a h => (run_binOp (h.ev rfl) (h.ev rfl) (by simp [go_sem]) (addIw _ _ _ _ (by omega) (by omega) (by omega)))) ?_
          refine fw_pu rfl (fw_dn ?_)
          have hne : li ≠ [] := dec_len hb_818
          have hi9 := of_decide_eq_true hb_817
          have hinv2 : (L879 ++ (rlF (8 - (i + 1)) l860 b860).1, (rlF (8 - (i + 1)) l860 b860).2) = rlF 8 l803 b803 := by rw [← hinv, show 8 - i = (8 - (i + 1)) + 1 by omega, rlF_ne _ _ hne, hL879, hx860, hl860]; simp
          exact fw_th (fw_gf (hK816 _ _ _ (by omega) ⟨(i + 1), l860, a860, c860, b860, L879, a879, c879, rfl, (by omega), (by rw [hL879, List.length_append]; exact Nat.add_le_add_right hLi 1), hinv2, hs860, rfl, b888, r889, r890, r887, f891, f892⟩) ⟨rfl, rfl, rfl, (by first | rfl | (simp only [Look, cond, Nat.beq]; first | rfl | (congr 2; first | rfl | omega | (push_cast; omega)) | (simp; try omega))), trivial⟩)
        refine fw_oa rfl (t := 9) (u := fun q => .slice (some ⟨q, 0, none⟩) 1 1) 72 [.string (rS li)] rfl rfl rfl (fun a h => (run_buildStr1 (h.ev rfl))) ?_
        intro q893 W894 g897 s895 r896
        have := Nat.le_trans b862.size g897
        have := r863.lt g897
        have := rr860.lt g897
        have := r864.lt g897
        have b898 := b862.trans (s895.mono b862.size)
        have r899 := r863.below s895
        have r900 := rr860.below s895
        have r901 := r864.below s895
        have f902 := (below_own f865 s895)
        have f903 := (Nat.le_trans f866 s895.size)
        refine ⟨b898, ?_⟩
        refine fw_o1 1 (by kernel_rfl) ?_
        refine fw_ol rfl r901 rfl rfl ?_
        refine fw_o1 5 (by kernel_rfl) ?_
        refine fw_ot rfl 73 rfl rfl rfl (fun a h => olF_app (e := (rS li)) _ _ rfl (h.ev rfl) f902 (h.ev rfl) r896 (by omega) f903) ?_
        rintro _ V904 ⟨L905, a905, c905, rfl, hL905, hg905, ho905⟩
        have r906 := olF_row r899 hg905 (olF_off f902 (by omega))
        have r907 := olF_row r900 hg905 (olF_off f902 (by omega))
        have r908 := olF_row r901 hg905 (olF_off f902 (by omega))
        have b909 := olF_low b898 f902 hg905 hwB b898.size
        have f910 := Nat.le_trans f903 hg905.1.size
        refine ⟨b909, ?_⟩
        refine fw_tk 6 rfl rfl (by kernel_rfl) (fun _ _ _ _ _ h => h) ?_
        refine fw_o1 7 (by kernel_rfl) ?_
        refine fw_os rfl r908 rfl rfl ?_
        intro W911 s912 r913
        have b914 := below_chg b909 s912 (by omega) b909.size
        have r915 := r906.chg s912 (by omega)
        have r916 := r907.chg s912 (by omega)
        have f917 := (olF_chg ho905 s912 (olF_off ho905 (by omega)))
        have f918 := (Nat.le_trans f910 s912.size)
        refine ⟨b914, ?_⟩
        refine fw_hz (by kernel_rfl) ?_
        refine fw_bn (fw_bn (fw_th (fw_rg rfl (fw_pu rfl ?_))))
        refine fw_ex 35 (.int .i64 (((i + 1) : Nat) : Int)) rfl rfl rfl (fun a h => (run_binOp (h.ev rfl) (h.ev rfl) (by simp [go_sem]) (addIw _ _ _ _ (by omega) (by omega) (by omega)))) ?_
        refine fw_pu rfl (fw_dn ?_)
        have hne : li ≠ [] := dec_len hb_818
        have hi9 := of_decide_eq_true hb_817
        have hinv2 : (L905 ++ (rlF (8 - (i + 1)) l860 b860).1, (rlF (8 - (i + 1)) l860 b860).2) = rlF 8 l803 b803 := by rw [← hinv, show 8 - i = (8 - (i + 1)) + 1 by omega, rlF_ne _ _ hne, hL905, hx860, hl860]; simp
        exact fw_th (fw_gf (hK816 _ _ _ (by omega) ⟨(i + 1), l860, a860, c860, b860, L905, a905, c905, rfl, (by omega), (by rw [hL905, List.length_append]; exact Nat.add_le_add_right hLi 1), hinv2, hs860, rfl, b914, r915, r916, r913, f917, f918⟩) ⟨rfl, rfl, rfl, (by first | rfl | (simp only [Look, cond, Nat.beq]; first | rfl | (congr 2; first | rfl | omega | (push_cast; omega)) | (simp; try omega))), trivial⟩)
      refine fw_cF rfl hb_818 (fw_xt (fw_te (fw_te (fw_be (fw_bn (fw_th (fw_sq ?_)))))))
      refine fw_hr (fun X => Below w.heap.size w X ∧ RowAt X q7 [.slice ai li.length ci, .bool bi] ∧ RowAt X q14 [.int .i64 (f / 16), .string { data := #[] }, .bool false, .int .i64 0, .bool false, .string { data := #[] }, .string { data := #[] }, .int .i64 0, .bool false, .string { data := #[] }, .bool false, .string { data := #[] }, .bool false, .bool false, .int .i64 0, .slice none 0 0, .bool false, .int .i64 0, .bool false, .string { data := #[] }, .int .i64 (ofv (tkP 2 l)), .string { data := #[] }, .slice none 0 0, .slice aL L.length cL]) (by kernel_rfl) 8 rfl ?_
      intro W919 s920
      have b921 := bW814.trans (s920.mono bW814.size)
      have r922 := rW814_0.below s920
      have r923 := rW814_1.below s920
      have r924 := rW814_2.below s920
      have f925 := (below_own gW814_0 s920)
      have f926 := (Nat.le_trans gW814_1 s920.size)
      refine ⟨⟨b921, r923, r924⟩, ?_⟩
      refine fw_tl 0 (fun _ h => h.2.2) rfl rfl rfl (by kernel_rfl) (fun _ _ _ _ _ h => h) ?_
      refine fw_tk 1 rfl rfl (by kernel_rfl) (fun _ _ _ _ _ h => h) ?_
      refine fw_tk 2 rfl rfl (by kernel_rfl) (fun _ _ _ _ _ h => h) ?_
      refine fw_tk 3 rfl rfl (by kernel_rfl) (fun _ _ _ _ _ h => h) ?_
      refine fw_tl 4 (fun _ h => h.2.1) rfl rfl rfl (by kernel_rfl) (fun _ _ _ _ _ h => h) ?_
      refine fw_tk 5 rfl rfl (by kernel_rfl) (fun _ _ _ _ _ h => h) ?_
      refine fw_o1 6 (by kernel_rfl) ?_
      refine fw_os rfl r922 rfl rfl ?_
      intro W927 s928 r929
      have b930 := below_chg b921 s928 (by omega) b921.size
      have r931 := r923.chg s928 (by omega)
      have r932 := r924.chg s928 (by omega)
      have f933 := (olF_chg f925 s928 (olF_off f925 (by omega)))
      have f934 := (Nat.le_trans f926 s928.size)
      refine ⟨⟨b930, r931, r932⟩, ?_⟩
      refine fw_tk 7 rfl rfl (by kernel_rfl) (fun _ _ _ _ _ h => h) ?_
      refine fw_ht (by kernel_rfl) ?_
      refine fw_rt ?_
      refine ⟨fun a h => ?_⟩
      have hfin : rlF 8 l803 b803 = (L, bi) := by rw [← hinv, dec_len0 hb_818, rlF_nil, List.append_nil]
      have e : rcG f l = (({ k := (f / 16), cl := { data := #[] }, clean := false, keep := 0, wI := false, wT := { data := #[] }, wP := { data := #[] }, wQ := 0, wR := false, us := { data := #[] }, hu := false, pa := { data := #[] }, hp := false, pres := false, code := 0, cs := [], dup := false, q := 0, re := false, top := { data := #[] }, id := (ofv (tkP 2 l)), pay := { data := #[] }, ws := [], fs := L } : Mq), bi) := by simp only [rcG, hb_28, hb_276, hb_320, hb_398, hb_411, hb_424, hb_437, hb_623, hb_802, ← hl803, ← hx803, hfin, Bool.or_self, if_true, if_false, Bool.false_eq_true, zM]; try rw [beq_iff_eq.1 hb_802]
      exact ow_retCellT rfl h.df (h.g 4 rfl) (ldMq r929) (h.g 5 rfl) ⟨none, 0, none, 0, aL, cL, by rw [e]; first | done | rfl, by rw [e]; exact (⟨olC_nil _ _, olW_nil _ _, own_mono f933 hwB⟩ : OL3 W927 w.heap.size none 0 none 0 aL cL ({ k := (f / 16), cl := { data := #[] }, clean := false, keep := 0, wI := false, wT := { data := #[] }, wP := { data := #[] }, wQ := 0, wR := false, us := { data := #[] }, hu := false, pa := { data := #[] }, hp := false, pres := false, code := 0, cs := [], dup := false, q := 0, re := false, top := { data := #[] }, id := (ofv (tkP 2 l)), pay := { data := #[] }, ws := [], fs := L } : Mq)), b930⟩
    refine fw_kn 26 rfl hb_817 ?_
    iterate 7 refine fw_pu rfl ?_
    refine fw_dt (fw_cF rfl rfl (fw_xt (fw_te (fw_te (fw_be (fw_bn (fw_th (fw_sq ?_))))))))
    refine fw_hr (fun X => Below w.heap.size w X ∧ RowAt X q7 [.slice ai li.length ci, .bool bi] ∧ RowAt X q14 [.int .i64 (f / 16), .string { data := #[] }, .bool false, .int .i64 0, .bool false, .string { data := #[] }, .string { data := #[] }, .int .i64 0, .bool false, .string { data := #[] }, .bool false, .string { data := #[] }, .bool false, .bool false, .int .i64 0, .slice none 0 0, .bool false, .int .i64 0, .bool false, .string { data := #[] }, .int .i64 (ofv (tkP 2 l)), .string { data := #[] }, .slice none 0 0, .slice aL L.length cL]) (by kernel_rfl) 8 rfl ?_
    intro W935 s936
    have b937 := bW814.trans (s936.mono bW814.size)
    have r938 := rW814_0.below s936
    have r939 := rW814_1.below s936
    have r940 := rW814_2.below s936
    have f941 := (below_own gW814_0 s936)
    have f942 := (Nat.le_trans gW814_1 s936.size)
    refine ⟨⟨b937, r939, r940⟩, ?_⟩
    refine fw_tl 0 (fun _ h => h.2.2) rfl rfl rfl (by kernel_rfl) (fun _ _ _ _ _ h => h) ?_
    refine fw_tk 1 rfl rfl (by kernel_rfl) (fun _ _ _ _ _ h => h) ?_
    refine fw_tk 2 rfl rfl (by kernel_rfl) (fun _ _ _ _ _ h => h) ?_
    refine fw_tk 3 rfl rfl (by kernel_rfl) (fun _ _ _ _ _ h => h) ?_
    refine fw_tl 4 (fun _ h => h.2.1) rfl rfl rfl (by kernel_rfl) (fun _ _ _ _ _ h => h) ?_
    refine fw_tk 5 rfl rfl (by kernel_rfl) (fun _ _ _ _ _ h => h) ?_
    refine fw_o1 6 (by kernel_rfl) ?_
    refine fw_os rfl r938 rfl rfl ?_
    intro W943 s944 r945
    have b946 := below_chg b937 s944 (by omega) b937.size
    have r947 := r939.chg s944 (by omega)
    have r948 := r940.chg s944 (by omega)
    have f949 := (olF_chg f941 s944 (olF_off f941 (by omega)))
    have f950 := (Nat.le_trans f942 s944.size)
    refine ⟨⟨b946, r947, r948⟩, ?_⟩
    refine fw_tk 7 rfl rfl (by kernel_rfl) (fun _ _ _ _ _ h => h) ?_
    refine fw_ht (by kernel_rfl) ?_
    refine fw_rt ?_
    refine ⟨fun a h => ?_⟩
    have hfin : rlF 8 l803 b803 = (L, bi) := by rw [← hinv, show 8 - i = 0 by have h := of_decide_eq_false hb_817; omega]; show (L ++ [], bi) = _; rw [List.append_nil]
    have e : rcG f l = (({ k := (f / 16), cl := { data := #[] }, clean := false, keep := 0, wI := false, wT := { data := #[] }, wP := { data := #[] }, wQ := 0, wR := false, us := { data := #[] }, hu := false, pa := { data := #[] }, hp := false, pres := false, code := 0, cs := [], dup := false, q := 0, re := false, top := { data := #[] }, id := (ofv (tkP 2 l)), pay := { data := #[] }, ws := [], fs := L } : Mq), bi) := by simp only [rcG, hb_28, hb_276, hb_320, hb_398, hb_411, hb_424, hb_437, hb_623, hb_802, ← hl803, ← hx803, hfin, Bool.or_self, if_true, if_false, Bool.false_eq_true, zM]; try rw [beq_iff_eq.1 hb_802]
    exact ow_retCellT rfl h.df (h.g 4 rfl) (ldMq r945) (h.g 5 rfl) ⟨none, 0, none, 0, aL, cL, by rw [e]; first | done | rfl, by rw [e]; exact (⟨olC_nil _ _, olW_nil _ _, own_mono f949 hwB⟩ : OL3 W943 w.heap.size none 0 none 0 aL cL ({ k := (f / 16), cl := { data := #[] }, clean := false, keep := 0, wI := false, wT := { data := #[] }, wP := { data := #[] }, wQ := 0, wR := false, us := { data := #[] }, hu := false, pa := { data := #[] }, hp := false, pres := false, code := 0, cs := [], dup := false, q := 0, re := false, top := { data := #[] }, id := (ofv (tkP 2 l)), pay := { data := #[] }, ws := [], fs := L } : Mq)), b946⟩
  refine fw_rg rfl (fw_pu rfl ?_)
  refine fw_ca Tryd.func72 rfl rfl rfl ((rkNum b25 (by omega) r27 hs)) ?_
  rintro _ V952 ⟨l951, a951, c951, b951, rfl, hl951, hx951, sn951, rr951, hs951⟩
  refine ⟨(.int .i64 (ofv (tkP 2 l))), rfl, ?_⟩
  have b953 := below_chg b25 sn951 (by omega) b25.size
  have r954 := r26.chg sn951 (by omega)
  have r955 := r24.chg sn951 (by omega)
  refine fw_pu rfl (fw_st r955 rfl rfl ?_)
  intro W956 s957 r958
  have b959 := below_chg b953 s957 (by omega) b953.size
  have r960 := r954.chg s957 (by omega)
  have r961 := rr951.chg s957 (by omega)
  refine fw_dt (fw_sq (fw_rg rfl (fw_pu rfl (fw_dt (fw_bk ?_)))))
  refine fw_lp (fun N K W => ∃ (i : Nat), N = 9 - i ∧ i ≤ 8 ∧ K = [(4, .pointer (some ⟨q1, 0, none⟩)), (6, .pointer (some ⟨q7, 0, none⟩)), (7, .pointer (some ⟨q14, 0, none⟩)), (10, .int .i64 ((i : Nat) : Int))] ∧ Below w.heap.size w W ∧ RowAt W q1 [.int .i64 0, .string { data := #[] }, .bool false, .int .i64 0, .bool false, .string { data := #[] }, .string { data := #[] }, .int .i64 0, .bool false, .string { data := #[] }, .bool false, .string { data := #[] }, .bool false, .bool false, .int .i64 0, .slice none 0 0, .bool false, .int .i64 0, .bool false, .string { data := #[] }, .int .i64 0, .string { data := #[] }, .slice none 0 0, .slice none 0 0] ∧ RowAt W q7 [.slice a951 l951.length c951, .bool b951] ∧ RowAt W q14 [.int .i64 (f / 16), .string { data := #[] }, .bool false, .int .i64 0, .bool false, .string { data := #[] }, .string { data := #[] }, .int .i64 0, .bool false, .string { data := #[] }, .bool false, .string { data := #[] }, .bool false, .bool false, .int .i64 0, .slice none 0 0, .bool false, .int .i64 0, .bool false, .string { data := #[] }, .int .i64 (ofv (tkP 2 l)), .string { data := #[] }, .slice none 0 0, .slice none 0 0]) _ _ ⟨0, rfl, (by omega), rfl, b959, r960, r961, r958⟩ ⟨rfl, rfl, rfl, (by first | rfl | (simp only [Look, cond, Nat.beq]; first | rfl | (congr 2; first | rfl | omega | (push_cast; omega)) | (simp; try omega))), trivial⟩ ?_
  rintro N _ W962 ⟨i, rfl, hi8, rfl, bW962, rW962_0, rW962_1, rW962_2⟩
  intro K964 hK964
  refine fw_sq (fw_sq (fw_rg rfl ?_))
  iterate 3 refine fw_pu rfl ?_
  rcases Bool.eq_false_or_eq_true ((decide (((i : Nat) : Int) < 8))) with hb_965 | hb_965
  · skip
    refine fw_kn 26 rfl hb_965 ?_
    iterate 3 refine fw_pu rfl ?_
    refine fw_ld rW962_1 rfl rfl ?_
    iterate 3 refine fw_pu rfl ?_
    refine fw_dt ?_
    rcases Bool.eq_false_or_eq_true ((decide (0 < ((l951.length : Nat) : Int)))) with hb_966 | hb_966
    · skip
      refine fw_cT rfl hb_966 (fw_sk (fw_th (fw_sq (fw_bk (fw_sq (fw_rg rfl (fw_pu rfl (fw_ld rW962_2 rfl rfl (fw_dt (fw_bk (fw_sq (fw_rg rfl ?_))))))))))))
      iterate 2 refine fw_pu rfl ?_
      refine fw_dt (fw_cF rfl hb_437 (fw_sq (fw_rg rfl ?_)))
      iterate 2 refine fw_pu rfl ?_
      refine fw_dt (fw_cF rfl hb_623 (fw_sq (fw_rg rfl ?_)))
      iterate 2 refine fw_pu rfl ?_
      refine fw_dt (fw_cF rfl hb_802 (fw_sk (fw_bn (fw_bn (fw_th (fw_rg rfl (fw_pu rfl ?_)))))))
      refine fw_ex 35 (.int .i64 (((i + 1) : Nat) : Int)) rfl rfl rfl (fun a h => (run_binOp (h.ev rfl) (h.ev rfl) (by simp [go_sem]) (addIw _ _ _ _ (by omega) (by omega) (by omega)))) ?_
      refine fw_pu rfl (fw_dn ?_)
      exact fw_th (fw_gf (hK964 _ _ _ (by have h := of_decide_eq_true hb_965; omega) ⟨(i + 1), rfl, (by have h := of_decide_eq_true hb_965; omega), rfl, bW962, rW962_0, rW962_1, rW962_2⟩) ⟨rfl, rfl, rfl, (by first | rfl | (simp only [Look, cond, Nat.beq]; first | rfl | (congr 2; first | rfl | omega | (push_cast; omega)) | (simp; try omega))), trivial⟩)
    refine fw_cF rfl hb_966 (fw_xt (fw_te (fw_te (fw_be (fw_bn (fw_th (fw_sq ?_)))))))
    refine fw_hr (fun X => Below w.heap.size w X ∧ RowAt X q7 [.slice a951 l951.length c951, .bool b951] ∧ RowAt X q14 [.int .i64 (f / 16), .string { data := #[] }, .bool false, .int .i64 0, .bool false, .string { data := #[] }, .string { data := #[] }, .int .i64 0, .bool false, .string { data := #[] }, .bool false, .string { data := #[] }, .bool false, .bool false, .int .i64 0, .slice none 0 0, .bool false, .int .i64 0, .bool false, .string { data := #[] }, .int .i64 (ofv (tkP 2 l)), .string { data := #[] }, .slice none 0 0, .slice none 0 0]) (by kernel_rfl) 8 rfl ?_
    intro W967 s968
    have b969 := bW962.trans (s968.mono bW962.size)
    have r970 := rW962_0.below s968
    have r971 := rW962_1.below s968
    have r972 := rW962_2.below s968
    refine ⟨⟨b969, r971, r972⟩, ?_⟩
    refine fw_tl 0 (fun _ h => h.2.2) rfl rfl rfl (by kernel_rfl) (fun _ _ _ _ _ h => h) ?_
    refine fw_tk 1 rfl rfl (by kernel_rfl) (fun _ _ _ _ _ h => h) ?_
    refine fw_tk 2 rfl rfl (by kernel_rfl) (fun _ _ _ _ _ h => h) ?_
    refine fw_tk 3 rfl rfl (by kernel_rfl) (fun _ _ _ _ _ h => h) ?_
    refine fw_tl 4 (fun _ h => h.2.1) rfl rfl rfl (by kernel_rfl) (fun _ _ _ _ _ h => h) ?_
    refine fw_tk 5 rfl rfl (by kernel_rfl) (fun _ _ _ _ _ h => h) ?_
    refine fw_o1 6 (by kernel_rfl) ?_
    refine fw_os rfl r970 rfl rfl ?_
    intro W973 s974 r975
    have b976 := below_chg b969 s974 (by omega) b969.size
    have r977 := r971.chg s974 (by omega)
    have r978 := r972.chg s974 (by omega)
    refine ⟨⟨b976, r977, r978⟩, ?_⟩
    refine fw_tk 7 rfl rfl (by kernel_rfl) (fun _ _ _ _ _ h => h) ?_
    refine fw_ht (by kernel_rfl) ?_
    refine fw_rt ?_
    refine ⟨fun a h => ?_⟩
    have e : rcG f l = (({ k := (f / 16), cl := { data := #[] }, clean := false, keep := 0, wI := false, wT := { data := #[] }, wP := { data := #[] }, wQ := 0, wR := false, us := { data := #[] }, hu := false, pa := { data := #[] }, hp := false, pres := false, code := 0, cs := [], dup := false, q := 0, re := false, top := { data := #[] }, id := (ofv (tkP 2 l)), pay := { data := #[] }, ws := [], fs := [] } : Mq), b951) := by simp only [rcG, hb_28, hb_276, hb_320, hb_398, hb_411, hb_424, hb_437, hb_623, hb_802, ← hl951, ← hx951, Bool.or_self, if_false, Bool.false_eq_true, zM]; try rfl
    exact ow_retCellT rfl h.df (h.g 4 rfl) (ldMq r975) (h.g 5 rfl) ⟨none, 0, none, 0, none, 0, by rw [e]; first | done | rfl, by rw [e]; exact (⟨olC_nil _ _, olW_nil _ _, olF_nil _ _⟩ : OL3 W973 w.heap.size none 0 none 0 none 0 ({ k := (f / 16), cl := { data := #[] }, clean := false, keep := 0, wI := false, wT := { data := #[] }, wP := { data := #[] }, wQ := 0, wR := false, us := { data := #[] }, hu := false, pa := { data := #[] }, hp := false, pres := false, code := 0, cs := [], dup := false, q := 0, re := false, top := { data := #[] }, id := (ofv (tkP 2 l)), pay := { data := #[] }, ws := [], fs := [] } : Mq)), b976⟩
  refine fw_kn 26 rfl hb_965 ?_
  iterate 7 refine fw_pu rfl ?_
  refine fw_dt (fw_cF rfl rfl (fw_xt (fw_te (fw_te (fw_be (fw_bn (fw_th (fw_sq ?_))))))))
  refine fw_hr (fun X => Below w.heap.size w X ∧ RowAt X q7 [.slice a951 l951.length c951, .bool b951] ∧ RowAt X q14 [.int .i64 (f / 16), .string { data := #[] }, .bool false, .int .i64 0, .bool false, .string { data := #[] }, .string { data := #[] }, .int .i64 0, .bool false, .string { data := #[] }, .bool false, .string { data := #[] }, .bool false, .bool false, .int .i64 0, .slice none 0 0, .bool false, .int .i64 0, .bool false, .string { data := #[] }, .int .i64 (ofv (tkP 2 l)), .string { data := #[] }, .slice none 0 0, .slice none 0 0]) (by kernel_rfl) 8 rfl ?_
  intro W979 s980
  have b981 := bW962.trans (s980.mono bW962.size)
  have r982 := rW962_0.below s980
  have r983 := rW962_1.below s980
  have r984 := rW962_2.below s980
  refine ⟨⟨b981, r983, r984⟩, ?_⟩
  refine fw_tl 0 (fun _ h => h.2.2) rfl rfl rfl (by kernel_rfl) (fun _ _ _ _ _ h => h) ?_
  refine fw_tk 1 rfl rfl (by kernel_rfl) (fun _ _ _ _ _ h => h) ?_
  refine fw_tk 2 rfl rfl (by kernel_rfl) (fun _ _ _ _ _ h => h) ?_
  refine fw_tk 3 rfl rfl (by kernel_rfl) (fun _ _ _ _ _ h => h) ?_
  refine fw_tl 4 (fun _ h => h.2.1) rfl rfl rfl (by kernel_rfl) (fun _ _ _ _ _ h => h) ?_
  refine fw_tk 5 rfl rfl (by kernel_rfl) (fun _ _ _ _ _ h => h) ?_
  refine fw_o1 6 (by kernel_rfl) ?_
  refine fw_os rfl r982 rfl rfl ?_
  intro W985 s986 r987
  have b988 := below_chg b981 s986 (by omega) b981.size
  have r989 := r983.chg s986 (by omega)
  have r990 := r984.chg s986 (by omega)
  refine ⟨⟨b988, r989, r990⟩, ?_⟩
  refine fw_tk 7 rfl rfl (by kernel_rfl) (fun _ _ _ _ _ h => h) ?_
  refine fw_ht (by kernel_rfl) ?_
  refine fw_rt ?_
  refine ⟨fun a h => ?_⟩
  have e : rcG f l = (({ k := (f / 16), cl := { data := #[] }, clean := false, keep := 0, wI := false, wT := { data := #[] }, wP := { data := #[] }, wQ := 0, wR := false, us := { data := #[] }, hu := false, pa := { data := #[] }, hp := false, pres := false, code := 0, cs := [], dup := false, q := 0, re := false, top := { data := #[] }, id := (ofv (tkP 2 l)), pay := { data := #[] }, ws := [], fs := [] } : Mq), b951) := by simp only [rcG, hb_28, hb_276, hb_320, hb_398, hb_411, hb_424, hb_437, hb_623, hb_802, ← hl951, ← hx951, Bool.or_self, if_false, Bool.false_eq_true, zM]; try rfl
  exact ow_retCellT rfl h.df (h.g 4 rfl) (ldMq r987) (h.g 5 rfl) ⟨none, 0, none, 0, none, 0, by rw [e]; first | done | rfl, by rw [e]; exact (⟨olC_nil _ _, olW_nil _ _, olF_nil _ _⟩ : OL3 W985 w.heap.size none 0 none 0 none 0 ({ k := (f / 16), cl := { data := #[] }, clean := false, keep := 0, wI := false, wT := { data := #[] }, wP := { data := #[] }, wQ := 0, wR := false, us := { data := #[] }, hu := false, pa := { data := #[] }, hp := false, pres := false, code := 0, cs := [], dup := false, q := 0, re := false, top := { data := #[] }, id := (ofv (tkP 2 l)), pay := { data := #[] }, ws := [], fs := [] } : Mq)), b988⟩
end
end Go.Proofs.YtpgnlhfokffioaaDoor
namespace Go.Proofs.YtpgnlhfokffioaaDoor
section
open Go.RowKit Go.Lib
theorem and127_all : ((List.range 256).all fun n => bits .and .u8 ((n : Nat) : Int) 127 == ((n % 128 : Nat) : Int)) = true := by decide +kernel
theorem and127 (x : UInt8) (w : World) : (binOp .and 5 (B8 x) (.int .u8 127)).run Tryd.prog w = .ok (.int .u8 ((x.toNat % 128 : Nat) : Int)) w := by
  have h1 := List.all_eq_true.1 and127_all x.toNat (List.mem_range.2 (by have := x.toNat_lt; omega))
  rw [beq_iff_eq] at h1
  rw [← h1]
  simp [go_sem]
theorem ltU8 (x : UInt8) (w : World) : (binOp .lss 5 (B8 x) (.int .u8 128)).run Tryd.prog w = .ok (.bool (decide (((x.toNat : Nat) : Int) < 128))) w := by simp [go_sem]
theorem rS_le (l : List UInt8) : (rS l).size ≤ far := by
  have h := ofvP_bd l
  have e : (rS l).size = (ofv (tkP 2 l)).toNat := by
    unfold rS
    show (tkP (ofv (tkP 2 l)).toNat (tkR 2 l)).toArray.size = _
    simp [tkP_len]
  rw [e]; unfold far; omega
theorem tkR_le (n : Nat) (l : List UInt8) : (tkR n l).length ≤ l.length := by unfold tkR; split <;> simp
theorem rR_le (l : List UInt8) : (rR l).length ≤ l.length := Nat.le_trans (tkR_le _ _) (tkR_le _ _)
theorem rlW_far : ∀ (n : Nat) (l : List UInt8) (b : Bool), (rlW n l b).1.length ≤ n ∧ ∀ s ∈ (rlW n l b).1, s.f.size ≤ far
  | 0, _, _ => ⟨Nat.le_refl _, fun _ h => nomatch h⟩
  | _ + 1, [], _ => ⟨Nat.zero_le _, fun _ h => nomatch h⟩
  | n + 1, x :: t, b => by
    obtain ⟨h1, h2⟩ := rlW_far n (tkR 1 (rR (x :: t))) (tX 1 (rX b (x :: t)) (rR (x :: t)))
    refine ⟨Nat.succ_le_succ h1, fun s hs => ?_⟩
    rcases List.mem_cons.1 hs with rfl | hs
    · exact rS_le _
    · exact h2 s hs
theorem rlC_far : ∀ (n : Nat) (l : List UInt8) (b : Bool), (rlC n l b).1.length ≤ n
  | 0, _, _ => Nat.le_refl _
  | _ + 1, [], _ => Nat.zero_le _
  | n + 1, x :: t, b => Nat.succ_le_succ (rlC_far n (tkR 1 (x :: t)) (tX 1 b (x :: t)))
theorem rlF_far : ∀ (n : Nat) (l : List UInt8) (b : Bool), (rlF n l b).1.length ≤ n ∧ ∀ s ∈ (rlF n l b).1, s.size ≤ far
  | 0, _, _ => ⟨Nat.le_refl _, fun _ h => nomatch h⟩
  | _ + 1, [], _ => ⟨Nat.zero_le _, fun _ h => nomatch h⟩
  | n + 1, x :: t, b => by
    obtain ⟨h1, h2⟩ := rlF_far n (rR (x :: t)) (rX b (x :: t))
    refine ⟨Nat.succ_le_succ h1, fun s hs => ?_⟩
    rcases List.mem_cons.1 hs with rfl | hs
    · exact rS_le _
    · exact h2 s hs
def RNear (m : Mq) : Prop := m.Far ∧ m.cs.length ≤ 9 ∧ m.ws.length ≤ 9 ∧ m.fs.length ≤ 9
theorem zM_near (k : Int) : RNear (zM k) := ⟨zM_far k, Nat.zero_le _, Nat.zero_le _, Nat.zero_le _⟩
section
variable {f : Int} {m : Mq} {l : List UInt8} {b : Bool}
theorem rn4 (h : RNear m) : RNear (rc4 f m l b).1 := by
  unfold rc4; split
  · exact ⟨⟨h.1.cl, h.1.wT, h.1.wP, h.1.us, rS_le l, h.1.cs, h.1.top, h.1.pay, h.1.ws, h.1.fs, h.1.wsf, h.1.fsf⟩, h.2⟩
  · exact h
theorem rn3 (h : RNear m) : RNear (rc3 f m l b).1 := by
  unfold rc3; split
  · exact rn4 ⟨⟨h.1.cl, h.1.wT, h.1.wP, rS_le l, h.1.pa, h.1.cs, h.1.top, h.1.pay, h.1.ws, h.1.fs, h.1.wsf, h.1.fsf⟩, h.2⟩
  · exact rn4 h
theorem rn2 (h : RNear m) : RNear (rc2 f m l b).1 := by
  unfold rc2; split
  · exact rn3 ⟨⟨h.1.cl, rS_le _, rS_le _, h.1.us, h.1.pa, h.1.cs, h.1.top, h.1.pay, h.1.ws, h.1.fs, h.1.wsf, h.1.fsf⟩, h.2⟩
  · exact rn3 h
theorem rn_cn : RNear (rcn l).1 := by
  have h := zM_near 1
  unfold rcn rc1
  exact rn2 ⟨⟨rS_le _, h.1.wT, h.1.wP, h.1.us, h.1.pa, h.1.cs, h.1.top, h.1.pay, h.1.ws, h.1.fs, h.1.wsf, h.1.fsf⟩, h.2⟩
theorem rn_pb (hl : l.length ≤ far) : RNear (rpb f l).1 := by
  have z := zM_near 3
  unfold rpb
  split
  · exact ⟨⟨z.1.cl, z.1.wT, z.1.wP, z.1.us, z.1.pa, z.1.cs, rS_le _, by show ((tkR 2 (rR l)).toArray).size ≤ _; have := Nat.le_trans (tkR_le 2 (rR l)) (Nat.le_trans (rR_le l) hl); simpa using this, z.1.ws, z.1.fs, z.1.wsf, z.1.fsf⟩, z.2⟩
  · exact ⟨⟨z.1.cl, z.1.wT, z.1.wP, z.1.us, z.1.pa, z.1.cs, rS_le _, by show ((rR l).toArray).size ≤ _; have := Nat.le_trans (rR_le l) hl; simpa using this, z.1.ws, z.1.fs, z.1.wsf, z.1.fsf⟩, z.2⟩
theorem rc_near (hl : l.length ≤ far) : RNear (rcG f l).1 := by
  unfold rcG
  split
  · exact rn_cn
  split
  · have z := zM_near 2; exact ⟨⟨z.1.cl, z.1.wT, z.1.wP, z.1.us, z.1.pa, z.1.cs, z.1.top, z.1.pay, z.1.ws, z.1.fs, z.1.wsf, z.1.fsf⟩, z.2⟩
  split
  · exact rn_pb hl
  split
  · exact zM_near _
  split
  · have z := zM_near 8; have g := rlW_far 8 (tkR 2 l) (tX 2 false l); exact ⟨⟨z.1.cl, z.1.wT, z.1.wP, z.1.us, z.1.pa, z.1.cs, z.1.top, z.1.pay, Nat.le_trans g.1 (by decide), z.1.fs, g.2, z.1.fsf⟩, z.2.1, Nat.le_trans g.1 (by decide), z.2.2.2⟩
  split
  · have z := zM_near 9; have g := rlC_far 8 (tkR 2 l) (tX 2 false l); exact ⟨⟨z.1.cl, z.1.wT, z.1.wP, z.1.us, z.1.pa, Nat.le_trans g (by decide), z.1.top, z.1.pay, z.1.ws, z.1.fs, z.1.wsf, z.1.fsf⟩, Nat.le_trans g (by decide), z.2.2⟩
  split
  · have z := zM_near 10; have g := rlF_far 8 (tkR 2 l) (tX 2 false l); exact ⟨⟨z.1.cl, z.1.wT, z.1.wP, z.1.us, z.1.pa, z.1.cs, z.1.top, z.1.pay, z.1.ws, Nat.le_trans g.1 (by decide), z.1.wsf, g.2⟩, z.2.1, z.2.2.1, Nat.le_trans g.1 (by decide)⟩
  · have z := zM_near (f / 16); exact ⟨⟨z.1.cl, z.1.wT, z.1.wP, z.1.us, z.1.pa, z.1.cs, z.1.top, z.1.pay, z.1.ws, z.1.fs, z.1.wsf, z.1.fsf⟩, z.2⟩
end
theorem rp_e4 {l : List UInt8} {H N : Nat} {x : UInt8} {d : Mq} {bb : Bool} (h : meG l = (H, N, 0)) (h1 : ¬ 1024 < H + N) (h2 : ¬ l.length < H + N) (hx : l[0]? = some x) (hd : rcG ((x.toNat : Nat) : Int) ((l.take (H + N)).drop H) = (d, bb)) : paG l = if bb = false ∧ mayG d = true ∧ enG d = l.take (H + N) then (d, H + N, 0) else (zM 0, 0, 1) := by
  rw [pa_rp]
  obtain ⟨y, t, rfl, h'⟩ := me_zero h
  injection hx with hx
  subst hx
  have hlen : ((y :: t).take (H + N)).length = H + N := by rw [List.length_take]; omega
  unfold rpG parG
  dsimp only
  rw [h']
  dsimp only
  rw [if_pos rfl]
  refine (if_neg h1).trans ((if_neg h2).trans ?_)
  rw [hd]
  unfold ckG
  rw [hlen]
  by_cases hc : bb = false ∧ mayG d = true ∧ enG d = (y :: t).take (H + N)
  · rw [if_pos hc, if_pos (by simp [hc.1, hc.2.1, hc.2.2])]
  · rw [if_neg hc, if_neg (by simpa using hc)]
set_option maxRecDepth 100000 in
set_option maxHeartbeats 4000000 in
theorem rparseX {w : World} {cd : Nat} {ad : Option Addr} {l : List UInt8} (hs : Sl w (.slice ad l.length cd) l) (hl : l.length ≤ 100000) (hT : Tabs w) :
    Calls Tryd.prog 17 #[.slice ad l.length cd] w fun e w' => ∃ ac cc aw cw af cf, e = .returned (.tuple #[(paG l).1.val (.slice ac (paG l).1.cs.length cc) (.slice aw (paG l).1.ws.length cw) (.slice af (paG l).1.fs.length cf), .int .i64 ((paG l).2.1 : Int), .int .i64 (paG l).2.2]) ∧ OL3 w' w.heap.size ac cc aw cw af cf (paG l).1 ∧ Below w.heap.size w w' := by
  have hb0 := Below.refl w.heap.size w
  refine fw_en 100 [(0, .slice ad l.length cd)] Tryd.func17 rfl Tryd.ntmps17 rfl ⟨rfl, trivial⟩ ?_
  refine fw_sq (fw_rg rfl ?_)
  refine fw_al (t := 30) (u := fun q => .pointer (some ⟨q, 0, none⟩)) 2 [.int .i64 0, .string { data := #[] }, .bool false, .int .i64 0, .bool false, .string { data := #[] }, .string { data := #[] }, .int .i64 0, .bool false, .string { data := #[] }, .bool false, .string { data := #[] }, .bool false, .bool false, .int .i64 0, .slice none 0 0, .bool false, .int .i64 0, .bool false, .string { data := #[] }, .int .i64 0, .string { data := #[] }, .slice none 0 0, .slice none 0 0] rfl rfl rfl (fun a h => (run_allocOp (by simp [go_sem, Instr.alloc]))) ?_
  intro q1 W2 g5 s3 r4
  have := Nat.le_trans hb0.size g5
  have b6 := hb0.trans (s3.mono hb0.size)
  iterate 2 refine fw_pu rfl ?_
  refine fw_dt (fw_sq (fw_sq (fw_rg rfl ?_)))
  iterate 3 refine fw_pu rfl ?_
  refine fw_dt ?_
  rcases Bool.eq_false_or_eq_true ((((l.length : Nat) : Int) == 0)) with hb_7 | hb_7
  · skip
    refine fw_cT rfl hb_7 (fw_sq (fw_rg rfl ?_))
    refine fw_ex 12 (.agg #[.int .i64 0, .string { data := #[] }, .bool false, .int .i64 0, .bool false, .string { data := #[] }, .string { data := #[] }, .int .i64 0, .bool false, .string { data := #[] }, .bool false, .string { data := #[] }, .bool false, .bool false, .int .i64 0, .slice none 0 0, .bool false, .int .i64 0, .bool false, .string { data := #[] }, .int .i64 0, .string { data := #[] }, .slice none 0 0, .slice none 0 0]) rfl rfl rfl (fun a h => (run_buildOp (vs := #[]) (by simp) (by kernel_rfl))) ?_
    refine fw_st r4 rfl rfl ?_
    intro W8 s9 r10
    have b11 := below_chg b6 s9 (by omega) b6.size
    iterate 2 refine fw_pu rfl ?_
    refine fw_dt (fw_rt (fw_tr ?_))
    refine ⟨fun a h => ?_⟩
    have e : paG l = (zM 0, 0, 7) := by have h := beq_iff_eq.1 hb_7; rw [show l = [] from List.eq_nil_of_length_eq_zero (by omega)]; rfl
    exact ow_retCell2 rfl h.df (h.g 2 rfl) (ldMq r10) (h.g 3 rfl) (h.g 4 rfl) ⟨none, 0, none, 0, none, 0, by rw [e]; first | done | rfl, by rw [e]; exact OL3.nil _ _ ⟨rfl, rfl, rfl⟩, b11⟩
  refine fw_cF rfl hb_7 (fw_sk (fw_th (fw_sq ?_)))
  have hne : l ≠ [] := by rintro rfl; exact absurd hb_7 (by decide)
  refine fw_rg rfl ?_
  iterate 2 refine fw_pu rfl ?_
  refine fw_dt (fw_sq (fw_bk ?_))
  refine fw_lp (fun N K W => ∃ (k : Nat) (acc : Nat), N = 4 - k ∧ k ≤ 3 ∧ acc < 128 ^ k ∧ meG l = msG k acc (l.drop (k + 1)) ∧ K = [(0, .slice ad l.length cd), (2, .pointer (some ⟨q1, 0, none⟩)), (5, .int .i64 ((acc : Nat) : Int)), (6, .int .i64 (((k + 1) : Nat) : Int))] ∧ Below w.heap.size w W ∧ RowAt W q1 [.int .i64 0, .string { data := #[] }, .bool false, .int .i64 0, .bool false, .string { data := #[] }, .string { data := #[] }, .int .i64 0, .bool false, .string { data := #[] }, .bool false, .string { data := #[] }, .bool false, .bool false, .int .i64 0, .slice none 0 0, .bool false, .int .i64 0, .bool false, .string { data := #[] }, .int .i64 0, .string { data := #[] }, .slice none 0 0, .slice none 0 0]) _ _ ⟨0, 0, rfl, (by omega), (by decide), (me_start hne), rfl, b6, r4⟩ ⟨rfl, rfl, (by first | rfl | (simp only [Look, cond, Nat.beq]; first | rfl | (congr 2; first | rfl | omega | (push_cast; omega)) | (simp; try omega))), (by first | rfl | (simp only [Look, cond, Nat.beq]; first | rfl | (congr 2; first | rfl | omega | (push_cast; omega)) | (simp; try omega))), trivial⟩ ?_
  rintro N _ W12 ⟨k, acc, rfl, hk, hacc, hinv, rfl, bW12, rW12_0⟩
  intro K14 hK14
  refine fw_bk (fw_sq (fw_sq (fw_rg rfl ?_)))
  iterate 4 refine fw_pu rfl ?_
  refine fw_dt ?_
  rcases Bool.eq_false_or_eq_true ((decide (((l.length : Nat) : Int) ≤ (((k + 1) : Nat) : Int)))) with hb_15 | hb_15
  · skip
    refine fw_cT rfl hb_15 (fw_sq (fw_rg rfl ?_))
    refine fw_ex 17 (.agg #[.int .i64 0, .string { data := #[] }, .bool false, .int .i64 0, .bool false, .string { data := #[] }, .string { data := #[] }, .int .i64 0, .bool false, .string { data := #[] }, .bool false, .string { data := #[] }, .bool false, .bool false, .int .i64 0, .slice none 0 0, .bool false, .int .i64 0, .bool false, .string { data := #[] }, .int .i64 0, .string { data := #[] }, .slice none 0 0, .slice none 0 0]) rfl rfl rfl (fun a h => (run_buildOp (vs := #[]) (by simp) (by kernel_rfl))) ?_
    refine fw_st rW12_0 rfl rfl ?_
    intro W16 s17 r18
    have b19 := below_chg bW12 s17 (by omega) bW12.size
    iterate 2 refine fw_pu rfl ?_
    refine fw_dt (fw_rt (fw_tr (fw_br (fw_tr (fw_br (fw_tr ?_))))))
    refine ⟨fun a h => ?_⟩
    have e : paG l = (zM 0, 0, 7) := pa_e1 (by rw [hinv, List.drop_eq_nil_of_le (by have h := of_decide_eq_true hb_15; omega)]; rfl) (by decide)
    exact ow_retCell2 rfl h.df (h.g 2 rfl) (ldMq r18) (h.g 3 rfl) (h.g 4 rfl) ⟨none, 0, none, 0, none, 0, by rw [e]; first | done | rfl, by rw [e]; exact OL3.nil _ _ ⟨rfl, rfl, rfl⟩, b19⟩
  refine fw_cF rfl hb_15 (fw_sk (fw_th (fw_sq ?_)))
  have hkL : k + 1 < l.length := by have h := of_decide_eq_false hb_15; omega
  have hk4 : k < 4 := by omega
  obtain ⟨x, hx⟩ : ∃ x, l[k + 1]? = some x := ⟨_, List.getElem?_eq_getElem hkL⟩
  obtain ⟨bP, oP, haP, hbP, hcP⟩ := sl_at hs hx
  have hx128 : x.toNat % 128 < 128 := Nat.mod_lt _ (by decide)
  have hx256 := x.toNat_lt
  have hms := ms_at (acc := acc) hx
  refine fw_rg rfl ?_
  iterate 3 refine fw_pu rfl ?_
  refine fw_ex 21 (.pointer (some ⟨bP, (oP + (k + 1)), none⟩)) rfl rfl rfl (fun a h => (run_indexOp (h.ev rfl) (h.ev rfl) (by rw [haP]; exact idxU8 _ _ _ _ _ hkL _))) ?_
  refine fw_ex 22 ((B8 x)) rfl rfl rfl (fun a h => (run_loadOp (h.ev rfl) (ldU8 ((Below.cell bW12 (p := ⟨bP, oP + (k + 1), none⟩) hbP).trans hcP)))) ?_
  refine fw_ex 23 (.int .u8 (((x.toNat % 128) : Nat) : Int)) rfl rfl rfl (fun a h => (run_binOp (h.ev rfl) (h.ev rfl) (by simp [go_sem]) (and127 _ _))) ?_
  refine fw_ex 24 (.int .i64 (((x.toNat % 128) : Nat) : Int)) rfl rfl rfl (fun a h => (run_convOp (h.ev rfl) (cv8 _ (by omega) _))) ?_
  refine fw_pu rfl ?_
  refine fw_ex 26 (.int .i64 ((k : Nat) : Int)) rfl rfl rfl (fun a h => (run_binOp (h.ev rfl) (h.ev rfl) (by simp [go_sem]) (subIw _ _ _ _ (by omega) (by omega) (by omega)))) ?_
  refine fw_ex 27 (.int .i64 (((7 * k) : Nat) : Int)) rfl rfl rfl (fun a h => (run_binOp (h.ev rfl) (h.ev rfl) (by simp [go_sem]) (mulIw _ _ _ _ (by omega) (by omega) (by omega)))) ?_
  refine fw_ex 28 (.int .i64 (((x.toNat % 128 * 128 ^ k) : Nat) : Int)) rfl rfl rfl (fun a h => (run_binOp (h.ev rfl) (h.ev rfl) (by simp [go_sem]) (shlK _ _ hk4 hx128 _))) ?_
  refine fw_ex 29 (.int .i64 (((acc + x.toNat % 128 * 128 ^ k) : Nat) : Int)) rfl rfl rfl (fun a h => (run_binOp (h.ev rfl) (h.ev rfl) (by simp [go_sem]) (by rw [orI, orS _ _ _ hk4 hacc hx128]))) ?_
  refine fw_pu rfl (fw_dt (fw_sq (fw_rg rfl (fw_pu rfl ?_))))
  refine fw_ex 31 (.int .i64 (((k + 2) : Nat) : Int)) rfl rfl rfl (fun a h => (run_binOp (h.ev rfl) (h.ev rfl) (by simp [go_sem]) (addIw _ _ _ _ (by omega) (by omega) (by omega)))) ?_
  refine fw_pu rfl (fw_dt (fw_sq (fw_sq (fw_rg rfl ?_))))
  iterate 2 refine fw_pu rfl ?_
  refine fw_ex 34 (.int .i64 (((k + 1) : Nat) : Int)) rfl rfl rfl (fun a h => (run_binOp (h.ev rfl) (h.ev rfl) (by simp [go_sem]) (subIw _ _ _ _ (by omega) (by omega) (by omega)))) ?_
  refine fw_ex 35 (.pointer (some ⟨bP, (oP + (k + 1)), none⟩)) rfl rfl rfl (fun a h => (run_indexOp (h.ev rfl) (h.ev rfl) (by rw [haP]; exact idxU8 _ _ _ _ _ hkL _))) ?_
  refine fw_ex 36 ((B8 x)) rfl rfl rfl (fun a h => (run_loadOp (h.ev rfl) (ldU8 ((Below.cell bW12 (p := ⟨bP, oP + (k + 1), none⟩) hbP).trans hcP)))) ?_
  refine fw_ex 37 (.bool (decide (((x.toNat : Nat) : Int) < 128))) rfl rfl rfl (fun a h => (run_binOp (h.ev rfl) (h.ev rfl) (by simp [go_sem]) (ltU8 _ _))) ?_
  refine fw_dt ?_
  rcases Bool.eq_false_or_eq_true ((decide (((x.toNat : Nat) : Int) < 128))) with hb_20 | hb_20
  · skip
    refine fw_cT rfl hb_20 (fw_xt (fw_te ?_))
    refine fw_bf (by decide) ?_
    refine fw_te (fw_be (fw_th (fw_sq (fw_sq (fw_rg rfl ?_)))))
    iterate 3 refine fw_pu rfl ?_
    rcases Bool.eq_false_or_eq_true ((decide (2 < (((k + 2) : Nat) : Int)))) with hb_21 | hb_21
    · skip
      refine fw_kn 43 rfl hb_21 ?_
      iterate 2 refine fw_pu rfl ?_
      refine fw_ex 46 (.int .i64 (((k + 1) : Nat) : Int)) rfl rfl rfl (fun a h => (run_binOp (h.ev rfl) (h.ev rfl) (by simp [go_sem]) (subIw _ _ _ _ (by omega) (by omega) (by omega)))) ?_
      refine fw_ex 47 (.pointer (some ⟨bP, (oP + (k + 1)), none⟩)) rfl rfl rfl (fun a h => (run_indexOp (h.ev rfl) (h.ev rfl) (by rw [haP]; exact idxU8 _ _ _ _ _ hkL _))) ?_
      refine fw_ex 48 ((B8 x)) rfl rfl rfl (fun a h => (run_loadOp (h.ev rfl) (ldU8 ((Below.cell bW12 (p := ⟨bP, oP + (k + 1), none⟩) hbP).trans hcP)))) ?_
      refine fw_ex 49 (.bool (x == 0)) rfl rfl rfl (fun a h => (run_binOp (h.ev rfl) (h.ev rfl) (by simp [go_sem]) (u8e _ 0 _))) ?_
      refine fw_pu rfl (fw_dt ?_)
      rcases Bool.eq_false_or_eq_true ((x == 0)) with hb_22 | hb_22
      · skip
        refine fw_cT rfl hb_22 (fw_sq (fw_rg rfl ?_))
        refine fw_ex 51 (.agg #[.int .i64 0, .string { data := #[] }, .bool false, .int .i64 0, .bool false, .string { data := #[] }, .string { data := #[] }, .int .i64 0, .bool false, .string { data := #[] }, .bool false, .string { data := #[] }, .bool false, .bool false, .int .i64 0, .slice none 0 0, .bool false, .int .i64 0, .bool false, .string { data := #[] }, .int .i64 0, .string { data := #[] }, .slice none 0 0, .slice none 0 0]) rfl rfl rfl (fun a h => (run_buildOp (vs := #[]) (by simp) (by kernel_rfl))) ?_
        refine fw_st rW12_0 rfl rfl ?_
        intro W23 s24 r25
        have b26 := below_chg bW12 s24 (by omega) bW12.size
        iterate 2 refine fw_pu rfl ?_
        refine fw_dt (fw_rt (fw_tr ?_))
        refine ⟨fun a h => ?_⟩
        have e : paG l = (zM 0, 0, 1) := pa_e1 (by rw [hinv, hms, if_pos (by have h := of_decide_eq_true hb_20; omega), if_neg (by have h2 := of_decide_eq_true hb_21; have h3 := beq_iff_eq.1 hb_22; rw [h3]; rintro (h | h); exact absurd h (by decide); omega)]) (by decide)
        exact ow_retCell2 rfl h.df (h.g 2 rfl) (ldMq r25) (h.g 3 rfl) (h.g 4 rfl) ⟨none, 0, none, 0, none, 0, by rw [e]; first | done | rfl, by rw [e]; exact OL3.nil _ _ ⟨rfl, rfl, rfl⟩, b26⟩
      refine fw_cF rfl hb_22 (fw_sk (fw_th (fw_sq (fw_sq ?_))))
      have hM : meG l = (k + 2, acc + x.toNat % 128 * 128 ^ k, 0) := by rw [hinv, hms, if_pos (by have h := of_decide_eq_true hb_20; omega), if_pos (.inl (Nat.pos_of_ne_zero (fun h0 => by have h1 : x = 0 := UInt8.toNat_inj.1 h0; have h2 := hb_22; rw [h1] at h2; exact absurd h2 (by decide)))), Nat.mod_eq_of_lt (by have h := of_decide_eq_true hb_20; omega)]
      have hHN := me_bd hM
      have hH2 := me_H hM
      generalize hHH : k + 2 = H at *
      generalize hNN : acc + x.toNat % 128 * 128 ^ k = N at *
      refine fw_rg rfl ?_
      iterate 2 refine fw_pu rfl ?_
      refine fw_ex 54 (.int .i64 (((H + N) : Nat) : Int)) rfl rfl rfl (fun a h => (run_binOp (h.ev rfl) (h.ev rfl) (by simp [go_sem]) (addIw _ _ _ _ (by omega) (by omega) (by omega)))) ?_
      refine fw_pu rfl (fw_dt ?_)
      rcases Bool.eq_false_or_eq_true ((decide (1024 < (((H + N) : Nat) : Int)))) with hb_27 | hb_27
      · skip
        refine fw_cT rfl hb_27 (fw_sq (fw_rg rfl ?_))
        refine fw_ex 56 (.agg #[.int .i64 0, .string { data := #[] }, .bool false, .int .i64 0, .bool false, .string { data := #[] }, .string { data := #[] }, .int .i64 0, .bool false, .string { data := #[] }, .bool false, .string { data := #[] }, .bool false, .bool false, .int .i64 0, .slice none 0 0, .bool false, .int .i64 0, .bool false, .string { data := #[] }, .int .i64 0, .string { data := #[] }, .slice none 0 0, .slice none 0 0]) rfl rfl rfl (fun a h => (run_buildOp (vs := #[]) (by simp) (by kernel_rfl))) ?_
        refine fw_st rW12_0 rfl rfl ?_
        intro W28 s29 r30
        have b31 := below_chg bW12 s29 (by omega) bW12.size
        iterate 2 refine fw_pu rfl ?_
        refine fw_dt (fw_rt (fw_tr ?_))
        refine ⟨fun a h => ?_⟩
        have e : paG l = (zM 0, 0, 2) := pa_e2 hM (by have h := of_decide_eq_true hb_27; omega)
        exact ow_retCell2 rfl h.df (h.g 2 rfl) (ldMq r30) (h.g 3 rfl) (h.g 4 rfl) ⟨none, 0, none, 0, none, 0, by rw [e]; first | done | rfl, by rw [e]; exact OL3.nil _ _ ⟨rfl, rfl, rfl⟩, b31⟩
      refine fw_cF rfl hb_27 (fw_sk (fw_th (fw_sq (fw_sq (fw_rg rfl ?_)))))
      iterate 4 refine fw_pu rfl ?_
      refine fw_ex 61 (.int .i64 (((H + N) : Nat) : Int)) rfl rfl rfl (fun a h => (run_binOp (h.ev rfl) (h.ev rfl) (by simp [go_sem]) (addIw _ _ _ _ (by omega) (by omega) (by omega)))) ?_
      refine fw_pu rfl (fw_dt ?_)
      rcases Bool.eq_false_or_eq_true ((decide (((l.length : Nat) : Int) < (((H + N) : Nat) : Int)))) with hb_32 | hb_32
      · skip
        refine fw_cT rfl hb_32 (fw_sq (fw_rg rfl ?_))
        refine fw_ex 63 (.agg #[.int .i64 0, .string { data := #[] }, .bool false, .int .i64 0, .bool false, .string { data := #[] }, .string { data := #[] }, .int .i64 0, .bool false, .string { data := #[] }, .bool false, .string { data := #[] }, .bool false, .bool false, .int .i64 0, .slice none 0 0, .bool false, .int .i64 0, .bool false, .string { data := #[] }, .int .i64 0, .string { data := #[] }, .slice none 0 0, .slice none 0 0]) rfl rfl rfl (fun a h => (run_buildOp (vs := #[]) (by simp) (by kernel_rfl))) ?_
        refine fw_st rW12_0 rfl rfl ?_
        intro W33 s34 r35
        have b36 := below_chg bW12 s34 (by omega) bW12.size
        iterate 2 refine fw_pu rfl ?_
        refine fw_dt (fw_rt (fw_tr ?_))
        refine ⟨fun a h => ?_⟩
        have e : paG l = (zM 0, 0, 7) := pa_e3 hM (by have h := of_decide_eq_false hb_27; omega) (by have h := of_decide_eq_true hb_32; omega)
        exact ow_retCell2 rfl h.df (h.g 2 rfl) (ldMq r35) (h.g 3 rfl) (h.g 4 rfl) ⟨none, 0, none, 0, none, 0, by rw [e]; first | done | rfl, by rw [e]; exact OL3.nil _ _ ⟨rfl, rfl, rfl⟩, b36⟩
      refine fw_cF rfl hb_32 (fw_sk (fw_th (fw_sq ?_)))
      have hn1 : ¬ 1024 < H + N := by have h := of_decide_eq_false hb_27; omega
      have hn2 : ¬ l.length < H + N := by have h := of_decide_eq_false hb_32; omega
      obtain ⟨y, hy⟩ : ∃ y, l[0]? = some y := ⟨_, List.getElem?_eq_getElem (show 0 < l.length by omega)⟩
      obtain ⟨bQ, oQ, haQ, hbQ, hcQ⟩ := sl_at hs hy
      have hcap := sl_cap hs
      have hy256 := y.toNat_lt
      obtain ⟨body, hbody⟩ : ∃ z, z = (l.take (H + N)).drop H := ⟨_, rfl⟩
      have hbl : body.length = N := by rw [hbody, List.length_drop, List.length_take]; omega
      have heA : ∃ b o, ad = some ⟨b, o, none⟩ := ⟨_, _, haQ⟩
      have hsB : SlN w (.slice (adrAt bQ oQ cd H) body.length (cd - H)) body := by have hs2 := hs; rw [haQ] at hs2; have g := SlN.at2 hs2 H (H + N) (by omega) (by omega); rw [hbl, hbody, List.drop_take]; rw [Nat.add_sub_cancel_left] at g ⊢; exact g
      have hsT : Sl w (.slice ad (H + N) cd) (l.take (H + N)) := sl_pre hs heA (by omega)
      obtain ⟨d, bb, hd⟩ : ∃ d bb, rcG ((y.toNat : Nat) : Int) body = (d, bb) := ⟨_, _, rfl⟩
      obtain ⟨hFd, hNc, hNw, hNf⟩ : RNear d := by have h9 := rc_near (f := ((y.toNat : Nat) : Int)) (l := body) (by rw [hbl]; unfold far; omega); rw [hd] at h9; exact h9
      refine fw_hr (fun X => Below w.heap.size w X ∧ RowAt X q1 [.int .i64 0, .string { data := #[] }, .bool false, .int .i64 0, .bool false, .string { data := #[] }, .string { data := #[] }, .int .i64 0, .bool false, .string { data := #[] }, .bool false, .string { data := #[] }, .bool false, .bool false, .int .i64 0, .slice none 0 0, .bool false, .int .i64 0, .bool false, .string { data := #[] }, .int .i64 0, .string { data := #[] }, .slice none 0 0, .slice none 0 0]) (by kernel_rfl) 16 rfl ?_
      intro W37 s38
      have b39 := bW12.trans (s38.mono bW12.size)
      have r40 := rW12_0.below s38
      refine ⟨⟨b39, r40⟩, ?_⟩
      refine fw_tk 0 rfl rfl (by kernel_rfl) (fun _ _ _ _ _ h => h) ?_
      refine fw_tx 1 66 (.pointer (some ⟨bQ, (oQ + 0), none⟩)) rfl rfl rfl rfl (fun a h W hW => by obtain ⟨b39, r40⟩ := hW; exact (run_indexOp (h.ev rfl) (h.ev rfl) (by rw [haQ]; exact idxU8 _ _ _ _ 0 (by omega) _))) (by kernel_rfl) (fun _ _ _ _ _ h => h) ?_
      refine fw_tx 2 67 (.int .u8 ((y.toNat : Nat) : Int)) rfl rfl rfl rfl (fun a h W hW => by obtain ⟨b39, r40⟩ := hW; exact (run_loadOp (h.ev rfl) (ld8 ((Below.cell b39 (p := ⟨bQ, oQ + 0, none⟩) hbQ).trans hcQ)))) (by kernel_rfl) (fun _ _ _ _ _ h => h) ?_
      refine fw_tk 3 rfl rfl (by kernel_rfl) (fun _ _ _ _ _ h => h) ?_
      refine fw_tk 4 rfl rfl (by kernel_rfl) (fun _ _ _ _ _ h => h) ?_
      refine fw_tk 5 rfl rfl (by kernel_rfl) (fun _ _ _ _ _ h => h) ?_
      refine fw_tk 6 rfl rfl (by kernel_rfl) (fun _ _ _ _ _ h => h) ?_
      refine fw_tx 7 72 (.int .i64 (((H + N) : Nat) : Int)) rfl rfl rfl rfl (fun a h W hW => by obtain ⟨b39, r40⟩ := hW; exact (run_binOp (h.ev rfl) (h.ev rfl) (by simp [go_sem]) (addIw _ _ _ _ (by omega) (by omega) (by omega)))) (by kernel_rfl) (fun _ _ _ _ _ h => h) ?_
      refine fw_tx 8 73 (.slice (adrAt bQ oQ cd H) body.length (cd - H)) rfl rfl rfl rfl (fun a h W hW => by obtain ⟨b39, r40⟩ := hW; exact (run_sliceOp2 (h.ev rfl) (h.ev rfl) (h.ev rfl) (by rw [haQ]; exact slc2 _ _ _ _ _ _ _ _ hbl (by omega) hcap.2.2))) (by kernel_rfl) (fun _ _ _ _ _ h => h) ?_
      refine fw_o2 9 13 (by kernel_rfl) ?_ ?_
      · skip
        refine fw_oc rfl Tryd.func40 rfl rfl rfl ((by have h := readX ((y.toNat : Nat) : Int) (by omega) ⟨hsB.1.below b39, hsB.2⟩; rw [hd] at h; dsimp only at h; exact h)) ?_
        rintro _ VD ⟨acd, ccd, awd, cwd, afd, cfd, rfl, hLd, hbD⟩
        refine ⟨_, rfl, ?_⟩
        have hlt_q1 : q1 < W37.heap.size := r40.2.2
        have hw9 : w.heap.size ≤ W37.heap.size := b39.size
        have b41 := b39.trans (hbD.mono b39.size)
        have r42 := r40.below hbD
        refine ⟨⟨b41, r42⟩, ?_⟩
        refine fw_tk 10 rfl rfl (by kernel_rfl) (fun _ _ _ _ _ h => h) ?_
        refine fw_tk 11 rfl rfl (by kernel_rfl) (fun _ _ _ _ _ h => h) ?_
        refine fw_tk 12 rfl rfl (by kernel_rfl) (fun _ _ _ _ _ h => h) ?_
        refine fw_o1 13 (by kernel_rfl) ?_
        refine fw_oa rfl (t := 30) (u := fun q => .pointer (some ⟨q, 0, none⟩)) 7 [.int .i64 0, .string { data := #[] }, .bool false, .int .i64 0, .bool false, .string { data := #[] }, .string { data := #[] }, .int .i64 0, .bool false, .string { data := #[] }, .bool false, .string { data := #[] }, .bool false, .bool false, .int .i64 0, .slice none 0 0, .bool false, .int .i64 0, .bool false, .string { data := #[] }, .int .i64 0, .string { data := #[] }, .slice none 0 0, .slice none 0 0] rfl rfl rfl (fun a h => (run_allocOp (by simp [go_sem, Instr.alloc]))) ?_
        intro q43 W44 g47 s45 r46
        have := Nat.le_trans b41.size g47
        have := r42.lt g47
        have hhLd_q43 := OL3.ltq hLd g47
        have b48 := b41.trans (s45.mono b41.size)
        have r49 := r42.below s45
        have f50 := (hLd.below s45)
        refine ⟨⟨b48, r49⟩, ?_⟩
        refine fw_o1 14 (by kernel_rfl) ?_
        refine fw_os rfl r46 rfl rfl ?_
        intro W51 s52 r53
        have b54 := below_chg b48 s52 (by omega) b48.size
        have r55 := r49.chg s52 (by omega)
        have f56 := (by first | exact OL3.chgN f50 s52 hhLd_q43 | exact OL3.chg f50 s52 (by omega))
        refine ⟨⟨b54, r55⟩, ?_⟩
        refine fw_tk 15 rfl rfl (by kernel_rfl) (fun _ _ _ _ _ h => h) ?_
        refine fw_ht (by kernel_rfl) ?_
        refine fw_sq (fw_sq ?_)
        refine fw_hr (fun X => Below w.heap.size w X ∧ RowAt X q1 [.int .i64 0, .string { data := #[] }, .bool false, .int .i64 0, .bool false, .string { data := #[] }, .string { data := #[] }, .int .i64 0, .bool false, .string { data := #[] }, .bool false, .string { data := #[] }, .bool false, .bool false, .int .i64 0, .slice none 0 0, .bool false, .int .i64 0, .bool false, .string { data := #[] }, .int .i64 0, .string { data := #[] }, .slice none 0 0, .slice none 0 0] ∧ RowAt X q43 (Mq.row d (.slice acd d.cs.length ccd) (.slice awd d.ws.length cwd) (.slice afd d.fs.length cfd))) (by kernel_rfl) 18 rfl ?_
        intro W57 s58
        have b59 := b54.trans (s58.mono b54.size)
        have r60 := r55.below s58
        have r61 := r53.below s58
        have f62 := (f56.below s58)
        refine ⟨⟨b59, r60, r61⟩, ?_⟩
        refine fw_tk 0 rfl rfl (by kernel_rfl) (fun _ _ _ _ _ h => h) ?_
        refine fw_tk 1 rfl rfl (by kernel_rfl) (fun _ _ _ _ _ h => h) ?_
        refine fw_tk 2 rfl rfl (by kernel_rfl) (fun _ _ _ _ _ h => h) ?_
        rcases Bool.eq_false_or_eq_true (bb) with hb_63 | hb_63
        · skip
          refine fw_kh 79 rfl (not_of (not_of hb_63)) ?_
          refine fw_tk 3 rfl rfl (by kernel_rfl) (fun _ _ _ _ _ h => h) ?_
          refine fw_tk 4 rfl rfl (by kernel_rfl) (fun _ _ _ _ _ h => h) ?_
          refine fw_tk 5 rfl rfl (by kernel_rfl) (fun _ _ _ _ _ h => h) ?_
          refine fw_tk 6 rfl rfl (by kernel_rfl) (fun _ _ _ _ _ h => h) ?_
          refine fw_tk 7 rfl rfl (by kernel_rfl) (fun _ _ _ _ _ h => h) ?_
          refine fw_tk 8 rfl rfl (by kernel_rfl) (fun _ _ _ _ _ h => h) ?_
          refine fw_tk 9 rfl rfl (by kernel_rfl) (fun _ _ _ _ _ h => h) ?_
          refine fw_tk 10 rfl rfl (by kernel_rfl) (fun _ _ _ _ _ h => h) ?_
          refine fw_tk 11 rfl rfl (by kernel_rfl) (fun _ _ _ _ _ h => h) ?_
          refine fw_tk 12 rfl rfl (by kernel_rfl) (fun _ _ _ _ _ h => h) ?_
          refine fw_tk 13 rfl rfl (by kernel_rfl) (fun _ _ _ _ _ h => h) ?_
          refine fw_tk 14 rfl rfl (by kernel_rfl) (fun _ _ _ _ _ h => h) ?_
          refine fw_tk 15 rfl rfl (by kernel_rfl) (fun _ _ _ _ _ h => h) ?_
          refine fw_tk 16 rfl rfl (by kernel_rfl) (fun _ _ _ _ _ h => h) ?_
          refine fw_tk 17 rfl rfl (by kernel_rfl) (fun _ _ _ _ _ h => h) ?_
          refine fw_ht (by kernel_rfl) ?_
          refine fw_cT rfl rfl (fw_sq (fw_rg rfl ?_))
          refine fw_ex 95 (.agg #[.int .i64 0, .string { data := #[] }, .bool false, .int .i64 0, .bool false, .string { data := #[] }, .string { data := #[] }, .int .i64 0, .bool false, .string { data := #[] }, .bool false, .string { data := #[] }, .bool false, .bool false, .int .i64 0, .slice none 0 0, .bool false, .int .i64 0, .bool false, .string { data := #[] }, .int .i64 0, .string { data := #[] }, .slice none 0 0, .slice none 0 0]) rfl rfl rfl (fun a h => (run_buildOp (vs := #[]) (by simp) (by kernel_rfl))) ?_
          refine fw_st r60 rfl rfl ?_
          intro W64 s65 r66
          have b67 := below_chg b59 s65 (by omega) b59.size
          have r68 := r61.chg s65 (by omega)
          have f69 := (by first | exact OL3.chgN f62 s65 hhLd_q1 | exact OL3.chg f62 s65 (by omega))
          iterate 2 refine fw_pu rfl ?_
          refine fw_dt (fw_rt (fw_tr ?_))
          refine ⟨fun a h => ?_⟩
          have e : paG l = (zM 0, 0, 1) := by rw [rp_e4 (d := d) (bb := bb) hM hn1 hn2 hy (by rw [← hbody, hd]), if_neg (by rintro ⟨h1, -, -⟩; rw [hb_63] at h1; cases h1)]
          exact ow_retCell2 rfl h.df (h.g 2 rfl) (ldMq r66) (h.g 3 rfl) (h.g 4 rfl) ⟨none, 0, none, 0, none, 0, by rw [e]; first | done | rfl, by rw [e]; exact OL3.nil _ _ ⟨rfl, rfl, rfl⟩, b67⟩
        refine fw_kh 79 rfl (not_of (not_of hb_63)) ?_
        refine fw_tl 3 (fun _ h => h.2.2) rfl rfl rfl (by kernel_rfl) (fun _ _ _ _ _ h => h) ?_
        refine fw_o1 4 (by kernel_rfl) ?_
        refine fw_oc rfl Tryd.func25 rfl rfl rfl ((by have h := mayX d acd awd afd _ _ _ ccd cwd cfd W57 (OL3.lists f62) hFd ⟨by omega, by omega, by omega⟩ (hT.below b59); rw [mx_va, show (vaG d && baG d) = mayG d from rfl] at h; exact h)) ?_
        rintro _ V71 ⟨rfl, hb70⟩
        refine ⟨(.bool (mayG d)), rfl, ?_⟩
        have b72 := b59.trans (hb70.mono b59.size)
        have r73 := r60.below hb70
        have r74 := r61.below hb70
        have f75 := (f62.below hb70)
        refine ⟨⟨b72, r73, r74⟩, ?_⟩
        refine fw_tk 5 rfl rfl (by kernel_rfl) (fun _ _ _ _ _ h => h) ?_
        refine fw_tk 6 rfl rfl (by kernel_rfl) (fun _ _ _ _ _ h => h) ?_
        refine fw_tk 7 rfl rfl (by kernel_rfl) (fun _ _ _ _ _ h => h) ?_
        rcases Bool.eq_false_or_eq_true ((mayG d)) with hb_76 | hb_76
        · skip
          refine fw_kh 84 rfl (not_of hb_76) ?_
          refine fw_tl 8 (fun _ h => h.2.2) rfl rfl rfl (by kernel_rfl) (fun _ _ _ _ _ h => h) ?_
          refine fw_tk 10 rfl rfl (by kernel_rfl) (fun _ _ _ _ _ h => h) ?_
          refine fw_tk 11 rfl rfl (by kernel_rfl) (fun _ _ _ _ _ h => h) ?_
          refine fw_tk 12 rfl rfl (by kernel_rfl) (fun _ _ _ _ _ h => h) ?_
          refine fw_tx 13 90 (.int .i64 (((H + N) : Nat) : Int)) rfl rfl rfl rfl (fun a h W hW => by obtain ⟨b72, r73, r74⟩ := hW; exact (run_binOp (h.ev rfl) (h.ev rfl) (by simp [go_sem]) (addIw _ _ _ _ (by omega) (by omega) (by omega)))) (by kernel_rfl) (fun _ _ _ _ _ h => h) ?_
          refine fw_tx 14 91 (.slice ad (H + N) cd) rfl rfl rfl rfl (fun a h W hW => by obtain ⟨b72, r73, r74⟩ := hW; exact (run_sliceOp1 (h.ev rfl) (h.ev rfl) (slcA heA (by omega) hcap.2.2 _))) (by kernel_rfl) (fun _ _ _ _ _ h => h) ?_
          refine fw_o1 9 (by kernel_rfl) ?_
          refine fw_oc rfl Tryd.func27 rfl rfl rfl ((rbytesX d acd awd afd _ _ _ ccd cwd cfd V71 (OL3.lists f75) (may_small hb_76) hb_76)) ?_
          rintro _ V77 ⟨_, aR, cR, rfl, rfl, hoR, hbR⟩
          refine ⟨_, rfl, ?_⟩
          have b78 := b72.trans (hbR.mono b72.size)
          have r79 := r73.below hbR
          have r80 := r74.below hbR
          have f81 := (f75.below hbR)
          refine ⟨⟨b78, r79, r80⟩, ?_⟩
          refine fw_o1 15 (by kernel_rfl) ?_
          refine fw_oc rfl Tryd.func20 rfl rfl rfl ((eqBytes_any _ _ (enG d) (l.take (H + N)) V77 (by have := (en_len hb_76).2; omega) (by rw [List.length_take]; omega) (Sl.of_own hoR).1 (hsT.below b78)).mono fun e X h => (show e = .returned (.bool (decide (enG d = l.take (H + N)))) ∧ Below V77.heap.size V77 X from ⟨h.1, by obtain ⟨m, rfl⟩ := h.2; exact bdrew (Below.refl _ _) m⟩)) ?_
          rintro _ VE ⟨rfl, hbE⟩
          refine ⟨(.bool (decide (enG d = l.take (H + N)))), rfl, ?_⟩
          have b82 := b78.trans (hbE.mono b78.size)
          have r83 := r79.below hbE
          have r84 := r80.below hbE
          have f85 := (f81.below hbE)
          have f86 := (below_own hoR hbE)
          refine ⟨⟨b82, r83, r84⟩, ?_⟩
          refine fw_tk 16 rfl rfl (by kernel_rfl) (fun _ _ _ _ _ h => h) ?_
          refine fw_tk 17 rfl rfl (by kernel_rfl) (fun _ _ _ _ _ h => h) ?_
          refine fw_ht (by kernel_rfl) ?_
          rcases Bool.eq_false_or_eq_true ((decide (enG d = l.take (H + N)))) with hb_87 | hb_87
          · skip
            refine fw_cF rfl (not_of hb_87) (fw_sk (fw_th (fw_sq (fw_rg rfl (fw_ld r84 rfl rfl ?_)))))
            iterate 2 refine fw_pu rfl ?_
            refine fw_ex 99 (.int .i64 (((H + N) : Nat) : Int)) rfl rfl rfl (fun a h => (run_binOp (h.ev rfl) (h.ev rfl) (by simp [go_sem]) (addIw _ _ _ _ (by omega) (by omega) (by omega)))) ?_
            refine fw_st r83 rfl rfl ?_
            intro W88 s89 r90
            have b91 := below_chg b82 s89 (by omega) b82.size
            have r92 := r84.chg s89 (by omega)
            have f93 := (by first | exact OL3.chgN f85 s89 hhLd_q1 | exact OL3.chg f85 s89 (by omega))
            iterate 2 refine fw_pu rfl ?_
            refine fw_dt (fw_rt ?_)
            refine ⟨fun a h => ?_⟩
            have e : paG l = (d, H + N, 0) := by rw [rp_e4 (d := d) (bb := bb) hM hn1 hn2 hy (by rw [← hbody, hd]), if_pos ⟨hb_63, hb_76, of_decide_eq_true hb_87⟩]
            exact ow_retCell2 rfl h.df (h.g 2 rfl) (run_loadVar_mid _ _ 0 _ (Mq.row d (.slice acd d.cs.length ccd) (.slice awd d.ws.length cwd) (.slice afd d.fs.length cfd)) _ (r90.range 0 _ (fun j v hj => by rw [Nat.zero_add j]; exact hj)) Tryd.underlying30 rfl (by kernel_rfl)) (h.g 3 rfl) (h.g 4 rfl) ⟨acd, ccd, awd, cwd, afd, cfd, by rw [e]; first | done | rfl, by rw [e]; exact OL3.mono f93 hw9, b91⟩
          refine fw_cT rfl (not_of hb_87) (fw_sq (fw_rg rfl ?_))
          refine fw_ex 95 (.agg #[.int .i64 0, .string { data := #[] }, .bool false, .int .i64 0, .bool false, .string { data := #[] }, .string { data := #[] }, .int .i64 0, .bool false, .string { data := #[] }, .bool false, .string { data := #[] }, .bool false, .bool false, .int .i64 0, .slice none 0 0, .bool false, .int .i64 0, .bool false, .string { data := #[] }, .int .i64 0, .string { data := #[] }, .slice none 0 0, .slice none 0 0]) rfl rfl rfl (fun a h => (run_buildOp (vs := #[]) (by simp) (by kernel_rfl))) ?_
          refine fw_st r83 rfl rfl ?_
          intro W94 s95 r96
          have b97 := below_chg b82 s95 (by omega) b82.size
          have r98 := r84.chg s95 (by omega)
          have f99 := (by first | exact OL3.chgN f85 s95 hhLd_q1 | exact OL3.chg f85 s95 (by omega))
          iterate 2 refine fw_pu rfl ?_
          refine fw_dt (fw_rt (fw_tr ?_))
          refine ⟨fun a h => ?_⟩
          have e : paG l = (zM 0, 0, 1) := by rw [rp_e4 (d := d) (bb := bb) hM hn1 hn2 hy (by rw [← hbody, hd]), if_neg (by rintro ⟨-, -, h2⟩; exact absurd h2 (of_decide_eq_false hb_87))]
          exact ow_retCell2 rfl h.df (h.g 2 rfl) (ldMq r96) (h.g 3 rfl) (h.g 4 rfl) ⟨none, 0, none, 0, none, 0, by rw [e]; first | done | rfl, by rw [e]; exact OL3.nil _ _ ⟨rfl, rfl, rfl⟩, b97⟩
        refine fw_kh 84 rfl (not_of hb_76) ?_
        refine fw_tk 8 rfl rfl (by kernel_rfl) (fun _ _ _ _ _ h => h) ?_
        refine fw_tk 9 rfl rfl (by kernel_rfl) (fun _ _ _ _ _ h => h) ?_
        refine fw_tk 10 rfl rfl (by kernel_rfl) (fun _ _ _ _ _ h => h) ?_
        refine fw_tk 11 rfl rfl (by kernel_rfl) (fun _ _ _ _ _ h => h) ?_
        refine fw_tk 12 rfl rfl (by kernel_rfl) (fun _ _ _ _ _ h => h) ?_
        refine fw_tk 13 rfl rfl (by kernel_rfl) (fun _ _ _ _ _ h => h) ?_
        refine fw_tk 14 rfl rfl (by kernel_rfl) (fun _ _ _ _ _ h => h) ?_
        refine fw_tk 15 rfl rfl (by kernel_rfl) (fun _ _ _ _ _ h => h) ?_
        refine fw_tk 16 rfl rfl (by kernel_rfl) (fun _ _ _ _ _ h => h) ?_
        refine fw_tk 17 rfl rfl (by kernel_rfl) (fun _ _ _ _ _ h => h) ?_
        refine fw_ht (by kernel_rfl) ?_
        refine fw_cT rfl rfl (fw_sq (fw_rg rfl ?_))
        refine fw_ex 95 (.agg #[.int .i64 0, .string { data := #[] }, .bool false, .int .i64 0, .bool false, .string { data := #[] }, .string { data := #[] }, .int .i64 0, .bool false, .string { data := #[] }, .bool false, .string { data := #[] }, .bool false, .bool false, .int .i64 0, .slice none 0 0, .bool false, .int .i64 0, .bool false, .string { data := #[] }, .int .i64 0, .string { data := #[] }, .slice none 0 0, .slice none 0 0]) rfl rfl rfl (fun a h => (run_buildOp (vs := #[]) (by simp) (by kernel_rfl))) ?_
        refine fw_st r73 rfl rfl ?_
        intro W100 s101 r102
        have b103 := below_chg b72 s101 (by omega) b72.size
        have r104 := r74.chg s101 (by omega)
        have f105 := (by first | exact OL3.chgN f75 s101 hhLd_q1 | exact OL3.chg f75 s101 (by omega))
        iterate 2 refine fw_pu rfl ?_
        refine fw_dt (fw_rt (fw_tr ?_))
        refine ⟨fun a h => ?_⟩
        have e : paG l = (zM 0, 0, 1) := by rw [rp_e4 (d := d) (bb := bb) hM hn1 hn2 hy (by rw [← hbody, hd]), if_neg (by rintro ⟨-, h1, -⟩; rw [hb_76] at h1; cases h1)]
        exact ow_retCell2 rfl h.df (h.g 2 rfl) (ldMq r102) (h.g 3 rfl) (h.g 4 rfl) ⟨none, 0, none, 0, none, 0, by rw [e]; first | done | rfl, by rw [e]; exact OL3.nil _ _ ⟨rfl, rfl, rfl⟩, b103⟩
      refine fw_oa rfl (t := 30) (u := fun q => .pointer (some ⟨q, 0, none⟩)) 7 [.int .i64 0, .string { data := #[] }, .bool false, .int .i64 0, .bool false, .string { data := #[] }, .string { data := #[] }, .int .i64 0, .bool false, .string { data := #[] }, .bool false, .string { data := #[] }, .bool false, .bool false, .int .i64 0, .slice none 0 0, .bool false, .int .i64 0, .bool false, .string { data := #[] }, .int .i64 0, .string { data := #[] }, .slice none 0 0, .slice none 0 0] rfl rfl rfl (fun a h => (run_allocOp (by simp [go_sem, Instr.alloc]))) ?_
      intro q106 W107 g110 s108 r109
      have := Nat.le_trans b39.size g110
      have := r40.lt g110
      have b111 := b39.trans (s108.mono b39.size)
      have r112 := r40.below s108
      refine ⟨⟨b111, r112⟩, ?_⟩
      refine fw_o1 9 (by kernel_rfl) ?_
      refine fw_oc rfl Tryd.func40 rfl rfl rfl ((by have h := readX ((y.toNat : Nat) : Int) (by omega) ⟨hsB.1.below b111, hsB.2⟩; rw [hd] at h; dsimp only at h; exact h)) ?_
      rintro _ VD ⟨acd, ccd, awd, cwd, afd, cfd, rfl, hLd, hbD⟩
      refine ⟨_, rfl, ?_⟩
      have hlt_q1 : q1 < W107.heap.size := r112.2.2
      have hlt_q106 : q106 < W107.heap.size := r109.2.2
      have hw9 : w.heap.size ≤ W107.heap.size := b111.size
      have b113 := b111.trans (hbD.mono b111.size)
      have r114 := r112.below hbD
      have r115 := r109.below hbD
      refine ⟨⟨b113, r114⟩, ?_⟩
      refine fw_tk 10 rfl rfl (by kernel_rfl) (fun _ _ _ _ _ h => h) ?_
      refine fw_tk 11 rfl rfl (by kernel_rfl) (fun _ _ _ _ _ h => h) ?_
      refine fw_tk 12 rfl rfl (by kernel_rfl) (fun _ _ _ _ _ h => h) ?_
      refine fw_o1 14 (by kernel_rfl) ?_
      refine fw_os rfl r115 rfl rfl ?_
      intro W116 s117 r118
      have b119 := below_chg b113 s117 (by omega) b113.size
      have r120 := r114.chg s117 (by omega)
      have f121 := (by first | exact OL3.chgN hLd s117 hhLd_q106 | exact OL3.chg hLd s117 (by omega))
      refine ⟨⟨b119, r120⟩, ?_⟩
      refine fw_tk 15 rfl rfl (by kernel_rfl) (fun _ _ _ _ _ h => h) ?_
      refine fw_ht (by kernel_rfl) ?_
      refine fw_sq (fw_sq ?_)
      refine fw_hr (fun X => Below w.heap.size w X ∧ RowAt X q1 [.int .i64 0, .string { data := #[] }, .bool false, .int .i64 0, .bool false, .string { data := #[] }, .string { data := #[] }, .int .i64 0, .bool false, .string { data := #[] }, .bool false, .string { data := #[] }, .bool false, .bool false, .int .i64 0, .slice none 0 0, .bool false, .int .i64 0, .bool false, .string { data := #[] }, .int .i64 0, .string { data := #[] }, .slice none 0 0, .slice none 0 0] ∧ RowAt X q106 (Mq.row d (.slice acd d.cs.length ccd) (.slice awd d.ws.length cwd) (.slice afd d.fs.length cfd))) (by kernel_rfl) 18 rfl ?_
      intro W122 s123
      have b124 := b119.trans (s123.mono b119.size)
      have r125 := r120.below s123
      have r126 := r118.below s123
      have f127 := (f121.below s123)
      refine ⟨⟨b124, r125, r126⟩, ?_⟩
      refine fw_tk 0 rfl rfl (by kernel_rfl) (fun _ _ _ _ _ h => h) ?_
      refine fw_tk 1 rfl rfl (by kernel_rfl) (fun _ _ _ _ _ h => h) ?_
      refine fw_tk 2 rfl rfl (by kernel_rfl) (fun _ _ _ _ _ h => h) ?_
      rcases Bool.eq_false_or_eq_true (bb) with hb_128 | hb_128
      · skip
        refine fw_kh 79 rfl (not_of (not_of hb_128)) ?_
        refine fw_tk 3 rfl rfl (by kernel_rfl) (fun _ _ _ _ _ h => h) ?_
        refine fw_tk 4 rfl rfl (by kernel_rfl) (fun _ _ _ _ _ h => h) ?_
        refine fw_tk 5 rfl rfl (by kernel_rfl) (fun _ _ _ _ _ h => h) ?_
        refine fw_tk 6 rfl rfl (by kernel_rfl) (fun _ _ _ _ _ h => h) ?_
        refine fw_tk 7 rfl rfl (by kernel_rfl) (fun _ _ _ _ _ h => h) ?_
        refine fw_tk 8 rfl rfl (by kernel_rfl) (fun _ _ _ _ _ h => h) ?_
        refine fw_tk 9 rfl rfl (by kernel_rfl) (fun _ _ _ _ _ h => h) ?_
        refine fw_tk 10 rfl rfl (by kernel_rfl) (fun _ _ _ _ _ h => h) ?_
        refine fw_tk 11 rfl rfl (by kernel_rfl) (fun _ _ _ _ _ h => h) ?_
        refine fw_tk 12 rfl rfl (by kernel_rfl) (fun _ _ _ _ _ h => h) ?_
        refine fw_tk 13 rfl rfl (by kernel_rfl) (fun _ _ _ _ _ h => h) ?_
        refine fw_tk 14 rfl rfl (by kernel_rfl) (fun _ _ _ _ _ h => h) ?_
        refine fw_tk 15 rfl rfl (by kernel_rfl) (fun _ _ _ _ _ h => h) ?_
        refine fw_tk 16 rfl rfl (by kernel_rfl) (fun _ _ _ _ _ h => h) ?_
        refine fw_tk 17 rfl rfl (by kernel_rfl) (fun _ _ _ _ _ h => h) ?_
        refine fw_ht (by kernel_rfl) ?_
        refine fw_cT rfl rfl (fw_sq (fw_rg rfl ?_))
        refine fw_ex 95 (.agg #[.int .i64 0, .string { data := #[] }, .bool false, .int .i64 0, .bool false, .string { data := #[] }, .string { data := #[] }, .int .i64 0, .bool false, .string { data := #[] }, .bool false, .string { data := #[] }, .bool false, .bool false, .int .i64 0, .slice none 0 0, .bool false, .int .i64 0, .bool false, .string { data := #[] }, .int .i64 0, .string { data := #[] }, .slice none 0 0, .slice none 0 0]) rfl rfl rfl (fun a h => (run_buildOp (vs := #[]) (by simp) (by kernel_rfl))) ?_
        refine fw_st r125 rfl rfl ?_
        intro W129 s130 r131
        have b132 := below_chg b124 s130 (by omega) b124.size
        have r133 := r126.chg s130 (by omega)
        have f134 := (by first | exact OL3.chgN f127 s130 hhLd_q1 | exact OL3.chg f127 s130 (by omega))
        iterate 2 refine fw_pu rfl ?_
        refine fw_dt (fw_rt (fw_tr ?_))
        refine ⟨fun a h => ?_⟩
        have e : paG l = (zM 0, 0, 1) := by rw [rp_e4 (d := d) (bb := bb) hM hn1 hn2 hy (by rw [← hbody, hd]), if_neg (by rintro ⟨h1, -, -⟩; rw [hb_128] at h1; cases h1)]
        exact ow_retCell2 rfl h.df (h.g 2 rfl) (ldMq r131) (h.g 3 rfl) (h.g 4 rfl) ⟨none, 0, none, 0, none, 0, by rw [e]; first | done | rfl, by rw [e]; exact OL3.nil _ _ ⟨rfl, rfl, rfl⟩, b132⟩
      refine fw_kh 79 rfl (not_of (not_of hb_128)) ?_
      refine fw_tl 3 (fun _ h => h.2.2) rfl rfl rfl (by kernel_rfl) (fun _ _ _ _ _ h => h) ?_
      refine fw_o1 4 (by kernel_rfl) ?_
      refine fw_oc rfl Tryd.func25 rfl rfl rfl ((by have h := mayX d acd awd afd _ _ _ ccd cwd cfd W122 (OL3.lists f127) hFd ⟨by omega, by omega, by omega⟩ (hT.below b124); rw [mx_va, show (vaG d && baG d) = mayG d from rfl] at h; exact h)) ?_
      rintro _ V136 ⟨rfl, hb135⟩
      refine ⟨(.bool (mayG d)), rfl, ?_⟩
      have b137 := b124.trans (hb135.mono b124.size)
      have r138 := r125.below hb135
      have r139 := r126.below hb135
      have f140 := (f127.below hb135)
      refine ⟨⟨b137, r138, r139⟩, ?_⟩
      refine fw_tk 5 rfl rfl (by kernel_rfl) (fun _ _ _ _ _ h => h) ?_
      refine fw_tk 6 rfl rfl (by kernel_rfl) (fun _ _ _ _ _ h => h) ?_
      refine fw_tk 7 rfl rfl (by kernel_rfl) (fun _ _ _ _ _ h => h) ?_
      rcases Bool.eq_false_or_eq_true ((mayG d)) with hb_141 | hb_141
      · skip
        refine fw_kh 84 rfl (not_of hb_141) ?_
        refine fw_tl 8 (fun _ h => h.2.2) rfl rfl rfl (by kernel_rfl) (fun _ _ _ _ _ h => h) ?_
        refine fw_tk 10 rfl rfl (by kernel_rfl) (fun _ _ _ _ _ h => h) ?_
        refine fw_tk 11 rfl rfl (by kernel_rfl) (fun _ _ _ _ _ h => h) ?_
        refine fw_tk 12 rfl rfl (by kernel_rfl) (fun _ _ _ _ _ h => h) ?_
        refine fw_tx 13 90 (.int .i64 (((H + N) : Nat) : Int)) rfl rfl rfl rfl (fun a h W hW => by obtain ⟨b137, r138, r139⟩ := hW; exact (run_binOp (h.ev rfl) (h.ev rfl) (by simp [go_sem]) (addIw _ _ _ _ (by omega) (by omega) (by omega)))) (by kernel_rfl) (fun _ _ _ _ _ h => h) ?_
        refine fw_tx 14 91 (.slice ad (H + N) cd) rfl rfl rfl rfl (fun a h W hW => by obtain ⟨b137, r138, r139⟩ := hW; exact (run_sliceOp1 (h.ev rfl) (h.ev rfl) (slcA heA (by omega) hcap.2.2 _))) (by kernel_rfl) (fun _ _ _ _ _ h => h) ?_
        refine fw_o1 9 (by kernel_rfl) ?_
        refine fw_oc rfl Tryd.func27 rfl rfl rfl ((rbytesX d acd awd afd _ _ _ ccd cwd cfd V136 (OL3.lists f140) (may_small hb_141) hb_141)) ?_
        rintro _ V142 ⟨_, aR, cR, rfl, rfl, hoR, hbR⟩
        refine ⟨_, rfl, ?_⟩
        have b143 := b137.trans (hbR.mono b137.size)
        have r144 := r138.below hbR
        have r145 := r139.below hbR
        have f146 := (f140.below hbR)
        refine ⟨⟨b143, r144, r145⟩, ?_⟩
        refine fw_o1 15 (by kernel_rfl) ?_
        refine fw_oc rfl Tryd.func20 rfl rfl rfl ((eqBytes_any _ _ (enG d) (l.take (H + N)) V142 (by have := (en_len hb_141).2; omega) (by rw [List.length_take]; omega) (Sl.of_own hoR).1 (hsT.below b143)).mono fun e X h => (show e = .returned (.bool (decide (enG d = l.take (H + N)))) ∧ Below V142.heap.size V142 X from ⟨h.1, by obtain ⟨m, rfl⟩ := h.2; exact bdrew (Below.refl _ _) m⟩)) ?_
        rintro _ VE ⟨rfl, hbE⟩
        refine ⟨(.bool (decide (enG d = l.take (H + N)))), rfl, ?_⟩
        have b147 := b143.trans (hbE.mono b143.size)
        have r148 := r144.below hbE
        have r149 := r145.below hbE
        have f150 := (f146.below hbE)
        have f151 := (below_own hoR hbE)
        refine ⟨⟨b147, r148, r149⟩, ?_⟩
        refine fw_tk 16 rfl rfl (by kernel_rfl) (fun _ _ _ _ _ h => h) ?_
        refine fw_tk 17 rfl rfl (by kernel_rfl) (fun _ _ _ _ _ h => h) ?_
        refine fw_ht (by kernel_rfl) ?_
        rcases Bool.eq_false_or_eq_true ((decide (enG d = l.take (H + N)))) with hb_152 | hb_152
        · skip
          refine fw_cF rfl (not_of hb_152) (fw_sk (fw_th (fw_sq (fw_rg rfl (fw_ld r149 rfl rfl ?_)))))
          iterate 2 refine fw_pu rfl ?_
          refine fw_ex 99 (.int .i64 (((H + N) : Nat) : Int)) rfl rfl rfl (fun a h => (run_binOp (h.ev rfl) (h.ev rfl) (by simp [go_sem]) (addIw _ _ _ _ (by omega) (by omega) (by omega)))) ?_
          refine fw_st r148 rfl rfl ?_
          intro W153 s154 r155
          have b156 := below_chg b147 s154 (by omega) b147.size
          have r157 := r149.chg s154 (by omega)
          have f158 := (by first | exact OL3.chgN f150 s154 hhLd_q1 | exact OL3.chg f150 s154 (by omega))
          iterate 2 refine fw_pu rfl ?_
          refine fw_dt (fw_rt ?_)
          refine ⟨fun a h => ?_⟩
          have e : paG l = (d, H + N, 0) := by rw [rp_e4 (d := d) (bb := bb) hM hn1 hn2 hy (by rw [← hbody, hd]), if_pos ⟨hb_128, hb_141, of_decide_eq_true hb_152⟩]
          exact ow_retCell2 rfl h.df (h.g 2 rfl) (run_loadVar_mid _ _ 0 _ (Mq.row d (.slice acd d.cs.length ccd) (.slice awd d.ws.length cwd) (.slice afd d.fs.length cfd)) _ (r155.range 0 _ (fun j v hj => by rw [Nat.zero_add j]; exact hj)) Tryd.underlying30 rfl (by kernel_rfl)) (h.g 3 rfl) (h.g 4 rfl) ⟨acd, ccd, awd, cwd, afd, cfd, by rw [e]; first | done | rfl, by rw [e]; exact OL3.mono f158 hw9, b156⟩
        refine fw_cT rfl (not_of hb_152) (fw_sq (fw_rg rfl ?_))
        refine fw_ex 95 (.agg #[.int .i64 0, .string { data := #[] }, .bool false, .int .i64 0, .bool false, .string { data := #[] }, .string { data := #[] }, .int .i64 0, .bool false, .string { data := #[] }, .bool false, .string { data := #[] }, .bool false, .bool false, .int .i64 0, .slice none 0 0, .bool false, .int .i64 0, .bool false, .string { data := #[] }, .int .i64 0, .string { data := #[] }, .slice none 0 0, .slice none 0 0]) rfl rfl rfl (fun a h => (run_buildOp (vs := #[]) (by simp) (by kernel_rfl))) ?_
        refine fw_st r148 rfl rfl ?_
        intro W159 s160 r161
        have b162 := below_chg b147 s160 (by omega) b147.size
        have r163 := r149.chg s160 (by omega)
        have f164 := (by first | exact OL3.chgN f150 s160 hhLd_q1 | exact OL3.chg f150 s160 (by omega))
        iterate 2 refine fw_pu rfl ?_
        refine fw_dt (fw_rt (fw_tr ?_))
        refine ⟨fun a h => ?_⟩
        have e : paG l = (zM 0, 0, 1) := by rw [rp_e4 (d := d) (bb := bb) hM hn1 hn2 hy (by rw [← hbody, hd]), if_neg (by rintro ⟨-, -, h2⟩; exact absurd h2 (of_decide_eq_false hb_152))]
        exact ow_retCell2 rfl h.df (h.g 2 rfl) (ldMq r161) (h.g 3 rfl) (h.g 4 rfl) ⟨none, 0, none, 0, none, 0, by rw [e]; first | done | rfl, by rw [e]; exact OL3.nil _ _ ⟨rfl, rfl, rfl⟩, b162⟩
      refine fw_kh 84 rfl (not_of hb_141) ?_
      refine fw_tk 8 rfl rfl (by kernel_rfl) (fun _ _ _ _ _ h => h) ?_
      refine fw_tk 9 rfl rfl (by kernel_rfl) (fun _ _ _ _ _ h => h) ?_
      refine fw_tk 10 rfl rfl (by kernel_rfl) (fun _ _ _ _ _ h => h) ?_
      refine fw_tk 11 rfl rfl (by kernel_rfl) (fun _ _ _ _ _ h => h) ?_
      refine fw_tk 12 rfl rfl (by kernel_rfl) (fun _ _ _ _ _ h => h) ?_
      refine fw_tk 13 rfl rfl (by kernel_rfl) (fun _ _ _ _ _ h => h) ?_
      refine fw_tk 14 rfl rfl (by kernel_rfl) (fun _ _ _ _ _ h => h) ?_
      refine fw_tk 15 rfl rfl (by kernel_rfl) (fun _ _ _ _ _ h => h) ?_
      refine fw_tk 16 rfl rfl (by kernel_rfl) (fun _ _ _ _ _ h => h) ?_
      refine fw_tk 17 rfl rfl (by kernel_rfl) (fun _ _ _ _ _ h => h) ?_
      refine fw_ht (by kernel_rfl) ?_
      refine fw_cT rfl rfl (fw_sq (fw_rg rfl ?_))
      refine fw_ex 95 (.agg #[.int .i64 0, .string { data := #[] }, .bool false, .int .i64 0, .bool false, .string { data := #[] }, .string { data := #[] }, .int .i64 0, .bool false, .string { data := #[] }, .bool false, .string { data := #[] }, .bool false, .bool false, .int .i64 0, .slice none 0 0, .bool false, .int .i64 0, .bool false, .string { data := #[] }, .int .i64 0, .string { data := #[] }, .slice none 0 0, .slice none 0 0]) rfl rfl rfl (fun a h => (run_buildOp (vs := #[]) (by simp) (by kernel_rfl))) ?_
      refine fw_st r138 rfl rfl ?_
      intro W165 s166 r167
      have b168 := below_chg b137 s166 (by omega) b137.size
      have r169 := r139.chg s166 (by omega)
      have f170 := (by first | exact OL3.chgN f140 s166 hhLd_q1 | exact OL3.chg f140 s166 (by omega))
      iterate 2 refine fw_pu rfl ?_
      refine fw_dt (fw_rt (fw_tr ?_))
      refine ⟨fun a h => ?_⟩
      have e : paG l = (zM 0, 0, 1) := by rw [rp_e4 (d := d) (bb := bb) hM hn1 hn2 hy (by rw [← hbody, hd]), if_neg (by rintro ⟨-, h1, -⟩; rw [hb_141] at h1; cases h1)]
      exact ow_retCell2 rfl h.df (h.g 2 rfl) (ldMq r167) (h.g 3 rfl) (h.g 4 rfl) ⟨none, 0, none, 0, none, 0, by rw [e]; first | done | rfl, by rw [e]; exact OL3.nil _ _ ⟨rfl, rfl, rfl⟩, b168⟩
    refine fw_kn 43 rfl hb_21 ?_
    iterate 7 refine fw_pu rfl ?_
    refine fw_dt (fw_cF rfl rfl (fw_sk (fw_th (fw_sq (fw_sq ?_)))))
    have hM : meG l = (k + 2, acc + x.toNat % 128 * 128 ^ k, 0) := by rw [hinv, hms, if_pos (by have h := of_decide_eq_true hb_20; omega), if_pos (.inr (by have h := of_decide_eq_false hb_21; omega)), Nat.mod_eq_of_lt (by have h := of_decide_eq_true hb_20; omega)]
    have hHN := me_bd hM
    have hH2 := me_H hM
    generalize hHH : k + 2 = H at *
    generalize hNN : acc + x.toNat % 128 * 128 ^ k = N at *
    refine fw_rg rfl ?_
    iterate 2 refine fw_pu rfl ?_
    refine fw_ex 54 (.int .i64 (((H + N) : Nat) : Int)) rfl rfl rfl (fun a h => (run_binOp (h.ev rfl) (h.ev rfl) (by simp [go_sem]) (addIw _ _ _ _ (by omega) (by omega) (by omega)))) ?_
    refine fw_pu rfl (fw_dt ?_)
    rcases Bool.eq_false_or_eq_true ((decide (1024 < (((H + N) : Nat) : Int)))) with hb_171 | hb_171
    · skip
      refine fw_cT rfl hb_171 (fw_sq (fw_rg rfl ?_))
      refine fw_ex 56 (.agg #[.int .i64 0, .string { data := #[] }, .bool false, .int .i64 0, .bool false, .string { data := #[] }, .string { data := #[] }, .int .i64 0, .bool false, .string { data := #[] }, .bool false, .string { data := #[] }, .bool false, .bool false, .int .i64 0, .slice none 0 0, .bool false, .int .i64 0, .bool false, .string { data := #[] }, .int .i64 0, .string { data := #[] }, .slice none 0 0, .slice none 0 0]) rfl rfl rfl (fun a h => (run_buildOp (vs := #[]) (by simp) (by kernel_rfl))) ?_
      refine fw_st rW12_0 rfl rfl ?_
      intro W172 s173 r174
      have b175 := below_chg bW12 s173 (by omega) bW12.size
      iterate 2 refine fw_pu rfl ?_
      refine fw_dt (fw_rt (fw_tr ?_))
      refine ⟨fun a h => ?_⟩
      have e : paG l = (zM 0, 0, 2) := pa_e2 hM (by have h := of_decide_eq_true hb_171; omega)
      exact ow_retCell2 rfl h.df (h.g 2 rfl) (ldMq r174) (h.g 3 rfl) (h.g 4 rfl) ⟨none, 0, none, 0, none, 0, by rw [e]; first | done | rfl, by rw [e]; exact OL3.nil _ _ ⟨rfl, rfl, rfl⟩, b175⟩
    refine fw_cF rfl hb_171 (fw_sk (fw_th (fw_sq (fw_sq (fw_rg rfl ?_)))))
    iterate 4 refine fw_pu rfl ?_
    refine fw_ex 61 (.int .i64 (((H + N) : Nat) : Int)) rfl rfl rfl (fun a h => (run_binOp (h.ev rfl) (h.ev rfl) (by simp [go_sem]) (addIw _ _ _ _ (by omega) (by omega) (by omega)))) ?_
    refine fw_pu rfl (fw_dt ?_)
    rcases Bool.eq_false_or_eq_true ((decide (((l.length : Nat) : Int) < (((H + N) : Nat) : Int)))) with hb_176 | hb_176
    · skip
      refine fw_cT rfl hb_176 (fw_sq (fw_rg rfl ?_))
      refine fw_ex 63 (.agg #[.int .i64 0, .string { data := #[] }, .bool false, .int .i64 0, .bool false, .string { data := #[] }, .string { data := #[] }, .int .i64 0, .bool false, .string { data := #[] }, .bool false, .string { data := #[] }, .bool false, .bool false, .int .i64 0, .slice none 0 0, .bool false, .int .i64 0, .bool false, .string { data := #[] }, .int .i64 0, .string { data := #[] }, .slice none 0 0, .slice none 0 0]) rfl rfl rfl (fun a h => (run_buildOp (vs := #[]) (by simp) (by kernel_rfl))) ?_
      refine fw_st rW12_0 rfl rfl ?_
      intro W177 s178 r179
      have b180 := below_chg bW12 s178 (by omega) bW12.size
      iterate 2 refine fw_pu rfl ?_
      refine fw_dt (fw_rt (fw_tr ?_))
      refine ⟨fun a h => ?_⟩
      have e : paG l = (zM 0, 0, 7) := pa_e3 hM (by have h := of_decide_eq_false hb_171; omega) (by have h := of_decide_eq_true hb_176; omega)
      exact ow_retCell2 rfl h.df (h.g 2 rfl) (ldMq r179) (h.g 3 rfl) (h.g 4 rfl) ⟨none, 0, none, 0, none, 0, by rw [e]; first | done | rfl, by rw [e]; exact OL3.nil _ _ ⟨rfl, rfl, rfl⟩, b180⟩
    refine fw_cF rfl hb_176 (fw_sk (fw_th (fw_sq ?_)))
    have hn1 : ¬ 1024 < H + N := by have h := of_decide_eq_false hb_171; omega
    have hn2 : ¬ l.length < H + N := by have h := of_decide_eq_false hb_176; omega
    obtain ⟨y, hy⟩ : ∃ y, l[0]? = some y := ⟨_, List.getElem?_eq_getElem (show 0 < l.length by omega)⟩
    obtain ⟨bQ, oQ, haQ, hbQ, hcQ⟩ := sl_at hs hy
    have hcap := sl_cap hs
    have hy256 := y.toNat_lt
    obtain ⟨body, hbody⟩ : ∃ z, z = (l.take (H + N)).drop H := ⟨_, rfl⟩
    have hbl : body.length = N := by rw [hbody, List.length_drop, List.length_take]; omega
    have heA : ∃ b o, ad = some ⟨b, o, none⟩ := ⟨_, _, haQ⟩
    have hsB : SlN w (.slice (adrAt bQ oQ cd H) body.length (cd - H)) body := by have hs2 := hs; rw [haQ] at hs2; have g := SlN.at2 hs2 H (H + N) (by omega) (by omega); rw [hbl, hbody, List.drop_take]; rw [Nat.add_sub_cancel_left] at g ⊢; exact g
    have hsT : Sl w (.slice ad (H + N) cd) (l.take (H + N)) := sl_pre hs heA (by omega)
    obtain ⟨d, bb, hd⟩ : ∃ d bb, rcG ((y.toNat : Nat) : Int) body = (d, bb) := ⟨_, _, rfl⟩
    obtain ⟨hFd, hNc, hNw, hNf⟩ : RNear d := by have h9 := rc_near (f := ((y.toNat : Nat) : Int)) (l := body) (by rw [hbl]; unfold far; omega); rw [hd] at h9; exact h9
    refine fw_hr (fun X => Below w.heap.size w X ∧ RowAt X q1 [.int .i64 0, .string { data := #[] }, .bool false, .int .i64 0, .bool false, .string { data := #[] }, .string { data := #[] }, .int .i64 0, .bool false, .string { data := #[] }, .bool false, .string { data := #[] }, .bool false, .bool false, .int .i64 0, .slice none 0 0, .bool false, .int .i64 0, .bool false, .string { data := #[] }, .int .i64 0, .string { data := #[] }, .slice none 0 0, .slice none 0 0]) (by kernel_rfl) 16 rfl ?_
    intro W181 s182
    have b183 := bW12.trans (s182.mono bW12.size)
    have r184 := rW12_0.below s182
    refine ⟨⟨b183, r184⟩, ?_⟩
    refine fw_tk 0 rfl rfl (by kernel_rfl) (fun _ _ _ _ _ h => h) ?_
    refine fw_tx 1 66 (.pointer (some ⟨bQ, (oQ + 0), none⟩)) rfl rfl rfl rfl (fun a h W hW => by obtain ⟨b183, r184⟩ := hW; exact (run_indexOp (h.ev rfl) (h.ev rfl) (by rw [haQ]; exact idxU8 _ _ _ _ 0 (by omega) _))) (by kernel_rfl) (fun _ _ _ _ _ h => h) ?_
    refine fw_tx 2 67 (.int .u8 ((y.toNat : Nat) : Int)) rfl rfl rfl rfl (fun a h W hW => by obtain ⟨b183, r184⟩ := hW; exact (run_loadOp (h.ev rfl) (ld8 ((Below.cell b183 (p := ⟨bQ, oQ + 0, none⟩) hbQ).trans hcQ)))) (by kernel_rfl) (fun _ _ _ _ _ h => h) ?_
    refine fw_tk 3 rfl rfl (by kernel_rfl) (fun _ _ _ _ _ h => h) ?_
    refine fw_tk 4 rfl rfl (by kernel_rfl) (fun _ _ _ _ _ h => h) ?_
    refine fw_tk 5 rfl rfl (by kernel_rfl) (fun _ _ _ _ _ h => h) ?_
    refine fw_tk 6 rfl rfl (by kernel_rfl) (fun _ _ _ _ _ h => h) ?_
    refine fw_tx 7 72 (.int .i64 (((H + N) : Nat) : Int)) rfl rfl rfl rfl (fun a h W hW => by obtain ⟨b183, r184⟩ := hW; exact (run_binOp (h.ev rfl) (h.ev rfl) (by simp [go_sem]) (addIw _ _ _ _ (by omega) (by omega) (by omega)))) (by kernel_rfl) (fun _ _ _ _ _ h => h) ?_
    refine fw_tx 8 73 (.slice (adrAt bQ oQ cd H) body.length (cd - H)) rfl rfl rfl rfl (fun a h W hW => by obtain ⟨b183, r184⟩ := hW; exact (run_sliceOp2 (h.ev rfl) (h.ev rfl) (h.ev rfl) (by rw [haQ]; exact slc2 _ _ _ _ _ _ _ _ hbl (by omega) hcap.2.2))) (by kernel_rfl) (fun _ _ _ _ _ h => h) ?_
    refine fw_o2 9 13 (by kernel_rfl) ?_ ?_
    · skip
      refine fw_oc rfl Tryd.func40 rfl rfl rfl ((by have h := readX ((y.toNat : Nat) : Int) (by omega) ⟨hsB.1.below b183, hsB.2⟩; rw [hd] at h; dsimp only at h; exact h)) ?_
      rintro _ VD ⟨acd, ccd, awd, cwd, afd, cfd, rfl, hLd, hbD⟩
      refine ⟨_, rfl, ?_⟩
      have hlt_q1 : q1 < W181.heap.size := r184.2.2
      have hw9 : w.heap.size ≤ W181.heap.size := b183.size
      have b185 := b183.trans (hbD.mono b183.size)
      have r186 := r184.below hbD
      refine ⟨⟨b185, r186⟩, ?_⟩
      refine fw_tk 10 rfl rfl (by kernel_rfl) (fun _ _ _ _ _ h => h) ?_
      refine fw_tk 11 rfl rfl (by kernel_rfl) (fun _ _ _ _ _ h => h) ?_
      refine fw_tk 12 rfl rfl (by kernel_rfl) (fun _ _ _ _ _ h => h) ?_
      refine fw_o1 13 (by kernel_rfl) ?_
      refine fw_oa rfl (t := 30) (u := fun q => .pointer (some ⟨q, 0, none⟩)) 7 [.int .i64 0, .string { data := #[] }, .bool false, .int .i64 0, .bool false, .string { data := #[] }, .string { data := #[] }, .int .i64 0, .bool false, .string { data := #[] }, .bool false, .string { data := #[] }, .bool false, .bool false, .int .i64 0, .slice none 0 0, .bool false, .int .i64 0, .bool false, .string { data := #[] }, .int .i64 0, .string { data := #[] }, .slice none 0 0, .slice none 0 0] rfl rfl rfl (fun a h => (run_allocOp (by simp [go_sem, Instr.alloc]))) ?_
      intro q187 W188 g191 s189 r190
      have := Nat.le_trans b185.size g191
      have := r186.lt g191
      have hhLd_q187 := OL3.ltq hLd g191
      have b192 := b185.trans (s189.mono b185.size)
      have r193 := r186.below s189
      have f194 := (hLd.below s189)
      refine ⟨⟨b192, r193⟩, ?_⟩
      refine fw_o1 14 (by kernel_rfl) ?_
      refine fw_os rfl r190 rfl rfl ?_
      intro W195 s196 r197
      have b198 := below_chg b192 s196 (by omega) b192.size
      have r199 := r193.chg s196 (by omega)
      have f200 := (by first | exact OL3.chgN f194 s196 hhLd_q187 | exact OL3.chg f194 s196 (by omega))
      refine ⟨⟨b198, r199⟩, ?_⟩
      refine fw_tk 15 rfl rfl (by kernel_rfl) (fun _ _ _ _ _ h => h) ?_
      refine fw_ht (by kernel_rfl) ?_
      refine fw_sq (fw_sq ?_)
      refine fw_hr (fun X => Below w.heap.size w X ∧ RowAt X q1 [.int .i64 0, .string { data := #[] }, .bool false, .int .i64 0, .bool false, .string { data := #[] }, .string { data := #[] }, .int .i64 0, .bool false, .string { data := #[] }, .bool false, .string { data := #[] }, .bool false, .bool false, .int .i64 0, .slice none 0 0, .bool false, .int .i64 0, .bool false, .string { data := #[] }, .int .i64 0, .string { data := #[] }, .slice none 0 0, .slice none 0 0] ∧ RowAt X q187 (Mq.row d (.slice acd d.cs.length ccd) (.slice awd d.ws.length cwd) (.slice afd d.fs.length cfd))) (by kernel_rfl) 18 rfl ?_
      intro W201 s202
      have b203 := b198.trans (s202.mono b198.size)
      have r204 := r199.below s202
      have r205 := r197.below s202
      have f206 := (f200.below s202)
      refine ⟨⟨b203, r204, r205⟩, ?_⟩
      refine fw_tk 0 rfl rfl (by kernel_rfl) (fun _ _ _ _ _ h => h) ?_
      refine fw_tk 1 rfl rfl (by kernel_rfl) (fun _ _ _ _ _ h => h) ?_
      refine fw_tk 2 rfl rfl (by kernel_rfl) (fun _ _ _ _ _ h => h) ?_
      rcases Bool.eq_false_or_eq_true (bb) with hb_207 | hb_207
      · skip
        refine fw_kh 79 rfl (not_of (not_of hb_207)) ?_
        refine fw_tk 3 rfl rfl (by kernel_rfl) (fun _ _ _ _ _ h => h) ?_
        refine fw_tk 4 rfl rfl (by kernel_rfl) (fun _ _ _ _ _ h => h) ?_
        refine fw_tk 5 rfl rfl (by kernel_rfl) (fun _ _ _ _ _ h => h) ?_
        refine fw_tk 6 rfl rfl (by kernel_rfl) (fun _ _ _ _ _ h => h) ?_
        refine fw_tk 7 rfl rfl (by kernel_rfl) (fun _ _ _ _ _ h => h) ?_
        refine fw_tk 8 rfl rfl (by kernel_rfl) (fun _ _ _ _ _ h => h) ?_
        refine fw_tk 9 rfl rfl (by kernel_rfl) (fun _ _ _ _ _ h => h) ?_
        refine fw_tk 10 rfl rfl (by kernel_rfl) (fun _ _ _ _ _ h => h) ?_
        refine fw_tk 11 rfl rfl (by kernel_rfl) (fun _ _ _ _ _ h => h) ?_
        refine fw_tk 12 rfl rfl (by kernel_rfl) (fun _ _ _ _ _ h => h) ?_
        refine fw_tk 13 rfl rfl (by kernel_rfl) (fun _ _ _ _ _ h => h) ?_
        refine fw_tk 14 rfl rfl (by kernel_rfl) (fun _ _ _ _ _ h => h) ?_
        refine fw_tk 15 rfl rfl (by kernel_rfl) (fun _ _ _ _ _ h => h) ?_
        refine fw_tk 16 rfl rfl (by kernel_rfl) (fun _ _ _ _ _ h => h) ?_
        refine fw_tk 17 rfl rfl (by kernel_rfl) (fun _ _ _ _ _ h => h) ?_
        refine fw_ht (by kernel_rfl) ?_
        refine fw_cT rfl rfl (fw_sq (fw_rg rfl ?_))
        refine fw_ex 95 (.agg #[.int .i64 0, .string { data := #[] }, .bool false, .int .i64 0, .bool false, .string { data := #[] }, .string { data := #[] }, .int .i64 0, .bool false, .string { data := #[] }, .bool false, .string { data := #[] }, .bool false, .bool false, .int .i64 0, .slice none 0 0, .bool false, .int .i64 0, .bool false, .string { data := #[] }, .int .i64 0, .string { data := #[] }, .slice none 0 0, .slice none 0 0]) rfl rfl rfl (fun a h => (run_buildOp (vs := #[]) (by simp) (by kernel_rfl))) ?_
        refine fw_st r204 rfl rfl ?_
        intro W208 s209 r210
        have b211 := below_chg b203 s209 (by omega) b203.size
        have r212 := r205.chg s209 (by omega)
        have f213 := (by first | exact OL3.chgN f206 s209 hhLd_q1 | exact OL3.chg f206 s209 (by omega))
        iterate 2 refine fw_pu rfl ?_
        refine fw_dt (fw_rt (fw_tr ?_))
        refine ⟨fun a h => ?_⟩
        have e : paG l = (zM 0, 0, 1) := by rw [rp_e4 (d := d) (bb := bb) hM hn1 hn2 hy (by rw [← hbody, hd]), if_neg (by rintro ⟨h1, -, -⟩; rw [hb_207] at h1; cases h1)]
        exact ow_retCell2 rfl h.df (h.g 2 rfl) (ldMq r210) (h.g 3 rfl) (h.g 4 rfl) ⟨none, 0, none, 0, none, 0, by rw [e]; first | done | rfl, by rw [e]; exact OL3.nil _ _ ⟨rfl, rfl, rfl⟩, b211⟩
      refine fw_kh 79 rfl (not_of (not_of hb_207)) ?_
      refine fw_tl 3 (fun _ h => h.2.2) rfl rfl rfl (by kernel_rfl) (fun _ _ _ _ _ h => h) ?_
      refine fw_o1 4 (by kernel_rfl) ?_
      refine fw_oc rfl Tryd.func25 rfl rfl rfl ((by have h := mayX d acd awd afd _ _ _ ccd cwd cfd W201 (OL3.lists f206) hFd ⟨by omega, by omega, by omega⟩ (hT.below b203); rw [mx_va, show (vaG d && baG d) = mayG d from rfl] at h; exact h)) ?_
      rintro _ V215 ⟨rfl, hb214⟩
      refine ⟨(.bool (mayG d)), rfl, ?_⟩
      have b216 := b203.trans (hb214.mono b203.size)
      have r217 := r204.below hb214
      have r218 := r205.below hb214
      have f219 := (f206.below hb214)
      refine ⟨⟨b216, r217, r218⟩, ?_⟩
      refine fw_tk 5 rfl rfl (by kernel_rfl) (fun _ _ _ _ _ h => h) ?_
      refine fw_tk 6 rfl rfl (by kernel_rfl) (fun _ _ _ _ _ h => h) ?_
      refine fw_tk 7 rfl rfl (by kernel_rfl) (fun _ _ _ _ _ h => h) ?_
      rcases Bool.eq_false_or_eq_true ((mayG d)) with hb_220 | hb_220
      · skip
        refine fw_kh 84 rfl (not_of hb_220) ?_
        refine fw_tl 8 (fun _ h => h.2.2) rfl rfl rfl (by kernel_rfl) (fun _ _ _ _ _ h => h) ?_
        refine fw_tk 10 rfl rfl (by kernel_rfl) (fun _ _ _ _ _ h => h) ?_
        refine fw_tk 11 rfl rfl (by kernel_rfl) (fun _ _ _ _ _ h => h) ?_
        refine fw_tk 12 rfl rfl (by kernel_rfl) (fun _ _ _ _ _ h => h) ?_
        refine fw_tx 13 90 (.int .i64 (((H + N) : Nat) : Int)) rfl rfl rfl rfl (fun a h W hW => by obtain ⟨b216, r217, r218⟩ := hW; exact (run_binOp (h.ev rfl) (h.ev rfl) (by simp [go_sem]) (addIw _ _ _ _ (by omega) (by omega) (by omega)))) (by kernel_rfl) (fun _ _ _ _ _ h => h) ?_
        refine fw_tx 14 91 (.slice ad (H + N) cd) rfl rfl rfl rfl (fun a h W hW => by obtain ⟨b216, r217, r218⟩ := hW; exact (run_sliceOp1 (h.ev rfl) (h.ev rfl) (slcA heA (by omega) hcap.2.2 _))) (by kernel_rfl) (fun _ _ _ _ _ h => h) ?_
        refine fw_o1 9 (by kernel_rfl) ?_
        refine fw_oc rfl Tryd.func27 rfl rfl rfl ((rbytesX d acd awd afd _ _ _ ccd cwd cfd V215 (OL3.lists f219) (may_small hb_220) hb_220)) ?_
        rintro _ V221 ⟨_, aR, cR, rfl, rfl, hoR, hbR⟩
        refine ⟨_, rfl, ?_⟩
        have b222 := b216.trans (hbR.mono b216.size)
        have r223 := r217.below hbR
        have r224 := r218.below hbR
        have f225 := (f219.below hbR)
        refine ⟨⟨b222, r223, r224⟩, ?_⟩
        refine fw_o1 15 (by kernel_rfl) ?_
        refine fw_oc rfl Tryd.func20 rfl rfl rfl ((eqBytes_any _ _ (enG d) (l.take (H + N)) V221 (by have := (en_len hb_220).2; omega) (by rw [List.length_take]; omega) (Sl.of_own hoR).1 (hsT.below b222)).mono fun e X h => (show e = .returned (.bool (decide (enG d = l.take (H + N)))) ∧ Below V221.heap.size V221 X from ⟨h.1, by obtain ⟨m, rfl⟩ := h.2; exact bdrew (Below.refl _ _) m⟩)) ?_
        rintro _ VE ⟨rfl, hbE⟩
        refine ⟨(.bool (decide (enG d = l.take (H + N)))), rfl, ?_⟩
        have b226 := b222.trans (hbE.mono b222.size)
        have r227 := r223.below hbE
        have r228 := r224.below hbE
        have f229 := (f225.below hbE)
        have f230 := (below_own hoR hbE)
        refine ⟨⟨b226, r227, r228⟩, ?_⟩
        refine fw_tk 16 rfl rfl (by kernel_rfl) (fun _ _ _ _ _ h => h) ?_
        refine fw_tk 17 rfl rfl (by kernel_rfl) (fun _ _ _ _ _ h => h) ?_
        refine fw_ht (by kernel_rfl) ?_
        rcases Bool.eq_false_or_eq_true ((decide (enG d = l.take (H + N)))) with hb_231 | hb_231
        · skip
          refine fw_cF rfl (not_of hb_231) (fw_sk (fw_th (fw_sq (fw_rg rfl (fw_ld r228 rfl rfl ?_)))))
          iterate 2 refine fw_pu rfl ?_
          refine fw_ex 99 (.int .i64 (((H + N) : Nat) : Int)) rfl rfl rfl (fun a h => (run_binOp (h.ev rfl) (h.ev rfl) (by simp [go_sem]) (addIw _ _ _ _ (by omega) (by omega) (by omega)))) ?_
          refine fw_st r227 rfl rfl ?_
          intro W232 s233 r234
          have b235 := below_chg b226 s233 (by omega) b226.size
          have r236 := r228.chg s233 (by omega)
          have f237 := (by first | exact OL3.chgN f229 s233 hhLd_q1 | exact OL3.chg f229 s233 (by omega))
          iterate 2 refine fw_pu rfl ?_
          refine fw_dt (fw_rt ?_)
          refine ⟨fun a h => ?_⟩
          have e : paG l = (d, H + N, 0) := by rw [rp_e4 (d := d) (bb := bb) hM hn1 hn2 hy (by rw [← hbody, hd]), if_pos ⟨hb_207, hb_220, of_decide_eq_true hb_231⟩]
          exact ow_retCell2 rfl h.df (h.g 2 rfl) (run_loadVar_mid _ _ 0 _ (Mq.row d (.slice acd d.cs.length ccd) (.slice awd d.ws.length cwd) (.slice afd d.fs.length cfd)) _ (r234.range 0 _ (fun j v hj => by rw [Nat.zero_add j]; exact hj)) Tryd.underlying30 rfl (by kernel_rfl)) (h.g 3 rfl) (h.g 4 rfl) ⟨acd, ccd, awd, cwd, afd, cfd, by rw [e]; first | done | rfl, by rw [e]; exact OL3.mono f237 hw9, b235⟩
        refine fw_cT rfl (not_of hb_231) (fw_sq (fw_rg rfl ?_))
        refine fw_ex 95 (.agg #[.int .i64 0, .string { data := #[] }, .bool false, .int .i64 0, .bool false, .string { data := #[] }, .string { data := #[] }, .int .i64 0, .bool false, .string { data := #[] }, .bool false, .string { data := #[] }, .bool false, .bool false, .int .i64 0, .slice none 0 0, .bool false, .int .i64 0, .bool false, .string { data := #[] }, .int .i64 0, .string { data := #[] }, .slice none 0 0, .slice none 0 0]) rfl rfl rfl (fun a h => (run_buildOp (vs := #[]) (by simp) (by kernel_rfl))) ?_
        refine fw_st r227 rfl rfl ?_
        intro W238 s239 r240
        have b241 := below_chg b226 s239 (by omega) b226.size
        have r242 := r228.chg s239 (by omega)
        have f243 := (by first | exact OL3.chgN f229 s239 hhLd_q1 | exact OL3.chg f229 s239 (by omega))
        iterate 2 refine fw_pu rfl ?_
        refine fw_dt (fw_rt (fw_tr ?_))
        refine ⟨fun a h => ?_⟩
        have e : paG l = (zM 0, 0, 1) := by rw [rp_e4 (d := d) (bb := bb) hM hn1 hn2 hy (by rw [← hbody, hd]), if_neg (by rintro ⟨-, -, h2⟩; exact absurd h2 (of_decide_eq_false hb_231))]
        exact ow_retCell2 rfl h.df (h.g 2 rfl) (ldMq r240) (h.g 3 rfl) (h.g 4 rfl) ⟨none, 0, none, 0, none, 0, by rw [e]; first | done | rfl, by rw [e]; exact OL3.nil _ _ ⟨rfl, rfl, rfl⟩, b241⟩
      refine fw_kh 84 rfl (not_of hb_220) ?_
      refine fw_tk 8 rfl rfl (by kernel_rfl) (fun _ _ _ _ _ h => h) ?_
      refine fw_tk 9 rfl rfl (by kernel_rfl) (fun _ _ _ _ _ h => h) ?_
      refine fw_tk 10 rfl rfl (by kernel_rfl) (fun _ _ _ _ _ h => h) ?_
      refine fw_tk 11 rfl rfl (by kernel_rfl) (fun _ _ _ _ _ h => h) ?_
      refine fw_tk 12 rfl rfl (by kernel_rfl) (fun _ _ _ _ _ h => h) ?_
      refine fw_tk 13 rfl rfl (by kernel_rfl) (fun _ _ _ _ _ h => h) ?_
      refine fw_tk 14 rfl rfl (by kernel_rfl) (fun _ _ _ _ _ h => h) ?_
      refine fw_tk 15 rfl rfl (by kernel_rfl) (fun _ _ _ _ _ h => h) ?_
      refine fw_tk 16 rfl rfl (by kernel_rfl) (fun _ _ _ _ _ h => h) ?_
      refine fw_tk 17 rfl rfl (by kernel_rfl) (fun _ _ _ _ _ h => h) ?_
      refine fw_ht (by kernel_rfl) ?_
      refine fw_cT rfl rfl (fw_sq (fw_rg rfl ?_))
      refine fw_ex 95 (.agg #[.int .i64 0, .string { data := #[] }, .bool false, .int .i64 0, .bool false, .string { data := #[] }, .string { data := #[] }, .int .i64 0, .bool false, .string { data := #[] }, .bool false, .string { data := #[] }, .bool false, .bool false, .int .i64 0, .slice none 0 0, .bool false, .int .i64 0, .bool false, .string { data := #[] }, .int .i64 0, .string { data := #[] }, .slice none 0 0, .slice none 0 0]) rfl rfl rfl (fun a h => (run_buildOp (vs := #[]) (by simp) (by kernel_rfl))) ?_
      refine fw_st r217 rfl rfl ?_
      intro W244 s245 r246
      have b247 := below_chg b216 s245 (by omega) b216.size
      have r248 := r218.chg s245 (by omega)
      have f249 := (by first | exact OL3.chgN f219 s245 hhLd_q1 | exact OL3.chg f219 s245 (by omega))
      iterate 2 refine fw_pu rfl ?_
      refine fw_dt (fw_rt (fw_tr ?_))
      refine ⟨fun a h => ?_⟩
      have e : paG l = (zM 0, 0, 1) := by rw [rp_e4 (d := d) (bb := bb) hM hn1 hn2 hy (by rw [← hbody, hd]), if_neg (by rintro ⟨-, h1, -⟩; rw [hb_220] at h1; cases h1)]
      exact ow_retCell2 rfl h.df (h.g 2 rfl) (ldMq r246) (h.g 3 rfl) (h.g 4 rfl) ⟨none, 0, none, 0, none, 0, by rw [e]; first | done | rfl, by rw [e]; exact OL3.nil _ _ ⟨rfl, rfl, rfl⟩, b247⟩
    refine fw_oa rfl (t := 30) (u := fun q => .pointer (some ⟨q, 0, none⟩)) 7 [.int .i64 0, .string { data := #[] }, .bool false, .int .i64 0, .bool false, .string { data := #[] }, .string { data := #[] }, .int .i64 0, .bool false, .string { data := #[] }, .bool false, .string { data := #[] }, .bool false, .bool false, .int .i64 0, .slice none 0 0, .bool false, .int .i64 0, .bool false, .string { data := #[] }, .int .i64 0, .string { data := #[] }, .slice none 0 0, .slice none 0 0] rfl rfl rfl (fun a h => (run_allocOp (by simp [go_sem, Instr.alloc]))) ?_
    intro q250 W251 g254 s252 r253
    have := Nat.le_trans b183.size g254
    have := r184.lt g254
    have b255 := b183.trans (s252.mono b183.size)
    have r256 := r184.below s252
    refine ⟨⟨b255, r256⟩, ?_⟩
    refine fw_o1 9 (by kernel_rfl) ?_
    refine fw_oc rfl Tryd.func40 rfl rfl rfl ((by have h := readX ((y.toNat : Nat) : Int) (by omega) ⟨hsB.1.below b255, hsB.2⟩; rw [hd] at h; dsimp only at h; exact h)) ?_
    rintro _ VD ⟨acd, ccd, awd, cwd, afd, cfd, rfl, hLd, hbD⟩
    refine ⟨_, rfl, ?_⟩
    have hlt_q1 : q1 < W251.heap.size := r256.2.2
    have hlt_q250 : q250 < W251.heap.size := r253.2.2
    have hw9 : w.heap.size ≤ W251.heap.size := b255.size
    have b257 := b255.trans (hbD.mono b255.size)
    have r258 := r256.below hbD
    have r259 := r253.below hbD
    refine ⟨⟨b257, r258⟩, ?_⟩
    refine fw_tk 10 rfl rfl (by kernel_rfl) (fun _ _ _ _ _ h => h) ?_
    refine fw_tk 11 rfl rfl (by kernel_rfl) (fun _ _ _ _ _ h => h) ?_
    refine fw_tk 12 rfl rfl (by kernel_rfl) (fun _ _ _ _ _ h => h) ?_
    refine fw_o1 14 (by kernel_rfl) ?_
    refine fw_os rfl r259 rfl rfl ?_
    intro W260 s261 r262
    have b263 := below_chg b257 s261 (by omega) b257.size
    have r264 := r258.chg s261 (by omega)
    have f265 := (by first | exact OL3.chgN hLd s261 hhLd_q250 | exact OL3.chg hLd s261 (by omega))
    refine ⟨⟨b263, r264⟩, ?_⟩
    refine fw_tk 15 rfl rfl (by kernel_rfl) (fun _ _ _ _ _ h => h) ?_
    refine fw_ht (by kernel_rfl) ?_
    refine fw_sq (fw_sq ?_)
    refine fw_hr (fun X => Below w.heap.size w X ∧ RowAt X q1 [.int .i64 0, .string { data := #[] }, .bool false, .int .i64 0, .bool false, .string { data := #[] }, .string { data := #[] }, .int .i64 0, .bool false, .string { data := #[] }, .bool false, .string { data := #[] }, .bool false, .bool false, .int .i64 0, .slice none 0 0, .bool false, .int .i64 0, .bool false, .string { data := #[] }, .int .i64 0, .string { data := #[] }, .slice none 0 0, .slice none 0 0] ∧ RowAt X q250 (Mq.row d (.slice acd d.cs.length ccd) (.slice awd d.ws.length cwd) (.slice afd d.fs.length cfd))) (by kernel_rfl) 18 rfl ?_
    intro W266 s267
    have b268 := b263.trans (s267.mono b263.size)
    have r269 := r264.below s267
    have r270 := r262.below s267
    have f271 := (f265.below s267)
    refine ⟨⟨b268, r269, r270⟩, ?_⟩
    refine fw_tk 0 rfl rfl (by kernel_rfl) (fun _ _ _ _ _ h => h) ?_
    refine fw_tk 1 rfl rfl (by kernel_rfl) (fun _ _ _ _ _ h => h) ?_
    refine fw_tk 2 rfl rfl (by kernel_rfl) (fun _ _ _ _ _ h => h) ?_
    rcases Bool.eq_false_or_eq_true (bb) with hb_272 | hb_272
    · skip
      refine fw_kh 79 rfl (not_of (not_of hb_272)) ?_
      refine fw_tk 3 rfl rfl (by kernel_rfl) (fun _ _ _ _ _ h => h) ?_
      refine fw_tk 4 rfl rfl (by kernel_rfl) (fun _ _ _ _ _ h => h) ?_
      refine fw_tk 5 rfl rfl (by kernel_rfl) (fun _ _ _ _ _ h => h) ?_
      refine fw_tk 6 rfl rfl (by kernel_rfl) (fun _ _ _ _ _ h => h) ?_
      refine fw_tk 7 rfl rfl (by kernel_rfl) (fun _ _ _ _ _ h => h) ?_
      refine fw_tk 8 rfl rfl (by kernel_rfl) (fun _ _ _ _ _ h => h) ?_
      refine fw_tk 9 rfl rfl (by kernel_rfl) (fun _ _ _ _ _ h => h) ?_
      refine fw_tk 10 rfl rfl (by kernel_rfl) (fun _ _ _ _ _ h => h) ?_
      refine fw_tk 11 rfl rfl (by kernel_rfl) (fun _ _ _ _ _ h => h) ?_
      refine fw_tk 12 rfl rfl (by kernel_rfl) (fun _ _ _ _ _ h => h) ?_
      refine fw_tk 13 rfl rfl (by kernel_rfl) (fun _ _ _ _ _ h => h) ?_
      refine fw_tk 14 rfl rfl (by kernel_rfl) (fun _ _ _ _ _ h => h) ?_
      refine fw_tk 15 rfl rfl (by kernel_rfl) (fun _ _ _ _ _ h => h) ?_
      refine fw_tk 16 rfl rfl (by kernel_rfl) (fun _ _ _ _ _ h => h) ?_
      refine fw_tk 17 rfl rfl (by kernel_rfl) (fun _ _ _ _ _ h => h) ?_
      refine fw_ht (by kernel_rfl) ?_
      refine fw_cT rfl rfl (fw_sq (fw_rg rfl ?_))
      refine fw_ex 95 (.agg #[.int .i64 0, .string { data := #[] }, .bool false, .int .i64 0, .bool false, .string { data := #[] }, .string { data := #[] }, .int .i64 0, .bool false, .string { data := #[] }, .bool false, .string { data := #[] }, .bool false, .bool false, .int .i64 0, .slice none 0 0, .bool false, .int .i64 0, .bool false, .string { data := #[] }, .int .i64 0, .string { data := #[] }, .slice none 0 0, .slice none 0 0]) rfl rfl rfl (fun a h => (run_buildOp (vs := #[]) (by simp) (by kernel_rfl))) ?_
      refine fw_st r269 rfl rfl ?_
      intro W273 s274 r275
      have b276 := below_chg b268 s274 (by omega) b268.size
      have r277 := r270.chg s274 (by omega)
      have f278 := (by first | exact OL3.chgN f271 s274 hhLd_q1 | exact OL3.chg f271 s274 (by omega))
      iterate 2 refine fw_pu rfl ?_
      refine fw_dt (fw_rt (fw_tr ?_))
      refine ⟨fun a h => ?_⟩
      have e : paG l = (zM 0, 0, 1) := by rw [rp_e4 (d := d) (bb := bb) hM hn1 hn2 hy (by rw [← hbody, hd]), if_neg (by rintro ⟨h1, -, -⟩; rw [hb_272] at h1; cases h1)]
      exact ow_retCell2 rfl h.df (h.g 2 rfl) (ldMq r275) (h.g 3 rfl) (h.g 4 rfl) ⟨none, 0, none, 0, none, 0, by rw [e]; first | done | rfl, by rw [e]; exact OL3.nil _ _ ⟨rfl, rfl, rfl⟩, b276⟩
    refine fw_kh 79 rfl (not_of (not_of hb_272)) ?_
    refine fw_tl 3 (fun _ h => h.2.2) rfl rfl rfl (by kernel_rfl) (fun _ _ _ _ _ h => h) ?_
    refine fw_o1 4 (by kernel_rfl) ?_
    refine fw_oc rfl Tryd.func25 rfl rfl rfl ((by have h := mayX d acd awd afd _ _ _ ccd cwd cfd W266 (OL3.lists f271) hFd ⟨by omega, by omega, by omega⟩ (hT.below b268); rw [mx_va, show (vaG d && baG d) = mayG d from rfl] at h; exact h)) ?_
    rintro _ V280 ⟨rfl, hb279⟩
    refine ⟨(.bool (mayG d)), rfl, ?_⟩
    have b281 := b268.trans (hb279.mono b268.size)
    have r282 := r269.below hb279
    have r283 := r270.below hb279
    have f284 := (f271.below hb279)
    refine ⟨⟨b281, r282, r283⟩, ?_⟩
    refine fw_tk 5 rfl rfl (by kernel_rfl) (fun _ _ _ _ _ h => h) ?_
    refine fw_tk 6 rfl rfl (by kernel_rfl) (fun _ _ _ _ _ h => h) ?_
    refine fw_tk 7 rfl rfl (by kernel_rfl) (fun _ _ _ _ _ h => h) ?_
    rcases Bool.eq_false_or_eq_true ((mayG d)) with hb_285 | hb_285
    · skip
      refine fw_kh 84 rfl (not_of hb_285) ?_
      refine fw_tl 8 (fun _ h => h.2.2) rfl rfl rfl (by kernel_rfl) (fun _ _ _ _ _ h => h) ?_
      refine fw_tk 10 rfl rfl (by kernel_rfl) (fun _ _ _ _ _ h => h) ?_
      refine fw_tk 11 rfl rfl (by kernel_rfl) (fun _ _ _ _ _ h => h) ?_
      refine fw_tk 12 rfl rfl (by kernel_rfl) (fun _ _ _ _ _ h => h) ?_
      refine fw_tx 13 90 (.int .i64 (((H + N) : Nat) : Int)) rfl rfl rfl rfl (fun a h W hW => by obtain ⟨b281, r282, r283⟩ := hW; exact (run_binOp (h.ev rfl) (h.ev rfl) (by simp [go_sem]) (addIw _ _ _ _ (by omega) (by omega) (by omega)))) (by kernel_rfl) (fun _ _ _ _ _ h => h) ?_
      refine fw_tx 14 91 (.slice ad (H + N) cd) rfl rfl rfl rfl (fun a h W hW => by obtain ⟨b281, r282, r283⟩ := hW; exact (run_sliceOp1 (h.ev rfl) (h.ev rfl) (slcA heA (by omega) hcap.2.2 _))) (by kernel_rfl) (fun _ _ _ _ _ h => h) ?_
      refine fw_o1 9 (by kernel_rfl) ?_
      refine fw_oc rfl Tryd.func27 rfl rfl rfl ((rbytesX d acd awd afd _ _ _ ccd cwd cfd V280 (OL3.lists f284) (may_small hb_285) hb_285)) ?_
      rintro _ V286 ⟨_, aR, cR, rfl, rfl, hoR, hbR⟩
      refine ⟨_, rfl, ?_⟩
      have b287 := b281.trans (hbR.mono b281.size)
      have r288 := r282.below hbR
      have r289 := r283.below hbR
      have f290 := (f284.below hbR)
      refine ⟨⟨b287, r288, r289⟩, ?_⟩
      refine fw_o1 15 (by kernel_rfl) ?_
      refine fw_oc rfl Tryd.func20 rfl rfl rfl ((eqBytes_any _ _ (enG d) (l.take (H + N)) V286 (by have := (en_len hb_285).2; omega) (by rw [List.length_take]; omega) (Sl.of_own hoR).1 (hsT.below b287)).mono fun e X h => (show e = .returned (.bool (decide (enG d = l.take (H + N)))) ∧ Below V286.heap.size V286 X from ⟨h.1, by obtain ⟨m, rfl⟩ := h.2; exact bdrew (Below.refl _ _) m⟩)) ?_
      rintro _ VE ⟨rfl, hbE⟩
      refine ⟨(.bool (decide (enG d = l.take (H + N)))), rfl, ?_⟩
      have b291 := b287.trans (hbE.mono b287.size)
      have r292 := r288.below hbE
      have r293 := r289.below hbE
      have f294 := (f290.below hbE)
      have f295 := (below_own hoR hbE)
      refine ⟨⟨b291, r292, r293⟩, ?_⟩
      refine fw_tk 16 rfl rfl (by kernel_rfl) (fun _ _ _ _ _ h => h) ?_
      refine fw_tk 17 rfl rfl (by kernel_rfl) (fun _ _ _ _ _ h => h) ?_
      refine fw_ht (by kernel_rfl) ?_
      rcases Bool.eq_false_or_eq_true ((decide (enG d = l.take (H + N)))) with hb_296 | hb_296
      · skip
        refine fw_cF rfl (not_of hb_296) (fw_sk (fw_th (fw_sq (fw_rg rfl (fw_ld r293 rfl rfl ?_)))))
        iterate 2 refine fw_pu rfl ?_
        refine fw_ex 99 (.int .i64 (((H + N) : Nat) : Int)) rfl rfl rfl (fun a h => (run_binOp (h.ev rfl) (h.ev rfl) (by simp [go_sem]) (addIw _ _ _ _ (by omega) (by omega) (by omega)))) ?_
        refine fw_st r292 rfl rfl ?_
        intro W297 s298 r299
        have b300 := below_chg b291 s298 (by omega) b291.size
        have r301 := r293.chg s298 (by omega)
        have f302 := (by first | exact OL3.chgN f294 s298 hhLd_q1 | exact OL3.chg f294 s298 (by omega))
        iterate 2 refine fw_pu rfl ?_
        refine fw_dt (fw_rt ?_)
        refine ⟨fun a h => ?_⟩
        have e : paG l = (d, H + N, 0) := by rw [rp_e4 (d := d) (bb := bb) hM hn1 hn2 hy (by rw [← hbody, hd]), if_pos ⟨hb_272, hb_285, of_decide_eq_true hb_296⟩]
        exact ow_retCell2 rfl h.df (h.g 2 rfl) (run_loadVar_mid _ _ 0 _ (Mq.row d (.slice acd d.cs.length ccd) (.slice awd d.ws.length cwd) (.slice afd d.fs.length cfd)) _ (r299.range 0 _ (fun j v hj => by rw [Nat.zero_add j]; exact hj)) Tryd.underlying30 rfl (by kernel_rfl)) (h.g 3 rfl) (h.g 4 rfl) ⟨acd, ccd, awd, cwd, afd, cfd, by rw [e]; first | done | rfl, by rw [e]; exact OL3.mono f302 hw9, b300⟩
      refine fw_cT rfl (not_of hb_296) (fw_sq (fw_rg rfl ?_))
      refine fw_ex 95 (.agg #[.int .i64 0, .string { data := #[] }, .bool false, .int .i64 0, .bool false, .string { data := #[] }, .string { data := #[] }, .int .i64 0, .bool false, .string { data := #[] }, .bool false, .string { data := #[] }, .bool false, .bool false, .int .i64 0, .slice none 0 0, .bool false, .int .i64 0, .bool false, .string { data := #[] }, .int .i64 0, .string { data := #[] }, .slice none 0 0, .slice none 0 0]) rfl rfl rfl (fun a h => (run_buildOp (vs := #[]) (by simp) (by kernel_rfl))) ?_
      refine fw_st r292 rfl rfl ?_
      intro W303 s304 r305
      have b306 := below_chg b291 s304 (by omega) b291.size
      have r307 := r293.chg s304 (by omega)
      have f308 := (by first | exact OL3.chgN f294 s304 hhLd_q1 | exact OL3.chg f294 s304 (by omega))
      iterate 2 refine fw_pu rfl ?_
      refine fw_dt (fw_rt (fw_tr ?_))
      refine ⟨fun a h => ?_⟩
      have e : paG l = (zM 0, 0, 1) := by rw [rp_e4 (d := d) (bb := bb) hM hn1 hn2 hy (by rw [← hbody, hd]), if_neg (by rintro ⟨-, -, h2⟩; exact absurd h2 (of_decide_eq_false hb_296))]
      exact ow_retCell2 rfl h.df (h.g 2 rfl) (ldMq r305) (h.g 3 rfl) (h.g 4 rfl) ⟨none, 0, none, 0, none, 0, by rw [e]; first | done | rfl, by rw [e]; exact OL3.nil _ _ ⟨rfl, rfl, rfl⟩, b306⟩
    refine fw_kh 84 rfl (not_of hb_285) ?_
    refine fw_tk 8 rfl rfl (by kernel_rfl) (fun _ _ _ _ _ h => h) ?_
    refine fw_tk 9 rfl rfl (by kernel_rfl) (fun _ _ _ _ _ h => h) ?_
    refine fw_tk 10 rfl rfl (by kernel_rfl) (fun _ _ _ _ _ h => h) ?_
    refine fw_tk 11 rfl rfl (by kernel_rfl) (fun _ _ _ _ _ h => h) ?_
    refine fw_tk 12 rfl rfl (by kernel_rfl) (fun _ _ _ _ _ h => h) ?_
    refine fw_tk 13 rfl rfl (by kernel_rfl) (fun _ _ _ _ _ h => h) ?_
    refine fw_tk 14 rfl rfl (by kernel_rfl) (fun _ _ _ _ _ h => h) ?_
    refine fw_tk 15 rfl rfl (by kernel_rfl) (fun _ _ _ _ _ h => h) ?_
    refine fw_tk 16 rfl rfl (by kernel_rfl) (fun _ _ _ _ _ h => h) ?_
    refine fw_tk 17 rfl rfl (by kernel_rfl) (fun _ _ _ _ _ h => h) ?_
    refine fw_ht (by kernel_rfl) ?_
    refine fw_cT rfl rfl (fw_sq (fw_rg rfl ?_))
    refine fw_ex 95 (.agg #[.int .i64 0, .string { data := #[] }, .bool false, .int .i64 0, .bool false, .string { data := #[] }, .string { data := #[] }, .int .i64 0, .bool false, .string { data := #[] }, .bool false, .string { data := #[] }, .bool false, .bool false, .int .i64 0, .slice none 0 0, .bool false, .int .i64 0, .bool false, .string { data := #[] }, .int .i64 0, .string { data := #[] }, .slice none 0 0, .slice none 0 0]) rfl rfl rfl (fun a h => (run_buildOp (vs := #[]) (by simp) (by kernel_rfl))) ?_
    refine fw_st r282 rfl rfl ?_
    intro W309 s310 r311
    have b312 := below_chg b281 s310 (by omega) b281.size
    have r313 := r283.chg s310 (by omega)
    have f314 := (by first | exact OL3.chgN f284 s310 hhLd_q1 | exact OL3.chg f284 s310 (by omega))
    iterate 2 refine fw_pu rfl ?_
    refine fw_dt (fw_rt (fw_tr ?_))
    refine ⟨fun a h => ?_⟩
    have e : paG l = (zM 0, 0, 1) := by rw [rp_e4 (d := d) (bb := bb) hM hn1 hn2 hy (by rw [← hbody, hd]), if_neg (by rintro ⟨-, h1, -⟩; rw [hb_285] at h1; cases h1)]
    exact ow_retCell2 rfl h.df (h.g 2 rfl) (ldMq r311) (h.g 3 rfl) (h.g 4 rfl) ⟨none, 0, none, 0, none, 0, by rw [e]; first | done | rfl, by rw [e]; exact OL3.nil _ _ ⟨rfl, rfl, rfl⟩, b312⟩
  refine fw_cF rfl hb_20 (fw_sk (fw_th (fw_sq (fw_rg rfl ?_))))
  iterate 2 refine fw_pu rfl ?_
  refine fw_dt ?_
  rcases Bool.eq_false_or_eq_true (((((k + 2) : Nat) : Int) == 5)) with hb_315 | hb_315
  · skip
    refine fw_cT rfl hb_315 (fw_sq (fw_rg rfl ?_))
    refine fw_ex 40 (.agg #[.int .i64 0, .string { data := #[] }, .bool false, .int .i64 0, .bool false, .string { data := #[] }, .string { data := #[] }, .int .i64 0, .bool false, .string { data := #[] }, .bool false, .string { data := #[] }, .bool false, .bool false, .int .i64 0, .slice none 0 0, .bool false, .int .i64 0, .bool false, .string { data := #[] }, .int .i64 0, .string { data := #[] }, .slice none 0 0, .slice none 0 0]) rfl rfl rfl (fun a h => (run_buildOp (vs := #[]) (by simp) (by kernel_rfl))) ?_
    refine fw_st rW12_0 rfl rfl ?_
    intro W316 s317 r318
    have b319 := below_chg bW12 s317 (by omega) bW12.size
    iterate 2 refine fw_pu rfl ?_
    refine fw_dt (fw_rt (fw_br (fw_tr (fw_br (fw_tr ?_)))))
    refine ⟨fun a h => ?_⟩
    have e : paG l = (zM 0, 0, 1) := pa_e1 (by rw [hinv, hms, if_neg (by have h := of_decide_eq_false hb_20; omega), if_pos (by have h := beq_iff_eq.1 hb_315; omega)]) (by decide)
    exact ow_retCell2 rfl h.df (h.g 2 rfl) (ldMq r318) (h.g 3 rfl) (h.g 4 rfl) ⟨none, 0, none, 0, none, 0, by rw [e]; first | done | rfl, by rw [e]; exact OL3.nil _ _ ⟨rfl, rfl, rfl⟩, b319⟩
  refine fw_cF rfl hb_315 (fw_sk (fw_bn ?_))
  exact fw_th (fw_gf (hK14 _ _ _ (by have h2 : k ≠ 3 := (by rintro rfl; exact absurd hb_315 (by decide)); omega) ⟨(k + 1), (acc + x.toNat % 128 * 128 ^ k), rfl, (by have h := hb_315; have h2 : k ≠ 3 := (by rintro rfl; exact absurd h (by decide)); omega), (pow_step hacc hx128), (by have h9 := of_decide_eq_false hb_20; have h2 : k ≠ 3 := (by rintro rfl; exact absurd hb_315 (by decide)); rw [hinv, hms, if_neg (by omega), if_neg h2, show x.toNat - 128 = x.toNat % 128 by omega]), rfl, bW12, rW12_0⟩) ⟨rfl, rfl, (by first | rfl | (simp only [Look, cond, Nat.beq]; first | rfl | (congr 2; first | rfl | omega | (push_cast; omega)) | (simp; try omega))), (by first | rfl | (simp only [Look, cond, Nat.beq]; first | rfl | (congr 2; first | rfl | omega | (push_cast; omega)) | (simp; try omega))), trivial⟩)
end
end Go.Proofs.YtpgnlhfokffioaaDoor
