/-
  A disk: bytes that a law makes, and reads; wakes.
-/
import Derived.Test.YtcglmkcefenjcaaDkQ
import Derived.Test.YtcglmkcefenjcaaReadZ
import Derived.Test.YtcglmkcefenjcaaReadM
namespace Go.Proofs.Ytcglmkcefenjcaa
open Go.RowKit Go.Lib
/-- So many noughts. -/
def zL (n : Nat) : List UInt8 := List.replicate n 0
theorem zrow {W : World} {B g n c : Nat} (h : W.ownsRow B 5 1 (.slice (some ⟨g, 0, none⟩) n c) n (List.replicate n (.int .u8 0))) : RowAt W g ((zL n).map B8) := by
  have e : (zL n).map B8 = List.replicate n (.int .u8 0) := by unfold zL; rw [List.map_replicate]; rfl
  rw [e]; exact own_rowD h
theorem slR {W : World} {q i n c : Nat} {l l' : List UInt8} (h : RowAt W q (l.map B8)) (e : (l.drop i).take n = l') (hi : i + n ≤ l.length) (hc : n ≤ c) (hm : c ≤ maxLen) : Sl W (.slice (some ⟨q, i, none⟩) n c) l' := by
  subst e
  have hl : ((l.drop i).take n).length = n := by simp; omega
  refine ⟨some ⟨q, i, none⟩, c, by rw [hl], by omega, by omega, fun e => (nomatch e), fun _ => ⟨q, i, rfl, h.2.2, fun j x hj => ?_⟩⟩
  rw [List.getElem?_take] at hj
  split at hj
  · rw [List.getElem?_drop] at hj
    exact h.1 (i + j) (B8 x) (by rw [List.getElem?_map, hj]; rfl)
  · cases hj
theorem idx8 (b off n cap i : Nat) (hi : i < n) (w : World) : (Instr.indexAt 29 (.slice (some ⟨b, off, none⟩) n cap) (.int .i64 (i : Int))).run Try.prog w = .ok (.pointer (some ⟨b, off + i, none⟩)) w := by
  have h2 : ¬ n ≤ i := by omega
  simp [go_sem, Instr.indexAt, h2]
theorem st8 {l : List UInt8} (j : Nat) (x : UInt8) (hj : j < l.length) : stB (l.map B8) j [B8 x] = true ∧ setR (l.map B8) j [B8 x] = (l.set j x).map B8 := by
  constructor
  · unfold stB
    rw [Bool.and_eq_true]
    exact ⟨Nat.ble_eq_true_of_le (by simp only [List.length_cons, List.length_nil, List.length_map]; omega), rfl⟩
  · rw [setR_eq]
    simp [setL, List.map_set]
theorem eql8 (x y : Int) (w : World) : (binOp .eql 5 (.int .u8 x) (.int .u8 y)).run Try.prog w = .ok (.bool (x == y)) w := by simp [go_sem]
theorem neq8 (x y : Int) (w : World) : (binOp .neq 5 (.int .u8 x) (.int .u8 y)).run Try.prog w = .ok (.bool (!(x == y))) w := by simp [go_sem, bne]
theorem gtr8 (x y : Int) (w : World) : (binOp .gtr 5 (.int .u8 x) (.int .u8 y)).run Try.prog w = .ok (.bool (decide (y < x))) w := by simp [go_sem]
theorem gU8 (x y : Int) (op : BinOp) (a b : Operand) (w : World) : (eqGuard op 5 a b (.int .u8 x) (.int .u8 y)).run Try.prog w = .ok () w := by cases op <;> rfl
theorem Dall.ask {d : ED} (h : Dall d) (k n : Int) (b : List UInt8) (hk : k = 0 ∨ k = 1 ∨ k = 2) (hn : k = 2 → n = 0) (h1 : d.last ≤ 999999) (h2 : d.ps.length ≤ 99999) : Dall (askD d k n b) := by
  refine ⟨h.ok.askD k n b hk hn, h.arm.askD k n b, ?_, ?_⟩
  · have := h.last
    unfold askD
    split
    · show 0 ≤ d.last + 1 ∧ d.last + 1 ≤ 1000000; omega
    · rw [(powD_same d).2.2.2.2.2]; omega
  · unfold askD
    split
    · show (d.ps ++ [_]).length ≤ 100000; simp; omega
    · rw [(powD_same d).2.2.2.2.1]; exact h.len
theorem Dall.comp {d : ED} (h : Dall d) (n : Int) : Dall (compD d n) := by
  refine ⟨h.ok.compD n, h.arm.compD n, ?_, ?_⟩
  · have := h.last
    unfold compD
    split
    · rw [(perfD_pow _ _).2.2.2]; show 0 ≤ (powD d).last ∧ _; rw [(powD_same d).2.2.2.2.2]; exact this
    · rw [(powD_same d).2.2.2.2.2]; exact this
  · unfold compD
    split
    · rw [(perfD_len _ _).2]; exact Nat.le_trans (List.length_eraseIdx_le ..) h.len
    · rw [(powD_same d).2.2.2.2.1]; exact h.len
theorem Dall.off {d : ED} (h : Dall d) (n : Int) (hn : n < 9223372036854775808) : Dall (offD d n) := ⟨h.ok.offD n, armOK.offD n hn, h.last, h.len⟩
theorem Dall.crash {d : ED} (h : Dall d) : Dall { d with off := true } := ⟨h.ok.crash, fun _ h2 => (nomatch h2), h.last, h.len⟩
theorem Dall.new {b : List UInt8} (h : newOK b = true) : Dall (newD b) := ⟨(newD_ok h).1, (newD_ok h).2, ⟨Int.le_refl _, show (0 : Int) ≤ 1000000 by decide⟩, Nat.zero_le _⟩
theorem num4_any (e : Int) (w : World) : Calls Try.prog 32 #[.int .i64 e] w fun z w' => z = .returned (.int .i64 e) ∧ w = w' := by
  refine fw_en 4 [(0, .int .i64 e)] Try.func32 rfl Try.ntmps32 rfl ⟨rfl, trivial⟩ ?_
  refine fw_sq ?_
  refine fw_rg rfl ?_
  refine fw_pu rfl ?_
  refine fw_dt ?_
  refine fw_sq ?_
  refine fw_rg rfl ?_
  iterate 2 refine fw_pu rfl ?_
  refine fw_dt ?_
  refine fw_rt ?_
  refine ⟨fun a h => ?_⟩
  exact ow_ret1 rfl h.df (h.g 2 rfl) ⟨rfl, rfl⟩
theorem ptrG (op : BinOp) (x y : Operand) (a : Addr) (w : World) : (eqGuard op 50 x y (.pointer (some a)) (.pointer none)).run Try.prog w = .ok () w := by cases op <;> rfl
theorem ptrEq (a : Addr) (w : World) : (binOp .eql 50 (.pointer (some a)) (.pointer none)).run Try.prog w = .ok (.bool false) w := by simp [go_sem]
theorem ptrNe (a : Addr) (w : World) : (binOp .neq 50 (.pointer (some a)) (.pointer none)).run Try.prog w = .ok (.bool true) w := by simp [go_sem]
theorem dNew {b : List UInt8} {va : Option Addr} {vc n : Nat} {w : World} {d : ED} (hSl : Sl w (.slice va n vc) b) (hn : b.length = n) (hok : newOK b = true) (hd : newD b = d) (hbl : n ≤ 1000000) :
    Calls Try.prog 30 #[.slice va n vc] w fun e w' => ∃ q, e = .returned (.tuple #[.pointer (some ⟨q, 0, none⟩), .int .i64 0]) ∧ w.heap.size ≤ q ∧ Dk w.heap.size [] q d w' ∧ Below w.heap.size w w' := by
  subst hn hd
  refine (new_any hSl hbl).mono ?_
  rintro e w' (⟨h1, -⟩ | ⟨-, h⟩)
  · rw [hok] at h1; cases h1
  · exact h
theorem slR_nil (W : World) : SlR W 1 (.slice none 0 0) (([] : List Int).map intR) := ⟨none, 0, rfl, Nat.zero_le _, Nat.zero_le _, fun _ => rfl, fun h => (h rfl).elim⟩
set_option maxRecDepth 100000 in
theorem scr_form {w : World} {cs : List Value} (h : RdZ Try.prog w 48 cs) : ∃ aB nB cB aL nL cL, cs = [.slice aB nB cB, .slice aL nL cL] := by
  obtain ⟨hlen, hf⟩ := h.struct Try.underlying48
  have h2 : cs.length = 2 := hlen.trans (by kernel_rfl)
  match cs, h2 with
  | [c0, c1], _ =>
    obtain ⟨v0, B, k0, ⟨a0, cap0, rfl, -⟩, -⟩ := (hf 0 _ rfl).bytes Try.underlying29 (by kernel_rfl) (by kernel_rfl) Try.underlying5
    obtain ⟨v1, L, k1, a1, cap1, rfl, -⟩ := (hf 1 _ rfl).rd.slOf (p := fun _ _ _ (_ : Unit) => True) (size := 4) Try.underlying46 (by kernel_rfl) (by decide) (fun b off cs hb hc hr => ⟨(), trivial⟩)
    have f0 : c0 = .slice a0 B.length cap0 := by simpa [show Try.prog.cellsOf 29 = 1 by kernel_rfl] using k0
    have f1 : c1 = .slice a1 L.length cap1 := by simpa [show Try.prog.cellsOf 46 = 1 by kernel_rfl] using k1
    subst f0 f1
    exact ⟨_, _, _, _, _, _, rfl⟩
def bV : List UInt8 := (zL 64).set 3 7
def v0 : ED := newD (zL 128)
def v1 : ED := askD v0 0 1 bV
def v2 : ED := askD v1 2 0 []
def v3 : ED := compD v2 0
def v4 : ED := compD v3 0
def xV : List UInt8 := crashD v4 []
theorem v0_all : Dall v0 := Dall.new (by decide +kernel)
theorem v1_all : Dall v1 := v0_all.ask 0 1 bV (.inl rfl) (fun h => (nomatch h)) (by decide +kernel) (by decide +kernel)
theorem v2_all : Dall v2 := v1_all.ask 2 0 [] (.inr (.inr rfl)) (fun _ => rfl) (by decide +kernel) (by decide +kernel)
theorem v3_all : Dall v3 := v2_all.comp 0
theorem v4_all : Dall v4 := v3_all.comp 0
set_option maxRecDepth 100000 in
set_option maxHeartbeats 4000000 in
theorem wakes4_any (w : World) : Calls Try.prog 33 #[] w fun e w' => e = .returned (.bool true) ∧ Below w.heap.size w w' := by
  have hb0 := Below.refl w.heap.size w
  obtain ⟨iU8, hiU8, hzU8, hsU8, hbU8⟩ := info_parts infoU8
  refine fw_en 84 [] Try.func33 rfl Try.ntmps33 rfl trivial ?_
  refine fw_sq ?_
  refine fw_rg rfl ?_
  refine fw_pu rfl ?_
  refine fw_dt ?_
  refine fw_sq ?_
  refine fw_rg rfl ?_
  refine fw_to 16 rfl rfl rfl (fun a h => opTo_make 29 5 _ 128 (.int .u8 0) iU8 rfl Try.underlying29 hiU8 hzU8 hsU8 (by rw [hbU8]; decide) rfl (h.ev rfl) (by decide)) ?_
  rintro vz2 W1 ⟨hv2, ho2, hb2⟩
  obtain ⟨gz2, hg2⟩ : ∃ x, x = w.heap.size := ⟨_, rfl⟩
  rw [← hg2] at hv2
  subst hv2
  rw [← hg2] at ho2
  have hr2 := zrow ho2
  have he2 : w.heap.size ≤ gz2 := Nat.le_of_eq hg2.symm
  have := Nat.le_trans hb0.size he2
  have b3 := hb0.trans (hb2.mono hb0.size)
  obtain ⟨Bd5, hBd5⟩ : ∃ x, x = W1.heap.size := ⟨_, rfl⟩
  have hwB5 : w.heap.size ≤ Bd5 := by rw [hBd5]; exact b3.size
  have hl5_gz2 : gz2 < Bd5 := by rw [hBd5]; exact hr2.2.2
  refine fw_ca Try.func30 rfl rfl rfl (dNew (b := zL 128) (n := 128) (slR (i := 0) (c := 128) hr2 (by decide +kernel) (by decide) (by decide) (by decide)) rfl (by decide +kernel) rfl (by decide)) ?_
  rintro _ V4 ⟨q5, rfl, hq5, hM5, hB5⟩
  refine ⟨_, rfl, ?_⟩
  rw [← hBd5] at hM5 hq5
  have b6 := b3.trans (hB5.mono b3.size)
  have r7 := hr2.below hB5
  have : gz2 ≠ q5 := by omega
  have hd5 := (hM5).qlt
  iterate 5 refine fw_pu rfl ?_
  refine fw_dt ?_
  refine fw_sq ?_
  refine fw_sq ?_
  refine fw_rg rfl ?_
  refine fw_pu rfl ?_
  refine fw_ca Try.func32 rfl rfl rfl ((num4_any 0 V4)) ?_
  rintro _ _ ⟨rfl, rfl⟩
  refine ⟨(.int .i64 0), rfl, ?_⟩
  iterate 3 refine fw_pu rfl ?_
  refine fw_ex 25 (.bool false) rfl rfl rfl (fun a h => (run_binOp (h.ev rfl) (h.ev rfl) (ptrG _ _ _ _ _) (ptrEq _ _))) ?_
  refine fw_pu rfl ?_
  refine fw_dt ?_
  refine fw_cF rfl rfl ?_
  refine fw_sk ?_
  refine fw_th ?_
  refine fw_sq ?_
  refine fw_rg rfl ?_
  refine fw_to 27 rfl rfl rfl (fun a h => opTo_make 29 5 _ 64 (.int .u8 0) iU8 rfl Try.underlying29 hiU8 hzU8 hsU8 (by rw [hbU8]; decide) rfl (h.ev rfl) (by decide)) ?_
  rintro vz9 W8 ⟨hv9, ho9, hb9⟩
  obtain ⟨gz9, hg9⟩ : ∃ x, x = V4.heap.size := ⟨_, rfl⟩
  rw [← hg9] at hv9
  subst hv9
  rw [← hg9] at ho9
  have hr9 := zrow ho9
  have he9 : V4.heap.size ≤ gz9 := Nat.le_of_eq hg9.symm
  have := Nat.le_trans b6.size he9
  have := r7.lt he9
  have b10 := b6.trans (hb9.mono b6.size)
  have r11 := r7.below hb9
  have f12 := (Dk.hold hM5 hb9 he9 hr9.2.2)
  refine fw_pu rfl ?_
  refine fw_dt ?_
  refine fw_sq ?_
  refine fw_rg rfl ?_
  refine fw_pu rfl ?_
  refine fw_ex 29 (.pointer (some ⟨gz9, 3, none⟩)) rfl rfl rfl (fun a h => (run_indexOp (h.ev rfl) (h.ev rfl) (idx8 gz9 0 64 64 3 (by decide) _))) ?_
  refine fw_st (cs := [.int .u8 7]) hr9 rfl (by kernel_rfl) ?_
  intro W13 s14 r15
  replace r15 : RowAt W13 gz9 ((bV).map B8) := (show setR ((zL 64).map B8) 3 [.int .u8 7] = (bV).map B8 by kernel_rfl) ▸ r15
  have b16 := below_chg b10 s14 (by omega) b10.size
  have r17 := r11.chg s14 (by omega)
  have f18 := (Dk.chg f12 s14 (by simp) (by omega))
  refine fw_dt ?_
  refine fw_sq ?_
  refine fw_rg rfl ?_
  iterate 2 refine fw_pu rfl ?_
  refine fw_ca Try.func46 rfl rfl rfl (dWrite (b := bV) f18 (by simp; omega) v0_all (fun X hK hB => slR (l := bV) (i := 0) (c := 64) (Kz.row hK (by simp) r15) (by decide +kernel) (by decide) (by decide) (by decide)) rfl (by decide) (e := 0) (i := 1) (by decide +kernel) (by decide +kernel) rfl) ?_
  rintro _ V19 ⟨rfl, hM20, hK20, hB20⟩
  refine ⟨_, rfl, ?_⟩
  have b21 := (b16.trans (hB20.mono (by omega)))
  have r22 := (RowAt.low r17 hB20 (by omega))
  have r23 := (Kz.row hK20 (by simp) r15)
  iterate 5 refine fw_pu rfl ?_
  refine fw_dt ?_
  refine fw_sq ?_
  refine fw_rg rfl ?_
  refine fw_pu rfl ?_
  refine fw_ca Try.func37 rfl rfl rfl (dFlush hM20 (by simp; omega) v1_all (e := 0) (i := 2) (by decide +kernel) (by decide +kernel) rfl) ?_
  rintro _ V24 ⟨rfl, hM25, hK25, hB25⟩
  refine ⟨_, rfl, ?_⟩
  have b26 := (b21.trans (hB25.mono (by omega)))
  have r27 := (RowAt.low r22 hB25 (by omega))
  have r28 := (Kz.row hK25 (by simp) r23)
  iterate 5 refine fw_pu rfl ?_
  refine fw_dt ?_
  refine fw_sq ?_
  refine fw_rg rfl ?_
  refine fw_pu rfl ?_
  refine fw_ca Try.func39 rfl rfl rfl (dComplete (m := 0) (b := []) hM25 (by simp; omega) v2_all rfl (e := 0) (i := 1) (by decide +kernel) (by decide +kernel) (by decide +kernel) rfl) ?_
  rintro _ V29 ⟨ax30, cx30, rfl, ⟨hM30, hK30, hB30⟩, ho30, hf30⟩
  refine ⟨_, rfl, ?_⟩
  have b31 := (b26.trans (hB30.mono (by omega)))
  have r32 := (RowAt.low r27 hB30 (by omega))
  have r33 := (Kz.row hK30 (by simp) r28)
  iterate 7 refine fw_pu rfl ?_
  refine fw_dt ?_
  refine fw_sq ?_
  refine fw_rg rfl ?_
  refine fw_pu rfl ?_
  refine fw_ca Try.func39 rfl rfl rfl (dComplete (m := 0) (b := []) hM30 (by simp; omega) v3_all rfl (e := 0) (i := 2) (by decide +kernel) (by decide +kernel) (by decide +kernel) rfl) ?_
  rintro _ V34 ⟨ax35, cx35, rfl, ⟨hM35, hK35, hB35⟩, ho35, hf35⟩
  refine ⟨_, rfl, ?_⟩
  have b36 := (b31.trans (hB35.mono (by omega)))
  have r37 := (RowAt.low r32 hB35 (by omega))
  have r38 := (Kz.row hK35 (by simp) r33)
  iterate 7 refine fw_pu rfl ?_
  refine fw_dt ?_
  refine fw_sq ?_
  refine fw_rg rfl ?_
  refine fw_pu rfl ?_
  refine fw_ca Try.func43 rfl rfl rfl (dCrash (P := []) (m := 128) (b := xV) hM35 (by simp; omega) v4_all rfl (fun X _ _ => slR_nil X) (by decide +kernel) rfl) ?_
  rintro _ V39 ⟨ax40, cx40, rfl, ⟨hM40, hK40, hB40⟩, ho40, hf40⟩
  refine ⟨_, rfl, ?_⟩
  have b41 := (b36.trans (hB40.mono (by omega)))
  have r42 := (RowAt.low r37 hB40 (by omega))
  have r43 := (Kz.row hK40 (by simp) r38)
  obtain ⟨gx40, rfl⟩ := own_ptr ho40 (by decide)
  have hM40x := hf40 _ rfl
  have hrx40 := own_rowD ho40
  have hgx40 := (own_caps ho40).2.2
  have := Nat.lt_of_lt_of_le r37.2.2 hgx40
  have := Nat.lt_of_lt_of_le r38.2.2 hgx40
  have := Nat.le_trans b36.size hgx40
  refine fw_pu rfl ?_
  refine fw_dt ?_
  refine fw_sq ?_
  refine fw_rg rfl ?_
  refine fw_pu rfl ?_
  refine fw_ca Try.func32 rfl rfl rfl ((num4_any 0 V39)) ?_
  rintro _ _ ⟨rfl, rfl⟩
  refine ⟨(.int .i64 0), rfl, ?_⟩
  iterate 3 refine fw_pu rfl ?_
  refine fw_ca Try.func32 rfl rfl rfl ((num4_any 0 V39)) ?_
  rintro _ _ ⟨rfl, rfl⟩
  refine ⟨(.int .i64 0), rfl, ?_⟩
  iterate 4 refine fw_pu rfl ?_
  refine fw_ca Try.func32 rfl rfl rfl ((num4_any 0 V39)) ?_
  rintro _ _ ⟨rfl, rfl⟩
  refine ⟨(.int .i64 0), rfl, ?_⟩
  iterate 4 refine fw_pu rfl ?_
  refine fw_ca Try.func32 rfl rfl rfl ((num4_any 0 V39)) ?_
  rintro _ _ ⟨rfl, rfl⟩
  refine ⟨(.int .i64 0), rfl, ?_⟩
  iterate 9 refine fw_pu rfl ?_
  refine fw_ex 80 (.pointer (some ⟨gx40, 67, none⟩)) rfl rfl rfl (fun a h => (run_indexOp (h.ev rfl) (h.ev rfl) (idx8 gx40 0 128 cx40 67 (by decide) _))) ?_
  refine fw_ex 81 (.int .u8 7) rfl rfl rfl (fun a h => (run_loadOp (h.ev rfl) (by simp [go_sem, Instr.loadAt, RowAt.cell hrx40 (j := 67) (show ((xV).map B8)[67]? = some (.int .u8 7) by kernel_rfl)]))) ?_
  refine fw_ex 82 (.bool true) rfl rfl rfl (fun a h => (run_binOp (h.ev rfl) (h.ev rfl) (gU8 _ _ _ _ _ _) (eql8 _ _ _))) ?_
  iterate 2 refine fw_pu rfl ?_
  refine fw_dt ?_
  refine fw_fg [(0, _)] ⟨rfl, trivial⟩ ?_
  refine fw_rt ?_
  refine ⟨fun a h => ?_⟩
  exact ow_ret1 rfl h.df (h.g 0 rfl) ⟨rfl, b41⟩
end Go.Proofs.Ytcglmkcefenjcaa
